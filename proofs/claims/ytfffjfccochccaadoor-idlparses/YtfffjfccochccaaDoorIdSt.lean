/- The state of a reading: the pieces that are left, or how many were left where one did not fit. -/
import Derived.Test.YtfffjfccochccaaDoorIdMath
namespace Go.Proofs.YtfffjfccochccaaDoor
open Go.RowKit
set_option linter.unusedVariables false
set_option linter.unusedSimpArgs false
set_option maxRecDepth 20000

abbrev Sg := Sum Nat (List ByteArray)
def stX {α : Type} (x : PR α) : Sg := match x with
  | .inl n => .inl n
  | .inr (_, r) => .inr r
def pOn {α : Type} (σ : Sg) (f : List ByteArray → PR α) : PR α := match σ with
  | .inl n => .inl n
  | .inr r => f r
/-- What is answered; the stand-in where nothing is. -/
def res {α : Type} (d : α) (x : PR α) : α := match x with
  | .inl _ => d
  | .inr (a, _) => a
def Res {α : Type} (x : PR α) (a : α) : Prop := ∀ b r, x = .inr (b, r) → a = b
def noT : ByteArray := ⟨#[]⟩
def badS (σ : Sg) : Bool := match σ with
  | .inl _ => true
  | .inr _ => false
def leftS (σ : Sg) : Nat := match σ with
  | .inl n => n
  | .inr r => r.length
def headS (σ : Sg) : ByteArray := match σ with
  | .inl _ => noT
  | .inr [] => noT
  | .inr (t :: _) => t
theorem stX_inl {α : Type} (n : Nat) : stX (.inl n : PR α) = .inl n := rfl
theorem stX_inr {α : Type} (a : α) (r : List ByteArray) : stX (.inr (a, r) : PR α) = .inr r := rfl
theorem pOn_inl {α : Type} (n : Nat) (f : List ByteArray → PR α) : pOn (.inl n) f = .inl n := rfl
theorem pOn_inr {α : Type} (r : List ByteArray) (f : List ByteArray → PR α) : pOn (.inr r) f = f r := rfl
theorem Res.no {α : Type} {n : Nat} {a : α} : Res (.inl n) a := fun b r h => by cases h
theorem Res.yes {α : Type} {a : α} {r : List ByteArray} : Res (.inr (a, r)) a := fun b r' h => by simp at h; exact h.1
/-- One of these words, where it stands: no fault if not. -/
def pTake (ws : List ByteArray) (ts : List ByteArray) : PR ByteArray := match ts with
  | [] => .inr (noT, [])
  | t :: r => if ws.any (fun k => k.data.toList == t.data.toList) = true then .inr (t, r) else .inr (noT, t :: r)
/-- One of these words, which must stand. -/
def pOne (ws : List ByteArray) (ts : List ByteArray) : PR ByteArray := match ts with
  | [] => .inl 0
  | t :: r => if ws.any (fun k => k.data.toList == t.data.toList) = true then .inr (t, r) else .inl (r.length + 1)
theorem ba_eq {a b : ByteArray} : a.data.toList = b.data.toList ↔ a = b := by
  constructor
  · intro h; obtain ⟨⟨x⟩⟩ := a; obtain ⟨⟨y⟩⟩ := b; simp only at h; rw [h]
  · intro h; rw [h]
theorem must_cons (k t : ByteArray) (r : List ByteArray) : pMust k (t :: r) = if t.data.toList = k.data.toList then .inr ((), r) else .inl (r.length + 1) := by
  unfold pMust pIs
  by_cases h : t.data.toList = k.data.toList
  · rw [if_pos h]; simp only [h, beq_self_eq_true, if_true, List.tail_cons]
  · rw [if_neg h]
    have h2 : (t.data.toList == k.data.toList) = false := by rw [beq_eq_false_iff_ne]; exact h
    simp only [h2, Bool.false_eq_true, if_false, List.length_cons]
theorem is_cons (k t : ByteArray) (r : List ByteArray) : (pIs k (t :: r) = true) = (t.data.toList = k.data.toList) := by
  unfold pIs
  exact propext beq_iff_eq
theorem one_must (k : ByteArray) (σ : Sg) : stX (pOn σ (pOne [k])) = stX (pOn σ (pMust k)) := by
  cases σ with
  | inl n => rfl
  | inr r =>
    simp only [pOn]
    cases r with
    | nil => simp [pOne, pMust, pIs, stX]
    | cons t r =>
      rw [must_cons]
      by_cases h : t.data.toList = k.data.toList
      · rw [if_pos h]
        simp [pOne, h, stX]
      · rw [if_neg h]
        have h' : ¬ k.data.toList = t.data.toList := fun e => h e.symm
        have h2 : (k.data.toList == t.data.toList) = false := by rw [beq_eq_false_iff_ne]; exact h'
        simp only [pOne, List.any_cons, List.any_nil, h2, Bool.or_false, Bool.false_eq_true, if_false]
        rfl
/-- A name and its number. -/
theorem value_st (σ : Sg) : stX (pOn (stX (pOn (stX (pOn (stX (pOn σ pName)) (pMust kEq))) pNum)) (pMust kSemi)) = stX (pOn σ pValue) ∧
    Res (pOn σ pValue) ⟨res noT (pOn σ pName), (res 0 (pOn (stX (pOn (stX (pOn σ pName)) (pMust kEq))) pNum) : Nat)⟩ := by
  cases σ with
  | inl n => exact ⟨rfl, Res.no⟩
  | inr r =>
    simp only [pOn, pValue]
    cases h1 : pName r with
    | inl n => exact ⟨rfl, Res.no⟩
    | inr x =>
      obtain ⟨a, r1⟩ := x
      simp only [stX, pBind, res]
      cases h2 : pMust kEq r1 with
      | inl n => exact ⟨rfl, Res.no⟩
      | inr x =>
        obtain ⟨_, r2⟩ := x
        simp only [stX, pBind, res]
        cases h3 : pNum r2 with
        | inl n => exact ⟨rfl, Res.no⟩
        | inr x =>
          obtain ⟨v, r3⟩ := x
          simp only [stX, pBind, res]
          cases h4 : pMust kSemi r3 with
          | inl n => exact ⟨rfl, Res.no⟩
          | inr x => obtain ⟨_, r4⟩ := x; exact ⟨rfl, Res.yes⟩
end Go.Proofs.YtfffjfccochccaaDoor

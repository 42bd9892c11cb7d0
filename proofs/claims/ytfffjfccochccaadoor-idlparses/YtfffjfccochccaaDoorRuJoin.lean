/- Plain facts on texts that are put together and cut: the runes of two texts, one behind the other; a text that is cut within a rune. -/
import Derived.Test.YtfffjfccochccaaDoorRuAllMath
namespace Go.Proofs.YtfffjfccochccaaDoor
open Go.RowKit
set_option linter.unusedVariables false
set_option linter.unusedSimpArgs false
set_option maxRecDepth 20000

theorem nxL_append {l : List UInt8} {c k : Nat} (h : nxL l = some (c, k)) (t : List UInt8) : nxL (l ++ t) = some (c, k) := by
  obtain ⟨h1, h2, h3, h4, h5, _⟩ := nxL_some l c k h
  have e : l ++ t = (Utf8.encode c).data.toList ++ (l.drop k ++ t) := by
    rw [h2, ← List.append_assoc, List.take_append_drop]
  rw [e, nxL_encode c h1, h3]
theorem nxL_short {l : List UInt8} {c k : Nat} (h : nxL l = some (c, k)) (m : Nat) (hm : m < k) : nxL (l.take m) = none := by
  cases e : nxL (l.take m) with
  | none => rfl
  | some x =>
    obtain ⟨c', k'⟩ := x
    have h2 := nxL_append e (l.drop m)
    rw [List.take_append_drop, h] at h2
    simp only [Option.some.injEq, Prod.mk.injEq] at h2
    obtain ⟨_, _, _, _, h5, _⟩ := nxL_some _ _ _ e
    rw [List.length_take] at h5
    omega

theorem runesOf_append (f : Nat) : ∀ (l : List UInt8), l.length ≤ f → ∀ (acc : List Nat) (t : List UInt8), runesOf l = some acc → runesOf (l ++ t) = (runesOf t).map (acc ++ ·) := by
  induction f with
  | zero =>
    intro l hl acc t h
    have : l = [] := List.length_eq_zero_iff.1 (by omega)
    subst this
    rw [runesOf_nil] at h
    simp at h; subst h
    simp
  | succ f ih =>
    intro l hl acc t h
    match l with
    | [] =>
      rw [runesOf_nil] at h
      simp at h; subst h
      simp
    | a :: r =>
      cases e : nxL (a :: r) with
      | none => rw [runesOf_bad (by simp) e] at h; cases h
      | some x =>
        obtain ⟨c, k⟩ := x
        obtain ⟨_, _, _, h4, h5, _⟩ := nxL_some _ _ _ e
        rw [runesOf_step e] at h
        cases e2 : runesOf ((a :: r).drop k) with
        | none => rw [e2] at h; cases h
        | some rs' =>
          rw [e2] at h
          simp at h; subst h
          have hd : (a :: r ++ t).drop k = (a :: r).drop k ++ t := by
            rw [List.drop_append_of_le_length h5]
          rw [runesOf_step (nxL_append e t), hd, ih _ (by simp at hl h5 ⊢; omega) rs' t e2]
          cases runesOf t <;> simp
theorem runes_join {l t : List UInt8} {acc : List Nat} (h : runesOf l = some acc) : runesOf (l ++ t) = (runesOf t).map (acc ++ ·) := runesOf_append l.length l (Nat.le_refl _) acc t h

theorem runesOf_encode (c : Nat) (h : Utf8.valid c = true) : runesOf (Utf8.encode c).data.toList = some [c] := by
  have e := nxL_encode c h []
  rw [List.append_nil] at e
  rw [runesOf_step e]
  generalize Utf8.encode (c : Int) = b
  have : (b.data.toList).drop b.size = [] := List.drop_eq_nil_of_le (by rw [Array.length_toList]; exact Nat.le_refl _)
  rw [this, runesOf_nil]; rfl

/-- A text cut at a place to which its runes lead. -/
def CutAt (l : List UInt8) (pos : Nat) (acc : List Nat) : Prop := runesOf (l.take pos) = some acc
theorem CutAt.start (l : List UInt8) : CutAt l 0 [] := by unfold CutAt; simp [runesOf_nil]
theorem CutAt.rest {l : List UInt8} {pos : Nat} {acc : List Nat} (h : CutAt l pos acc) : runesOf l = (runesOf (l.drop pos)).map (acc ++ ·) := by
  have := runes_join (t := l.drop pos) h
  rw [List.take_append_drop] at this
  exact this
theorem CutAt.next {l : List UInt8} {pos : Nat} {acc rs : List Nat} (h : CutAt l pos acc) (hr : runesOf l = some rs) (hp : pos < l.length) :
    ∃ c k, nxL (l.drop pos) = some (c, k) ∧ CutAt l (pos + k) (acc ++ [c]) ∧ 1 ≤ k ∧ k ≤ 4 ∧ pos + k ≤ l.length ∧ ∀ m, pos < m → m < pos + k → runesOf (l.take m) = none := by
  cases e : nxL (l.drop pos) with
  | none =>
    have h1 := h.rest
    have hne : l.drop pos ≠ [] := by intro e2; have : (l.drop pos).length = 0 := by rw [e2]; rfl
                                     rw [List.length_drop] at this; omega
    rw [hr, runesOf_bad hne e] at h1
    cases h1
  | some x =>
    obtain ⟨c, k⟩ := x
    obtain ⟨g1, g2, g3, g4, g5, g6, _⟩ := nxL_some _ _ _ e
    rw [List.length_drop] at g5
    refine ⟨c, k, rfl, ?_, g4, g6, by omega, ?_⟩
    · unfold CutAt at h ⊢
      rw [List.take_add, runes_join h, ← g2, runesOf_encode c g1]; rfl
    · intro m h1 h2
      have e2 : l.take m = l.take pos ++ (l.drop pos).take (m - pos) := by
        have e4 : pos + (m - pos) = m := by omega
        rw [← List.take_add, e4]
      rw [e2, runes_join h, runesOf_bad ?_ (nxL_short e (m - pos) (by omega))]; rfl
      intro e3
      have : ((l.drop pos).take (m - pos)).length = 0 := by rw [e3]; rfl
      rw [List.length_take, List.length_drop] at this; omega
theorem CutAt.done {l : List UInt8} {pos : Nat} {acc rs : List Nat} (h : CutAt l pos acc) (hr : runesOf l = some rs) :
    validB (l.take pos) = true ∧ validB (l.drop pos) = true ∧ countN (l.take pos) + countN (l.drop pos) = countN l := by
  have h1 := h.rest
  unfold CutAt at h
  rw [hr] at h1
  cases e : runesOf (l.drop pos) with
  | none => rw [e] at h1; cases h1
  | some r =>
    rw [e] at h1
    simp at h1
    subst h1
    unfold validB countN
    rw [h, e, hr]
    simp
end Go.Proofs.YtfffjfccochccaaDoor

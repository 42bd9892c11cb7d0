/- How many pieces are left where one does not fit; what a loop's round is measured by. -/
import Derived.Test.YtfffjfccochccaaDoorIdCall
import Derived.Maps.AppendAt
namespace Go.Proofs.YtfffjfccochccaaDoor
open Go.ChangeShapes Go.WideShapes Go.ChangeAt Go.RowKit
set_option linter.unusedVariables false
set_option linter.unusedSimpArgs false
set_option maxRecDepth 20000

def InP {α : Type} (x : PR α) (n : Nat) : Prop := ∀ k, x = .inl k → k ≤ n
theorem in_inr {α : Type} (a : α) (r : List ByteArray) (n : Nat) : InP (.inr (a, r)) n := fun k e => by cases e
theorem in_bind {α β : Type} {x : PR α} {f : α → List ByteArray → PR β} {n : Nat} (h : InP x n) (hl : LeP x n) (hf : ∀ a r, InP (f a r) r.length) : InP (pBind x f) n := by
  cases x with
  | inl k => intro j e; exact h j (by simpa [pBind] using e)
  | inr x => obtain ⟨a, r⟩ := x; intro j e; exact Nat.le_trans (hf a r j e) (hl a r rfl)
theorem must_in (k : ByteArray) (ts : List ByteArray) : InP (pMust k ts) ts.length := by
  intro j e; unfold pMust at e; split at e <;> simp at e; omega
theorem name_in (ts : List ByteArray) : InP (pName ts) ts.length := (pName_sh ts).1
theorem num_in (ts : List ByteArray) : InP (pNum ts) ts.length := (pNum_sh ts).1
theorem type_in (ts : List ByteArray) : InP (pType ts) ts.length := by
  cases ts with
  | nil => intro k e; simp [pType] at e; omega
  | cons t r =>
    unfold pType
    simp only
    split
    · exact in_inr _ _ _
    · exact in_bind (name_in _) (name_lt _).le fun _ _ => in_inr _ _ _
theorem field_in (ts : List ByteArray) : InP (pField ts) ts.length := by
  unfold pField
  have hl := label_le ts
  refine in_bind (fun k e => Nat.le_trans (type_in _ k e) hl) (fun a r e => Nat.le_trans (Nat.le_of_lt (type_lt _ a r e)) hl) fun a r => ?_
  exact in_bind (name_in r) (name_lt r).le fun _ r => in_bind (must_in _ r) (must_lt _ r).le fun _ r => in_bind (num_in r) (num_lt r).le fun _ r => in_bind (must_in _ r) (must_lt _ r).le fun _ r => in_inr _ _ _
theorem more_in : ∀ (f : Nat) (acc : List Int) (ts : List ByteArray), InP (pMore f acc ts) ts.length
  | 0, acc, ts => in_bind (must_in _ ts) (must_lt _ ts).le fun _ r => in_inr _ _ _
  | f + 1, acc, ts => by
    unfold pMore
    split
    · have h := in_bind (x := pNum ts.tail) (f := fun n r => pMore f (acc ++ [(n : Int)]) r) (num_in _) (num_lt ts.tail).le fun n r => more_in f _ r
      exact fun a e => Nat.le_trans (h a e) (by simp)
    · exact in_bind (must_in _ ts) (must_lt _ ts).le fun _ r => in_inr _ _ _
theorem member_in (m : MsS) (ts : List ByteArray) : InP (pMember m ts) ts.length := by
  unfold pMember
  split
  · have h := in_bind (x := pNum ts.tail) (f := fun n r => pBind (pMore r.length (m.reserved ++ [(n : Int)]) r) fun l r2 => (.inr (⟨m.name, m.fields, l⟩, r2) : PR MsS)) (num_in _) (num_lt ts.tail).le fun n r => in_bind (more_in _ _ r) (more_le _ _ r) fun _ r => in_inr _ _ _
    exact fun a e => Nat.le_trans (h a e) (by simp)
  · exact in_bind (field_in ts) (field_lt ts).le fun _ r => in_inr _ _ _
theorem members_in : ∀ (f : Nat) (m : MsS) (ts : List ByteArray), InP (pMembers f m ts) ts.length
  | 0, m, ts => fun k e => by simp [pMembers] at e; omega
  | f + 1, m, ts => by
    unfold pMembers
    split
    · exact in_inr _ _ _
    · exact in_bind (member_in m ts) (member_lt m ts).le fun m' r => members_in f m' r
theorem msg_in (ts : List ByteArray) : InP (pMsg ts) ts.length := by
  unfold pMsg
  exact in_bind (name_in ts) (name_lt ts).le fun _ r => in_bind (must_in _ r) (must_lt _ r).le fun _ r => members_in _ _ r
theorem value_in (ts : List ByteArray) : InP (pValue ts) ts.length := by
  unfold pValue
  exact in_bind (name_in ts) (name_lt ts).le fun _ r => in_bind (must_in _ r) (must_lt _ r).le fun _ r => in_bind (num_in r) (num_lt r).le fun _ r => in_bind (must_in _ r) (must_lt _ r).le fun _ r => in_inr _ _ _
theorem values_in : ∀ (f : Nat) (m : EnS) (ts : List ByteArray), InP (pValues f m ts) ts.length
  | 0, m, ts => fun k e => by simp [pValues] at e; omega
  | f + 1, m, ts => by
    unfold pValues
    split
    · exact in_inr _ _ _
    · exact in_bind (value_in ts) (value_lt ts).le fun m' r => values_in f _ r
theorem enum_in (ts : List ByteArray) : InP (pEnum ts) ts.length := by
  unfold pEnum
  exact in_bind (name_in ts) (name_lt ts).le fun _ r => in_bind (must_in _ r) (must_lt _ r).le fun _ r => values_in _ _ r
theorem call_in (ts : List ByteArray) : InP (pCall ts) ts.length := by
  unfold pCall
  exact in_bind (name_in ts) (name_lt ts).le fun _ r => in_bind (must_in _ r) (must_lt _ r).le fun _ r => in_bind (name_in r) (name_lt r).le fun _ r => in_bind (must_in _ r) (must_lt _ r).le fun _ r => in_bind (must_in _ r) (must_lt _ r).le fun _ r => in_bind (must_in _ r) (must_lt _ r).le fun _ r => in_bind (name_in r) (name_lt r).le fun _ r => in_bind (must_in _ r) (must_lt _ r).le fun _ r => in_bind (must_in _ r) (must_lt _ r).le fun _ r => in_inr _ _ _
/-- What a loop's round is measured by: the reader's own cells. -/
def flagOf : Option Value → Nat
  | some (.bool true) => 0
  | _ => 1
def msr (g N : Nat) (w : World) : Nat := 2 * (N - (intOf ((w.cell? ⟨g, 1, none⟩).getD undef)).toNat) + flagOf (w.cell? ⟨g, 3, none⟩)
def weigh (σ : Sg) : Nat := 2 * leftS σ + (if badS σ = true then 0 else 1)
theorem msr_rd {w : World} {g : Nat} {V : Value} {ts : List Tk} {E : Nat} {σ : Sg} (h : Rd w g V ts E σ) : msr g ts.length w = weigh σ := by
  obtain ⟨n, hn, hm, c0, c1, c2, c3, f1, f3⟩ := h.open
  unfold msr weigh
  rw [c1, c3]
  simp only [Option.getD_some, intOf, Int.toNat_natCast]
  have : ts.length - n = leftS σ := by omega
  rw [this]
  cases badS σ <;> rfl
theorem weigh_lt {α : Type} {x : PR α} {r : List ByteArray} (h1 : LtP x r.length) (h2 : InP x r.length) : weigh (stX x) < weigh (.inr r) := by
  cases x with
  | inl k => have := h2 k rfl; simp [weigh, stX, leftS, badS]; omega
  | inr x => obtain ⟨a, r'⟩ := x; have := h1 a r' rfl; simp [weigh, stX, leftS, badS]; omega
/-- How long a list may be. -/
def Bd (N : Nat) (σ : Sg) (n : Nat) : Prop := n ≤ N + 1 ∧ ∀ r, σ = .inr r → n + r.length ≤ N
theorem Bd.step {α : Type} {N n : Nat} {r : List ByteArray} {x : PR α} (h : Bd N (.inr r) n) (hx : LtP x r.length) : Bd N (stX x) (n + 1) := by
  have h0 := h.2 r rfl
  refine ⟨by omega, fun r' e => ?_⟩
  cases x with
  | inl k => cases e
  | inr x =>
    obtain ⟨a, r1⟩ := x
    simp only [stX, Sum.inr.injEq] at e
    subst e
    have := hx a r1 rfl
    omega
theorem Bd.keep {α : Type} {N n : Nat} {r : List ByteArray} {x : PR α} (h : Bd N (.inr r) n) (hx : LeP x r.length) : Bd N (stX x) n := by
  have h0 := h.2 r rfl
  refine ⟨by omega, fun r' e => ?_⟩
  cases x with
  | inl k => cases e
  | inr x =>
    obtain ⟨a, r1⟩ := x
    simp only [stX, Sum.inr.injEq] at e
    subst e
    have := hx a r1 rfl
    omega
theorem Rd.kp {S : Nat → Prop} {w w' : World} {g : Nat} {V : Value} {ts : List Tk} {E : Nat} {σ : Sg} (h : Rd w g V ts E σ) (hk : Kp S w w') (hs : ∀ k, k ≤ g → ¬ S k) : Rd w' g V ts E σ := by
  obtain ⟨a, cap, h1, h2, h3, h4, h5⟩ := h.row
  refine ⟨h.glob.kp hk (hs 0 (by omega)), h.pos, (hk.block g h.lt (hs g (Nat.le_refl _))).trans h.blk, h.left, h.rest, ⟨a, cap, h1, h2, h3, h4, ?_⟩, h.small, h.few⟩
  by_cases hne : ts = []
  · subst hne; exact HoldsT.nil
  refine h5.kp hk ?_
  intro b hb'
  obtain ⟨q, hq, hqg⟩ := h4 hne
  rw [hb'] at hq
  cases hq
  exact hs q (by omega)
/-- The cells of an element newly laid. -/
theorem cells_new (w : World) (cs : Array Value) (t : TypeId) : ∀ j u, cs.toList[j]? = some u → (w.alloc (.cells cs t)).cell? ((⟨w.heap.size, 0, none⟩ : Addr).add j) = some u := by
  intro j u hu
  rw [Addr.add_lit, Nat.zero_add, World.cell?_alloc_at _ _ _ _ rfl]
  simpa using hu
/-- Two rows of other elements lie in other blocks. -/
theorem own_apart {w : World} {B B' : Nat} {e e' : TypeId} {s s' : Nat} {v v' : Value} {n n' : Nat} {xs xs' : List Value} (h : w.ownsRow B e s v n xs) (h' : w.ownsRow B' e' s' v' n' xs') (hne : e ≠ e') : ∀ k, v.ownBlock = some k → ¬ v'.ownBlock = some k := by
  intro k hk hk'
  rcases h.2 with ⟨rfl, _⟩ | ⟨q, cap, cur, rfl, _, hb, _⟩
  · cases hk
  · rcases h'.2 with ⟨rfl, _⟩ | ⟨q', cap', cur', rfl, _, hb', _⟩
    · cases hk'
    · simp only [Value.ownBlock, Option.some.injEq] at hk hk'
      subst hk
      subst hk'
      rw [hb] at hb'
      simp only [Option.some.injEq, Obj.cells.injEq] at hb'
      exact hne hb'.2.1
end Go.Proofs.YtfffjfccochccaaDoor

/- Values made by numbers, in plain words. -/
import Derived.Test.YtmgbhicogmclgaaVlMath
namespace Go.Proofs.Ytmgbhicogmclgaa
set_option linter.unusedVariables false
set_option linter.unusedSimpArgs false

/-- Nothing beside the entries, in all of the depth. -/
def bareN : Nat → Tr → Prop
  | 0, _ => True
  | n + 1, t => t.rest = [] ∧ ∀ e ∈ t.es, ∀ x ∈ e.2, bareN n x
theorem leaf_bare (n : Nat) (k v : Int) (s : ByteArray) : bareN n ⟨k, v, s, [], []⟩ := by
  cases n with
  | zero => trivial
  | succ n => exact ⟨rfl, by simp⟩
/-- A tree that is one of a field's type. -/
structure OneT (n : Nat) (s : ScS) (f : FlS) (x : Tr) : Prop where
  val : treeV (msgV n s) f.kind f.tname x = 0
  ok : okN n x = true
  sm : SmN n x
  kind : x.kind = kindT f.kind
  bare : bareN n x
/-- A message that fits. -/
structure FitT (n : Nat) (s : ScS) (nm : ByteArray) (t : Tr) : Prop where
  form : t = ⟨3, 0, ⟨#[]⟩, t.es, []⟩
  val : msgV n s nm t = 0
  ok : okN n t = true
  sm : SmN n t
  bare : bareN n t
theorem FitT.one {n : Nat} {s : ScS} {f : FlS} {t : Tr} (h : FitT n s f.tname t) (hk : f.kind = 7) : OneT n s f t := by
  have h3 : t.kind = 3 := by rw [h.form]
  refine ⟨?_, h.ok, h.sm, ?_, h.bare⟩
  · rw [treeV, hk, if_neg (by rw [h3]; decide), if_neg (by rw [h3]; simp), if_neg (by simp), if_pos h3]
    exact h.val
  · rw [h3, hk]; decide
theorem leaf_sm (n : Nat) (k v : Int) (s : ByteArray) (hs : s.size ≤ 5000) : SmN (n + 1) ⟨k, v, s, [], []⟩ := ⟨hs, by simp, by simp, by simp, by simp⟩
theorem leaf_cnt (n : Nat) (k v : Int) (s : ByteArray) : cntN (n + 1) ⟨k, v, s, [], []⟩ = 1 := by simp [cntN, subs]
/-- A number that is one of a field's type. -/
theorem num_one (n : Nat) (s : ScS) (f : FlS) (v : Int) (hk : kindT f.kind = 1) (hv : nmrB f.kind v = true) (h4 : f.kind ≠ 4) : OneT (n + 1) s f ⟨1, v, ⟨#[]⟩, [], []⟩ := by
  refine ⟨?_, ?_, leaf_sm n 1 v _ (by decide), hk.symm, leaf_bare _ _ _ _⟩
  · rw [treeV, hk, if_neg (by simp), if_neg (by simp [hv]), if_neg (by simp [h4]), if_neg (by simp)]
  · simp [okN, lvB]
    rfl
/-- A text that is one of a field's type. -/
theorem txt_one (n : Nat) (s : ScS) (f : FlS) (b : ByteArray) (hk : kindT f.kind = 2) (hv : validB b.data.toList = true) (hs : b.size ≤ 5000) : OneT (n + 1) s f ⟨2, 0, b, [], []⟩ := by
  refine ⟨?_, ?_, leaf_sm n 2 0 b hs, hk.symm, leaf_bare _ _ _ _⟩
  · rw [treeV, hk, if_neg (by simp), if_neg (by simp), if_neg (by simp [hv]), if_neg (by simp)]
  · simp [okN, lvB]
end Go.Proofs.Ytmgbhicogmclgaa

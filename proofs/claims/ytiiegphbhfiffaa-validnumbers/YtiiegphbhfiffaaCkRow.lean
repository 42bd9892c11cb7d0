/- Rows and blocks beside a set that is written; what the small calls answer. -/
import Derived.Test.YtiiegphbhfiffaaCkSet
import Derived.Test.YtiiegphbhfiffaaBlkT
import Derived.Test.YtiiegphbhfiffaaScRow
namespace Go.Proofs.Ytiiegphbhfiffaa
open Go.ChangeShapes Go.WideShapes Go.ChangeAt Go.RowKit Go.Maps
set_option linter.unusedVariables false
set_option linter.unusedSimpArgs false
set_option maxRecDepth 20000

theorem RowG.kpM {S : Nat → Prop} {w w1 : World} {v : Value} {size : Nat} {rs : List (List Value)} (h : RowG w v size rs) (hk : Kp S w w1) (hs : ∀ p u, w.cell? p = some u → ¬ S p.block) : RowG w1 v size rs := by
  obtain ⟨a, cap, h1, h2, h3, h0, h4⟩ := h.form
  refine ⟨a, cap, h1, h2, h3, h0, fun hne => ?_⟩
  obtain ⟨g, off, h5, h6⟩ := h4 hne
  exact ⟨g, off, h5, fun i c u j hc hu => hk.cell (h6 i c u j hc hu) (hs _ _ (h6 i c u j hc hu))⟩
theorem SetK.no {k : TypeId} {w : World} {b n : Nat} {L : List Value} (h : SetK k w b n L) : ∀ p u, w.cell? p = some u → ¬ p.block = b := fun p u hc => h.ne hc rfl
theorem Kp.new {S : Nat → Prop} {w wr w1 : World} {b : Nat} (h : Kp S w wr) (h1 : Kp (fun k => k = b) wr w1) (hb : w.heap.size ≤ b) : Kp S w w1 := h.trans2 h1 (fun i hi e => by omega)
/-- What came in fits. -/
def FlW (f : FlS) : Prop := f.name.size ≤ 140737488351232 ∧ f.tname.size ≤ 140737488351232 ∧ I64 f.tag ∧ I64 f.label ∧ I64 f.kind
def NmW (f : NmS) : Prop := f.name.size ≤ 140737488351232 ∧ I64 f.n
def MtW (f : MtS) : Prop := f.name.size ≤ 140737488351232 ∧ f.inn.size ≤ 140737488351232 ∧ f.out.size ≤ 140737488351232
def MsW (m : MsS) : Prop := m.name.size ≤ 140737488351232 ∧ (∀ f ∈ m.fields, FlW f) ∧ ∀ n ∈ m.reserved, I64 n
def EnW (m : EnS) : Prop := m.name.size ≤ 140737488351232 ∧ ∀ f ∈ m.values, NmW f
structure ScW (s : ScS) : Prop where
  name : s.name.size ≤ 140737488351232
  msgs : ∀ m ∈ s.msgs, MsW m
  enums : ∀ m ∈ s.enums, EnW m
  meths : ∀ m ∈ s.methods, MtW m
set_option maxHeartbeats 1000000 in
theorem islabel_any (n : Int) (w : World) : Calls Try.prog 73 #[.int .i64 n] w fun e w' => e = .returned (.bool (labB n)) ∧ w' = w := by
  by_cases h1 : n = 1
  · subst h1
    go_enter Try.func73, Try.ntmps73
    go_wp2_with fail
    go_ret
    exact ⟨rfl, rfl⟩
  · by_cases h2 : n = 2
    · subst h2
      go_enter Try.func73, Try.ntmps73
      go_wp2_with fail
      go_ret
      exact ⟨rfl, rfl⟩
    · by_cases h3 : n = 3
      · subst h3
        go_enter Try.func73, Try.ntmps73
        go_wp2_with fail
        go_ret
        exact ⟨rfl, rfl⟩
      · have HF : Hid (false = labB n) := by show _ = _; unfold labB; rw [decide_eq_false (by omega)]
        have e1 : (n == 1) = false := by simpa using h1
        have e2 : (n == 2) = false := by simpa using h2
        have e3 : (n == 3) = false := by simpa using h3
        go_enter Try.func73, Try.ntmps73
        go_wp2_with fail
        go_ret
        exact ⟨ret_bool HF.out, rfl⟩
set_option maxHeartbeats 1000000 in
theorem msgtype_any (s : ByteArray) (w : World) : Calls Try.prog 52 #[.string s] w fun e w' => e = .returned (.agg #[.int .i64 7, .string s]) ∧ Below w.heap.size w w' := by
  go_enter Try.func52, Try.ntmps52
  go_wp2_with fail
  refine bodyPost_ret (v := .agg #[.int .i64 7, .string s]) (by simp [results, Try.results52, go_sem]) rfl ⟨rfl, ?_⟩
  exact (Below.refl _ _).alloc (Nat.le_refl _) _
set_option maxHeartbeats 1000000 in
theorem iszero_any (s : ByteArray) (n : Int) (w : World) : Calls Try.prog 57 #[.agg #[.string s, .int .i64 n]] w fun e w' => e = .returned (.bool (decide (n = 0))) ∧ Below w.heap.size w w' := by
  have HE : Hid ((n == 0) = decide (n = 0)) := rfl
  go_enter Try.func57, Try.ntmps57
  go_wp2_with fail
  go_ret
  exact ⟨ret_bool HE.out, (Below.refl _ _).alloc (Nat.le_refl _) _⟩
end Go.Proofs.Ytiiegphbhfiffaa

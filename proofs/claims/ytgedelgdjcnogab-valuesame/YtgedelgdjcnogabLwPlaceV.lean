/- What the statements' own Place answers: a number below the other one. -/
import Derived.Test.YtgedelgdjcnogabRows
import Derived.WalkKit
import Derived.ProofKit
namespace Go.Proofs.Ytgedelgdjcnogab
open Go.ChangeShapes Go.WideShapes Go.ChangeAt Go.RowKit
set_option linter.unusedVariables false
set_option maxRecDepth 20000

set_option maxHeartbeats 1000000 in
theorem lawPlace_any (v n : Int) (w : World) (hv1 : -9223372036854775808 ≤ v) (hv2 : v ≤ 9223372036854775807) (hn1 : 1 ≤ n) (hn2 : n ≤ 4611686018427387904) :
    Calls Try.prog 9 #[.int .i64 v, .int .i64 n] w fun e w' => ∃ k : Nat, e = .returned (.int .i64 (k : Int)) ∧ (k : Int) < n ∧ w' = w := by
  have t1 := Int.tmod_lt_of_pos v (b := n) (by omega)
  have t2 := Int.lt_tmod_of_pos v (b := n) (by omega)
  have hz : (n == 0) = false := by rw [beq_eq_false_iff_ne]; omega
  by_cases h : v.tmod n < 0
  · obtain ⟨k, hk⟩ := Int.eq_ofNat_of_zero_le (a := v.tmod n + n) (by omega)
    go_enter Try.func9, Try.ntmps9
    go_wp2_with fail
    go_ret
    exact ⟨k, by rw [← hk]; rfl, by omega, rfl⟩
  · obtain ⟨k, hk⟩ := Int.eq_ofNat_of_zero_le (a := v.tmod n) (by omega)
    go_enter Try.func9, Try.ntmps9
    go_wp2_with fail
    go_ret
    exact ⟨k, by rw [← hk]; rfl, by omega, rfl⟩
end Go.Proofs.Ytgedelgdjcnogab

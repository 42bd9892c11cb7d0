/- What the statements' own Place answers, by a function. -/
import Derived.Test.YtomeppgmmlaibaaRows
import Derived.WalkKit
import Derived.ProofKit
namespace Go.Proofs.Ytomeppgmmlaibaa
open Go.ChangeShapes Go.WideShapes Go.ChangeAt Go.RowKit
set_option linter.unusedVariables false
set_option maxRecDepth 20000

def placeI (v n : Int) : Int := if v.tmod n < 0 then v.tmod n + n else v.tmod n
theorem placeI_in (v n : Int) (hn : 1 ≤ n) : 0 ≤ placeI v n ∧ placeI v n < n := by
  have t1 := Int.tmod_lt_of_pos v (b := n) (by omega)
  have t2 := Int.lt_tmod_of_pos v (b := n) (by omega)
  unfold placeI; split <;> omega
set_option maxHeartbeats 1000000 in
theorem place_is (v n : Int) (hv1 : -9223372036854775808 ≤ v) (hv2 : v ≤ 9223372036854775807) (hn1 : 1 ≤ n) (hn2 : n ≤ 4611686018427387904) (w : World) :
    Calls Try.prog 25 #[.int .i64 v, .int .i64 n] w fun e w' => e = .returned (.int .i64 (placeI v n)) ∧ w' = w := by
  have t1 := Int.tmod_lt_of_pos v (b := n) (by omega)
  have t2 := Int.lt_tmod_of_pos v (b := n) (by omega)
  have hz : (n == 0) = false := by rw [beq_eq_false_iff_ne]; omega
  by_cases h : v.tmod n < 0
  · have HP : Hid (v.tmod n + n = placeI v n) := by show _ = _; unfold placeI; rw [if_pos h]
    go_enter Try.func25, Try.ntmps25
    go_wp2_with fail
    go_ret
    exact ⟨by rw [← HP.out]; rfl, rfl⟩
  · have HP : Hid (v.tmod n = placeI v n) := by show _ = _; unfold placeI; rw [if_neg h]
    go_enter Try.func25, Try.ntmps25
    go_wp2_with fail
    go_ret
    exact ⟨by rw [← HP.out]; rfl, rfl⟩
end Go.Proofs.Ytomeppgmmlaibaa

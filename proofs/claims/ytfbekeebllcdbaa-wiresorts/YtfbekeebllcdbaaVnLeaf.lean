/- What Zig and Zag answer, at every input. -/
import Derived.Test.YtfbekeebllcdbaaByRow
import Derived.Test.YtfbekeebllcdbaaVnMath
import Derived.WalkKit
import Derived.ProofKit
import Derived.OpenShut
import Derived.Below
import Derived.Laws.MathBits
namespace Go.Proofs.Ytfbekeebllcdbaa
open Go.ChangeShapes Go.WideShapes Go.ChangeAt Go.RowKit
set_option linter.unusedVariables false
set_option maxRecDepth 20000

theorem ret_int {k : IntKind} {a b : Int} (h : a = b) : Ending.returned (.int k a) = .returned (.int k b) := by rw [h]

def zigN (n : Int) : Int := if n < 0 then -2 * n - 1 else 2 * n
def zagN (v : Int) : Int := if v % 2 = 0 then v / 2 else -(v / 2) - 1
theorem zigN_bd (n : Int) (h1 : -9223372036854775808 ≤ n) (h2 : n ≤ 9223372036854775807) : 0 ≤ zigN n ∧ zigN n < 18446744073709551616 := by
  unfold zigN; split <;> omega
theorem zagN_bd (v : Int) (h1 : 0 ≤ v) (h2 : v < 18446744073709551616) : -9223372036854775808 ≤ zagN v ∧ zagN v ≤ 9223372036854775807 := by
  unfold zagN; split <;> omega
theorem zag_zig (n : Int) : zagN (zigN n) = n := by unfold zagN zigN; split <;> split <;> omega
theorem zig_zag (v : Int) (h : 0 ≤ v) : zigN (zagN v) = v := by unfold zagN zigN; split <;> split <;> omega

theorem not_nat (n : Nat) (h : n < 18446744073709551616) : 18446744073709551615 ^^^ n = 18446744073709551615 - n := by
  apply Nat.eq_of_testBit_eq
  intro i
  have e1 := Nat.testBit_two_pow_sub_succ (x := n) (n := 64) h i
  have e2 := Nat.testBit_two_pow_sub_one 64 i
  rw [show (2 : Nat) ^ 64 - (n + 1) = 18446744073709551615 - n from by omega] at e1
  rw [show (2 : Nat) ^ 64 - 1 = 18446744073709551615 from by decide] at e2
  rw [Nat.testBit_xor, e1, e2]
  by_cases hi : i < 64
  · simp [hi]
  · have : n.testBit i = false := Nat.testBit_lt_two_pow (Nat.lt_of_lt_of_le h (by rw [show 18446744073709551616 = 2 ^ 64 from by decide]; exact Nat.pow_le_pow_right (by decide) (by omega)))
    simp [hi, this]
theorem not_u64 (x : Int) (h1 : 0 ≤ x) (h2 : x < 18446744073709551616) : bits .xor .u64 IntKind.u64.max x = 18446744073709551615 - x := by
  obtain ⟨n, rfl⟩ := Int.eq_ofNat_of_zero_le h1
  have e : IntKind.u64.max = ((18446744073709551615 : Nat) : Int) := by decide
  rw [e, u64_xor_nat _ _ (by decide) (by omega), not_nat n (by omega)]
  omega
set_option maxHeartbeats 400000 in
theorem zig_any (n : Int) (w : World) (h1 : -9223372036854775808 ≤ n) (h2 : n ≤ 9223372036854775807) :
    Calls Try.prog 35 #[.int .i64 n] w fun e w' => e = .returned (.int .u64 (zigN n)) ∧ w' = w := by
  by_cases h : n < 0
  · go_enter Try.func35, Try.ntmps35
    go_wp2
    go_ret
    refine ⟨ret_int ?_, rfl⟩
    rw [IntKind.wrap_u64, IntKind.wrap_u64, not_u64 _ (by omega) (by omega)]
    unfold zigN; rw [if_pos ‹_›]; omega
  · go_enter Try.func35, Try.ntmps35
    go_wp2
    go_ret
    refine ⟨ret_int ?_, rfl⟩
    unfold zigN; rw [if_neg (by omega)]; omega
set_option maxHeartbeats 400000 in
theorem zag_any (v : Int) (w : World) (h1 : 0 ≤ v) (h2 : v < 18446744073709551616) :
    Calls Try.prog 37 #[.int .u64 v] w fun e w' => e = .returned (.int .i64 (zagN v)) ∧ w' = w := by
  have hb : bits .and .u64 v 1 = v % 2 := by
    obtain ⟨n, rfl⟩ := Int.eq_ofNat_of_zero_le h1
    have := u64_and_nat n 1 (by omega) (by decide)
    rw [nat_mask1] at this
    exact this.trans (by omega)
  go_enter Try.func37, Try.ntmps37
  go_wp2
  · go_ret
    refine ⟨ret_int ?_, rfl⟩
    have hb' : v % 2 = 1 := by simpa using ‹(v % 2 == 1) = true›
    rw [not_u64 _ (by omega) (by omega)]
    unfold zagN; rw [if_neg (by omega)]
    simp only [wrap64]
    omega
  · go_ret
    refine ⟨ret_int ?_, rfl⟩
    have hb' : ¬ v % 2 = 1 := by simpa using ‹(v % 2 == 1) = false›
    unfold zagN; rw [if_pos (by omega)]
end Go.Proofs.Ytfbekeebllcdbaa

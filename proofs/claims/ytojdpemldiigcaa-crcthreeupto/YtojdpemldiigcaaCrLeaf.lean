/- What crc's step answers: eight bits are shifted out. -/
import Derived.Test.YtojdpemldiigcaaCrMath
import Derived.Test.YtojdpemldiigcaaByRow
namespace Go.Proofs.Ytojdpemldiigcaa
open Go.ChangeShapes Go.WideShapes Go.ChangeAt Go.RowKit
set_option linter.unusedVariables false
set_option maxRecDepth 20000

theorem and_one {r : Nat} (hr : r < 4294967296) {b : Nat} (h : r % 2 = b) : bits .and .u32 (r : Int) 1 = (b : Int) := by
  rw [show (1 : Int) = ((1 : Nat) : Int) from rfl, u32_and_nat _ _ hr (by decide), Nat.and_one_is_mod, h]
theorem half_xor {r : Nat} (hr : r < 4294967296) : bits .xor .u32 ((r : Int) / 2) 3988292384 = ((r / 2 ^^^ 3988292384 : Nat) : Int) := by
  rw [show (r : Int) / 2 = ((r / 2 : Nat) : Int) from by omega, show (3988292384 : Int) = ((3988292384 : Nat) : Int) from rfl, u32_xor_nat _ _ (by omega) (by decide)]

set_option maxHeartbeats 1000000 in
theorem step_any (r : Nat) (w : World) (hr : r < 4294967296) :
    Calls Try.prog 14 #[.int .u32 (r : Int)] w fun e w' => e = .returned (.int .u32 ((stepN 8 r : Nat) : Int)) ∧ w' = w := by
  go_enter Try.func14, Try.ntmps14
  go_wp2_with fail
  go_loop [0, 4] (fun rv kv => ∃ (k r' : Nat), rv = .int .u32 (r' : Int) ∧ kv = .int .i64 (k : Int) ∧ k ≤ 8 ∧ r' < 4294967296 ∧ Hid (stepN (8 - k) r' = stepN 8 r)) (fun _ kv => 8 - (intOf kv).toNat)
  case atStart => exact ⟨0, r, rfl, rfl, by omega, hr, rfl⟩
  case round =>
    obtain ⟨k, r', rfl, rfl, hk, hr', HE⟩ := hrel
    by_cases h : k < 8
    · have HN : Hid (stepN (8 - (k + 1)) (stepB r') = stepN 8 r) := by
        show _ = _
        rw [← HE.out, show 8 - k = (8 - (k + 1)) + 1 by omega]; rfl
      clear HE
      rcases Nat.mod_two_eq_zero_or_one r' with p | p
      · have ha := and_one hr' p
        have he := stepB_even p
        have hlt := stepB_lt hr'
        go_wp2_with fail
        go_round
        case rel => exact ⟨k + 1, stepB r', by rw [he]; go_num, by go_num, by omega, hlt, HN⟩
        case measure => simp [intOf]; omega
      · have ha := and_one hr' p
        have he := stepB_odd p
        have hlt := stepB_lt hr'
        have hx := half_xor hr'
        go_wp2_with fail
        go_round
        case rel => exact ⟨k + 1, stepB r', by rw [he], by go_num, by omega, hlt, HN⟩
        case measure => simp [intOf]; omega
    · obtain rfl : k = 8 := by omega
      have e : r' = stepN 8 r := HE.out
      clear HE
      go_wp2_with fail
      go_ret
      exact ⟨rfl, rfl⟩
end Go.Proofs.Ytojdpemldiigcaa

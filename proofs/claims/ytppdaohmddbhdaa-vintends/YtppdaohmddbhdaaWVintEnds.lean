/- VintEnds answers true. -/
import Derived.Test.YtppdaohmddbhdaaVnMade
namespace Go.Proofs.Ytppdaohmddbhdaa
open Go.ChangeShapes Go.WideShapes Go.ChangeAt Go.RowKit
set_option linter.unusedVariables false
set_option maxRecDepth 20000

theorem ends_len (k v : Nat) (hk : 1 ≤ k) (hv : v + 1 = 128 ^ k) : (digs v).length = k ∧ (digs (v + 1)).length = k + 1 := by
  obtain ⟨j, rfl⟩ : ∃ j, k = j + 1 := ⟨k - 1, by omega⟩
  have hp : 1 ≤ 128 ^ j := Nat.one_le_pow _ _ (by decide)
  rw [Nat.pow_succ] at hv
  have a1 := digs_len_le j v (by omega)
  have a2 := digs_len_ge j v (by omega)
  have a3 := digs_len_le (j + 1) (v + 1) (by rw [Nat.pow_succ]; omega)
  have a4 := digs_len_ge (j + 1) (v + 1) (by rw [Nat.pow_succ]; omega)
  omega
theorem pow_bd (k : Nat) (h : k ≤ 8) : 128 ^ k ≤ 72057594037927936 := by
  have := Nat.pow_le_pow_right (n := 128) (by decide) h
  have e : (128 : Nat) ^ 8 = 72057594037927936 := by decide
  omega
theorem getR_big : getR [255, 255, 255, 255, 255, 255, 255, 255, 255, 2] 0 = (0, 0, 3) := by decide +kernel
theorem getR_two : getR [128, 0] 0 = (0, 0, 3) := by decide +kernel
theorem digs_top : (digs 18446744073709551615).length = 10 := by
  have a1 := (digs_len64 18446744073709551615 (by decide)).2
  have a2 := digs_len_ge 9 18446744073709551615 (by decide)
  omega


set_option maxHeartbeats 2000000 in
theorem vintEnds_walk (w : World) :
    Calls Try.prog 7 #[] w fun e w' => e = .returned (.bool true) ∧ Below w.heap.size w w' := by
  have Z1 : Hid (zigN (-9223372036854775808) = 18446744073709551615) := by show _ = _; decide
  have Z2 : Hid (zagN 18446744073709551615 = -9223372036854775808) := by show _ = _; decide
  have Z3 : Hid (zigN 9223372036854775807 = 18446744073709551614) := by show _ = _; decide
  go_enter Try.func7, Try.ntmps7
  go_wp2_with fail
  go_loop [1, 2] (fun vv nv => ∃ k v : Nat, 1 ≤ k ∧ k ≤ 10 ∧ nv = .int .i64 (k : Int) ∧ vv = .int .u64 (v : Int) ∧ (k ≤ 9 → Hid (v + 1 = 128 ^ k))) (fun _ nv => 10 - (intOf nv).toNat)
  case atStart => exact ⟨1, 127, by omega, by omega, rfl, rfl, fun _ => rfl⟩
  case round =>
    obtain ⟨k, v, hk1, hk10, rfl, rfl, HV⟩ := hrel
    by_cases hlt : k ≤ 9
    · have HV := HV hlt
      have HL1 : Hid ((digs v).length = k) := (ends_len k v hk1 HV.out).1
      have HL2 : Hid ((digs (v + 1)).length = k + 1) := (ends_len k v hk1 HV.out).2
      by_cases h9 : k = 9
      · subst h9
        obtain rfl : v = 9223372036854775807 := by have := HV.out; rw [show (128 : Nat) ^ 9 = 9223372036854775808 from by decide] at this; omega
        go_wp2_with fail
        refine (len_any 9223372036854775807 _ (by decide)).mono ?_
        rintro e w1 ⟨rfl, rfl⟩
        rw [HL1.out]
        go_wp2_with fail
        refine (len_any 9223372036854775808 _ (by decide)).mono ?_
        rintro e w1 ⟨rfl, rfl⟩
        rw [show (digs 9223372036854775808).length = 10 from HL2.out]
        go_wp2_with fail
        go_round
        case rel => exact ⟨10, 18446744073709551615, by omega, by omega, by go_num, rfl, fun h => by omega⟩
        case measure => simp [intOf]
      · have hb := pow_bd k (by omega)
        have hv : v < 72057594037927936 := by have := HV.out; omega
        have HV' : Hid (v * 128 + 127 + 1 = 128 ^ (k + 1)) := by show _ = _; rw [Nat.pow_succ, ← HV.out]; omega
        go_wp2_with fail
        refine (len_any _ _ (by omega)).mono ?_
        rintro e w1 ⟨rfl, rfl⟩
        rw [HL1.out]
        go_wp2_with fail
        refine (len_int _ (v + 1) _ (by omega) (by omega)).mono ?_
        rintro e w1 ⟨rfl, rfl⟩
        rw [HL2.out]
        go_wp2_with fail
        go_round
        case rel => exact ⟨k + 1, v * 128 + 127, by omega, by omega, by go_num, by go_num, fun _ => HV'⟩
        case measure => simp [intOf]; omega
    · go_wp2_with fail
      refine (put_nil 18446744073709551615 _ rfl _ (by decide)).mono ?_
      rintro e w1 ⟨g, cap, rfl, h1, h2, h3, h4, h5, hb⟩
      have hg := get_any (some ⟨g, 0, none⟩) (digs 18446744073709551615) cap 0 w1 (.inr ⟨g, 0, rfl⟩) h3 h4 (by rw [digs_top]; decide) h5 (digs_lt _)
      rw [getR_put0 _ (by decide), digs_top] at hg
      rw [digs_top]
      go_wp2_with fail
      refine hg.mono ?_
      rintro e w2 ⟨rfl, rfl⟩
      simp only [getV]
      have hws := hb.size
      go_wp2_with fail
      refine (get_made _ _ [255, 255, 255, 255, 255, 255, 255, 255, 255, 2] #[.int .u8 255, .int .u8 255, .int .u8 255, .int .u8 255, .int .u8 255, .int .u8 255, .int .u8 255, .int .u8 255, .int .u8 255, .int .u8 2] 10 0 (0, 0, 3) (by simp) (by simp [byteCells]) rfl getR_big (by decide) (by decide)).mono ?_
      rintro e w3 ⟨rfl, rfl⟩
      simp only [getV]
      go_wp2_with fail
      refine (get_made _ _ [128, 0] #[.int .u8 128, .int .u8 0] 2 0 (0, 0, 3) (by simp) (by simp [byteCells]) rfl getR_two (by decide) (by decide)).mono ?_
      rintro e w4 ⟨rfl, rfl⟩
      simp only [getV]
      go_wp2_with fail
      refine (zig_any _ _ (by decide) (by decide)).mono ?_
      rintro e w5 ⟨rfl, rfl⟩
      rw [Z1.out]
      go_wp2_with fail
      refine (zag_any _ _ (by decide) (by decide)).mono ?_
      rintro e w5 ⟨rfl, rfl⟩
      rw [Z2.out]
      go_wp2_with fail
      refine (zig_any _ _ (by decide) (by decide)).mono ?_
      rintro e w5 ⟨rfl, rfl⟩
      rw [Z3.out]
      go_wp2_with fail
      refine (awake_any _).mono ?_
      rintro e w6 ⟨rfl, hb6⟩
      go_wp2_with fail
      go_ret
      refine ⟨rfl, ?_⟩
      exact ((hb.alloc hws _).alloc (by simp; omega) _).trans (hb6.mono (by simp; omega))
end Go.Proofs.Ytppdaohmddbhdaa

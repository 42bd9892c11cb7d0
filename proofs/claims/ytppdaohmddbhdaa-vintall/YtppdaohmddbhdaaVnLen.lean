/- What Len answers, at every number: how many bytes it has. -/
import Derived.Test.YtppdaohmddbhdaaVnLeaf
namespace Go.Proofs.Ytppdaohmddbhdaa
open Go.ChangeShapes Go.WideShapes Go.ChangeAt Go.RowKit
set_option linter.unusedVariables false
set_option maxRecDepth 20000

theorem or_one (v : Nat) : (v ||| 1) / 2 = v / 2 ∧ (v ||| 1) % 2 = 1 := by
  have h1 : (v ||| 1) / 2 = v / 2 := by rw [Nat.or_div_two]; simp
  have h2 : (v ||| 1) % 2 = 1 := by
    have := @Nat.or_mod_two_eq_one v 1
    omega
  exact ⟨h1, h2⟩
theorem or_one_lt (v : Nat) (h : v < 18446744073709551616) : v ||| 1 < 18446744073709551616 := by have := or_one v; omega

theorem len_digs (v : Nat) : (bitLen (v ||| 1) + 6) / 7 = (digs v).length := by
  obtain ⟨g1, g2⟩ := or_one v
  generalize v ||| 1 = x at *
  obtain ⟨hu, hl⟩ := bitLen_spec x
  have hl := hl (by omega)
  have hn : bitLen x ≠ 0 := by intro h0; rw [h0] at hu; simp at hu; omega
  generalize bitLen x = n at *
  obtain ⟨k, hk⟩ : ∃ k, (n + 6) / 7 = k + 1 := ⟨(n + 6) / 7 - 1, by omega⟩
  rw [hk]
  have a1 : v < 128 * 128 ^ k := by
    have e : 128 * 128 ^ k = 2 ^ (7 * (k + 1)) := by rw [Nat.pow_mul, show (2 : Nat) ^ 7 = 128 from rfl, Nat.pow_succ, Nat.mul_comm]
    have := Nat.pow_le_pow_right (n := 2) (by decide) (show n ≤ 7 * (k + 1) by omega)
    omega
  have a2 := digs_len_le k v a1
  have a3 : k + 1 ≤ (digs v).length := by
    cases k with
    | zero => exact List.length_pos_iff.2 (digs_ne v)
    | succ k =>
      refine digs_len_ge (k + 1) v ?_
      have e : 128 ^ (k + 1) = 2 ^ (7 * (k + 1)) := by rw [Nat.pow_mul]
      have := Nat.pow_le_pow_right (n := 2) (by decide) (show 7 * (k + 1) ≤ n - 1 by omega)
      have e2 : 128 ^ (k + 1) % 2 = 0 := by rw [Nat.pow_succ]; omega
      omega
  omega

set_option maxHeartbeats 400000 in
theorem len_any (v : Nat) (w : World) (h1 : v < 18446744073709551616) :
    Calls Try.prog 11 #[.int .u64 (v : Int)] w fun e w' => e = .returned (.int .i64 ((digs v).length : Nat)) ∧ w' = w := by
  have hb : bits .or .u64 (v : Int) 1 = ((v ||| 1 : Nat) : Int) := u64_or_nat v 1 h1 (by decide)
  have hlt := or_one_lt v h1
  have HL : Hid ((bitLen (v ||| 1) + 6) / 7 = (digs v).length) := len_digs v
  have hle : bitLen (v ||| 1) ≤ 64 := by
    unfold bitLen
    split
    · omega
    · rename_i h0
      have := (Nat.log2_lt h0).2 (show (v ||| 1) < 2 ^ 64 from hlt)
      omega
  go_enter Try.func11, Try.ntmps11
  go_wp2_with fail
  refine (len64_any _ _ (by omega) (by omega)).mono ?_
  rintro e w1 ⟨rfl, rfl⟩
  rw [Int.toNat_natCast]
  generalize v ||| 1 = x at *
  go_wp2_with fail
  go_ret
  refine ⟨ret_int ?_, rfl⟩
  rw [← HL.out]
  omega
end Go.Proofs.Ytppdaohmddbhdaa

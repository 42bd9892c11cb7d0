/- VintOrder answers true at every input. -/
import Derived.Test.YtppdaohmddbhdaaVnAwake
namespace Go.Proofs.Ytppdaohmddbhdaa
open Go.ChangeShapes Go.WideShapes Go.ChangeAt Go.RowKit
set_option linter.unusedVariables false
set_option maxRecDepth 20000

theorem digs_mono (a b : Nat) (h : a ≤ b) : (digs a).length ≤ (digs b).length := by
  rw [← len_digs a, ← len_digs b]
  have h1 := or_one a
  have h2 := or_one b
  have hl : a ||| 1 ≤ b ||| 1 := by omega
  have : bitLen (a ||| 1) ≤ bitLen (b ||| 1) := by
    obtain ⟨_, k1⟩ := bitLen_spec (a ||| 1)
    obtain ⟨k2, _⟩ := bitLen_spec (b ||| 1)
    have k1 := k1 (by omega)
    rcases Nat.lt_or_ge (bitLen (b ||| 1)) (bitLen (a ||| 1)) with h | h
    · have := Nat.pow_le_pow_right (n := 2) (by decide) (show bitLen (b ||| 1) ≤ bitLen (a ||| 1) - 1 by omega)
      omega
    · exact h
  omega
theorem and_63 (n : Int) : 0 ≤ bits .and .i64 n 63 ∧ bits .and .i64 n 63 ≤ 63 := by
  have hm : (BitVec.ofInt 64 63).toNat = 63 := by decide
  have hle : (BitVec.ofInt 64 n &&& BitVec.ofInt 64 63).toNat ≤ 63 := by
    rw [BitVec.toNat_and, hm]; exact Nat.and_le_right
  have e : bits .and .i64 n 63 = IntKind.i64.wrap ((BitVec.ofInt 64 n &&& BitVec.ofInt 64 63).toNat : Int) := rfl
  rw [e, IntKind.wrap_i64]
  omega

theorem ge_bool {a b : Nat} (h : a ≤ b) : decide ((a : Int) ≤ (b : Int)) = true := by simp; omega
set_option maxHeartbeats 1000000 in
theorem order_walk (a b : Nat) (k : Int) (n : Int) (w : World) (ha : a < 18446744073709551616) (hb : b < 18446744073709551616) (hk : bits .and .i64 n 63 = k) (hk1 : 0 ≤ k) (hk2 : k ≤ 63) :
    Calls Try.prog 6 #[.int .u64 (a : Int), .int .u64 (b : Int), .int .i64 n] w fun e w' => e = .returned (.bool true) ∧ Below w.heap.size w w' := by
  have hd : ∀ v : Nat, v < 128 → (digs v).length = 1 := fun v h => by rw [digs_small h]; rfl
  have H1 : Hid (∃ x : Nat, zigN k = x ∧ x < 128) := ⟨(zigN k).toNat, by unfold zigN; split <;> omega, by unfold zigN; split <;> omega⟩
  have H2 : Hid (∃ x : Nat, zigN (-k) = x ∧ x < 128) := ⟨(zigN (-k)).toNat, by unfold zigN; split <;> omega, by unfold zigN; split <;> omega⟩
  have H3 : Hid (∃ x : Nat, zigN (-k - 1) = x ∧ x < 128) := ⟨(zigN (-k - 1)).toNat, by unfold zigN; split <;> omega, by unfold zigN; split <;> omega⟩
  obtain ⟨x1, e1, l1⟩ := H1.out
  obtain ⟨x2, e2, l2⟩ := H2.out
  obtain ⟨x3, e3, l3⟩ := H3.out
  have E1 : Hid (zigN k = x1) := e1
  have E2 : Hid (zigN (-k) = x2) := e2
  have E3 : Hid (zigN (-k - 1) = x3) := e3
  have D1 : Hid ((digs x1).length = 1) := hd x1 l1
  have D2 : Hid ((digs x2).length = 1) := hd x2 l2
  have D3 : Hid ((digs x3).length = 1) := hd x3 l3
  clear H1 H2 H3 e1 e2 e3 hd
  by_cases hab : (b : Int) < (a : Int)
  all_goals
    have HM : Hid (if (b : Int) < (a : Int) then (digs b).length ≤ (digs a).length else (digs a).length ≤ (digs b).length) := by
      first
        | (rw [if_pos hab]; exact digs_mono _ _ (by omega))
        | (rw [if_neg hab]; exact digs_mono _ _ (by omega))
    first | rw [if_pos hab] at HM | rw [if_neg hab] at HM
    go_enter Try.func6, Try.ntmps6
    go_wp2_with fail
    refine (len_any _ _ (by omega)).mono ?_
    rintro e w1 ⟨rfl, rfl⟩
    go_wp2_with fail
    refine (len_any _ _ (by omega)).mono ?_
    rintro e w1 ⟨rfl, rfl⟩
    have hge := ge_bool HM.out
    go_wp2_with fail
    refine (zig_any _ _ (by omega) (by omega)).mono ?_
    rintro e w1 ⟨rfl, rfl⟩
    rw [E1.out]
    go_wp2_with fail
    refine (len_any _ _ (by omega)).mono ?_
    rintro e w1 ⟨rfl, rfl⟩
    rw [D1.out]
    go_wp2_with fail
    refine (zig_any _ _ (by omega) (by omega)).mono ?_
    rintro e w1 ⟨rfl, rfl⟩
    rw [E2.out]
    go_wp2_with fail
    refine (len_any _ _ (by omega)).mono ?_
    rintro e w1 ⟨rfl, rfl⟩
    rw [D2.out]
    go_wp2_with fail
    refine (zig_any _ _ (by omega) (by omega)).mono ?_
    rintro e w1 ⟨rfl, rfl⟩
    rw [E3.out]
    go_wp2_with fail
    refine (len_any _ _ (by omega)).mono ?_
    rintro e w1 ⟨rfl, rfl⟩
    rw [D3.out]
    go_wp2_with fail
    refine (awake_any _).mono ?_
    rintro e w1 ⟨rfl, hbel⟩
    go_wp2_with fail
    go_ret
    exact ⟨rfl, hbel⟩

theorem vintOrder_walk (a b n : Int) (ha : (Lit.int .u64 a).wf = true) (hb : (Lit.int .u64 b).wf = true) (hn : (Lit.int .i64 n).wf = true) (w : World) :
    Calls Try.prog 6 #[.int .u64 a, .int .u64 b, .int .i64 n] w fun e w' => e = .returned (.bool true) ∧ Below w.heap.size w w' := by
  obtain ⟨a1, a2⟩ := bounds_u64 ha
  obtain ⟨b1, b2⟩ := bounds_u64 hb
  obtain ⟨x, rfl⟩ := Int.eq_ofNat_of_zero_le a1
  obtain ⟨y, rfl⟩ := Int.eq_ofNat_of_zero_le b1
  exact order_walk x y _ n w (by omega) (by omega) rfl (and_63 n).1 (and_63 n).2
end Go.Proofs.Ytppdaohmddbhdaa

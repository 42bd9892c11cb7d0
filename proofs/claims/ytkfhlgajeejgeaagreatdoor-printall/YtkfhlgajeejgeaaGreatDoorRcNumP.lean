/- What the reference's Dec and big answer: a number's digits. -/
import Derived.Test.YtkfhlgajeejgeaaGreatDoorPkL
import Derived.Test.YtkfhlgajeejgeaaGreatDoorPkK
import Derived.Test.YtkfhlgajeejgeaaGreatDoorPkA
import Derived.Test.YtkfhlgajeejgeaaGreatDoorPkF
import Derived.Lib.ItoaLen
namespace Go.Proofs.YtkfhlgajeejgeaaGreatDoor
open Go.ChangeShapes Go.WideShapes Go.ChangeAt Go.RowKit
set_option linter.unusedVariables false
set_option linter.unusedSimpArgs false
set_option maxRecDepth 20000

theorem bytes_list {t : ByteArray} {l : List UInt8} (h : t.data.toList = l) : t = ⟨l.toArray⟩ := by
  subst h
  rfl
theorem bytes_more (a b : ByteArray) : (a ++ b).data.toList = a.data.toList ++ b.data.toList := by simp
def tenB : ByteArray := ⟨#[48, 49, 50, 51, 52, 53, 54, 55, 56, 57]⟩
theorem dig_cut {d : Nat} (h : d < 10) : (tenB.extract d (d + 1)).data.toList = [UInt8.ofNat (48 + d)] ∧ (tenB.extract d (d + 1)).size = 1 := by
  rcases (show d = 0 ∨ d = 1 ∨ d = 2 ∨ d = 3 ∨ d = 4 ∨ d = 5 ∨ d = 6 ∨ d = 7 ∨ d = 8 ∨ d = 9 by omega) with rfl | rfl | rfl | rfl | rfl | rfl | rfl | rfl | rfl | rfl <;> exact ⟨rfl, rfl⟩
theorem dec_more {n : Nat} (h : ¬ n < 10) : Lib.decDigits n = Lib.decDigits (n / 10) ++ [UInt8.ofNat (48 + n % 10)] := by rw [Lib.decDigits, dif_neg h]
theorem dec_len : ∀ (k n : Nat), n < 10 ^ (k + 1) → (Lib.decDigits n).length ≤ k + 1
  | 0, n, h => by rw [Lib.decDigits_one (by simpa using h)]; simp
  | k + 1, n, h => by
    by_cases h1 : n < 10
    · rw [Lib.decDigits_one h1]; simp
    · rw [dec_more h1, List.length_append]
      have := dec_len k (n / 10) (by rw [Nat.pow_succ] at h; omega)
      simp only [List.length_cons, List.length_nil]
      omega
theorem dec_20 {n : Nat} (h : n ≤ 9223372036854775808) : (Lib.decDigits n).length ≤ 20 := dec_len 19 n (Nat.lt_of_le_of_lt h (by decide))
set_option maxHeartbeats 2000000 in
theorem decP_any (n0 : Nat) (hn0 : n0 < 9223372036854775808) (w : World) : Calls Tryz.prog 35 #[.int .i64 (n0 : Int)] w fun e w' => e = .returned (.string ⟨(Lib.decDigits n0).toArray⟩) ∧ w' = w := by
  have h0 : ¬ (n0 : Int) < 0 := by omega
  go_enter Tryz.func35, Tryz.ntmps35
  go_wp2_with fail
  go_loopw [0, 3] (fun nv sv wr => ∃ (n : Nat) (t : ByteArray), nv = .int .i64 (n : Int) ∧ sv = .string t ∧ n ≤ n0 ∧ t.size ≤ 20 ∧ Hid (Lib.decDigits n ++ t.data.toList = Lib.decDigits n0) ∧ Hid (wr = w)) (fun nv _ _ => (intOf nv).toNat)
  case atStart => exact ⟨n0, ⟨#[]⟩, rfl, rfl, by omega, by show 0 ≤ 20; omega, by show _ = _; simp, rfl⟩
  case round =>
    obtain ⟨n, t, rfl, rfl, hn, ht, HD, HW⟩ := hrel
    by_cases hlt : n < 10
    · have hz : ¬ (10 : Int) ≤ (n : Int) := by omega
      have hsl : ∀ W, (Instr.slice 9 (.string ⟨#[48, 49, 50, 51, 52, 53, 54, 55, 56, 57]⟩) (some (.int .i64 (n : Int))) (some (.int .i64 ((n : Int) + 1))) none).run Tryz.prog W = .ok (.string (tenB.extract n (n + 1))) W := fun W => slice_text W tenB n (n + 1) (by omega) (by show n + 1 ≤ 10; omega)
      have HC : Hid ((tenB.extract n (n + 1)).data.toList = [UInt8.ofNat (48 + n)] ∧ (tenB.extract n (n + 1)).size = 1) := dig_cut hlt
      generalize tenB.extract n (n + 1) = cut at *
      have hc1 : cut.size = 1 := HC.out.2
      have HR : Hid (cut ++ t = ⟨(Lib.decDigits n0).toArray⟩) := bytes_list (by rw [bytes_more, HC.out.1, ← HD.out, Lib.decDigits_one hlt])
      have hw1 : IntKind.i64.wrap ((n : Int) + 1) = (n : Int) + 1 := by rw [IntKind.wrap_i64]; omega
      go_wp2_with fail
      go_ret
      exact ⟨by rw [HR.out]; rfl, HW.out⟩
    · have hz : (10 : Int) ≤ (n : Int) := by omega
      obtain ⟨d, hd⟩ : ∃ d, n % 10 = d := ⟨_, rfl⟩
      obtain ⟨k, hk⟩ : ∃ k, n / 10 = k := ⟨_, rfl⟩
      have hdz : (n : Int) % 10 = (d : Int) := by omega
      have hkz : (n : Int) / 10 = (k : Int) := by omega
      have hdt : (n : Int).tmod 10 = (d : Int) := by rw [Int.tmod_eq_emod_of_nonneg (by omega)]; omega
      have hkt : (n : Int).tdiv 10 = (k : Int) := by rw [Int.tdiv_eq_ediv_of_nonneg (by omega)]; omega
      have hd10 : d < 10 := by omega
      have hsl : ∀ W, (Instr.slice 9 (.string ⟨#[48, 49, 50, 51, 52, 53, 54, 55, 56, 57]⟩) (some (.int .i64 (d : Int))) (some (.int .i64 ((d : Int) + 1))) none).run Tryz.prog W = .ok (.string (tenB.extract d (d + 1))) W := fun W => slice_text W tenB d (d + 1) (by omega) (by show d + 1 ≤ 10; omega)
      have HC : Hid ((tenB.extract d (d + 1)).data.toList = [UInt8.ofNat (48 + d)] ∧ (tenB.extract d (d + 1)).size = 1) := dig_cut hd10
      have HM : Hid (Lib.decDigits n = Lib.decDigits k ++ [UInt8.ofNat (48 + d)]) := by show _ = _; rw [← hk, ← hd]; exact dec_more hlt
      generalize tenB.extract d (d + 1) = cut at *
      have hc1 : cut.size = 1 := HC.out.2
      have hw1 : IntKind.i64.wrap ((d : Int) + 1) = (d : Int) + 1 := by rw [IntKind.wrap_i64]; omega
      have hkn : k < n := by omega
      have HE2 : Hid (Lib.decDigits k ++ (cut ++ t).data.toList = Lib.decDigits n0) := by
        show _ = _
        rw [bytes_more, HC.out.1, ← HD.out, HM.out, List.append_assoc]
      have HT2 : Hid ((cut ++ t).size ≤ 20) := by
        have h1 := congrArg List.length HE2.out
        rw [List.length_append] at h1
        have h2 := dec_20 (n := n0) (by omega)
        have h3 : (cut ++ t).data.toList.length = (cut ++ t).size := rfl
        show _ ≤ _
        omega
      clear hd hk
      go_wp2_with fail
      go_roundw
      case rel =>
        refine ⟨k, cut ++ t, rfl, rfl, by omega, HT2.out, HE2, HW⟩
      case measure => simp [intOf]; omega
theorem bigP_any : ∀ (b n : Nat), n ≤ b → n < 9223372036854775808 → ∀ w : World, Calls Tryz.prog 60 #[.int .i64 (n : Int)] w fun e w' => e = .returned (.string ⟨(Lib.decDigits (n + 1)).toArray⟩) ∧ w' = w
  | b, n, hb, hn, w => by
    obtain ⟨d, hd⟩ : ∃ d, n % 10 = d := ⟨_, rfl⟩
    obtain ⟨k, hk⟩ : ∃ k, n / 10 = k := ⟨_, rfl⟩
    obtain ⟨l, hl⟩ : ∃ l, d + 1 = l := ⟨_, rfl⟩
    have hdz : (n : Int) % 10 = (d : Int) := by omega
    have hkz : (n : Int) / 10 = (k : Int) := by omega
    have hdt : (n : Int).tmod 10 = (d : Int) := by rw [Int.tmod_eq_emod_of_nonneg (by omega)]; omega
    have hkt : (n : Int).tdiv 10 = (k : Int) := by rw [Int.tdiv_eq_ediv_of_nonneg (by omega)]; omega
    have hlz : (d : Int) + 1 = (l : Int) := by omega
    have hlw : IntKind.i64.wrap (l : Int) = (l : Int) := by rw [IntKind.wrap_i64]; omega
    by_cases h9 : l < 10
    · have h9z : (l : Int) < 10 := by omega
      have HDL : Hid (∀ W, Calls Tryz.prog 35 #[.int .i64 (l : Int)] W fun e w' => e = .returned (.string ⟨(Lib.decDigits l).toArray⟩) ∧ w' = W) := fun W => decP_any l (by omega) W
      by_cases hs : n < 10
      · have hsz : (n : Int) < 10 := by omega
        have HE : Hid (l = n + 1) := by show _ = _; omega
        clear hd hk hl
        go_enter Tryz.func60, Tryz.ntmps60
        go_wp2_with (go_at_call 35; refine (HDL.out _).mono ?_; rintro e w1 ⟨rfl, rfl⟩)
        go_ret
        exact ⟨by rw [HE.out]; rfl, rfl⟩
      · have hsz : ¬ (n : Int) < 10 := by omega
        have HDK : Hid (∀ W, Calls Tryz.prog 35 #[.int .i64 (k : Int)] W fun e w' => e = .returned (.string ⟨(Lib.decDigits k).toArray⟩) ∧ w' = W) := fun W => decP_any k (by omega) W
        have HE : Hid ((⟨(Lib.decDigits k).toArray⟩ : ByteArray) ++ ⟨(Lib.decDigits l).toArray⟩ = ⟨(Lib.decDigits (n + 1)).toArray⟩) := bytes_list (by
          rw [bytes_more, dec_more (show ¬ n + 1 < 10 by omega), show (n + 1) / 10 = k by omega, show (n + 1) % 10 = l by omega, Lib.decDigits_one h9])
        have s1 : (⟨(Lib.decDigits k).toArray⟩ : ByteArray).size + (⟨(Lib.decDigits l).toArray⟩ : ByteArray).size ≤ 100 := by
          rw [← ByteArray.size_append, HE.out]
          show (Lib.decDigits (n + 1)).toArray.size ≤ 100
          have := dec_20 (n := n + 1) (by omega)
          simp only [List.size_toArray]
          omega
        generalize (⟨(Lib.decDigits k).toArray⟩ : ByteArray) = tk at *
        generalize (⟨(Lib.decDigits l).toArray⟩ : ByteArray) = tl at *
        clear hd hk hl
        go_enter Tryz.func60, Tryz.ntmps60
        go_wp2_with (first
          | (go_at_call_of 35 (Value.int .i64 (k : Int)); refine (HDK.out _).mono ?_; rintro e w1 ⟨rfl, rfl⟩)
          | (go_at_call_of 35 (Value.int .i64 (l : Int)); refine (HDL.out _).mono ?_; rintro e w1 ⟨rfl, rfl⟩))
        go_ret
        exact ⟨by rw [HE.out]; rfl, rfl⟩
    · have h9z : ¬ (l : Int) < 10 := by omega
      have hkn : k < n := by omega
      have HBK : Hid (∀ W, Calls Tryz.prog 60 #[.int .i64 (k : Int)] W fun e w' => e = .returned (.string ⟨(Lib.decDigits (k + 1)).toArray⟩) ∧ w' = W) := by
        match b, hb with
        | 0, hb => exact absurd hb (by omega)
        | b + 1, hb => exact fun W => bigP_any b k (by omega) (by omega) W
      have HE : Hid ((⟨(Lib.decDigits (k + 1)).toArray⟩ : ByteArray) ++ ⟨#[48]⟩ = ⟨(Lib.decDigits (n + 1)).toArray⟩) := bytes_list (by
        rw [bytes_more, dec_more (show ¬ n + 1 < 10 by omega), show (n + 1) / 10 = k + 1 by omega, show (n + 1) % 10 = 0 by omega]; rfl)
      have s1 : (⟨(Lib.decDigits (k + 1)).toArray⟩ : ByteArray).size ≤ 100 := by
        have := dec_20 (n := k + 1) (by omega)
        show (Lib.decDigits (k + 1)).toArray.size ≤ 100
        simp only [List.size_toArray]
        omega
      generalize (⟨(Lib.decDigits (k + 1)).toArray⟩ : ByteArray) = tk at *
      clear hd hk hl
      go_enter Tryz.func60, Tryz.ntmps60
      go_wp2_with (go_at_call 60; refine (HBK.out _).mono ?_; rintro e w1 ⟨rfl, rfl⟩)
      go_ret
      exact ⟨by rw [HE.out]; rfl, rfl⟩
theorem dec_any (v : Int) (hv : I64 v) (w : World) : Calls Tryz.prog 35 #[.int .i64 v] w fun e w' => e = .returned (.string ⟨(Lib.itoa v).toArray⟩) ∧ w' = w := by
  unfold I64 at hv
  by_cases h0 : v < 0
  · obtain ⟨n, hn⟩ : ∃ n : Nat, -(v + 1) = (n : Int) := ⟨(-(v + 1)).toNat, by omega⟩
    have HB : Hid (∀ W, Calls Tryz.prog 60 #[.int .i64 (n : Int)] W fun e w' => e = .returned (.string ⟨(Lib.decDigits (n + 1)).toArray⟩) ∧ w' = W) := fun W => bigP_any n n (Nat.le_refl _) (by omega) W
    have HE : Hid ((⟨#[45]⟩ : ByteArray) ++ ⟨(Lib.decDigits (n + 1)).toArray⟩ = ⟨(Lib.itoa v).toArray⟩) := bytes_list (by
      rw [bytes_more]
      unfold Lib.itoa
      rw [if_pos h0, show v.natAbs = n + 1 by omega]; rfl)
    have s1 : (⟨(Lib.decDigits (n + 1)).toArray⟩ : ByteArray).size ≤ 100 := by
      have := dec_20 (n := n + 1) (by omega)
      show (Lib.decDigits (n + 1)).toArray.size ≤ 100
      simp only [List.size_toArray]
      omega
    generalize (⟨(Lib.decDigits (n + 1)).toArray⟩ : ByteArray) = tk at *
    have w1 : IntKind.i64.wrap (v + 1) = v + 1 := by rw [IntKind.wrap_i64]; omega
    have w2 : IntKind.i64.wrap (-(v + 1)) = (n : Int) := by rw [IntKind.wrap_i64]; omega
    have w3 : IntKind.i64.wrap (n : Int) = (n : Int) := by rw [IntKind.wrap_i64]; omega
    go_enter Tryz.func35, Tryz.ntmps35
    go_wp2_with (go_at_call 60; refine (HB.out _).mono ?_; rintro e w1 ⟨rfl, rfl⟩)
    go_ret
    exact ⟨by rw [HE.out]; rfl, rfl⟩
  · obtain ⟨n, rfl⟩ : ∃ n : Nat, v = (n : Int) := ⟨v.toNat, by omega⟩
    have := decP_any n (by omega) w
    unfold Lib.itoa
    rw [if_neg h0, Int.toNat_natCast]
    exact this
end Go.Proofs.YtkfhlgajeejgeaaGreatDoor

/- What Get answers, at any bytes and any place. -/
import Derived.Test.YtfbekeebllcdbaaVnPut
import Derived.OwnWalk
namespace Go.Proofs.Ytfbekeebllcdbaa
open Go.ChangeShapes Go.WideShapes Go.ChangeAt Go.RowKit
set_option linter.unusedVariables false
set_option maxRecDepth 20000

def getV (r : Nat × Nat × Nat) : Value := .tuple #[.int .u64 (r.1 : Int), .int .i64 (r.2.1 : Int), .int .i64 (r.2.2 : Int)]

theorem getR_out {ns : List Nat} {at' : Int} (h : at' < 0 ∨ (ns.length : Int) < at') : getR ns at' = (0, 0, 1) := by rw [getR, if_pos h]
theorem getR_in {ns : List Nat} {p : Nat} (h : p ≤ ns.length) : getR ns (p : Int) = getF (ns.drop p) 0 0 p := by
  rw [getR, if_neg (by omega), Int.toNat_natCast]

theorem and_not (c : Nat) (h : c < 256) : bits .andNot .u8 (c : Int) 128 = ((c % 128 : Nat) : Int) := by
  rw [show (128 : Int) = ((128 : Nat) : Int) from rfl, u8_andNot_nat _ _ h (by decide), show 255 - 128 = 127 from rfl, nat_mask7]

theorem or_add (v d k : Nat) (hv : v < 128 ^ k) (hd : d < 128) (hk : k ≤ 8 ∨ (k = 9 ∧ d ≤ 1)) : d * 128 ^ k < 18446744073709551616 ∧ v < 18446744073709551616 ∧ v + d * 128 ^ k < 128 ^ (k + 1) ∧ bits .or .u64 (v : Int) ((d * 128 ^ k : Nat) : Int) = ((v + d * 128 ^ k : Nat) : Int) := by
  have h9 : (128 : Nat) ^ 9 = 9223372036854775808 := by decide
  have hp : 128 ^ k ≤ 128 ^ 9 := Nat.pow_le_pow_right (by decide) (by omega)
  have h1 : d * 128 ^ k < 18446744073709551616 := by
    rcases hk with h | ⟨rfl, h⟩
    · have hp8 : 128 ^ k ≤ 128 ^ 8 := Nat.pow_le_pow_right (by decide) (by omega)
      have := Nat.mul_le_mul (show d ≤ 127 by omega) hp8
      have h8 : (127 : Nat) * 128 ^ 8 = 9151314442816847872 := by decide
      omega
    · have := Nat.mul_le_mul_right (128 ^ 9) h
      omega
  have h2 : v < 18446744073709551616 := by omega
  refine ⟨h1, h2, ?_, ?_⟩
  · rw [Nat.pow_succ]
    have := Nat.mul_le_mul_right (128 ^ k) (show d + 1 ≤ 128 by omega)
    rw [Nat.add_mul] at this
    omega
  · rw [u64_or_nat _ _ h2 h1]
    have e : 128 ^ k = 2 ^ (7 * k) := by rw [Nat.pow_mul]
    have := nat_join (7 * k) (d * 128 ^ k) v (by rw [e]; exact Nat.mul_mod_left _ _) (by rw [← e]; exact hv)
    rw [Nat.or_comm, this]
    congr 1
    omega
theorem or_walk (v d k : Nat) (hv : v < 128 ^ k) (hd : d < 128) (hk : k ≤ 8) : bits .or .u64 (v : Int) (IntKind.u64.wrap ((d : Int) * 2 ^ (7 * k))) = ((v + d * 128 ^ k : Nat) : Int) := by
  obtain ⟨h1, h2, _, h4⟩ := or_add v d k hv hd (.inl hk)
  have e : (d : Int) * 2 ^ (7 * k) = ((d * 128 ^ k : Nat) : Int) := by
    rw [show (128 : Nat) ^ k = 2 ^ (7 * k) by rw [Nat.pow_mul]]
    push_cast
    rfl
  rw [e, IntKind.wrap_u64, Int.emod_eq_of_lt (by omega) (by omega), h4]
theorem or_walk9 (v d : Nat) (hv : v < 128 ^ 9) (hd : d ≤ 1) : bits .or .u64 (v : Int) ((d : Int) * 9223372036854775808) = ((v + d * 128 ^ 9 : Nat) : Int) := by
  obtain ⟨h1, h2, _, h4⟩ := or_add v d 9 hv (by omega) (.inr ⟨rfl, hd⟩)
  rw [← h4]
  congr 1

theorem ret_get {x y e : Int} {r : Nat × Nat × Nat} {a b c : Nat} (hr : r = (a, b, c)) (h1 : x = a) (h2 : y = b) (h3 : e = c) : Ending.returned (.tuple #[.int .u64 x, .int .i64 y, .int .i64 e]) = .returned (getV r) := by
  subst hr h1 h2 h3; rfl

set_option maxHeartbeats 1000000 in
theorem get_out (a : Option Addr) (len cap : Nat) (at' : Int) (w : World) (h : at' < 0 ∨ (len : Int) < at') :
    Calls Try.prog 36 #[.slice a len cap, .int .i64 at'] w fun e w' => e = .returned (.tuple #[.int .u64 0, .int .i64 0, .int .i64 1]) ∧ w' = w := by
  rcases h with h | h
  · go_enter Try.func36, Try.ntmps36
    go_wp2_with fail
    go_ret3
    exact ⟨rfl, rfl⟩
  · by_cases h0 : at' < 0
    all_goals
      go_enter Try.func36, Try.ntmps36
      go_wp2_with fail
      go_ret3
      exact ⟨rfl, rfl⟩

set_option maxHeartbeats 1000000 in
theorem get_in (g off : Nat) (ns : List Nat) (cap p : Nat) (w : World) (hc : ns.length ≤ cap) (hm : cap ≤ maxLen) (hp : p ≤ ns.length) (hpc : p < cap) (hl : ns.length ≤ 140737488355328)
    (hh : ∀ j, j < ns.length → w.cell? ⟨g, off + j, none⟩ = some (.int .u8 ((ns.getD j 0 : Nat) : Int))) (hb : ∀ n ∈ ns, n < 256) :
    Calls Try.prog 36 #[.slice (some ⟨g, off, none⟩) ns.length cap, .int .i64 (p : Int)] w fun e w' => e = .returned (getV (getF (ns.drop p) 0 0 p)) ∧ w' = w := by
  have HH : Hid (∀ j, j < ns.length → w.cell? ⟨g, off + j, none⟩ = some (.int .u8 ((ns.getD j 0 : Nat) : Int))) := hh
  have HB : Hid (∀ n ∈ ns, n < 256) := hb
  unfold maxLen at hm
  have hd0 : decide ((p : Int) < 0) = false := by simp
  have hpc2 : ¬ p = cap := by omega
  clear hh hb
  go_enter Try.func36, Try.ntmps36
  go_wp2_with fail
  go_loop [7, 22] (fun vv iv => ∃ k v : Nat, iv = .int .i64 (k : Int) ∧ vv = .int .u64 (v : Int) ∧ k ≤ 9 ∧ p + k ≤ ns.length ∧ v < 128 ^ k ∧ Hid (getF (ns.drop p) 0 0 p = getF (ns.drop (p + k)) k v p))
    (fun _ iv => ns.length - p - (intOf iv).toNat)
  case atStart => exact ⟨0, 0, rfl, rfl, by omega, by omega, by decide, rfl⟩
  case round =>
    obtain ⟨k, v, rfl, rfl, hk, hpk, hv, HG⟩ := hrel
    by_cases hlt : p + k < ns.length
    · have hcell := HH.out (p + k) hlt
      have hc256 : ns.getD (p + k) 0 < 256 := HB.out _ (by rw [List.getD_eq_getElem?_getD, List.getElem?_eq_getElem hlt, Option.getD_some]; exact List.getElem_mem hlt)
      have HD : Hid (ns.drop (p + k) = ns.getD (p + k) 0 :: ns.drop (p + k + 1)) := by show _ = _; rw [List.drop_eq_getElem_cons hlt, List.getD_eq_getElem?_getD, List.getElem?_eq_getElem hlt, Option.getD_some]
      have HG' : Hid (getF (ns.drop p) 0 0 p = getF (ns.getD (p + k) 0 :: ns.drop (p + k + 1)) k v p) := by show _ = _; rw [HG.out, HD.out]
      clear HD HG
      generalize ns.getD (p + k) 0 = c at *
      have han := and_not c hc256
      have hdv : c % 128 < 128 := by omega
      rw [← Nat.add_assoc] at hcell
      by_cases h9 : k = 9
      · subst h9
        by_cases hc1 : 1 < c
        · have HX : Hid (getF (ns.drop p) 0 0 p = (0, 0, 3)) := by show _ = _; rw [HG'.out]; exact getF_ten _ _ _ rfl hc1
          clear HG' han
          go_wp2_with fail
          go_ret3
          exact ⟨ret_get HX.out rfl rfl rfl, rfl⟩
        · obtain ⟨d, hd⟩ : ∃ d, c % 128 = d := ⟨_, rfl⟩
          have hor := or_walk9 v d hv (by omega)
          have hd1 : d ≤ 1 := by omega
          by_cases hc0 : c = 0
          · have HX : Hid (getF (ns.drop p) 0 0 p = (0, 0, 3)) := by show _ = _; rw [HG'.out]; exact getF_zero _ _ _ (by omega) hc0 (by omega)
            clear HG'
            rw [hd] at han
            clear hd
            go_wp2_with fail
            go_ret3
            exact ⟨ret_get HX.out rfl rfl rfl, rfl⟩
          · have HX : Hid (getF (ns.drop p) 0 0 p = (v + d * 128 ^ 9, p + 9 + 1, 0)) := by show _ = _; rw [HG'.out, ← hd, Nat.mod_eq_of_lt (by omega)]; exact getF_end _ _ _ (by omega) (by omega) (by omega)
            clear HG'
            rw [hd] at han
            clear hd
            generalize v + d * 128 ^ 9 = s at *
            go_wp2_with fail
            go_ret3
            exact ⟨ret_get HX.out rfl (by omega) rfl, rfl⟩
      · have hk8 : k ≤ 8 := by omega
        obtain ⟨d, hd⟩ : ∃ d, c % 128 = d := ⟨_, rfl⟩
        have hd128 : d < 128 := by omega
        have hor := or_walk v d k hv (by omega) hk8
        have hs := (or_add v d k hv (by omega) (.inl hk8)).2.2.1
        have h9i : ((k : Int) == 9) = false := by simp; omega
        by_cases hc128 : 128 ≤ c
        · have HX : Hid (getF (ns.drop p) 0 0 p = getF (ns.drop (p + (k + 1))) (k + 1) (v + d * 128 ^ k) p) := by show _ = _; rw [HG'.out, ← hd, ← Nat.add_assoc]; exact getF_on _ _ _ (by omega) hc128
          clear HG'
          rw [hd] at han
          clear hd
          generalize v + d * 128 ^ k = s at *
          have HS : Hid (s < 128 ^ (k + 1)) := hs
          clear hs
          go_wp2_with fail
          go_round
          case rel => exact ⟨k + 1, s, by go_num, rfl, by omega, by omega, HS.out, HX⟩
          case measure => simp [intOf]; omega
        · by_cases hc0 : c = 0
          · by_cases hk0 : k = 0
            · subst hk0
              obtain rfl : v = 0 := by simp at hv; omega
              subst hc0
              have HX : Hid (getF (ns.drop p) 0 0 p = (0, p + 0 + 1, 0)) := by show _ = _; rw [HG'.out]; exact getF_end _ _ _ (by omega) (by omega) (by omega)
              have hcell' : w.cell? ⟨g, off + p, none⟩ = some (.int .u8 0) := hcell
              clear HG' hd hs hor hcell han h9i hdv hv hc256
              go_wp2_with fail
              go_ret3
              exact ⟨ret_get HX.out rfl (by omega) rfl, rfl⟩
            · have HX : Hid (getF (ns.drop p) 0 0 p = (0, 0, 3)) := by show _ = _; rw [HG'.out]; exact getF_zero _ _ _ (by omega) hc0 (by omega)
              clear HG'
              rw [hd] at han
              clear hd hs
              generalize v + d * 128 ^ k = s at *
              have hz : decide (0 < (k : Int)) = true := by simp; omega
              go_wp2_with fail
              go_ret3
              exact ⟨ret_get HX.out rfl rfl rfl, rfl⟩
          · have HX : Hid (getF (ns.drop p) 0 0 p = (v + d * 128 ^ k, p + k + 1, 0)) := by show _ = _; rw [HG'.out, ← hd, Nat.mod_eq_of_lt (by omega)]; exact getF_end _ _ _ (by omega) (by omega) (by omega)
            clear HG'
            rw [hd] at han
            clear hd hs
            generalize v + d * 128 ^ k = s at *
            go_wp2_with fail
            go_ret3
            exact ⟨ret_get HX.out rfl (by omega) rfl, rfl⟩
    · have HX : Hid (getF (ns.drop p) 0 0 p = (0, 0, 2)) := by
        show _ = _
        rw [HG.out, List.drop_of_length_le (by omega)]
        rfl
      clear HG
      go_wp2_with fail
      go_ret3
      exact ⟨ret_get HX.out rfl rfl rfl, rfl⟩

set_option maxHeartbeats 1000000 in
theorem get_full (a : Option Addr) (p : Nat) (w : World) (ha : a = none → p = 0) (hm : p ≤ maxLen) :
    Calls Try.prog 36 #[.slice a p p, .int .i64 (p : Int)] w fun e w' => e = .returned (getV (0, 0, 2)) ∧ w' = w := by
  unfold maxLen at hm
  have hd0 : decide ((p : Int) < 0) = false := by simp
  go_enter Try.func36, Try.ntmps36
  go_wp2_with fail
  go_loop [22] (fun iv => iv = .int .i64 0) (fun _ => 0)
  case atStart => rfl
  case round =>
    subst hrel
    go_wp2_with fail
    go_ret3
    exact ⟨rfl, rfl⟩
end Go.Proofs.Ytfbekeebllcdbaa

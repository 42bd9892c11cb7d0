/- What the reference's Zig, Zag, Put and Get answer. -/
import Derived.Test.YtfbekeebllcdbaaVnMade
namespace Go.Proofs.Ytfbekeebllcdbaa
open Go.ChangeShapes Go.WideShapes Go.ChangeAt Go.RowKit
set_option linter.unusedVariables false
set_option maxRecDepth 20000

set_option maxHeartbeats 400000 in
theorem rzig_any (n : Int) (w : World) (h1 : -9223372036854775808 ≤ n) (h2 : n ≤ 9223372036854775807) :
    Calls Try.prog 29 #[.int .i64 n] w fun e w' => e = .returned (.int .u64 (zigN n)) ∧ w' = w := by
  by_cases h : n < 0
  all_goals
    go_enter Try.func29, Try.ntmps29
    go_wp2
    go_ret
    refine ⟨ret_int ?_, rfl⟩
    unfold zigN
    first
      | (rw [if_pos ‹_›]; omega)
      | (rw [if_neg (by omega)]; try omega)
set_option maxHeartbeats 400000 in
theorem rzag_any (v : Int) (w : World) (h1 : 0 ≤ v) (h2 : v < 18446744073709551616) :
    Calls Try.prog 32 #[.int .u64 v] w fun e w' => e = .returned (.int .i64 (zagN v)) ∧ w' = w := by
  go_enter Try.func32, Try.ntmps32
  go_wp2
  · go_ret
    refine ⟨ret_int ?_, rfl⟩
    have hb' : v % 2 = 0 := by simpa using ‹(v % 2 == 0) = true›
    unfold zagN; rw [if_pos (by omega)]
  · go_ret
    refine ⟨ret_int ?_, rfl⟩
    have hb' : ¬ v % 2 = 0 := by simpa using ‹(v % 2 == 0) = false›
    unfold zagN; rw [if_neg (by omega)]

set_option maxHeartbeats 1000000 in
theorem rput_any (v : Nat) (w : World) (hv : v < 18446744073709551616) :
    Calls Try.prog 28 #[.int .u64 (v : Int)] w fun e w' => ∃ r, e = .returned r ∧
      w'.ownsRow w.heap.size 5 1 r (digs v).length (byteCells (digs v)) ∧ Below w.heap.size w w' := by
  obtain ⟨i0, hi, hz0, hz1, hz2⟩ := info_parts infoByte
  have hd := (digs_len64 v hv).2
  go_enter Try.func28, Try.ntmps28
  go_wp2_with fail
  go_loopw [0, 3] (fun vv out wr => ∃ (v' : Nat) (acc : List Nat), vv = .int .u64 (v' : Int) ∧ v' < 18446744073709551616 ∧ acc.length + (digs v').length ≤ 10 ∧ Hid (acc ++ digs v' = digs v) ∧ Hid (wr.ownsRow w.heap.size 5 1 out acc.length (byteCells acc)) ∧ Below w.heap.size w wr)
    (fun vv _ _ => (intOf vv).toNat)
  case atStart => exact ⟨v, [], rfl, hv, by simpa using hd, rfl, World.ownsRow_nil _ _ _ _, Below.refl _ _⟩
  case round =>
    obtain ⟨v', acc, rfl, hv', hacc, HD, HP, hbel⟩ := hrel
    have hws := hbel.size
    have hown := HP.out
    clear HP
    by_cases h : v' < 128
    · have HE : Hid (acc ++ [v'] = digs v) := by show _ = _; rw [← HD.out, digs_small h]
      have hlen : acc.length ≤ 9 := by rw [digs_small h] at hacc; simp at hacc; omega
      clear HD hacc
      go_wp2_with (first
        | (at_builtin; refine wpList_append_own _ rfl _ _ 22 rfl w.heap.size 5 i0 (.int .u8 0) 1 1 Try.underlying22 hi hz0 hz1 hz2 rfl (by decide) _ _ _ rfl (hown.alloc _) ⟨wr.heap.size, 0, none⟩ 1 1 [.int .u8 (v' : Int)] rfl rfl ?c1 ?c2 ?c3 ?c4 ?c5 ?_)
        | fail)
      case c1 =>
        intro j u hj
        match j, hj with
        | 0, hj => simp at hj; subst hj; simp [Addr.add]
      case c2 => intro u hu; simp at hu; subst hu; rfl
      case c3 => unfold maxLen; omega
      case c4 => omega
      case c5 => simp; omega
      intro r w2 hown' hgrow _
      have hb2 : Below w.heap.size w w2 := (hbel.alloc hws _).grown hgrow (by simp; omega) (fun k hk => (hown.lt k hk).1)
      have HO : Hid (w2.ownsRow w.heap.size 5 1 r (acc ++ [v']).length (byteCells (acc ++ [v']))) := own_step (ns := []) (acc := acc) hown' rfl rfl (Nat.le_refl _)
      clear hown hown' hgrow
      go_wp2_with fail
      go_ret
      exact ⟨_, rfl, by rw [← HE.out]; exact HO.out, hb2⟩
    · have HE : Hid (acc ++ [v' % 128 + 128] ++ digs (v' / 128) = digs v) := by show _ = _; rw [← HD.out, digs_big h]; simp
      have hlen : acc.length ≤ 9 := by have := List.length_pos_iff.2 (digs_ne v'); omega
      have hacc' : (acc ++ [v' % 128 + 128]).length + (digs (v' / 128)).length ≤ 10 := by rw [digs_big h] at hacc; simp at hacc ⊢; omega
      clear HD hacc
      obtain ⟨c, hc⟩ : ∃ c, v' % 128 + 128 = c := ⟨_, rfl⟩
      have hci : (v' : Int) % 128 + 128 = (c : Int) := by omega
      rw [hc] at HE hacc'
      clear hc
      go_wp2_with (first
        | (at_builtin; refine wpList_append_own _ rfl _ _ 22 rfl w.heap.size 5 i0 (.int .u8 0) 1 1 Try.underlying22 hi hz0 hz1 hz2 rfl (by decide) _ _ _ rfl (hown.alloc _) ⟨wr.heap.size, 0, none⟩ 1 1 [.int .u8 (c : Int)] rfl rfl ?c1 ?c2 ?c3 ?c4 ?c5 ?_)
        | fail)
      case c1 =>
        intro j u hj
        match j, hj with
        | 0, hj => simp at hj; subst hj; simp [Addr.add]
      case c2 => intro u hu; simp at hu; subst hu; rfl
      case c3 => unfold maxLen; omega
      case c4 => omega
      case c5 => simp; omega
      intro r w2 hown' hgrow _
      have hb2 : Below w.heap.size w w2 := (hbel.alloc hws _).grown hgrow (by simp; omega) (fun k hk => (hown.lt k hk).1)
      have HO : Hid (w2.ownsRow w.heap.size 5 1 r (acc ++ [c]).length (byteCells (acc ++ [c]))) := own_step (ns := []) (acc := acc) hown' rfl rfl (Nat.le_refl _)
      clear hown hown' hgrow hci
      go_wp2_with fail
      go_roundw
      case rel => exact ⟨v' / 128, acc ++ [c], by go_num, by omega, hacc', HE, HO, hb2⟩
      case measure => simp [intOf]; omega

set_option maxHeartbeats 1000000 in
theorem rget_out (a : Option Addr) (len cap : Nat) (at' : Int) (w : World) (h : at' < 0 ∨ (len : Int) < at') :
    Calls Try.prog 31 #[.slice a len cap, .int .i64 at'] w fun e w' => e = .returned (.tuple #[.int .u64 0, .int .i64 0, .int .i64 1]) ∧ w' = w := by
  rcases h with h | h
  · go_enter Try.func31, Try.ntmps31
    go_wp2_with fail
    go_ret3
    exact ⟨rfl, rfl⟩
  · by_cases h0 : at' < 0
    all_goals
      go_enter Try.func31, Try.ntmps31
      go_wp2_with fail
      go_ret3
      exact ⟨rfl, rfl⟩
theorem add_walk (v d k : Nat) (hv : v < 128 ^ k) (hd : d < 128) (hk : k ≤ 8 ∨ (k = 9 ∧ d ≤ 1)) : IntKind.u64.wrap ((d : Int) * 2 ^ (7 * k)) = ((d * 128 ^ k : Nat) : Int) ∧ v + d * 128 ^ k < 18446744073709551616 := by
  obtain ⟨h1, h2, h3, h4⟩ := or_add v d k hv hd hk
  have e : (d : Int) * 2 ^ (7 * k) = ((d * 128 ^ k : Nat) : Int) := by
    rw [show (128 : Nat) ^ k = 2 ^ (7 * k) by rw [Nat.pow_mul]]
    push_cast
    rfl
  refine ⟨by rw [e, IntKind.wrap_u64, Int.emod_eq_of_lt (by omega) (by omega)], ?_⟩
  rcases hk with h | ⟨rfl, h⟩
  · have := Nat.pow_le_pow_right (n := 128) (by decide) (show k + 1 ≤ 9 by omega)
    have h9 : (128 : Nat) ^ 9 = 9223372036854775808 := by decide
    omega
  · have h9 : (128 : Nat) ^ 9 = 9223372036854775808 := by decide
    rw [h9] at hv ⊢
    omega

set_option maxHeartbeats 1000000 in
theorem rget_in (g off : Nat) (ns : List Nat) (cap p : Nat) (w : World) (hc : ns.length ≤ cap) (hm : cap ≤ maxLen) (hp : p ≤ ns.length) (hl : ns.length ≤ 140737488355328)
    (hh : ∀ j, j < ns.length → w.cell? ⟨g, off + j, none⟩ = some (.int .u8 ((ns.getD j 0 : Nat) : Int))) (hb : ∀ n ∈ ns, n < 256) :
    Calls Try.prog 31 #[.slice (some ⟨g, off, none⟩) ns.length cap, .int .i64 (p : Int)] w fun e w' => e = .returned (getV (getF (ns.drop p) 0 0 p)) ∧ w' = w := by
  have HH : Hid (∀ j, j < ns.length → w.cell? ⟨g, off + j, none⟩ = some (.int .u8 ((ns.getD j 0 : Nat) : Int))) := hh
  have HB : Hid (∀ n ∈ ns, n < 256) := hb
  unfold maxLen at hm
  have hd0 : decide ((p : Int) < 0) = false := by simp
  clear hh hb
  go_enter Try.func31, Try.ntmps31
  go_wp2_with fail
  go_loop [7, 8] (fun vv iv => ∃ k v : Nat, iv = .int .i64 (k : Int) ∧ vv = .int .u64 (v : Int) ∧ k ≤ 9 ∧ p + k ≤ ns.length ∧ v < 128 ^ k ∧ Hid (getF (ns.drop p) 0 0 p = getF (ns.drop (p + k)) k v p))
    (fun _ iv => ns.length - p - (intOf iv).toNat)
  case atStart => exact ⟨0, 0, rfl, rfl, by omega, by omega, by decide, rfl⟩
  case round =>
    obtain ⟨k, v, rfl, rfl, hk, hpk, hv, HG⟩ := hrel
    by_cases hlt : p + k < ns.length
    · have hcell := HH.out (p + k) hlt
      have hc256 : ns.getD (p + k) 0 < 256 := HB.out _ (by rw [List.getD_eq_getElem?_getD, List.getElem?_eq_getElem hlt, Option.getD_some]; exact List.getElem_mem hlt)
      have HD : Hid (ns.drop (p + k) = ns.getD (p + k) 0 :: ns.drop (p + k + 1)) := by show _ = _; rw [List.drop_eq_getElem_cons hlt, List.getD_eq_getElem?_getD, List.getElem?_eq_getElem hlt, Option.getD_some]
      have HG' : Hid (getF (ns.drop p) 0 0 p = getF (ns.getD (p + k) 0 :: ns.drop (p + k + 1)) k v p) := by show _ = _; rw [HG.out, HD.out]
      clear HD HG
      generalize ns.getD (p + k) 0 = c at *
      by_cases h9 : k = 9 ∧ 1 < c
      · have HX : Hid (getF (ns.drop p) 0 0 p = (0, 0, 3)) := by show _ = _; rw [HG'.out]; exact getF_ten _ _ _ h9.1 h9.2
        obtain ⟨rfl, hc1⟩ := h9
        clear HG'
        go_wp2_with fail
        go_ret3
        exact ⟨ret_get HX.out rfl rfl rfl, rfl⟩
      · by_cases hk9 : k = 9
        · subst hk9
          have h9p : (128 : Nat) ^ 9 = 9223372036854775808 := by decide
          rw [h9p] at hv
          obtain rfl | rfl : c = 0 ∨ c = 1 := by omega
          · have HX : Hid (getF (ns.drop p) 0 0 p = (0, 0, 3)) := by show _ = _; rw [HG'.out]; exact getF_zero _ _ _ (by omega) rfl (by omega)
            clear HG' h9p
            go_wp2_with fail
            go_ret3
            exact ⟨ret_get HX.out rfl rfl rfl, rfl⟩
          · have HX : Hid (getF (ns.drop p) 0 0 p = (v + 1 * 9223372036854775808, p + 9 + 1, 0)) := by show _ = _; rw [HG'.out, ← h9p]; exact getF_end _ _ _ (by omega) (by omega) (by omega)
            clear HG' h9p
            go_wp2_with fail
            go_ret3
            exact ⟨ret_get HX.out (by omega) (by omega) rfl, rfl⟩
        · have hk8 : k ≤ 8 := by omega
          obtain ⟨d, hd⟩ : ∃ d, c % 128 = d := ⟨_, rfl⟩
          have hd128 : d < 128 := by omega
          obtain ⟨hsh, hsum⟩ := add_walk v d k hv hd128 (.inl hk8)
          have hs := (or_add v d k hv hd128 (.inl hk8)).2.2.1
          have h9i : ((k : Int) == 9) = false := by simp; omega
          have hrem : (c : Int) % 128 = (d : Int) := by omega
          by_cases hc128 : 128 ≤ c
          · have HX : Hid (getF (ns.drop p) 0 0 p = getF (ns.drop (p + (k + 1))) (k + 1) (v + d * 128 ^ k) p) := by show _ = _; rw [HG'.out, ← hd, ← Nat.add_assoc]; exact getF_on _ _ _ (by omega) hc128
            clear HG' hd
            generalize d * 128 ^ k = t at *
            have HS : Hid (v + t < 128 ^ (k + 1)) := hs
            clear hs
            go_wp2_with fail
            go_round
            case rel => exact ⟨k + 1, v + t, by go_num, by go_num, by omega, by omega, HS.out, HX⟩
            case measure => simp [intOf]; omega
          · by_cases hz : c = 0 ∧ 0 < k
            · have HX : Hid (getF (ns.drop p) 0 0 p = (0, 0, 3)) := by show _ = _; rw [HG'.out]; exact getF_zero _ _ _ (by omega) hz.1 hz.2
              obtain ⟨rfl, hk0⟩ := hz
              obtain rfl : d = 0 := by omega
              clear HG' hd hs hrem
              generalize 0 * 128 ^ k = t at *
              go_wp2_with fail
              go_ret3
              exact ⟨ret_get HX.out rfl rfl rfl, rfl⟩
            · have HX : Hid (getF (ns.drop p) 0 0 p = (v + d * 128 ^ k, p + k + 1, 0)) := by show _ = _; rw [HG'.out, ← hd, Nat.mod_eq_of_lt (by omega)]; exact getF_end _ _ _ (by omega) (by omega) hz
              by_cases hc0 : c = 0
              · subst hc0
                obtain rfl : k = 0 := by omega
                obtain rfl : d = 0 := by omega
                obtain rfl : v = 0 := by simp at hv; omega
                have hcell' : w.cell? ⟨g, off + p, none⟩ = some (.int .u8 0) := hcell
                clear HG' hd hs hrem hsh hsum hcell h9i hv hc256
                go_wp2_with fail
                go_ret3
                exact ⟨ret_get HX.out rfl (by omega) rfl, rfl⟩
              · clear HG' hd hs hz
                generalize d * 128 ^ k = t at *
                go_wp2_with fail
                go_ret3
                exact ⟨ret_get HX.out (by omega) (by omega) rfl, rfl⟩
    · have HX : Hid (getF (ns.drop p) 0 0 p = (0, 0, 2)) := by
        show _ = _
        rw [HG.out, List.drop_of_length_le (by omega)]
        rfl
      clear HG
      go_wp2_with fail
      go_ret3
      exact ⟨ret_get HX.out rfl rfl rfl, rfl⟩

set_option maxHeartbeats 1000000 in
theorem rget_zero (a : Option Addr) (cap : Nat) (w : World) :
    Calls Try.prog 31 #[.slice a 0 cap, .int .i64 0] w fun e w' => e = .returned (getV (0, 0, 2)) ∧ w' = w := by
  go_enter Try.func31, Try.ntmps31
  go_wp2_with fail
  go_loop [8] (fun iv => iv = .int .i64 0) (fun _ => 0)
  case atStart => rfl
  case round =>
    subst hrel
    go_wp2_with fail
    go_ret3
    exact ⟨rfl, rfl⟩

theorem rget_any (a : Option Addr) (ns : List Nat) (cap : Nat) (at' : Int) (w : World) (ha : ns = [] ∨ ∃ g off, a = some ⟨g, off, none⟩) (hc : ns.length ≤ cap) (hm : cap ≤ maxLen) (hl : ns.length ≤ 140737488355328) (hh : Holds w a ns) (hb : ∀ n ∈ ns, n < 256) :
    Calls Try.prog 31 #[.slice a ns.length cap, .int .i64 at'] w fun e w' => e = .returned (getV (getR ns at')) ∧ w' = w := by
  by_cases ho : at' < 0 ∨ (ns.length : Int) < at'
  · rw [getR_out ho]; exact rget_out a ns.length cap at' w ho
  · obtain ⟨p, rfl⟩ := Int.eq_ofNat_of_zero_le (a := at') (by omega)
    rw [getR_in (by omega)]
    rcases ha with rfl | ⟨g, off, rfl⟩
    · obtain rfl : p = 0 := by simp at ho; omega
      exact rget_zero a cap w
    · exact rget_in g off ns cap p w hc hm (by omega) hl (fun j hj => hh.at j hj) hb
end Go.Proofs.Ytfbekeebllcdbaa

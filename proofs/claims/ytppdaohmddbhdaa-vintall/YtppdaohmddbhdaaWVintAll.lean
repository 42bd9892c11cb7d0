/- VintAll answers true at every input. -/
import Derived.Test.YtppdaohmddbhdaaVnRef
import Derived.Test.YtppdaohmddbhdaaRg
namespace Go.Proofs.Ytppdaohmddbhdaa
open Go.ChangeShapes Go.WideShapes Go.ChangeAt Go.RowKit
set_option linter.unusedVariables false
set_option linter.unusedSimpArgs false
set_option maxRecDepth 20000

set_option maxHeartbeats 4000000 in
theorem all_walk (a : Option Addr) (ns : List Nat) (cap v : Nat) (at' n : Int) (w : World) (hv : v < 18446744073709551616) (hn1 : -9223372036854775808 ≤ n) (hn2 : n ≤ 9223372036854775807) (ha1 : -9223372036854775808 ≤ at') (ha2 : at' ≤ 9223372036854775807)
    (hh : Holds w a ns) (hb : ∀ n ∈ ns, n < 256) (hc : ns.length ≤ cap) (hm : cap ≤ 140737488351232) (ha : a = none → ns = [] ∧ cap = 0) (hadr : ns = [] ∨ ∃ g off, a = some ⟨g, off, none⟩) :
    Calls Try.prog 3 #[.slice a ns.length cap, .int .u64 (v : Int), .int .i64 at', .int .i64 n] w fun e w' => e = .returned (.bool true) ∧ Below w.heap.size w w' := by
  have HH : Hid (Holds w a ns) := hh
  have HB : Hid (∀ n ∈ ns, n < 256) := hb
  have HA : Hid (a = none → ns = [] ∧ cap = 0) := ha
  have HADR : Hid (ns = [] ∨ ∃ g off, a = some ⟨g, off, none⟩) := hadr
  have hd := digs_len64 v hv
  clear hh hb ha hadr
  go_enter Try.func3, Try.ntmps3
  go_wp2_with (first
    | (at_builtin; refine wpList_join rfl _ _ rfl w.heap.size (.slice none 0 0) 0 [] rfl (World.ownsRow_nil _ _ _ _) a ns _ _ rfl rfl HA.out HH.out ?c1 ?c2 ?_)
    | fail)
  case c1 => simp; omega
  case c2 => exact Nat.le_refl _
  intro r1 w1 ho1 hg1
  have hb1 : Below w.heap.size w w1 := (Below.refl _ _).grown hg1 (Nat.le_refl _) (fun k hk => by cases hk)
  have hws1 := hb1.size
  clear hg1
  have HO1 : Hid (w1.ownsRow w.heap.size 5 1 r1 ns.length (byteCells ns)) := by show World.ownsRow _ _ _ _ _ _ _; simpa using ho1
  clear ho1
  go_wp2_with (first
    | (at_builtin; refine wpList_join rfl _ _ rfl w.heap.size r1 _ ns rfl (HO1.out.alloc _) (some ⟨w1.heap.size, 0, none⟩) [99] _ _ rfl rfl (fun h => by cases h) ?c1 ?c2 ?c3 ?_)
    | fail)
  case c1 =>
    have := holds_made w1 [99]
    simpa [byteCells] using this
  case c2 => simp; omega
  case c3 => simp; omega
  intro r2 w2 ho2 hg2
  have hb2 : Below w.heap.size w w2 := (hb1.alloc hws1 _).grown hg2 (by simp; omega) (fun k hk => (HO1.out.lt k hk).1)
  have hws2 := hb2.size
  clear hg2 HO1
  obtain ⟨a2, cap2, rfl, _, h21 | ⟨g2, rfl, h22, h23⟩, h24, h25, h26⟩ := own_open ho2
  · exact absurd h21.2.1 (by simp)
  clear ho2
  have HH2 : Hid (Holds w2 (some ⟨g2, 0, none⟩) (ns ++ [99])) := h26
  have hl2 : (ns ++ [99]).length = ns.length + 1 := by simp
  rw [hl2] at h24 ⊢
  have h25' := h25
  unfold maxLen at h25'
  clear h26 hl2
  obtain ⟨N, hN⟩ : ∃ N, ns.length = N := ⟨_, rfl⟩
  have HN : Hid (ns.length = N) := hN
  rw [hN] at h24 hc ⊢
  clear hN
  have i2 : (N : Int) ≤ (cap2 : Int) := by omega
  have i3 : N ≤ cap2 := by omega
  go_wp2_with fail
  have hS : Below w2.heap.size w2 w2.drew := (Below.refl _ _).drew
  have HCB : Hid (∀ W, Below w2.heap.size w2 W → (convert 22 9 (.slice a N cap)).run Try.prog W = .ok (.string (strN ns)) W) := fun W hW => by
    have := conv_holds W a ns cap (fun h => (HA.out h).1) ((HH.out.below hb2).below hW)
    rw [HN.out] at this
    exact this
  have HPUT : Hid (∀ W, Below w2.heap.size w2 W → Calls Try.prog 9 #[.slice (some ⟨g2, 0, none⟩) N cap2, .int .u64 (v : Int)] W fun e w' => ∃ r, e = .returned r ∧ w'.ownsRow W.heap.size 5 1 r (ns ++ digs v).length (byteCells (ns ++ digs v)) ∧ Below W.heap.size W w') := fun W hW => by
    have := put_any (some ⟨g2, 0, none⟩) ns cap2 v W (fun h => by cases h) (by rw [HN.out]; exact i3) h25 (by rw [HN.out]; omega) (HH2.out.below hW).take hv
    rw [HN.out] at this
    exact this
  obtain ⟨R, hR⟩ : ∃ R, getR ns at' = R := ⟨_, rfl⟩
  have HG : Hid (∀ W, Below w2.heap.size w2 W → Calls Try.prog 16 #[.slice (some ⟨g2, 0, none⟩) N cap2, .int .i64 at'] W fun e w' => e = .returned (getV R) ∧ w' = W) := fun W hW => by
    have := get_any (some ⟨g2, 0, none⟩) ns cap2 at' W (.inr ⟨_, _, rfl⟩) (by rw [HN.out]; exact i3) h25 (by rw [HN.out]; omega) (HH2.out.below hW).take HB.out
    rw [HN.out, hR] at this
    exact this
  have HRG : Hid (∀ W, Below w2.heap.size w2 W → Calls Try.prog 17 #[.slice a N cap, .int .i64 at'] W fun e w' => e = .returned (getV R) ∧ w' = W) := fun W hW => by
    have := rget_any a ns cap at' W HADR.out (by rw [HN.out]; exact hc) (by unfold maxLen; omega) (by rw [HN.out]; omega) ((HH.out.below hb2).below hW) HB.out
    rw [HN.out, hR] at this
    exact this
  have HC99 : Hid (∀ W, Below w2.heap.size w2 W → W.cell? ⟨g2, N, none⟩ = some (.int .u8 99)) := fun W hW => by
    have := (HH2.out.below hW).at N (by rw [List.length_append, HN.out]; simp)
    rw [Nat.zero_add] at this
    rw [this, show N = ns.length from HN.out.symm]
    simp
  clear hR
  obtain ⟨L, hL⟩ : ∃ L, (digs v).length = L := ⟨_, rfl⟩
  have HL : Hid ((digs v).length = L) := hL
  rw [hL] at hd
  clear hL
  refine wp_region_held_drew (S := fun w' => Below w2.heap.size w2 w') (by kernel_rfl) hS (fun hS => ?_)
  refine rg_take 0 23 (.slice (some ⟨g2, 0, none⟩) N cap2) _ rfl rfl (by kernel_rfl) (by kernel_rfl) (by kernel_rfl) (fun _ _ _ h => h) (by rfl) (fun w' hw' => ?_) hS (listed' := #[true, false, false, false, false, false, false, false, false, false, false, false, false, false, false, false, false, false, false, false, false, false, false, false, false, false, false, false, false, false, false, false, false]) (by kernel_rfl) rfl ?_
  · go_simp
  simp only [List.setIfInBounds_toArray, List.set_cons_zero, List.set_cons_succ]
  refine rg_take 1 24 (.int .u64 (v : Int)) _ rfl rfl (by kernel_rfl) (by kernel_rfl) (by kernel_rfl) (fun _ _ _ h => h) (by rfl) (fun w' hw' => ?_) hS (listed' := #[true, true, false, false, false, false, false, false, false, false, false, false, false, false, false, false, false, false, false, false, false, false, false, false, false, false, false, false, false, false, false, false, false]) (by kernel_rfl) rfl ?_
  · go_simp
  simp only [List.setIfInBounds_toArray, List.set_cons_zero, List.set_cons_succ]
  refine rg_take 4 27 (.slice a N cap) _ rfl rfl (by kernel_rfl) (by kernel_rfl) (by kernel_rfl) (fun _ _ _ h => h) (by rfl) (fun w' hw' => ?_) hS (listed' := #[true, true, false, false, true, false, false, false, false, false, false, false, false, false, false, false, false, false, false, false, false, false, false, false, false, false, false, false, false, false, false, false, false]) (by kernel_rfl) rfl ?_
  · go_simp
  simp only [List.setIfInBounds_toArray, List.set_cons_zero, List.set_cons_succ]
  refine rg_take 6 29 (.int .u64 (v : Int)) _ rfl rfl (by kernel_rfl) (by kernel_rfl) (by kernel_rfl) (fun _ _ _ h => h) (by rfl) (fun w' hw' => ?_) hS (listed' := #[true, true, false, false, true, false, true, false, false, false, false, false, false, false, false, false, false, false, false, false, false, false, false, false, false, false, false, false, false, false, false, false, false]) (by kernel_rfl) rfl ?_
  · go_simp
  simp only [List.setIfInBounds_toArray, List.set_cons_zero, List.set_cons_succ]
  refine rg_take 5 28 (.string (strN ns)) _ rfl rfl (by kernel_rfl) (by kernel_rfl) (by kernel_rfl) (fun _ _ _ h => h) (by rfl) (fun w' hw' => ?_) hS (listed' := #[true, true, false, false, true, true, true, false, false, false, false, false, false, false, false, false, false, false, false, false, false, false, false, false, false, false, false, false, false, false, false, false, false]) (by kernel_rfl) rfl ?_
  · have hcv := HCB.out w' hw'; go_simp
  simp only [List.setIfInBounds_toArray, List.set_cons_zero, List.set_cons_succ]
  refine rg_call 2 25 9 #[.slice (some ⟨g2, 0, none⟩) N cap2, .int .u64 (v : Int)] rfl rfl (by kernel_rfl) (by rfl) (listed' := #[true, true, true, false, true, true, true, false, false, false, false, false, false, false, false, false, false, false, false, false, false, false, false, false, false, false, false, false, false, false, false, false, false]) (by kernel_rfl) (fun w' => ?_) ?_
  · go_simp
  refine (HPUT.out _ hS).mono ?_
  rintro e w3 ⟨r3, rfl, ho3, hb3⟩
  have hS3 : Below w2.heap.size w2 w3 := hS.trans (hb3.mono hS.size)
  refine ⟨_, rfl, hS3, ?_⟩
  obtain ⟨a3, cap3, rfl, _, h31 | ⟨g3, rfl, h32, h33⟩, h34, h35, h36⟩ := own_open ho3
  · exact absurd h31.2.1 (by simp [digs_ne])
  obtain ⟨M, hM⟩ : ∃ M, (ns ++ digs v).length = M := ⟨_, rfl⟩
  have HC3 : Hid (∀ W, Below w3.heap.size w3 W → (convert 22 9 (.slice (some ⟨g3, 0, none⟩) M cap3)).run Try.prog W = .ok (.string (strN ns ++ strN (digs v))) W) := fun W hW => by
    have := conv_holds W (some ⟨g3, 0, none⟩) (ns ++ digs v) cap3 (fun h => by cases h) (h36.below hW)
    rw [hM, strN_append] at this
    exact this
  rw [hM] at h34 ⊢
  clear ho3 h36 hM hb3 HPUT hS
  refine rg_weaken (S' := fun w' => Below w3.heap.size w3 w') (fun w' hw => hS3.trans (hw.mono hS3.size)) _ _ _ _ ?_
  have hS : Below w3.heap.size w3 w3 := Below.refl _ _
  simp only [List.setIfInBounds_toArray, List.set_cons_zero, List.set_cons_succ]
  refine rg_take 3 26 (.string (strN ns ++ strN (digs v))) _ rfl rfl (by kernel_rfl) (by kernel_rfl) (by kernel_rfl) (fun _ _ _ h => h) (by rfl) (fun w' hw' => ?_) hS (listed' := #[true, true, true, true, true, true, true, false, false, false, false, false, false, false, false, false, false, false, false, false, false, false, false, false, false, false, false, false, false, false, false, false, false]) (by kernel_rfl) rfl ?_
  · have hcv := HC3.out w' hw'; go_simp
  simp only [List.setIfInBounds_toArray, List.set_cons_zero, List.set_cons_succ]
  refine rg_call 7 30 10 #[.int .u64 (v : Int)] rfl rfl (by kernel_rfl) (by rfl) (listed' := #[true, true, true, true, true, true, true, true, false, false, false, false, false, false, false, false, false, false, false, false, false, false, false, false, false, false, false, false, false, false, false, false, false]) (by kernel_rfl) (fun w' => ?_) ?_
  · go_simp
  refine (rput_any v _ hv).mono ?_
  rintro e w4 ⟨r4, rfl, ho4, hb4⟩
  refine ⟨_, rfl, hb4, ?_⟩
  obtain ⟨a4, cap4, rfl, _, h41 | ⟨g4, rfl, h42, h43⟩, h44, h45, h46⟩ := own_open ho4
  · exact absurd h41.2.1 (digs_ne v)
  have HC4 : Hid (∀ W, Below w4.heap.size w4 W → (convert 22 9 (.slice (some ⟨g4, 0, none⟩) L cap4)).run Try.prog W = .ok (.string (strN (digs v))) W) := fun W hW => by
    have := conv_holds W (some ⟨g4, 0, none⟩) (digs v) cap4 (fun h => by cases h) (h46.below hW)
    rw [HL.out] at this
    exact this
  have hS4 : Below w2.heap.size w2 w4 := hS3.trans (hb4.mono hS3.size)
  rw [HL.out] at h44 ⊢
  clear ho4 h46 hS HC3
  refine rg_weaken (S' := fun w' => Below w4.heap.size w4 w') (fun w' hw => hb4.trans (hw.mono hb4.size)) _ _ _ _ ?_
  have hS : Below w4.heap.size w4 w4 := Below.refl _ _
  simp only [List.setIfInBounds_toArray, List.set_cons_zero, List.set_cons_succ]
  refine rg_take 8 31 (.string (strN (digs v))) _ rfl rfl (by kernel_rfl) (by kernel_rfl) (by kernel_rfl) (fun _ _ _ h => h) (by rfl) (fun w' hw' => ?_) hS (listed' := #[true, true, true, true, true, true, true, true, true, false, false, false, false, false, false, false, false, false, false, false, false, false, false, false, false, false, false, false, false, false, false, false, false]) (by kernel_rfl) rfl ?_
  · have hcv := HC4.out w' hw'; go_simp
  simp only [List.setIfInBounds_toArray, List.set_cons_zero, List.set_cons_succ]
  refine rg_take 9 32 (.string (strN ns ++ strN (digs v))) _ rfl rfl (by kernel_rfl) (by kernel_rfl) (by kernel_rfl) (fun _ _ _ h => h) (by rfl) (fun w' hw' => ?_) hS (listed' := #[true, true, true, true, true, true, true, true, true, true, false, false, false, false, false, false, false, false, false, false, false, false, false, false, false, false, false, false, false, false, false, false, false]) (by kernel_rfl) rfl ?_
  · go_simp; rw [strN_size, strN_size, HN.out, HL.out]; omega
  simp only [List.setIfInBounds_toArray, List.set_cons_zero, List.set_cons_succ]
  refine rg_take 10 33 (.bool false) _ rfl rfl (by kernel_rfl) (by kernel_rfl) (by kernel_rfl) (fun _ _ _ h => h) (by rfl) (fun w' hw' => ?_) hS (listed' := #[true, true, true, true, true, true, true, true, true, true, true, false, false, false, false, false, false, false, false, false, false, false, false, false, false, false, false, false, false, false, false, false, false]) (by kernel_rfl) rfl ?_
  · go_simp
  simp only [List.setIfInBounds_toArray, List.set_cons_zero, List.set_cons_succ]
  refine rg_take 11 34 (.bool false) _ rfl rfl (by kernel_rfl) (by kernel_rfl) (by kernel_rfl) (fun _ _ _ h => h) (by rfl) (fun w' hw' => ?_) hS (listed' := #[true, true, true, true, true, true, true, true, true, true, true, true, false, false, false, false, false, false, false, false, false, false, false, false, false, false, false, false, false, false, false, false, false]) (by kernel_rfl) rfl ?_
  · go_simp
  simp only [List.setIfInBounds_toArray, List.set_cons_zero, List.set_cons_succ]
  refine rg_take 12 35 (.int .u64 (v : Int)) _ rfl rfl (by kernel_rfl) (by kernel_rfl) (by kernel_rfl) (fun _ _ _ h => h) (by rfl) (fun w' hw' => ?_) hS (listed' := #[true, true, true, true, true, true, true, true, true, true, true, true, true, false, false, false, false, false, false, false, false, false, false, false, false, false, false, false, false, false, false, false, false]) (by kernel_rfl) rfl ?_
  · go_simp
  simp only [List.setIfInBounds_toArray, List.set_cons_zero, List.set_cons_succ]
  refine rg_take 14 37 (.int .u64 (v : Int)) _ rfl rfl (by kernel_rfl) (by kernel_rfl) (by kernel_rfl) (fun _ _ _ h => h) (by rfl) (fun w' hw' => ?_) hS (listed' := #[true, true, true, true, true, true, true, true, true, true, true, true, true, false, true, false, false, false, false, false, false, false, false, false, false, false, false, false, false, false, false, false, false]) (by kernel_rfl) rfl ?_
  · go_simp
  simp only [List.setIfInBounds_toArray, List.set_cons_zero, List.set_cons_succ]
  refine rg_call 13 36 11 #[.int .u64 (v : Int)] rfl rfl (by kernel_rfl) (by rfl) (listed' := #[true, true, true, true, true, true, true, true, true, true, true, true, true, true, true, false, false, false, false, false, false, false, false, false, false, false, false, false, false, false, false, false, false]) (by kernel_rfl) (fun w' => ?_) ?_
  · go_simp
  refine (len_any v _ hv).mono ?_
  rintro e w5 ⟨rfl, rfl⟩
  refine ⟨_, rfl, hS, ?_⟩
  rw [HL.out]
  simp only [List.setIfInBounds_toArray, List.set_cons_zero, List.set_cons_succ]
  refine rg_call 15 38 10 #[.int .u64 (v : Int)] rfl rfl (by kernel_rfl) (by rfl) (listed' := #[true, true, true, true, true, true, true, true, true, true, true, true, true, true, true, true, false, false, false, false, false, false, false, false, false, false, false, false, false, false, false, false, false]) (by kernel_rfl) (fun w' => ?_) ?_
  · go_simp
  refine (rput_any v _ hv).mono ?_
  rintro e w6 ⟨r6, rfl, ho6, hb6⟩
  refine ⟨_, rfl, hb6, ?_⟩
  obtain ⟨a6, cap6, rfl, _⟩ := own_open ho6
  rw [HL.out]
  have hS6 : Below w2.heap.size w2 w6 := hS4.trans (hb6.mono hS4.size)
  clear ho6
  simp only [List.setIfInBounds_toArray, List.set_cons_zero, List.set_cons_succ]
  refine rg_take 16 39 (.int .i64 (L : Int)) _ rfl rfl (by kernel_rfl) (by kernel_rfl) (by kernel_rfl) (fun _ _ _ h => h) (by rfl) (fun w' hw' => ?_) hb6 (listed' := #[true, true, true, true, true, true, true, true, true, true, true, true, true, true, true, true, true, false, false, false, false, false, false, false, false, false, false, false, false, false, false, false, false]) (by kernel_rfl) rfl ?_
  · go_simp
  simp only [List.setIfInBounds_toArray, List.set_cons_zero, List.set_cons_succ]
  refine rg_take 17 40 (.bool false) _ rfl rfl (by kernel_rfl) (by kernel_rfl) (by kernel_rfl) (fun _ _ _ h => h) (by rfl) (fun w' hw' => ?_) hb6 (listed' := #[true, true, true, true, true, true, true, true, true, true, true, true, true, true, true, true, true, true, false, false, false, false, false, false, false, false, false, false, false, false, false, false, false]) (by kernel_rfl) rfl ?_
  · go_simp
  simp only [List.setIfInBounds_toArray, List.set_cons_zero, List.set_cons_succ]
  refine rg_take 18 41 (.bool false) _ rfl rfl (by kernel_rfl) (by kernel_rfl) (by kernel_rfl) (fun _ _ _ h => h) (by rfl) (fun w' hw' => ?_) hb6 (listed' := #[true, true, true, true, true, true, true, true, true, true, true, true, true, true, true, true, true, true, true, false, false, false, false, false, false, false, false, false, false, false, false, false, false]) (by kernel_rfl) rfl ?_
  · go_simp
  simp only [List.setIfInBounds_toArray, List.set_cons_zero, List.set_cons_succ]
  refine rg_take 19 42 (.bool false) _ rfl rfl (by kernel_rfl) (by kernel_rfl) (by kernel_rfl) (fun _ _ _ h => h) (by rfl) (fun w' hw' => ?_) hb6 (listed' := #[true, true, true, true, true, true, true, true, true, true, true, true, true, true, true, true, true, true, true, true, false, false, false, false, false, false, false, false, false, false, false, false, false]) (by kernel_rfl) rfl ?_
  · go_simp
  simp only [List.setIfInBounds_toArray, List.set_cons_zero, List.set_cons_succ]
  refine rg_take 20 43 (.int .i64 n) _ rfl rfl (by kernel_rfl) (by kernel_rfl) (by kernel_rfl) (fun _ _ _ h => h) (by rfl) (fun w' hw' => ?_) hb6 (listed' := #[true, true, true, true, true, true, true, true, true, true, true, true, true, true, true, true, true, true, true, true, true, false, false, false, false, false, false, false, false, false, false, false, false]) (by kernel_rfl) rfl ?_
  · go_simp
  simp only [List.setIfInBounds_toArray, List.set_cons_zero, List.set_cons_succ]
  refine rg_take 22 45 (.int .i64 n) _ rfl rfl (by kernel_rfl) (by kernel_rfl) (by kernel_rfl) (fun _ _ _ h => h) (by rfl) (fun w' hw' => ?_) hb6 (listed' := #[true, true, true, true, true, true, true, true, true, true, true, true, true, true, true, true, true, true, true, true, true, false, true, false, false, false, false, false, false, false, false, false, false]) (by kernel_rfl) rfl ?_
  · go_simp
  simp only [List.setIfInBounds_toArray, List.set_cons_zero, List.set_cons_succ]
  refine rg_call 21 44 12 #[.int .i64 n] rfl rfl (by kernel_rfl) (by rfl) (listed' := #[true, true, true, true, true, true, true, true, true, true, true, true, true, true, true, true, true, true, true, true, true, true, true, false, false, false, false, false, false, false, false, false, false]) (by kernel_rfl) (fun w' => ?_) ?_
  · go_simp
  refine (zig_any n _ hn1 hn2).mono ?_
  rintro e w7 ⟨rfl, rfl⟩
  refine ⟨_, rfl, hb6, ?_⟩
  simp only [List.setIfInBounds_toArray, List.set_cons_zero, List.set_cons_succ]
  refine rg_call 23 46 13 #[.int .i64 n] rfl rfl (by kernel_rfl) (by rfl) (listed' := #[true, true, true, true, true, true, true, true, true, true, true, true, true, true, true, true, true, true, true, true, true, true, true, true, false, false, false, false, false, false, false, false, false]) (by kernel_rfl) (fun w' => ?_) ?_
  · go_simp
  refine (rzig_any n _ hn1 hn2).mono ?_
  rintro e w7 ⟨rfl, rfl⟩
  refine ⟨_, rfl, hb6, ?_⟩
  simp only [List.setIfInBounds_toArray, List.set_cons_zero, List.set_cons_succ]
  refine rg_take 24 47 (.bool false) _ rfl rfl (by kernel_rfl) (by kernel_rfl) (by kernel_rfl) (fun _ _ _ h => h) (by rfl) (fun w' hw' => ?_) hb6 (listed' := #[true, true, true, true, true, true, true, true, true, true, true, true, true, true, true, true, true, true, true, true, true, true, true, true, true, false, false, false, false, false, false, false, false]) (by kernel_rfl) rfl ?_
  · go_simp
  simp only [List.setIfInBounds_toArray, List.set_cons_zero, List.set_cons_succ]
  refine rg_take 25 48 (.bool false) _ rfl rfl (by kernel_rfl) (by kernel_rfl) (by kernel_rfl) (fun _ _ _ h => h) (by rfl) (fun w' hw' => ?_) hb6 (listed' := #[true, true, true, true, true, true, true, true, true, true, true, true, true, true, true, true, true, true, true, true, true, true, true, true, true, true, false, false, false, false, false, false, false]) (by kernel_rfl) rfl ?_
  · go_simp
  simp only [List.setIfInBounds_toArray, List.set_cons_zero, List.set_cons_succ]
  refine rg_take 26 49 (.bool false) _ rfl rfl (by kernel_rfl) (by kernel_rfl) (by kernel_rfl) (fun _ _ _ h => h) (by rfl) (fun w' hw' => ?_) hb6 (listed' := #[true, true, true, true, true, true, true, true, true, true, true, true, true, true, true, true, true, true, true, true, true, true, true, true, true, true, true, false, false, false, false, false, false]) (by kernel_rfl) rfl ?_
  · go_simp
  simp only [List.setIfInBounds_toArray, List.set_cons_zero, List.set_cons_succ]
  refine rg_take 27 50 (.int .u64 (v : Int)) _ rfl rfl (by kernel_rfl) (by kernel_rfl) (by kernel_rfl) (fun _ _ _ h => h) (by rfl) (fun w' hw' => ?_) hb6 (listed' := #[true, true, true, true, true, true, true, true, true, true, true, true, true, true, true, true, true, true, true, true, true, true, true, true, true, true, true, true, false, false, false, false, false]) (by kernel_rfl) rfl ?_
  · go_simp
  simp only [List.setIfInBounds_toArray, List.set_cons_zero, List.set_cons_succ]
  refine rg_take 29 52 (.int .u64 (v : Int)) _ rfl rfl (by kernel_rfl) (by kernel_rfl) (by kernel_rfl) (fun _ _ _ h => h) (by rfl) (fun w' hw' => ?_) hb6 (listed' := #[true, true, true, true, true, true, true, true, true, true, true, true, true, true, true, true, true, true, true, true, true, true, true, true, true, true, true, true, false, true, false, false, false]) (by kernel_rfl) rfl ?_
  · go_simp
  simp only [List.setIfInBounds_toArray, List.set_cons_zero, List.set_cons_succ]
  refine rg_call 28 51 14 #[.int .u64 (v : Int)] rfl rfl (by kernel_rfl) (by rfl) (listed' := #[true, true, true, true, true, true, true, true, true, true, true, true, true, true, true, true, true, true, true, true, true, true, true, true, true, true, true, true, true, true, false, false, false]) (by kernel_rfl) (fun w' => ?_) ?_
  · go_simp
  refine (zag_any (v : Int) _ (by omega) (by omega)).mono ?_
  rintro e w7 ⟨rfl, rfl⟩
  refine ⟨_, rfl, hb6, ?_⟩
  simp only [List.setIfInBounds_toArray, List.set_cons_zero, List.set_cons_succ]
  refine rg_call 30 53 15 #[.int .u64 (v : Int)] rfl rfl (by kernel_rfl) (by rfl) (listed' := #[true, true, true, true, true, true, true, true, true, true, true, true, true, true, true, true, true, true, true, true, true, true, true, true, true, true, true, true, true, true, true, false, false]) (by kernel_rfl) (fun w' => ?_) ?_
  · go_simp
  refine (rzag_any (v : Int) _ (by omega) (by omega)).mono ?_
  rintro e w7 ⟨rfl, rfl⟩
  refine ⟨_, rfl, hb6, ?_⟩
  simp only [List.setIfInBounds_toArray, List.set_cons_zero, List.set_cons_succ]
  refine rg_take 31 54 (.bool false) _ rfl rfl (by kernel_rfl) (by kernel_rfl) (by kernel_rfl) (fun _ _ _ h => h) (by rfl) (fun w' hw' => ?_) hb6 (listed' := #[true, true, true, true, true, true, true, true, true, true, true, true, true, true, true, true, true, true, true, true, true, true, true, true, true, true, true, true, true, true, true, true, false]) (by kernel_rfl) rfl ?_
  · go_simp
  simp only [List.setIfInBounds_toArray, List.set_cons_zero, List.set_cons_succ]
  refine rg_take 32 55 (.bool false) _ rfl rfl (by kernel_rfl) (by kernel_rfl) (by kernel_rfl) (fun _ _ _ h => h) (by rfl) (fun w' hw' => ?_) hb6 (listed' := #[true, true, true, true, true, true, true, true, true, true, true, true, true, true, true, true, true, true, true, true, true, true, true, true, true, true, true, true, true, true, true, true, true]) (by kernel_rfl) rfl ?_
  · go_simp
  simp only [List.setIfInBounds_toArray, List.set_cons_zero, List.set_cons_succ]
  refine wpAnyH_done (by kernel_rfl) ?_ _
  have hc99 := HC99.out _ hS6
  obtain ⟨rx, ry, rz⟩ := R
  have i4 : (N : Int) + 1 ≤ (cap2 : Int) := by omega
  have hbe : Below w.heap.size w _ := hb2.trans (hS6.mono hws2)
  clear HC99 HCB HC4
  go_wp2_with fail
  refine (HG.out _ hS6).mono ?_
  rintro e w8 ⟨rfl, rfl⟩
  simp only [getV]
  go_wp2_with fail
  refine (HRG.out _ hS6).mono ?_
  rintro e w8 ⟨rfl, rfl⟩
  simp only [getV]
  go_wp2_with fail
  refine (awake_any _).mono ?_
  rintro e w9 ⟨rfl, hb9⟩
  go_wp2_with fail
  go_ret
  exact ⟨rfl, hbe.trans (hb9.mono hbe.size)⟩

theorem vintAll_walk (a : Option Addr) (len cap : Nat) (zs : List Int) (v at' n : Int) (w : World) (h : IsRow .u8 w a len cap zs) (hb : cap * Try.prog.bytesOf 5 ≤ 140737488351232) (hv : (Lit.int .u64 v).wf = true) (ha : (Lit.int .i64 at').wf = true) (hn : (Lit.int .i64 n).wf = true) :
    Calls Try.prog 3 #[.slice a len cap, .int .u64 v, .int .i64 at', .int .i64 n] w fun e w' => e = .returned (.bool true) ∧ Below w.heap.size w w' := by
  obtain ⟨a1, a2⟩ := bounds_u64 hv
  obtain ⟨b1, b2⟩ := bounds_i64 hn
  obtain ⟨c1, c2⟩ := bounds_i64 ha
  obtain ⟨x, rfl⟩ := Int.eq_ofNat_of_zero_le a1
  have hadr : len = 0 ∨ ∃ g off, a = some ⟨g, off, none⟩ := by
    rcases h with ⟨_, h, _⟩ | ⟨y, rfl, hl, hm, hz, hc, hw⟩
    · exact .inl h
    · by_cases h0 : len = 0
      · exact .inl h0
      · obtain ⟨g, off, rfl, _⟩ := ints_at hc (by omega)
        exact .inr ⟨g, off, rfl⟩
  obtain ⟨ns, rfl, hh, hlt, hc, hm, ha'⟩ := row_holds h hb
  exact all_walk a ns cap x at' n w (by omega) b1 b2 c1 c2 hh hlt hc hm ha' (hadr.imp (fun h => List.eq_nil_of_length_eq_zero h) id)
end Go.Proofs.Ytppdaohmddbhdaa

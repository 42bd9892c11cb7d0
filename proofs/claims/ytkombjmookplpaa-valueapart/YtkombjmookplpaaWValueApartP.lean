/- ValueApart answers true at every tree. -/
import Derived.Test.YtkombjmookplpaaVoOf
import Derived.Test.YtkombjmookplpaaTvOpen
import Derived.Test.YtkombjmookplpaaTvRSame
import Derived.Test.YtkombjmookplpaaVbPack
import Derived.Test.YtkombjmookplpaaVrPack
import Derived.Test.YtkombjmookplpaaVpFirst
namespace Go.Proofs.Ytkombjmookplpaa
open Go.ChangeShapes Go.WideShapes Go.ChangeAt Go.RowKit
set_option linter.unusedVariables false
set_option linter.unusedSimpArgs false
set_option maxRecDepth 20000

theorem ents_one : ∀ (l : List (Int × List Tr)) (last : Int), entsB last l = true → ∀ e ∈ l, 1 ≤ e.2.length
  | [], _, _, e, he => by cases he
  | a :: l, last, h, e, he => by
    simp only [entsB, Bool.and_eq_true, decide_eq_true_eq] at h
    rcases List.mem_cons.1 he with rfl | he
    · exact h.1.1.1.2
    · exact ents_one l _ h.2 e he
theorem chk_first {n : Nat} {t : Tr} (h : chkN (n + 1) t = true) (hk : t.kind = 3) (hl : 0 < t.es.length) : ∃ e, t.es[0]? = some e ∧ 1 ≤ e.2.length := by
  simp only [chkN, okN, Bool.and_eq_true] at h
  have h1 := h.2.1
  simp only [lvB, hk] at h1
  simp at h1
  refine ⟨_, List.getElem?_eq_getElem hl, ?_⟩
  exact ents_one t.es 0 h1.1.2 _ (List.getElem_mem hl)
set_option maxHeartbeats 4000000 in
theorem valueApart_walk (v : Value) (n : Nat) (t : Tr) (w : World) (h : TrIn n w v t) :
    Calls Try.prog 7 #[v] w fun e w' => e = .returned (.bool true) ∧ Below w.heap.size w w' := by
  have HS : Hid (∀ W, Below w.heap.size w W → Calls Try.prog 9 #[v] W fun e w' => SmallP t v W e ∧ Below W.heap.size W w') := fun W hW => small_any n t v W (h.below hW)
  obtain ⟨m, ve, vr, -, rfl, -, -, -, -, ra, ea⟩ := h.open
  obtain ⟨pe, ce, rfl, -⟩ := ea.open
  obtain ⟨pr, cr, rfl, -⟩ := rest_holds ra
  clear ea ra h
  obtain ⟨Ke, hKe0⟩ : ∃ k, t.es.length = k := ⟨_, rfl⟩
  have HKE : Hid (t.es.length = Ke) := hKe0
  rw [hKe0] at HS ⊢
  clear hKe0
  generalize t.rest.length = Kr at *
  have al : Below w.heap.size w (w.alloc (Obj.cells #[.int .i64 t.kind, .int .i64 t.n, .string t.s, .slice pe Ke ce, .slice pr Kr cr] 25)) := (Below.refl _ _).alloc (Nat.le_refl _) _
  have HB : Hid (Blk (w.alloc (Obj.cells #[.int .i64 t.kind, .int .i64 t.n, .string t.s, .slice pe Ke ce, .slice pr Kr cr] 25)) w.heap.size #[.int .i64 t.kind, .int .i64 t.n, .string t.s, .slice pe Ke ce, .slice pr Kr cr] 25) := Blk.new w _ _
  have HCY : Hid (∀ W, Below w.heap.size w W → TrIn 14 W (.agg #[.int .i64 t.kind, .int .i64 t.n, .string t.s, .slice pe Ke ce, .slice pr Kr cr]) t → SmN 14 t → Calls Try.prog 11 #[.agg #[.int .i64 t.kind, .int .i64 t.n, .string t.s, .slice pe Ke ce, .slice pr Kr cr]] W (CopyP 14 t W)) := fun W hW h1 h2 => copy_any 14 t _ W h1 h2
  have HKN : Hid ((t.kind = 1 → t.kind = 1) ∧ True) := ⟨fun h => h, trivial⟩
  obtain ⟨K, hK⟩ : ∃ z, t.kind = z := ⟨_, rfl⟩
  obtain ⟨N, hN⟩ : ∃ z, t.n = z := ⟨_, rfl⟩
  obtain ⟨S, hS⟩ : ∃ z, t.s = z := ⟨_, rfl⟩
  have HK : Hid (t.kind = K ∧ t.n = N ∧ t.s = S) := ⟨hK, hN, hS⟩
  rw [hK, hN, hS] at HS HB al HCY ⊢
  clear hK hN hS HKN
  go_enter Try.func7, Try.ntmps7
  go_wp2_with fail
  refine (HS.out _ al).mono ?_
  rintro e w1 ⟨⟨R, rfl, hR⟩, hb1⟩
  have hbw1 : Below w.heap.size w w1 := al.trans (hb1.mono al.size)
  have HB1 : Hid (Blk w1 w.heap.size #[.int .i64 K, .int .i64 N, .string S, .slice pe Ke ce, .slice pr Kr cr] 25) := HB.out.below hb1
  have HRR : Hid (R = true → SmN 14 t ∧ cntN 14 t ≤ 200 ∧ TrIn 14 w1 (.agg #[.int .i64 K, .int .i64 N, .string S, .slice pe Ke ce, .slice pr Kr cr]) t) := fun hr => ⟨(hR hr).1, (hR hr).2.1, (hR hr).2.2.below hb1⟩
  clear hR hb1 al HB HS
  cases R with
  | false =>
    go_wp2_with fail
    refine (awake_any _).mono ?_
    rintro e w2 ⟨rfl, hb2⟩
    have hbw2 : Below w.heap.size w w2 := hbw1.trans (hb2.mono hbw1.size)
    go_wp2_with fail
    go_ret
    exact ⟨rfl, hbw2⟩
  | true =>
    obtain ⟨s1, s2, s3⟩ := HRR.out rfl
    have HS1 : Hid (SmN 14 t ∧ cntN 14 t ≤ 200) := ⟨s1, s2⟩
    have HT1 : Hid (TrIn 14 w1 (.agg #[.int .i64 K, .int .i64 N, .string S, .slice pe Ke ce, .slice pr Kr cr]) t) := s3
    have HRC : Hid (Calls Try.prog 13 #[(.agg #[.int .i64 K, .int .i64 N, .string S, .slice pe Ke ce, .slice pr Kr cr])] w1 fun e w' => e = .returned (.bool (chkN 14 t)) ∧ Below w1.heap.size w1 w') := rCheck_any 14 t _ _ s3 (by omega)
    clear s1 s2 s3 HRR HCY
    have q0 := (HB1.out.cell 0).trans rfl
    have q1 := (HB1.out.cell 1).trans rfl
    have q2 := (HB1.out.cell 2).trans rfl
    have q3 := (HB1.out.cell 3).trans rfl
    have q4 := (HB1.out.cell 4).trans rfl
    by_cases hk : K = 3
    rotate_left
    · have hq : (K != 3) = true := by simpa using hk
      go_wp2_with fail
      refine (awake_any _).mono ?_
      rintro e wk ⟨rfl, hbk⟩
      have hbwk : Below w.heap.size w wk := hbw1.trans (hbk.mono hbw1.size)
      clear hbk
      go_wp2_with fail
      go_ret
      exact ⟨rfl, hbwk⟩
    · have hq : (K != 3) = false := by simpa using hk
      have HK3 : Hid (t.kind = 3) := HK.out.1.trans hk
      clear hk
      go_wp2_with fail
      refine HRC.out.mono ?_
      rintro e w2 ⟨rfl, hb2⟩
      have hbw2 : Below w.heap.size w w2 := hbw1.trans (hb2.mono hbw1.size)
      have HB2 : Hid (Blk w2 w.heap.size #[.int .i64 K, .int .i64 N, .string S, .slice pe Ke ce, .slice pr Kr cr] 25) := HB1.out.below hb2
      have HT2 : Hid (TrIn 14 w2 (.agg #[.int .i64 K, .int .i64 N, .string S, .slice pe Ke ce, .slice pr Kr cr]) t) := HT1.out.below hb2
      clear hb2 hbw1 HB1 HT1 q0 q1 q2 q3 q4 hq HRC
      have q0 := (HB2.out.cell 0).trans rfl
      have q1 := (HB2.out.cell 1).trans rfl
      have q2 := (HB2.out.cell 2).trans rfl
      have q3 := (HB2.out.cell 3).trans rfl
      have q4 := (HB2.out.cell 4).trans rfl
      cases hck : chkN 14 t with
      | false =>
        go_wp2_with fail
        refine (awake_any _).mono ?_
        rintro e wk ⟨rfl, hbk⟩
        have hbwk : Below w.heap.size w wk := hbw2.trans (hbk.mono hbw2.size)
        clear hbk
        go_wp2_with fail
        go_ret
        exact ⟨rfl, hbwk⟩
      | true =>
        have HCK : Hid (chkN 14 t = true) := hck
        clear hck
        by_cases hz0 : Ke = 0
        rotate_left
        · have hz : ((Ke : Int) == 0) = false := by simp; omega
          have hKp : 0 < Ke := by omega
          obtain ⟨e0, he0, hl0⟩ := chk_first HCK.out HK3.out (by rw [HKE.out]; omega)
          have HE0 : Hid (t.es[0]? = some e0 ∧ 1 ≤ e0.2.length) := ⟨he0, hl0⟩
          have HC : Hid (Calls Try.prog 11 #[(.agg #[.int .i64 K, .int .i64 N, .string S, .slice pe Ke ce, .slice pr Kr cr])] w2 (CopyP 14 t w2)) := copy_any 14 t _ w2 HT2.out HS1.out.1
          clear he0 hl0 hz0
          go_wp2_with fail
          refine HC.out.mono ?_
          rintro e w3 ⟨xv, bs, rfl, ⟨r, rfl, hO, hA⟩, hb3⟩
          obtain ⟨g1, c1, a2, n2, c2, cs1, g2, k2, cs2, v0, v1, v2, v3, v4, hr, bA, bA0, bA1, bB, bB0, bB1, bB2, bB3, bB4, hg1, hg2, hg12⟩ := TrO.first (n := 12) hO HE0.out.1 HE0.out.2
          rw [HK.out.1, HK.out.2.1, HK.out.2.2, HKE.out] at hr
          subst hr
          have hbw3 : Below w.heap.size w w3 := hbw2.trans (hb3.mono hbw2.size)
          have HB3 : Hid (Blk w3 w.heap.size #[.int .i64 K, .int .i64 N, .string S, .slice pe Ke ce, .slice pr Kr cr] 25) := HB2.out.below hb3
          have al3 : Below w3.heap.size w3 (w3.alloc (Obj.cells #[.int .i64 K, .int .i64 N, .string S, .slice (some ⟨g1, 0, none⟩) Ke c1, .slice a2 n2 c2] 25)) := (Below.refl _ _).alloc (Nat.le_refl _) _
          have HOF : Hid (Calls Try.prog 18 #[(.agg #[.int .i64 K, .int .i64 N, .string S, .slice (some ⟨g1, 0, none⟩) Ke c1, .slice a2 n2 c2])] (w3.alloc (Obj.cells #[.int .i64 K, .int .i64 N, .string S, .slice (some ⟨g1, 0, none⟩) Ke c1, .slice a2 n2 c2] 25)) (OfP 14 t (w3.alloc (Obj.cells #[.int .i64 K, .int .i64 N, .string S, .slice (some ⟨g1, 0, none⟩) Ke c1, .slice a2 n2 c2] 25)))) := of_any 14 t _ _ ⟨_, rfl, (hO.sm (Sm.below al3 fun k hk => (hA.2 k hk).2)).trQ⟩ (by omega) (by have := HS1.out.2; omega) HS1.out.1
          have HX3 : Hid (Blk (w3.alloc (Obj.cells #[.int .i64 K, .int .i64 N, .string S, .slice (some ⟨g1, 0, none⟩) Ke c1, .slice a2 n2 c2] 25)) w3.heap.size #[.int .i64 K, .int .i64 N, .string S, .slice (some ⟨g1, 0, none⟩) Ke c1, .slice a2 n2 c2] 25) := Blk.new w3 _ _
          have HBA : Hid (Blk (w3.alloc (Obj.cells #[.int .i64 K, .int .i64 N, .string S, .slice (some ⟨g1, 0, none⟩) Ke c1, .slice a2 n2 c2] 25)) g1 cs1 50) := bA.below al3
          have HBB : Hid (Blk (w3.alloc (Obj.cells #[.int .i64 K, .int .i64 N, .string S, .slice (some ⟨g1, 0, none⟩) Ke c1, .slice a2 n2 c2] 25)) g2 cs2 25) := bB.below al3
          have HB3a : Hid (Blk (w3.alloc (Obj.cells #[.int .i64 K, .int .i64 N, .string S, .slice (some ⟨g1, 0, none⟩) Ke c1, .slice a2 n2 c2] 25)) w.heap.size #[.int .i64 K, .int .i64 N, .string S, .slice pe Ke ce, .slice pr Kr cr] 25) := HB3.out.below al3
          have HT3a : Hid (TrIn 14 (w3.alloc (Obj.cells #[.int .i64 K, .int .i64 N, .string S, .slice (some ⟨g1, 0, none⟩) Ke c1, .slice a2 n2 c2] 25)) (.agg #[.int .i64 K, .int .i64 N, .string S, .slice pe Ke ce, .slice pr Kr cr]) t) := (HT2.out.below hb3).below al3
          have hbw3a : Below w.heap.size w (w3.alloc (Obj.cells #[.int .i64 K, .int .i64 N, .string S, .slice (some ⟨g1, 0, none⟩) Ke c1, .slice a2 n2 c2] 25)) := hbw3.trans (al3.mono hbw3.size)
          have HT2a : Hid (Below w2.heap.size w2 (w3.alloc (Obj.cells #[.int .i64 K, .int .i64 N, .string S, .slice (some ⟨g1, 0, none⟩) Ke c1, .slice a2 n2 c2] 25))) := hb3.trans (al3.mono hb3.size)
          have hlt1 : g1 < w3.heap.size := bA.lt
          have hlt2 : g2 < w3.heap.size := bB.lt
          have HG : Hid (w2.heap.size ≤ g1 ∧ w2.heap.size ≤ g2) := ⟨hg1, hg2⟩
          have HW2 : Hid (w.heap.size < w2.heap.size) := HB2.out.lt
          clear hO hA hb3 hbw2 hbw3 HB2 HB3 HC bA bB al3 q0 q1 q2 q3 q4 hz hg1 hg2
          obtain ⟨b3, hb3'⟩ : ∃ b, w3.heap.size = b := ⟨_, rfl⟩
          have hW3s : (w3.alloc (Obj.cells #[.int .i64 K, .int .i64 N, .string S, .slice (some ⟨g1, 0, none⟩) Ke c1, .slice a2 n2 c2] 25)).heap.size = b3 + 1 := by simp [hb3']
          rw [hb3'] at HX3 hlt1 hlt2
          go_wp2_with fail
          refine HOF.out.mono ?_
          generalize (w3.alloc (Obj.cells #[.int .i64 K, .int .i64 N, .string S, .slice (some ⟨g1, 0, none⟩) Ke c1, .slice a2 n2 c2] 25)) = W3 at *
          rintro e w4 ⟨hOf, hb4⟩
          have hbw4 : Below w.heap.size w w4 := hbw3a.trans (hb4.mono hbw3a.size)
          have HX4 : Hid (Blk w4 b3 #[.int .i64 K, .int .i64 N, .string S, .slice (some ⟨g1, 0, none⟩) Ke c1, .slice a2 n2 c2] 25) := HX3.out.below hb4
          have HBA4 : Hid (Blk w4 g1 cs1 50) := HBA.out.below hb4
          have HBB4 : Hid (Blk w4 g2 cs2 25) := HBB.out.below hb4
          have HB4 : Hid (Blk w4 w.heap.size #[.int .i64 K, .int .i64 N, .string S, .slice pe Ke ce, .slice pr Kr cr] 25) := HB3a.out.below hb4
          have HT24 : Hid (Below w2.heap.size w2 w4) := HT2a.out.trans (hb4.mono HT2a.out.size)
          have hsz4 := hb4.size
          rcases hOf with ⟨hcf, _⟩ | ⟨-, x, bs3, rfl, hV, hAp⟩
          · have := hcf.symm.trans HCK.out
            simp at this
          obtain ⟨Ti, u, hxe⟩ := hV.vaC.one
          obtain rfl : x = .iface Ti u := by simpa using hxe
          have HV4 : Hid (VaO 14 (b3 + 1) w4 [.iface Ti u] t bs3) := hW3s ▸ hV
          have HAP4 : Hid (Apt (b3 + 1) w4 bs3) := hW3s ▸ hAp
          have hb3l : b3 < w4.heap.size := HX4.out.lt
          have hg1l : g1 < w4.heap.size := HBA4.out.lt
          have hg2l : g2 < w4.heap.size := HBB4.out.lt
          have hnb1 : g1 ≠ b3 := by omega
          have hnb2 : g2 ≠ b3 := by omega
          have hnc1 : b3 ≠ g1 := by omega
          have hnc2 : b3 ≠ g2 := by omega
          have hng : g2 ≠ g1 := fun e => hg12 e.symm
          have hn2 : 0 < e0.2.length := HE0.out.2
          have x3 := (HX4.out.cell 3).trans rfl
          have y0 := (HBA4.out.cell 0).trans bA0
          have y1 := (HBA4.out.cell 1).trans bA1
          have z0 := (HBB4.out.cell 0).trans bB0
          have z1 := (HBB4.out.cell 1).trans bB1
          have z2 := (HBB4.out.cell 2).trans bB2
          have z3 := (HBB4.out.cell 3).trans bB3
          have z4 := (HBB4.out.cell 4).trans bB4
          have fy := HBA4.out.froz 0
          have fz0 := HBB4.out.froz 0
          have fz1 := HBB4.out.froz 1
          have fz2 := HBB4.out.froz 2
          have fz3 := HBB4.out.froz 3
          have fz4 := HBB4.out.froz 4
          clear hV hAp hxe hb4 hbw3a HX3 HBA HBB HB3a HT2a HOF HX4 HBB4 bA0 bA1 bB0 bB1 bB2 bB3 bB4
          generalize hE2 : e0.2.length = E2 at *
          have HE2 : Hid (e0.2.length = E2) := hE2
          clear hE2
          have KS : Kp (fun q => q = g1 ∨ q = g2) w4 ((((((w4.setCell ⟨g1, 0, none⟩ (.int .i64 499)).setCell ⟨g2, 0, none⟩ (.int .i64 1)).setCell ⟨g2, 1, none⟩ (.int .i64 77)).setCell ⟨g2, 2, none⟩ (.string ⟨#[]⟩)).setCell ⟨g2, 3, none⟩ (.slice none 0 0)).setCell ⟨g2, 4, none⟩ (.slice none 0 0)) := by
            refine Kp.setCell ?_ (fun _ => by simp) _
            refine Kp.setCell ?_ (fun _ => by simp) _
            refine Kp.setCell ?_ (fun _ => by simp) _
            refine Kp.setCell ?_ (fun _ => by simp) _
            refine Kp.setCell ?_ (fun _ => by simp) _
            refine Kp.setCell ?_ (fun _ => by simp) _
            exact Kp.refl _ _
          have hzS : ((((((w4.setCell ⟨g1, 0, none⟩ (.int .i64 499)).setCell ⟨g2, 0, none⟩ (.int .i64 1)).setCell ⟨g2, 1, none⟩ (.int .i64 77)).setCell ⟨g2, 2, none⟩ (.string ⟨#[]⟩)).setCell ⟨g2, 3, none⟩ (.slice none 0 0)).setCell ⟨g2, 4, none⟩ (.slice none 0 0)).heap.size = w4.heap.size := by simp
          have HKS : Hid (Kp (fun q => q = g1 ∨ q = g2) w4 ((((((w4.setCell ⟨g1, 0, none⟩ (.int .i64 499)).setCell ⟨g2, 0, none⟩ (.int .i64 1)).setCell ⟨g2, 1, none⟩ (.int .i64 77)).setCell ⟨g2, 2, none⟩ (.string ⟨#[]⟩)).setCell ⟨g2, 3, none⟩ (.slice none 0 0)).setCell ⟨g2, 4, none⟩ (.slice none 0 0)) ∧ ((((((w4.setCell ⟨g1, 0, none⟩ (.int .i64 499)).setCell ⟨g2, 0, none⟩ (.int .i64 1)).setCell ⟨g2, 1, none⟩ (.int .i64 77)).setCell ⟨g2, 2, none⟩ (.string ⟨#[]⟩)).setCell ⟨g2, 3, none⟩ (.slice none 0 0)).setCell ⟨g2, 4, none⟩ (.slice none 0 0)).heap.size = w4.heap.size) := ⟨KS, hzS⟩
          clear KS hzS
          go_wp2_with fail
          clear x3 y0 y1 z0 z1 z2 z3 z4 fy fz0 fz1 fz2 fz3 fz4
          generalize ((((((w4.setCell ⟨g1, 0, none⟩ (.int .i64 499)).setCell ⟨g2, 0, none⟩ (.int .i64 1)).setCell ⟨g2, 1, none⟩ (.int .i64 77)).setCell ⟨g2, 2, none⟩ (.string ⟨#[]⟩)).setCell ⟨g2, 3, none⟩ (.slice none 0 0)).setCell ⟨g2, 4, none⟩ (.slice none 0 0)) = WS at *
          obtain ⟨KS, hzS⟩ := HKS.out
          obtain ⟨hG1, hG2⟩ := HG.out
          have hw2 := HW2.out
          have hVS : VaO 14 (b3 + 1) WS [.iface Ti u] t bs3 := HV4.out.sm fun k hk => KS.block k (HAP4.out.2 k hk).2 (fun e => by have := (HAP4.out.2 k hk).1; omega)
          have hbwS : Below w.heap.size w WS := hbw4.trans (KS.toBelow hbw4.size (fun q e => by omega))
          have hT2S : Below w2.heap.size w2 WS := HT24.out.trans (KS.toBelow HT24.out.size (fun q e => by omega))
          have hBS : Blk WS w.heap.size #[.int .i64 K, .int .i64 N, .string S, .slice pe Ke ce, .slice pr Kr cr] 25 := HB4.out.kp KS (fun e => by omega)
          have al5 : Below WS.heap.size WS (WS.alloc (Obj.cells #[.iface Ti u] 34)) := (Below.refl _ _).alloc (Nat.le_refl _) _
          have hX5 := Blk.new WS #[.iface Ti u] 34
          rw [hzS] at hX5
          have HX5 : Hid (Blk (WS.alloc (Obj.cells #[.iface Ti u] 34)) w4.heap.size #[.iface Ti u] 34) := hX5
          have HB5 : Hid (Blk (WS.alloc (Obj.cells #[.iface Ti u] 34)) w.heap.size #[.int .i64 K, .int .i64 N, .string S, .slice pe Ke ce, .slice pr Kr cr] 25) := hBS.below al5
          have HV5 : Hid (VaC 14 (WS.alloc (Obj.cells #[.iface Ti u] 34)) [.iface Ti u] t) := hVS.vaC.below al5
          have HT5 : Hid (TrIn 14 (WS.alloc (Obj.cells #[.iface Ti u] 34)) (.agg #[.int .i64 K, .int .i64 N, .string S, .slice pe Ke ce, .slice pr Kr cr]) t) := HT2.out.below (hT2S.trans (al5.mono hT2S.size))
          have hbw5 : Below w.heap.size w (WS.alloc (Obj.cells #[.iface Ti u] 34)) := hbwS.trans (al5.mono hbwS.size)
          clear KS hzS HKS hVS hbwS hT2S hBS al5 hX5 HV4 HAP4 HB4 HT24 HT2 hbw4 HBA4
          obtain ⟨bx, hbx'⟩ : ∃ b, w4.heap.size = b := ⟨_, rfl⟩
          rw [hbx'] at HX5 ⊢
          clear hbx'
          generalize (WS.alloc (Obj.cells #[.iface Ti u] 34)) = W5 at *
          refine Calls.mono (vtree_any 14 t _ W5 HV5.out HS1.out.1) ?_
          rintro e w6 ⟨yv, bs6, rfl, ⟨r6, rfl, hO6, hA6⟩, hb6⟩
          obtain ⟨h1, d1, p2, m2, d2, ds1, h2, l2, ds2, u0, u1, u2, u3, u4, hr6, dA, dA0, dA1, dB, dB0, dB1, dB2, dB3, dB4, hh1, hh2, hh12⟩ := TrO.first (n := 12) hO6 HE0.out.1 (by rw [HE2.out]; exact HE0.out.2)
          rw [HK.out.1, HK.out.2.1, HK.out.2.2, HKE.out] at hr6
          subst hr6
          rw [HE2.out] at dA1
          have al6 : Below w6.heap.size w6 (w6.alloc (Obj.cells #[.int .i64 K, .int .i64 N, .string S, .slice (some ⟨h1, 0, none⟩) Ke d1, .slice p2 m2 d2] 25)) := (Below.refl _ _).alloc (Nat.le_refl _) _
          have hb56 : Below W5.heap.size W5 (w6.alloc (Obj.cells #[.int .i64 K, .int .i64 N, .string S, .slice (some ⟨h1, 0, none⟩) Ke d1, .slice p2 m2 d2] 25)) := hb6.trans (al6.mono hb6.size)
          have HY6 : Hid (Blk (w6.alloc (Obj.cells #[.int .i64 K, .int .i64 N, .string S, .slice (some ⟨h1, 0, none⟩) Ke d1, .slice p2 m2 d2] 25)) w6.heap.size #[.int .i64 K, .int .i64 N, .string S, .slice (some ⟨h1, 0, none⟩) Ke d1, .slice p2 m2 d2] 25) := Blk.new w6 _ _
          have HDA : Hid (Blk (w6.alloc (Obj.cells #[.int .i64 K, .int .i64 N, .string S, .slice (some ⟨h1, 0, none⟩) Ke d1, .slice p2 m2 d2] 25)) h1 ds1 50) := dA.below al6
          have HDB : Hid (Blk (w6.alloc (Obj.cells #[.int .i64 K, .int .i64 N, .string S, .slice (some ⟨h1, 0, none⟩) Ke d1, .slice p2 m2 d2] 25)) h2 ds2 25) := dB.below al6
          have HYT : Hid (TrIn 14 (w6.alloc (Obj.cells #[.int .i64 K, .int .i64 N, .string S, .slice (some ⟨h1, 0, none⟩) Ke d1, .slice p2 m2 d2] 25)) (.agg #[.int .i64 K, .int .i64 N, .string S, .slice (some ⟨h1, 0, none⟩) Ke d1, .slice p2 m2 d2]) t) := TrIn.below ⟨_, rfl, hO6.trC⟩ al6
          have HB6 : Hid (Blk (w6.alloc (Obj.cells #[.int .i64 K, .int .i64 N, .string S, .slice (some ⟨h1, 0, none⟩) Ke d1, .slice p2 m2 d2] 25)) w.heap.size #[.int .i64 K, .int .i64 N, .string S, .slice pe Ke ce, .slice pr Kr cr] 25) := HB5.out.below hb56
          have HSA : Hid (Calls Try.prog 17 #[.agg #[.int .i64 K, .int .i64 N, .string S, .slice (some ⟨h1, 0, none⟩) Ke d1, .slice p2 m2 d2], (.agg #[.int .i64 K, .int .i64 N, .string S, .slice pe Ke ce, .slice pr Kr cr])] (w6.alloc (Obj.cells #[.int .i64 K, .int .i64 N, .string S, .slice (some ⟨h1, 0, none⟩) Ke d1, .slice p2 m2 d2] 25)) fun e w' => e = .returned (.bool true) ∧ Below (w6.alloc (Obj.cells #[.int .i64 K, .int .i64 N, .string S, .slice (some ⟨h1, 0, none⟩) Ke d1, .slice p2 m2 d2] 25)).heap.size (w6.alloc (Obj.cells #[.int .i64 K, .int .i64 N, .string S, .slice (some ⟨h1, 0, none⟩) Ke d1, .slice p2 m2 d2] 25)) w') := by
            refine Calls.mono (rsame_any 14 14 t t _ _ (w6.alloc (Obj.cells #[.int .i64 K, .int .i64 N, .string S, .slice (some ⟨h1, 0, none⟩) Ke d1, .slice p2 m2 d2] 25)) HYT.out (HT5.out.below hb56)) ?_
            rintro e W' ⟨⟨R, rfl, hR⟩, hb⟩
            rw [hR.2 rfl]
            exact ⟨rfl, hb⟩
          have i0 := (HB6.out.cell 0).trans rfl
          have i1 := (HB6.out.cell 1).trans rfl
          have i2 := (HB6.out.cell 2).trans rfl
          have i3 := (HB6.out.cell 3).trans rfl
          have i4 := (HB6.out.cell 4).trans rfl
          have hwl : w.heap.size < w6.heap.size := by have := HB5.out.lt; have := hb6.size; omega
          have hl1 : h1 < w6.heap.size := dA.lt
          have hl2 : h2 < w6.heap.size := dB.lt
          have HHH : Hid (W5.heap.size ≤ h2) := hh2
          clear hO6 hA6 hb6 al6 dA dB hh1 hh2
          go_wp2_with fail
          refine HSA.out.mono ?_
          rintro e w7 ⟨rfl, hb7⟩
          have hb57 : Below W5.heap.size W5 w7 := hb56.trans (hb7.mono hb56.size)
          have HY7 : Hid (Blk w7 w6.heap.size #[.int .i64 K, .int .i64 N, .string S, .slice (some ⟨h1, 0, none⟩) Ke d1, .slice p2 m2 d2] 25) := HY6.out.below hb7
          have HDA7 : Hid (Blk w7 h1 ds1 50) := HDA.out.below hb7
          have HDB7 : Hid (Blk w7 h2 ds2 25) := HDB.out.below hb7
          clear i0 i1 i2 i3 i4 hb7 hb56 HY6 HDA HDB HYT HB6 HSA hwl
          obtain ⟨b6, hb6'⟩ : ∃ b, w6.heap.size = b := ⟨_, rfl⟩
          rw [hb6'] at HY7 hl1 hl2 ⊢
          clear hb6'
          have hm1 : b6 ≠ h2 := by omega
          have hm2 : h1 ≠ h2 := hh12
          have hm3 : h2 ≠ b6 := by omega
          have hm4 : h2 ≠ h1 := fun e => hh12 e.symm
          have x3 := (HY7.out.cell 3).trans rfl
          have y1 := (HDA7.out.cell 1).trans dA1
          have z0 := (HDB7.out.cell 0).trans dB0
          have z1 := (HDB7.out.cell 1).trans dB1
          have z2 := (HDB7.out.cell 2).trans dB2
          have z3 := (HDB7.out.cell 3).trans dB3
          have z4 := (HDB7.out.cell 4).trans dB4
          have fz0 := HDB7.out.froz 0
          have fz1 := HDB7.out.froz 1
          have fz2 := HDB7.out.froz 2
          have fz3 := HDB7.out.froz 3
          have fz4 := HDB7.out.froz 4
          have KT : Kp (fun q => q = h2) w7 (((((w7.setCell ⟨h2, 0, none⟩ (.int .i64 1)).setCell ⟨h2, 1, none⟩ (.int .i64 78)).setCell ⟨h2, 2, none⟩ (.string ⟨#[]⟩)).setCell ⟨h2, 3, none⟩ (.slice none 0 0)).setCell ⟨h2, 4, none⟩ (.slice none 0 0)) := by
            refine Kp.setCell ?_ (fun _ => by simp) _
            refine Kp.setCell ?_ (fun _ => by simp) _
            refine Kp.setCell ?_ (fun _ => by simp) _
            refine Kp.setCell ?_ (fun _ => by simp) _
            refine Kp.setCell ?_ (fun _ => by simp) _
            exact Kp.refl _ _
          have HKT : Hid (Kp (fun q => q = h2) w7 (((((w7.setCell ⟨h2, 0, none⟩ (.int .i64 1)).setCell ⟨h2, 1, none⟩ (.int .i64 78)).setCell ⟨h2, 2, none⟩ (.string ⟨#[]⟩)).setCell ⟨h2, 3, none⟩ (.slice none 0 0)).setCell ⟨h2, 4, none⟩ (.slice none 0 0))) := KT
          clear KT HY7 HDA7 HDB7 dA0 dA1 dB0 dB1 dB2 dB3 dB4
          go_wp2_with fail
          clear x3 y1 z0 z1 z2 z3 z4 fz0 fz1 fz2 fz3 fz4
          generalize (((((w7.setCell ⟨h2, 0, none⟩ (.int .i64 1)).setCell ⟨h2, 1, none⟩ (.int .i64 78)).setCell ⟨h2, 2, none⟩ (.string ⟨#[]⟩)).setCell ⟨h2, 3, none⟩ (.slice none 0 0)).setCell ⟨h2, 4, none⟩ (.slice none 0 0)) = WT at *
          have hb5T : Below W5.heap.size W5 WT := hb57.trans (HKT.out.toBelow hb57.size (fun q e => by have := HHH.out; omega))
          have HXT : Hid (Blk WT bx #[.iface Ti u] 34) := HX5.out.below hb5T
          have HBT : Hid (Blk WT w.heap.size #[.int .i64 K, .int .i64 N, .string S, .slice pe Ke ce, .slice pr Kr cr] 25) := HB5.out.below hb5T
          have HVT5 : Hid (VaC 14 WT [.iface Ti u] t) := HV5.out.below hb5T
          have HTT : Hid (TrIn 14 WT (.agg #[.int .i64 K, .int .i64 N, .string S, .slice pe Ke ce, .slice pr Kr cr]) t) := HT5.out.below hb5T
          have hbwT : Below w.heap.size w WT := hbw5.trans (hb5T.mono hbw5.size)
          clear HX5 HB5 HV5 HT5 hb57 hb5T hbw5 HKT HHH
          obtain ⟨b1, hb1'⟩ : ∃ b, w.heap.size = b := ⟨_, rfl⟩
          rw [hb1'] at HBT
          rw [hb1']
          refine M_region (T := fun W => W.cell? ⟨bx, 0, none⟩ = some (.iface Ti u) ∧ W.cell? ⟨b1, 0, none⟩ = some (.int .i64 K) ∧ W.cell? ⟨b1, 1, none⟩ = some (.int .i64 N) ∧ W.cell? ⟨b1, 2, none⟩ = some (.string S) ∧ W.cell? ⟨b1, 3, none⟩ = some (.slice pe Ke ce) ∧ W.cell? ⟨b1, 4, none⟩ = some (.slice pr Kr cr)) (m := 7) (by kernel_rfl) ?_
          have HTb : Hid (∀ W, Below WT.heap.size WT W → W.cell? ⟨bx, 0, none⟩ = some (.iface Ti u) ∧ W.cell? ⟨b1, 0, none⟩ = some (.int .i64 K) ∧ W.cell? ⟨b1, 1, none⟩ = some (.int .i64 N) ∧ W.cell? ⟨b1, 2, none⟩ = some (.string S) ∧ W.cell? ⟨b1, 3, none⟩ = some (.slice pe Ke ce) ∧ W.cell? ⟨b1, 4, none⟩ = some (.slice pr Kr cr)) := fun W hW => ⟨(HXT.out.below hW).cell 0, (HBT.out.below hW).cell 0, (HBT.out.below hW).cell 1, (HBT.out.below hW).cell 2, (HBT.out.below hW).cell 3, (HBT.out.below hW).cell 4⟩
          have hdW0 : Below WT.heap.size WT WT.drew := (Below.refl _ _).drew
          have hT := HTb.out _ hdW0
          have HVT : Hid (∀ W, Below WT.heap.size WT W → Calls Try.prog 20 #[.agg #[.iface Ti u]] W (CopyP 14 t W)) := fun W hW => vtree_any 14 t _ W (HVT5.out.below hW) HS1.out.1
          have HSA : Hid (∀ W va, Below WT.heap.size WT W → TrIn 14 W va t → Calls Try.prog 17 #[va, (.agg #[.int .i64 K, .int .i64 N, .string S, .slice pe Ke ce, .slice pr Kr cr])] W fun e w' => e = .returned (.bool true) ∧ Below W.heap.size W w') := fun W va hW hva => by
            refine Calls.mono (rsame_any 14 14 t t _ _ W hva (HTT.out.below hW)) ?_
            rintro e W' ⟨⟨R, rfl, hR⟩, hb⟩
            rw [hR.2 rfl]
            exact ⟨rfl, hb⟩
          clear HXT HBT HVT5 HTT
          generalize WT.drew = W0 at *
          refine M_take 0 60 (.agg #[.iface Ti u]) _ rfl rfl (by kernel_rfl) (by kernel_rfl) (by kernel_rfl) (by kernel_rfl) (by kernel_rfl) (fun _ _ _ h => h) (by rfl) (fun w' hw' => ?_) hT (listed' := #[true, false, false, false, false, false, false, false]) (by kernel_rfl) rfl ?_
          · obtain ⟨f0, f1, f2, f3, f4, f5⟩ := hw'; go_simp
          simp only [List.setIfInBounds_toArray, List.set_cons_zero, List.set_cons_succ]
          refine M_take 2 62 ((.agg #[.int .i64 K, .int .i64 N, .string S, .slice pe Ke ce, .slice pr Kr cr])) _ rfl rfl (by kernel_rfl) (by kernel_rfl) (by kernel_rfl) (by kernel_rfl) (by kernel_rfl) (fun _ _ _ h => h) (by rfl) (fun w' hw' => ?_) hT (listed' := #[true, false, true, false, false, false, false, false]) (by kernel_rfl) rfl ?_
          · obtain ⟨f0, f1, f2, f3, f4, f5⟩ := hw'; go_simp
          simp only [List.setIfInBounds_toArray, List.set_cons_zero, List.set_cons_succ]
          refine M_call 1 61 20 #[.agg #[.iface Ti u]] rfl rfl (by kernel_rfl) (by rfl) (listed' := #[true, true, true, false, false, false, false, false]) (by kernel_rfl) (fun W => by go_simp) ?_
          refine Calls.mono (HVT.out _ hdW0) ?_
          rintro e W2 ⟨va, bs2, rfl, hva, hbW2⟩
          obtain ⟨n9, ve2, vr2, -, rfl, -⟩ := hva.tr.open
          have HVA : Hid (TrIn 14 W2 (.agg #[.int .i64 t.kind, .int .i64 t.n, .string t.s, ve2, vr2]) t) := hva.tr
          clear hva
          have hdW2 : Below WT.heap.size WT W2 := hdW0.trans (hbW2.mono hdW0.size)
          have hT := HTb.out _ hdW2
          refine ⟨_, rfl, hT, ?_⟩
          simp only [List.setIfInBounds_toArray, List.set_cons_zero, List.set_cons_succ]
          refine M_call 3 63 17 #[.agg #[.int .i64 t.kind, .int .i64 t.n, .string t.s, ve2, vr2], (.agg #[.int .i64 K, .int .i64 N, .string S, .slice pe Ke ce, .slice pr Kr cr])] rfl rfl (by kernel_rfl) (by rfl) (listed' := #[true, true, true, true, false, false, false, false]) (by kernel_rfl) (fun W => by go_simp) ?_
          refine Calls.mono (HSA.out _ _ hdW2 HVA.out) ?_
          rintro e W3 ⟨rfl, hbW3⟩
          have hdW3 : Below WT.heap.size WT W3 := hdW2.trans (hbW3.mono hdW2.size)
          have hT := HTb.out _ hdW3
          refine ⟨_, rfl, hT, ?_⟩
          simp only [List.setIfInBounds_toArray, List.set_cons_zero, List.set_cons_succ]
          refine M_take 4 64 (.bool true) _ rfl rfl (by kernel_rfl) (by kernel_rfl) (by kernel_rfl) (by kernel_rfl) (by kernel_rfl) (fun _ _ _ h => h) (by rfl) (fun w' hw' => ?_) hT (listed' := #[true, true, true, true, true, false, false, false]) (by kernel_rfl) rfl ?_
          · obtain ⟨f0, f1, f2, f3, f4, f5⟩ := hw'; go_simp
          simp only [List.setIfInBounds_toArray, List.set_cons_zero, List.set_cons_succ]
          refine M_call 5 65 10 #[] rfl rfl (by kernel_rfl) (by rfl) (listed' := #[true, true, true, true, true, true, false, false]) (by kernel_rfl) (fun W => by go_simp) ?_
          refine Calls.mono (awake_any _) ?_
          rintro e W4 ⟨rfl, hbW4⟩
          have hdW4 : Below WT.heap.size WT W4 := hdW3.trans (hbW4.mono hdW3.size)
          have hT := HTb.out _ hdW4
          refine ⟨_, rfl, hT, ?_⟩
          simp only [List.setIfInBounds_toArray, List.set_cons_zero, List.set_cons_succ]
          refine M_take 6 66 (.bool true) _ rfl rfl (by kernel_rfl) (by kernel_rfl) (by kernel_rfl) (by kernel_rfl) (by kernel_rfl) (fun _ _ _ h => h) (by rfl) (fun w' hw' => ?_) hT (listed' := #[true, true, true, true, true, true, true, false]) (by kernel_rfl) rfl ?_
          · obtain ⟨f0, f1, f2, f3, f4, f5⟩ := hw'; go_simp
          simp only [List.setIfInBounds_toArray, List.set_cons_zero, List.set_cons_succ]
          refine M_run 7 2 (.bool true) (W4) rfl rfl (by kernel_rfl) (by rfl) (listed' := #[true, true, true, true, true, true, true, true]) (by kernel_rfl) (by go_simp) hT ?_
          simp only [List.setIfInBounds_toArray, List.set_cons_zero, List.set_cons_succ]
          refine M_done (by kernel_rfl) ?_ _
          have hbw9 : Below w.heap.size w W4 := hbwT.trans (hdW4.mono hbwT.size)
          clear hT hdW0 hdW2 hdW3 hdW4 hbW2 hbW3 hbW4 hbwT HTb HVT HSA HVA
          go_wp2_with fail
          go_ret
          exact ⟨rfl, hbw9⟩
        · have hz : ((Ke : Int) == 0) = true := by simp; omega
          go_wp2_with fail
          refine (awake_any _).mono ?_
          rintro e wk ⟨rfl, hbk⟩
          have hbwk : Below w.heap.size w wk := hbw2.trans (hbk.mono hbw2.size)
          clear hbk
          go_wp2_with fail
          go_ret
          exact ⟨rfl, hbwk⟩
end Go.Proofs.Ytkombjmookplpaa

/- PrintAll, walked. -/
import Derived.Test.YtkfhlgajeejgeaaGreatDoorPkC
import Derived.Test.YtkfhlgajeejgeaaGreatDoorPkD
import Derived.Test.YtkfhlgajeejgeaaGreatDoorPkE
import Derived.Test.YtkfhlgajeejgeaaGreatDoorPkQ
import Derived.Test.YtkfhlgajeejgeaaGreatDoorSchSameP
import Derived.Test.YtkfhlgajeejgeaaGreatDoorRcPrintP
namespace Go.Proofs.YtkfhlgajeejgeaaGreatDoor
open Go.ChangeShapes Go.WideShapes Go.ChangeAt Go.RowKit
set_option linter.unusedVariables false
set_option linter.unusedSimpArgs false
set_option maxRecDepth 20000

set_option maxHeartbeats 16000000 in
theorem printAll_walk (v : Value) (s : ScS) (v2 : Value) (t : ScS) (w : World) (hr : ScIn w v s) (hw : ScW s) (hr2 : ScIn w v2 t) (hw2 : ScW t) (hG : Glob w) (hPT : PTab w) :
    Calls Tryz.prog 3 #[v, v2] w fun e w' => e = .returned (.bool true) ∧ Below w.heap.size w w' := by
  have HG : Hid (Glob w) := hG
  have HPT : Hid (PTab w) := hPT
  have HW : Hid (ScW s) := hw
  have HW2 : Hid (ScW t) := hw2
  obtain ⟨am, M, cm, ae, E, ce, at', T, ct, rfl⟩ := hr.form
  obtain ⟨am2, M2, cm2, ae2, E2, ce2, at2, T2, ct2, rfl⟩ := hr2.form
  obtain ⟨nm, hnm⟩ : ∃ x, s.name = x := ⟨_, rfl⟩
  obtain ⟨nm2, hnm2⟩ : ∃ x, t.name = x := ⟨_, rfl⟩
  rw [hnm] at hr ⊢
  rw [hnm2] at hr2 ⊢
  have HNM : Hid (s.name = nm) := hnm
  have HNM2 : Hid (t.name = nm2) := hnm2
  have HSC : Hid (ScIn w (.agg #[.string nm, .slice am M cm, .slice ae E ce, .slice at' T ct]) s) := hr
  have HSC2 : Hid (ScIn w (.agg #[.string nm2, .slice am2 M2 cm2, .slice ae2 E2 ce2, .slice at2 T2 ct2]) t) := hr2
  clear hG hPT hw hw2 hr hr2 hnm hnm2
  have hba : Below w.heap.size w ((w.alloc (.cells #[.string nm, .slice am M cm, .slice ae E ce, .slice at' T ct] 26)).alloc (.cells #[.string nm2, .slice am2 M2 cm2, .slice ae2 E2 ce2, .slice at2 T2 ct2] 26)) := ((Below.refl _ _).alloc (Nat.le_refl _) _).alloc (by simp) _
  have BX : Blk ((w.alloc (.cells #[.string nm, .slice am M cm, .slice ae E ce, .slice at' T ct] 26)).alloc (.cells #[.string nm2, .slice am2 M2 cm2, .slice ae2 E2 ce2, .slice at2 T2 ct2] 26)) w.heap.size #[.string nm, .slice am M cm, .slice ae E ce, .slice at' T ct] 26 := (Blk.new w #[.string nm, .slice am M cm, .slice ae E ce, .slice at' T ct] 26).below ((Below.refl _ _).alloc (Nat.le_refl _) _)
  have BY : Blk ((w.alloc (.cells #[.string nm, .slice am M cm, .slice ae E ce, .slice at' T ct] 26)).alloc (.cells #[.string nm2, .slice am2 M2 cm2, .slice ae2 E2 ce2, .slice at2 T2 ct2] 26)) (w.heap.size + 1) #[.string nm2, .slice am2 M2 cm2, .slice ae2 E2 ce2, .slice at2 T2 ct2] 26 := by
    have := Blk.new (w.alloc (.cells #[.string nm, .slice am M cm, .slice ae E ce, .slice at' T ct] 26)) #[.string nm2, .slice am2 M2 cm2, .slice ae2 E2 ce2, .slice at2 T2 ct2] 26
    rw [show (w.alloc (.cells #[.string nm, .slice am M cm, .slice ae E ce, .slice at' T ct] 26)).heap.size = w.heap.size + 1 by simp] at this
    exact this
  go_enter Tryz.func3, Tryz.ntmps3
  go_wp2_with fail
  refine (few_any (HSC.out.below hba) HW.out).mono ?_
  rintro e w1 ⟨hP, hb1⟩
  have hbw1 : Below w.heap.size w w1 := hba.trans (hb1.mono hba.size)
  rcases hP with rfl | ⟨rfl, hF⟩
  · go_wp2_with fail
    refine (pawake_any _ (HG.out.below hbw1) (HPT.out.below hbw1)).mono ?_
    rintro e w2 ⟨rfl, hb2⟩
    go_wp2_with fail
    go_ret
    exact ⟨rfl, hbw1.trans (hb2.mono hbw1.size)⟩
  have HF : Hid (FewS s) := hF
  clear hF
  have BX1 := BX.below hb1
  have BY1 := BY.below hb1
  have c0 := (BY1.cell 0).trans rfl
  have c1 := (BY1.cell 1).trans rfl
  have c2 := (BY1.cell 2).trans rfl
  have c3 := (BY1.cell 3).trans rfl
  clear hba BX BY hb1
  go_wp2_with fail
  clear c0 c1 c2 c3
  refine (few_any (HSC2.out.below hbw1) HW2.out).mono ?_
  rintro e w2 ⟨hP, hb2⟩
  have hbw2 : Below w.heap.size w w2 := hbw1.trans (hb2.mono hbw1.size)
  rcases hP with rfl | ⟨rfl, hF⟩
  · go_wp2_with fail
    refine (pawake_any _ (HG.out.below hbw2) (HPT.out.below hbw2)).mono ?_
    rintro e w3 ⟨rfl, hb3⟩
    go_wp2_with fail
    go_ret
    exact ⟨rfl, hbw2.trans (hb3.mono hbw2.size)⟩
  have HF2 : Hid (FewS t) := hF
  clear hF
  have BX2 := BX1.below hb2
  have BY2 := BY1.below hb2
  have c0 := (BX2.cell 0).trans rfl
  have c1 := (BX2.cell 1).trans rfl
  have c2 := (BX2.cell 2).trans rfl
  have c3 := (BX2.cell 3).trans rfl
  clear hb2 BX1 BY1 hbw1
  go_wp2_with fail
  clear c0 c1 c2 c3
  refine (schema_any (HSC.out.below hbw2) HF.out.few).mono ?_
  rintro e w3 ⟨vm, ve, vt, qm, qe, rfl, hM3, hE3, hT3, hb3⟩
  obtain ⟨ua, uc, hev⟩ := own_form hM3.own
  subst hev
  obtain ⟨ue, uec, hev⟩ := own_form hE3.own
  subst hev
  obtain ⟨ut, utc, hev⟩ := own_form hT3
  subst hev
  have HC3 : Hid (ScIn w3 (.agg #[.string s.name, .slice ua s.msgs.length uc, .slice ue s.enums.length uec, .slice ut s.methods.length utc]) s) := ⟨_, _, _, rfl, hM3.to_in, hE3.to_in, mt_in hT3⟩
  rw [HNM.out] at HC3 ⊢
  generalize s.msgs.length = UM at *
  generalize s.enums.length = UE at *
  generalize s.methods.length = UT at *
  have OS : Hid (PrO s) := pro_few HF.out HW.out
  have OT : Hid (PrO t) := pro_few HF2.out HW2.out
  have hbw3 : Below w.heap.size w w3 := hbw2.trans (hb3.mono hbw2.size)
  have ha4 : Below w3.heap.size w3 (w3.alloc (.cells #[.string nm, .slice ua UM uc, .slice ue UE uec, .slice ut UT utc] 26)) := (Below.refl _ _).alloc (Nat.le_refl _) _
  have BX4 := (BX2.below hb3).below ha4
  have BY4 := (BY2.below hb3).below ha4
  have BC4 := Blk.new w3 #[.string nm, .slice ua UM uc, .slice ue UE uec, .slice ut UT utc] 26
  have hbel : Below w.heap.size w (w3.alloc (.cells #[.string nm, .slice ua UM uc, .slice ue UE uec, .slice ut UT utc] 26)) := hbw3.trans (ha4.mono hbw3.size)
  have HCC : Hid (ScIn (w3.alloc (.cells #[.string nm, .slice ua UM uc, .slice ue UE uec, .slice ut UT utc] 26)) (.agg #[.string nm, .slice ua UM uc, .slice ue UE uec, .slice ut UT utc]) s) := HC3.out.below ha4
  clear hM3 hE3 hT3 hb3 BX2 BY2 hbw2 ha4 HC3 hbw3
  go_upto_region 4 with fail
  generalize w3.alloc (.cells #[.string nm, .slice ua UM uc, .slice ue UE uec, .slice ut UT utc] 26) = wr at *
  generalize w3.heap.size = bc at *
  have HSS : Hid (ScIn wr (.agg #[.string nm, .slice am M cm, .slice ae E ce, .slice at' T ct]) s) := HSC.out.below hbel
  have HST : Hid (ScIn wr (.agg #[.string nm2, .slice am2 M2 cm2, .slice ae2 E2 ce2, .slice at2 T2 ct2]) t) := HSC2.out.below hbel
  have HGW : Hid (Glob wr) := HG.out.below hbel
  have HTW : Hid (PTab wr) := HPT.out.below hbel
  obtain ⟨ps, hps⟩ : ∃ x, printB s = x := ⟨_, rfl⟩
  obtain ⟨pt, hpt⟩ : ∃ x, printB t = x := ⟨_, rfl⟩
  have HPS : Hid (printB s = ps) := hps
  have HPT2 : Hid (printB t = pt) := hpt
  have HCL : Hid (∀ W, Below wr.heap.size wr W → Blk W w.heap.size #[.string nm, .slice am M cm, .slice ae E ce, .slice at' T ct] 26 ∧ Blk W (w.heap.size + 1) #[.string nm2, .slice am2 M2 cm2, .slice ae2 E2 ce2, .slice at2 T2 ct2] 26 ∧ Blk W bc #[.string nm, .slice ua UM uc, .slice ue UE uec, .slice ut UT utc] 26) := fun W hW => ⟨BX4.below hW, BY4.below hW, BC4.below hW⟩
  clear BX4 BY4 BC4 HG HPT hps hpt HSC HSC2
  refine wp_region_held_drew (S := fun W => Below wr.heap.size wr W) (by kernel_rfl) (below_drewN 1 (Below.refl _ _)) (fun hS => ?_)
  generalize wr.drew = Y at *
  refine rg_take 0 17 (.agg #[.string nm, .slice ua UM uc, .slice ue UE uec, .slice ut UT utc]) _ rfl rfl (by kernel_rfl) (by kernel_rfl) (by kernel_rfl) (fun _ _ _ h => h) (by rfl) (fun w' hw' => ?_) hS (listed' := #[true, false, false, false, false, false, false, false, false, false, false, false, false, false, false, false, false, false, false, false, false, false, false, false, false, false, false, false, false, false, false, false, false]) (by kernel_rfl) rfl ?_
  · obtain ⟨q1, q2, q3⟩ := HCL.out w' hw'; have x0 := (q3.cell 0).trans rfl; have x1 := (q3.cell 1).trans rfl; have x2 := (q3.cell 2).trans rfl; have x3 := (q3.cell 3).trans rfl; go_simp
  simp only [List.setIfInBounds_toArray, List.set_cons_zero, List.set_cons_succ]
  refine rg_take 2 19 (.agg #[.string nm, .slice am M cm, .slice ae E ce, .slice at' T ct]) _ rfl rfl (by kernel_rfl) (by kernel_rfl) (by kernel_rfl) (fun _ _ _ h => h) (by rfl) (fun w' hw' => ?_) hS (listed' := #[true, false, true, false, false, false, false, false, false, false, false, false, false, false, false, false, false, false, false, false, false, false, false, false, false, false, false, false, false, false, false, false, false]) (by kernel_rfl) rfl ?_
  · obtain ⟨q1, q2, q3⟩ := HCL.out w' hw'; have x0 := (q1.cell 0).trans rfl; have x1 := (q1.cell 1).trans rfl; have x2 := (q1.cell 2).trans rfl; have x3 := (q1.cell 3).trans rfl; go_simp
  simp only [List.setIfInBounds_toArray, List.set_cons_zero, List.set_cons_succ]
  refine rg_call 1 18 13 #[.agg #[.string nm, .slice ua UM uc, .slice ue UE uec, .slice ut UT utc]] rfl rfl (by kernel_rfl) (by rfl) (listed' := #[true, true, true, false, false, false, false, false, false, false, false, false, false, false, false, false, false, false, false, false, false, false, false, false, false, false, false, false, false, false, false, false, false]) (by kernel_rfl) (fun W => by go_simp) ?_
  refine (canon_any (HCC.out.below hS) OS.out.few OS.out.cap).mono ?_
  rintro e Y1 ⟨vm1, ve1, vt1, qa1, qb1, rfl, hM1, hE1, hT1, hb1⟩
  have hS : Below wr.heap.size wr Y1 := hS.trans (hb1.mono hS.size)
  have HS1 : Hid (ScIn Y1 (.agg #[.string s.name, vm1, ve1, vt1]) (canonS s)) := ⟨_, _, _, rfl, hM1.to_in, hE1.to_in, mt_in hT1⟩
  clear hM1 hE1 hT1
  refine ⟨_, rfl, hS, ?_⟩
  simp only [List.setIfInBounds_toArray, List.set_cons_zero, List.set_cons_succ]
  refine rg_call 3 20 14 #[.agg #[.string nm, .slice am M cm, .slice ae E ce, .slice at' T ct]] rfl rfl (by kernel_rfl) (by rfl) (listed' := #[true, true, true, true, false, false, false, false, false, false, false, false, false, false, false, false, false, false, false, false, false, false, false, false, false, false, false, false, false, false, false, false, false]) (by kernel_rfl) (fun W => by go_simp) ?_
  refine (rcanon_any (HSS.out.below hS) HF.out.few).mono ?_
  rintro e Y2 ⟨vm2, ve2, vt2, qa2, qb2, rfl, hM2, hE2, hT2, hb2⟩
  have hS : Below wr.heap.size wr Y2 := hS.trans (hb2.mono hS.size)
  have HS2 : Hid (ScIn Y2 (.agg #[.string s.name, vm2, ve2, vt2]) (canonS s)) := ⟨_, _, _, rfl, hM2.to_in, hE2.to_in, mt_in hT2⟩
  have HS12 : Hid (ScIn Y2 (.agg #[.string s.name, vm1, ve1, vt1]) (canonS s)) := HS1.out.below hb2
  clear hM2 hE2 hT2 HS1
  refine ⟨_, rfl, hS, ?_⟩
  simp only [List.setIfInBounds_toArray, List.set_cons_zero, List.set_cons_succ]
  refine rg_call 4 21 12 #[.agg #[.string s.name, vm1, ve1, vt1], .agg #[.string s.name, vm2, ve2, vt2]] rfl rfl (by kernel_rfl) (by rfl) (listed' := #[true, true, true, true, true, false, false, false, false, false, false, false, false, false, false, false, false, false, false, false, false, false, false, false, false, false, false, false, false, false, false, false, false]) (by kernel_rfl) (fun W => by go_simp) ?_
  refine (sschemas_any HS12.out HS2.out).mono ?_
  rintro e Y3 ⟨rfl, hb3⟩
  have hS : Below wr.heap.size wr Y3 := hS.trans (hb3.mono hS.size)
  refine ⟨_, rfl, hS, ?_⟩
  simp only [List.setIfInBounds_toArray, List.set_cons_zero, List.set_cons_succ]
  clear HS12 HS2
  refine rg_take 5 22 (.bool true) _ rfl rfl (by kernel_rfl) (by kernel_rfl) (by kernel_rfl) (fun _ _ _ h => h) (by rfl) (fun w' hw' => ?_) hS (listed' := #[true, true, true, true, true, true, false, false, false, false, false, false, false, false, false, false, false, false, false, false, false, false, false, false, false, false, false, false, false, false, false, false, false]) (by kernel_rfl) rfl ?_
  · go_simp
  simp only [List.setIfInBounds_toArray, List.set_cons_zero, List.set_cons_succ]
  refine rg_take 6 23 (.agg #[.string nm, .slice ua UM uc, .slice ue UE uec, .slice ut UT utc]) _ rfl rfl (by kernel_rfl) (by kernel_rfl) (by kernel_rfl) (fun _ _ _ h => h) (by rfl) (fun w' hw' => ?_) hS (listed' := #[true, true, true, true, true, true, true, false, false, false, false, false, false, false, false, false, false, false, false, false, false, false, false, false, false, false, false, false, false, false, false, false, false]) (by kernel_rfl) rfl ?_
  · obtain ⟨q1, q2, q3⟩ := HCL.out w' hw'; have x0 := (q3.cell 0).trans rfl; have x1 := (q3.cell 1).trans rfl; have x2 := (q3.cell 2).trans rfl; have x3 := (q3.cell 3).trans rfl; go_simp
  simp only [List.setIfInBounds_toArray, List.set_cons_zero, List.set_cons_succ]
  refine rg_take 8 25 (.agg #[.string nm, .slice am M cm, .slice ae E ce, .slice at' T ct]) _ rfl rfl (by kernel_rfl) (by kernel_rfl) (by kernel_rfl) (fun _ _ _ h => h) (by rfl) (fun w' hw' => ?_) hS (listed' := #[true, true, true, true, true, true, true, false, true, false, false, false, false, false, false, false, false, false, false, false, false, false, false, false, false, false, false, false, false, false, false, false, false]) (by kernel_rfl) rfl ?_
  · obtain ⟨q1, q2, q3⟩ := HCL.out w' hw'; have x0 := (q1.cell 0).trans rfl; have x1 := (q1.cell 1).trans rfl; have x2 := (q1.cell 2).trans rfl; have x3 := (q1.cell 3).trans rfl; go_simp
  simp only [List.setIfInBounds_toArray, List.set_cons_zero, List.set_cons_succ]
  refine rg_call 7 24 15 #[.agg #[.string nm, .slice ua UM uc, .slice ue UE uec, .slice ut UT utc]] rfl rfl (by kernel_rfl) (by rfl) (listed' := #[true, true, true, true, true, true, true, true, true, false, false, false, false, false, false, false, false, false, false, false, false, false, false, false, false, false, false, false, false, false, false, false, false]) (by kernel_rfl) (fun W => by go_simp) ?_
  refine (pprint_any (HCC.out.below hS) OS.out (HTW.out.below hS)).mono ?_
  rintro e Y4 ⟨rfl, hb4⟩
  rw [HPS.out]
  have hS : Below wr.heap.size wr Y4 := hS.trans (hb4.mono hS.size)
  refine ⟨_, rfl, hS, ?_⟩
  simp only [List.setIfInBounds_toArray, List.set_cons_zero, List.set_cons_succ]
  refine rg_call 9 26 16 #[.agg #[.string nm, .slice am M cm, .slice ae E ce, .slice at' T ct]] rfl rfl (by kernel_rfl) (by rfl) (listed' := #[true, true, true, true, true, true, true, true, true, true, false, false, false, false, false, false, false, false, false, false, false, false, false, false, false, false, false, false, false, false, false, false, false]) (by kernel_rfl) (fun W => by go_simp) ?_
  refine (rprint_any (HSS.out.below hS) HF.out HW.out).mono ?_
  rintro e Y5 ⟨rfl, hb5⟩
  rw [HPS.out]
  have hS : Below wr.heap.size wr Y5 := hS.trans (hb5.mono hS.size)
  refine ⟨_, rfl, hS, ?_⟩
  simp only [List.setIfInBounds_toArray, List.set_cons_zero, List.set_cons_succ]
  refine rg_take 10 27 (.bool true) _ rfl rfl (by kernel_rfl) (by kernel_rfl) (by kernel_rfl) (fun _ _ _ h => h) (by rfl) (fun w' hw' => ?_) hS (listed' := #[true, true, true, true, true, true, true, true, true, true, true, false, false, false, false, false, false, false, false, false, false, false, false, false, false, false, false, false, false, false, false, false, false]) (by kernel_rfl) rfl ?_
  · go_simp
  simp only [List.setIfInBounds_toArray, List.set_cons_zero, List.set_cons_succ]
  refine rg_take 11 28 (.bool true) _ rfl rfl (by kernel_rfl) (by kernel_rfl) (by kernel_rfl) (fun _ _ _ h => h) (by rfl) (fun w' hw' => ?_) hS (listed' := #[true, true, true, true, true, true, true, true, true, true, true, true, false, false, false, false, false, false, false, false, false, false, false, false, false, false, false, false, false, false, false, false, false]) (by kernel_rfl) rfl ?_
  · go_simp
  simp only [List.setIfInBounds_toArray, List.set_cons_zero, List.set_cons_succ]
  refine rg_take 12 29 (.bool true) _ rfl rfl (by kernel_rfl) (by kernel_rfl) (by kernel_rfl) (fun _ _ _ h => h) (by rfl) (fun w' hw' => ?_) hS (listed' := #[true, true, true, true, true, true, true, true, true, true, true, true, true, false, false, false, false, false, false, false, false, false, false, false, false, false, false, false, false, false, false, false, false]) (by kernel_rfl) rfl ?_
  · go_simp
  simp only [List.setIfInBounds_toArray, List.set_cons_zero, List.set_cons_succ]
  refine rg_take 13 30 (.agg #[.string nm, .slice ua UM uc, .slice ue UE uec, .slice ut UT utc]) _ rfl rfl (by kernel_rfl) (by kernel_rfl) (by kernel_rfl) (fun _ _ _ h => h) (by rfl) (fun w' hw' => ?_) hS (listed' := #[true, true, true, true, true, true, true, true, true, true, true, true, true, true, false, false, false, false, false, false, false, false, false, false, false, false, false, false, false, false, false, false, false]) (by kernel_rfl) rfl ?_
  · obtain ⟨q1, q2, q3⟩ := HCL.out w' hw'; have x0 := (q3.cell 0).trans rfl; have x1 := (q3.cell 1).trans rfl; have x2 := (q3.cell 2).trans rfl; have x3 := (q3.cell 3).trans rfl; go_simp
  simp only [List.setIfInBounds_toArray, List.set_cons_zero, List.set_cons_succ]
  refine rg_take 14 31 (.agg #[.string nm2, .slice am2 M2 cm2, .slice ae2 E2 ce2, .slice at2 T2 ct2]) _ rfl rfl (by kernel_rfl) (by kernel_rfl) (by kernel_rfl) (fun _ _ _ h => h) (by rfl) (fun w' hw' => ?_) hS (listed' := #[true, true, true, true, true, true, true, true, true, true, true, true, true, true, true, false, false, false, false, false, false, false, false, false, false, false, false, false, false, false, false, false, false]) (by kernel_rfl) rfl ?_
  · obtain ⟨q1, q2, q3⟩ := HCL.out w' hw'; have x0 := (q2.cell 0).trans rfl; have x1 := (q2.cell 1).trans rfl; have x2 := (q2.cell 2).trans rfl; have x3 := (q2.cell 3).trans rfl; go_simp
  simp only [List.setIfInBounds_toArray, List.set_cons_zero, List.set_cons_succ]
  refine rg_take 17 34 (.agg #[.string nm, .slice am M cm, .slice ae E ce, .slice at' T ct]) _ rfl rfl (by kernel_rfl) (by kernel_rfl) (by kernel_rfl) (fun _ _ _ h => h) (by rfl) (fun w' hw' => ?_) hS (listed' := #[true, true, true, true, true, true, true, true, true, true, true, true, true, true, true, false, false, true, false, false, false, false, false, false, false, false, false, false, false, false, false, false, false]) (by kernel_rfl) rfl ?_
  · obtain ⟨q1, q2, q3⟩ := HCL.out w' hw'; have x0 := (q1.cell 0).trans rfl; have x1 := (q1.cell 1).trans rfl; have x2 := (q1.cell 2).trans rfl; have x3 := (q1.cell 3).trans rfl; go_simp
  simp only [List.setIfInBounds_toArray, List.set_cons_zero, List.set_cons_succ]
  refine rg_take 19 36 (.agg #[.string nm2, .slice am2 M2 cm2, .slice ae2 E2 ce2, .slice at2 T2 ct2]) _ rfl rfl (by kernel_rfl) (by kernel_rfl) (by kernel_rfl) (fun _ _ _ h => h) (by rfl) (fun w' hw' => ?_) hS (listed' := #[true, true, true, true, true, true, true, true, true, true, true, true, true, true, true, false, false, true, false, true, false, false, false, false, false, false, false, false, false, false, false, false, false]) (by kernel_rfl) rfl ?_
  · obtain ⟨q1, q2, q3⟩ := HCL.out w' hw'; have x0 := (q2.cell 0).trans rfl; have x1 := (q2.cell 1).trans rfl; have x2 := (q2.cell 2).trans rfl; have x3 := (q2.cell 3).trans rfl; go_simp
  simp only [List.setIfInBounds_toArray, List.set_cons_zero, List.set_cons_succ]
  refine rg_call 15 32 11 #[.agg #[.string nm2, .slice am2 M2 cm2, .slice ae2 E2 ce2, .slice at2 T2 ct2]] rfl rfl (by kernel_rfl) (by rfl) (listed' := #[true, true, true, true, true, true, true, true, true, true, true, true, true, true, true, true, false, true, false, true, false, false, false, false, false, false, false, false, false, false, false, false, false]) (by kernel_rfl) (fun W => by go_simp) ?_
  refine (schema_any (HST.out.below hS) HF2.out.few).mono ?_
  rintro e Y6 ⟨vm6, ve6, vt6, qa6, qb6, rfl, hM6, hE6, hT6, hb6⟩
  have hS : Below wr.heap.size wr Y6 := hS.trans (hb6.mono hS.size)
  have HS6 : Hid (ScIn Y6 (.agg #[.string t.name, vm6, ve6, vt6]) t) := ⟨_, _, _, rfl, hM6.to_in, hE6.to_in, mt_in hT6⟩
  clear hM6 hE6 hT6
  refine ⟨_, rfl, hS, ?_⟩
  simp only [List.setIfInBounds_toArray, List.set_cons_zero, List.set_cons_succ]
  refine rg_call 16 33 17 #[.agg #[.string nm, .slice ua UM uc, .slice ue UE uec, .slice ut UT utc], .agg #[.string t.name, vm6, ve6, vt6]] rfl rfl (by kernel_rfl) (by rfl) (listed' := #[true, true, true, true, true, true, true, true, true, true, true, true, true, true, true, true, true, true, false, true, false, false, false, false, false, false, false, false, false, false, false, false, false]) (by kernel_rfl) (fun W => by go_simp) ?_
  refine (psame_any (HCC.out.below hS) HS6.out OS.out OT.out (HTW.out.below hS)).mono ?_
  rintro e Y7 ⟨rfl, hb7⟩
  rw [HPS.out, HPT2.out]
  obtain ⟨bq, hbq⟩ : ∃ b, (ps.toList == pt.toList) = b := ⟨_, rfl⟩
  rw [hbq]
  have hS : Below wr.heap.size wr Y7 := hS.trans (hb7.mono hS.size)
  refine ⟨_, rfl, hS, ?_⟩
  simp only [List.setIfInBounds_toArray, List.set_cons_zero, List.set_cons_succ]
  clear HS6
  refine rg_call 18 35 16 #[.agg #[.string nm, .slice am M cm, .slice ae E ce, .slice at' T ct]] rfl rfl (by kernel_rfl) (by rfl) (listed' := #[true, true, true, true, true, true, true, true, true, true, true, true, true, true, true, true, true, true, true, true, false, false, false, false, false, false, false, false, false, false, false, false, false]) (by kernel_rfl) (fun W => by go_simp) ?_
  refine (rprint_any (HSS.out.below hS) HF.out HW.out).mono ?_
  rintro e Y8 ⟨rfl, hb8⟩
  rw [HPS.out]
  have hS : Below wr.heap.size wr Y8 := hS.trans (hb8.mono hS.size)
  refine ⟨_, rfl, hS, ?_⟩
  simp only [List.setIfInBounds_toArray, List.set_cons_zero, List.set_cons_succ]
  refine rg_call 20 37 16 #[.agg #[.string nm2, .slice am2 M2 cm2, .slice ae2 E2 ce2, .slice at2 T2 ct2]] rfl rfl (by kernel_rfl) (by rfl) (listed' := #[true, true, true, true, true, true, true, true, true, true, true, true, true, true, true, true, true, true, true, true, true, false, false, false, false, false, false, false, false, false, false, false, false]) (by kernel_rfl) (fun W => by go_simp) ?_
  refine (rprint_any (HST.out.below hS) HF2.out HW2.out).mono ?_
  rintro e Y9 ⟨rfl, hb9⟩
  rw [HPT2.out]
  have hS : Below wr.heap.size wr Y9 := hS.trans (hb9.mono hS.size)
  refine ⟨_, rfl, hS, ?_⟩
  simp only [List.setIfInBounds_toArray, List.set_cons_zero, List.set_cons_succ]
  refine rg_take 21 38 (.bool bq) _ rfl rfl (by kernel_rfl) (by kernel_rfl) (by kernel_rfl) (fun _ _ _ h => h) (by rfl) (fun w' hw' => ?_) hS (listed' := #[true, true, true, true, true, true, true, true, true, true, true, true, true, true, true, true, true, true, true, true, true, true, false, false, false, false, false, false, false, false, false, false, false]) (by kernel_rfl) rfl ?_
  · rw [← hbq]; go_simp
  simp only [List.setIfInBounds_toArray, List.set_cons_zero, List.set_cons_succ]
  refine rg_take 22 39 (.bool true) _ rfl rfl (by kernel_rfl) (by kernel_rfl) (by kernel_rfl) (fun _ _ _ h => h) (by rfl) (fun w' hw' => ?_) hS (listed' := #[true, true, true, true, true, true, true, true, true, true, true, true, true, true, true, true, true, true, true, true, true, true, true, false, false, false, false, false, false, false, false, false, false]) (by kernel_rfl) rfl ?_
  · go_simp
  simp only [List.setIfInBounds_toArray, List.set_cons_zero, List.set_cons_succ]
  refine rg_take 23 40 (.bool true) _ rfl rfl (by kernel_rfl) (by kernel_rfl) (by kernel_rfl) (fun _ _ _ h => h) (by rfl) (fun w' hw' => ?_) hS (listed' := #[true, true, true, true, true, true, true, true, true, true, true, true, true, true, true, true, true, true, true, true, true, true, true, true, false, false, false, false, false, false, false, false, false]) (by kernel_rfl) rfl ?_
  · go_simp
  simp only [List.setIfInBounds_toArray, List.set_cons_zero, List.set_cons_succ]
  refine rg_take 24 41 (.bool true) _ rfl rfl (by kernel_rfl) (by kernel_rfl) (by kernel_rfl) (fun _ _ _ h => h) (by rfl) (fun w' hw' => ?_) hS (listed' := #[true, true, true, true, true, true, true, true, true, true, true, true, true, true, true, true, true, true, true, true, true, true, true, true, true, false, false, false, false, false, false, false, false]) (by kernel_rfl) rfl ?_
  · go_simp
  simp only [List.setIfInBounds_toArray, List.set_cons_zero, List.set_cons_succ]
  refine rg_take 25 42 (.agg #[.string nm, .slice ua UM uc, .slice ue UE uec, .slice ut UT utc]) _ rfl rfl (by kernel_rfl) (by kernel_rfl) (by kernel_rfl) (fun _ _ _ h => h) (by rfl) (fun w' hw' => ?_) hS (listed' := #[true, true, true, true, true, true, true, true, true, true, true, true, true, true, true, true, true, true, true, true, true, true, true, true, true, true, false, false, false, false, false, false, false]) (by kernel_rfl) rfl ?_
  · obtain ⟨q1, q2, q3⟩ := HCL.out w' hw'; have x0 := (q3.cell 0).trans rfl; have x1 := (q3.cell 1).trans rfl; have x2 := (q3.cell 2).trans rfl; have x3 := (q3.cell 3).trans rfl; go_simp
  simp only [List.setIfInBounds_toArray, List.set_cons_zero, List.set_cons_succ]
  refine rg_take 26 43 (.agg #[.string nm, .slice am M cm, .slice ae E ce, .slice at' T ct]) _ rfl rfl (by kernel_rfl) (by kernel_rfl) (by kernel_rfl) (fun _ _ _ h => h) (by rfl) (fun w' hw' => ?_) hS (listed' := #[true, true, true, true, true, true, true, true, true, true, true, true, true, true, true, true, true, true, true, true, true, true, true, true, true, true, true, false, false, false, false, false, false]) (by kernel_rfl) rfl ?_
  · obtain ⟨q1, q2, q3⟩ := HCL.out w' hw'; have x0 := (q1.cell 0).trans rfl; have x1 := (q1.cell 1).trans rfl; have x2 := (q1.cell 2).trans rfl; have x3 := (q1.cell 3).trans rfl; go_simp
  simp only [List.setIfInBounds_toArray, List.set_cons_zero, List.set_cons_succ]
  refine rg_call 27 44 12 #[.agg #[.string nm, .slice ua UM uc, .slice ue UE uec, .slice ut UT utc], .agg #[.string nm, .slice am M cm, .slice ae E ce, .slice at' T ct]] rfl rfl (by kernel_rfl) (by rfl) (listed' := #[true, true, true, true, true, true, true, true, true, true, true, true, true, true, true, true, true, true, true, true, true, true, true, true, true, true, true, true, false, false, false, false, false]) (by kernel_rfl) (fun W => by go_simp) ?_
  refine (sschemas_any (HCC.out.below hS) (HSS.out.below hS)).mono ?_
  rintro e Z1 ⟨rfl, hz1⟩
  have hS : Below wr.heap.size wr Z1 := hS.trans (hz1.mono hS.size)
  refine ⟨_, rfl, hS, ?_⟩
  simp only [List.setIfInBounds_toArray, List.set_cons_zero, List.set_cons_succ]
  refine rg_take 28 45 (.bool true) _ rfl rfl (by kernel_rfl) (by kernel_rfl) (by kernel_rfl) (fun _ _ _ h => h) (by rfl) (fun w' hw' => ?_) hS (listed' := #[true, true, true, true, true, true, true, true, true, true, true, true, true, true, true, true, true, true, true, true, true, true, true, true, true, true, true, true, true, false, false, false, false]) (by kernel_rfl) rfl ?_
  · go_simp
  simp only [List.setIfInBounds_toArray, List.set_cons_zero, List.set_cons_succ]
  refine rg_take 29 46 (.bool true) _ rfl rfl (by kernel_rfl) (by kernel_rfl) (by kernel_rfl) (fun _ _ _ h => h) (by rfl) (fun w' hw' => ?_) hS (listed' := #[true, true, true, true, true, true, true, true, true, true, true, true, true, true, true, true, true, true, true, true, true, true, true, true, true, true, true, true, true, true, false, false, false]) (by kernel_rfl) rfl ?_
  · go_simp
  simp only [List.setIfInBounds_toArray, List.set_cons_zero, List.set_cons_succ]
  refine rg_call 30 47 10 #[] rfl rfl (by kernel_rfl) (by rfl) (listed' := #[true, true, true, true, true, true, true, true, true, true, true, true, true, true, true, true, true, true, true, true, true, true, true, true, true, true, true, true, true, true, true, false, false]) (by kernel_rfl) (fun W => by go_simp) ?_
  refine (pawake_any _ (HGW.out.below hS) (HTW.out.below hS)).mono ?_
  rintro e Z2 ⟨rfl, hz2⟩
  have hS : Below wr.heap.size wr Z2 := hS.trans (hz2.mono hS.size)
  refine ⟨_, rfl, hS, ?_⟩
  simp only [List.setIfInBounds_toArray, List.set_cons_zero, List.set_cons_succ]
  refine rg_take 31 48 (.bool true) _ rfl rfl (by kernel_rfl) (by kernel_rfl) (by kernel_rfl) (fun _ _ _ h => h) (by rfl) (fun w' hw' => ?_) hS (listed' := #[true, true, true, true, true, true, true, true, true, true, true, true, true, true, true, true, true, true, true, true, true, true, true, true, true, true, true, true, true, true, true, true, false]) (by kernel_rfl) rfl ?_
  · go_simp
  simp only [List.setIfInBounds_toArray, List.set_cons_zero, List.set_cons_succ]
  refine rg_take 32 4 (.bool true) _ rfl rfl (by kernel_rfl) (by kernel_rfl) (by kernel_rfl) (fun _ _ _ h => h) (by rfl) (fun w' hw' => ?_) hS (listed' := #[true, true, true, true, true, true, true, true, true, true, true, true, true, true, true, true, true, true, true, true, true, true, true, true, true, true, true, true, true, true, true, true, true]) (by kernel_rfl) rfl ?_
  · go_simp
  simp only [List.setIfInBounds_toArray, List.set_cons_zero, List.set_cons_succ]
  refine wpAnyH_done (by kernel_rfl) ?_ _
  have hfin : Below w.heap.size w Z2 := hbel.trans (hS.mono hbel.size)
  clear hS HCL
  go_wp2_with fail
  go_ret
  exact ⟨rfl, hfin⟩
end Go.Proofs.YtkfhlgajeejgeaaGreatDoor

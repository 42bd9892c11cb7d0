/- PrintBack, walked. -/
import Derived.Test.YtkfhlgajeejgeaaGreatDoorPkC
import Derived.Test.YtkfhlgajeejgeaaGreatDoorPkD
import Derived.Test.YtkfhlgajeejgeaaGreatDoorPkE
import Derived.Test.YtkfhlgajeejgeaaGreatDoorPkM
import Derived.Test.YtkfhlgajeejgeaaGreatDoorPbParseP
import Derived.Test.YtkfhlgajeejgeaaGreatDoorSchSameP
namespace Go.Proofs.YtkfhlgajeejgeaaGreatDoor
open Go.ChangeShapes Go.WideShapes Go.ChangeAt Go.RowKit
set_option linter.unusedVariables false
set_option linter.unusedSimpArgs false
set_option maxRecDepth 20000

set_option maxHeartbeats 16000000 in
theorem printBack_walk (v : Value) (s : ScS) (w : World) (hr : ScIn w v s) (hw : ScW s) (hG : Glob w) (hPT : PTab w) :
    Calls Tryz.prog 5 #[v] w fun e w' => e = .returned (.bool true) ∧ Below w.heap.size w w' := by
  have HG : Hid (Glob w) := hG
  have HPT : Hid (PTab w) := hPT
  clear hG hPT
  have HSC : Hid (ScIn w v s) := hr
  have HW : Hid (ScW s) := hw
  obtain ⟨vm0, ve0, vt0, rfl, hm, he, ht⟩ := hr
  obtain ⟨am, cm, rfl, qm1, qm2⟩ := hm.form2
  obtain ⟨ae, ce, rfl, qe1, qe2⟩ := he.form2
  obtain ⟨at', ct, rfl, qt1, qt2⟩ := ht.form2
  have HMI : Hid (MsIn w (.slice am s.msgs.length cm) s.msgs) := hm
  have HEI : Hid (EnIn w (.slice ae s.enums.length ce) s.enums) := he
  have hTl : (mtRows s.methods).length = s.methods.length := by simp [mtRows]
  rw [hTl] at ht HSC ⊢
  have HTI : Hid (RowG w (.slice at' s.methods.length ct) 3 (mtRows s.methods)) := ht
  clear hm he ht hw hTl
  obtain ⟨T, hT⟩ : ∃ N, s.methods.length = N := ⟨_, rfl⟩
  obtain ⟨nm, hnm⟩ : ∃ x, s.name = x := ⟨_, rfl⟩
  obtain ⟨M, hM⟩ : ∃ N, s.msgs.length = N := ⟨_, rfl⟩
  obtain ⟨E, hE⟩ : ∃ N, s.enums.length = N := ⟨_, rfl⟩
  rw [hnm, hM, hE, hT] at HSC ⊢
  rw [hM] at HMI
  rw [hE] at HEI
  rw [hT] at HTI
  have HTN : Hid (s.methods.length = T) := hT
  clear hT
  have HNM : Hid (s.name = nm) := hnm
  have HM : Hid (s.msgs.length = M) := hM
  have HE : Hid (s.enums.length = E) := hE
  clear hnm hM hE qm1 qe1 qt1 qm2 qe2 qt2
  have hba : Below w.heap.size w (w.alloc (.cells #[.string nm, .slice am M cm, .slice ae E ce, .slice at' T ct] 26)) := (Below.refl _ _).alloc (Nat.le_refl _) _
  have BX := Blk.new w #[.string nm, .slice am M cm, .slice ae E ce, .slice at' T ct] 26
  go_enter Tryz.func5, Tryz.ntmps5
  go_wp2_with fail
  refine (few_any (HSC.out.below hba) HW.out).mono ?_
  rintro e w1 ⟨hP, hb1⟩
  have hbw1 : Below w.heap.size w w1 := hba.trans (hb1.mono hba.size)
  rcases hP with rfl | ⟨rfl, hF⟩
  · go_wp2_with fail
    refine (pawake_any _ (HG.out.below hbw1) (HPT.out.below hbw1)).mono ?_
    rintro e w2 ⟨rfl, hb2⟩
    go_wp2_with fail
    go_ret
    exact ⟨rfl, hbw1.trans (hb2.mono hbw1.size)⟩
  have HF : Hid (FewS s) := hF
  clear hF
  have BX1 := BX.below hb1
  have c0 := (BX1.cell 0).trans rfl
  have c1 := (BX1.cell 1).trans rfl
  have c2 := (BX1.cell 2).trans rfl
  have c3 := (BX1.cell 3).trans rfl
  go_wp2_with fail
  clear c0 c1 c2 c3 hb1 BX
  refine (schema_any (HSC.out.below hbw1) HF.out.few).mono ?_
  rintro e w2 ⟨um, ue, ut, qm, qe, rfl, hM2, hE2, hT2, hb2⟩
  have HCK : Hid (Calls Tryz.prog 20 #[.agg #[.string s.name, um, ue, ut]] w2 fun e w' => e = .returned (.int .i64 (checkA s)) ∧ Below w2.heap.size w2 w') := check_any ⟨_, _, _, rfl, hM2.to_in, hE2.to_in, mt_in hT2⟩ HW.out HF.out.few
  rw [HNM.out] at HCK ⊢
  have hbw2 : Below w.heap.size w w2 := hbw1.trans (hb2.mono hbw1.size)
  have BX2 := BX1.below hb2
  clear hM2 hE2 hT2 hb2 BX1 hbw1
  go_wp2_with fail
  refine HCK.out.mono ?_
  rintro e w3 ⟨rfl, hb3⟩
  have hbw3 : Below w.heap.size w w3 := hbw2.trans (hb3.mono hbw2.size)
  have BX3 := BX2.below hb3
  by_cases hok : checkA s = 0
  case neg =>
    have e1 : (checkA s == 0) = false := by simpa using hok
    go_wp2_with fail
    refine (pawake_any _ (HG.out.below hbw3) (HPT.out.below hbw3)).mono ?_
    rintro e w4 ⟨rfl, hb4⟩
    go_wp2_with fail
    go_ret
    exact ⟨rfl, hbw3.trans (hb4.mono hbw3.size)⟩
  have HOK : Hid (OkS s) := (checkA_ok s).1 hok
  rw [hok]
  clear hok HCK hb3 BX2 hbw2
  have c0 := (BX3.cell 0).trans rfl
  have c1 := (BX3.cell 1).trans rfl
  have c2 := (BX3.cell 2).trans rfl
  have c3 := (BX3.cell 3).trans rfl
  go_wp2_with fail
  clear c0 c1 c2 c3
  refine (schema_any (HSC.out.below hbw3) HF.out.few).mono ?_
  rintro e w4 ⟨tm, te, tt, pm, pe, rfl, hM4, hE4, hT4, hb4⟩
  have HS4 : Hid (ScIn w4 (.agg #[.string s.name, tm, te, tt]) s) := ⟨_, _, _, rfl, hM4.to_in, hE4.to_in, mt_in hT4⟩
  rw [HNM.out] at HS4 ⊢
  have BX4 := BX3.below hb4
  have hbw4 : Below w.heap.size w w4 := hbw3.trans (hb4.mono hbw3.size)
  have OS : Hid (PrO s) := pro_ok HF.out HW.out ((checkA_ok s).2 HOK.out)
  clear hM4 hE4 hT4 hb4 hbw3 BX3
  go_wp2_with fail
  refine (pprint_any HS4.out OS.out (HPT.out.below hbw4)).mono ?_
  rintro e w5 ⟨rfl, hb5⟩
  have BX5 := BX4.below hb5
  have hbw5 : Below w.heap.size w w5 := hbw4.trans (hb5.mono hbw4.size)
  clear HS4 hb5 BX4 hbw4
  obtain ⟨ps, hps⟩ : ∃ x, printB s = x := ⟨_, rfl⟩
  rw [hps]
  have HPS : Hid (printB s = ps) := hps
  clear hps
  by_cases hl : 16384 < ps.size
  · have hlz : (16384 : Int) < (ps.size : Int) := by omega
    go_wp2_with fail
    refine (pawake_any _ (HG.out.below hbw5) (HPT.out.below hbw5)).mono ?_
    rintro e w6 ⟨rfl, hb6⟩
    go_wp2_with fail
    go_ret
    exact ⟨rfl, hbw5.trans (hb6.mono hbw5.size)⟩
  have hlz : ¬ (16384 : Int) < (ps.size : Int) := by omega
  have HL : Hid (ps.size ≤ 16384) := by show _ ≤ _; omega
  have HRA : Hid (readA (canonS s, 0, 0) = (canonS s, 0, 0)) := by
    show _ = _
    unfold readA
    rw [if_pos rfl, if_pos ((check_canon s).2 ((checkA_ok s).2 HOK.out)), canon_twice]
  have OC : Hid (PrO (canonS s)) := OS.out.canon
  have HNC : Hid ((canonS s).name = nm) := HNM.out
  have HPC : Hid (printB (canonS s) = ps) := by show _ = _; rw [print_canon]; exact HPS.out
  have HPA : Hid (parseA ps = (canonS s, 0, 0)) := by show _ = _; rw [← HPS.out]; exact parse_back HOK.out (by rw [HPS.out]; exact HL.out)
  clear hl
  go_wp2_with fail
  clear hlz
  have hln : ps.size ≤ 140737488351232 := Nat.le_trans HL.out (by decide)
  refine (read_any ps hln (HG.out.below hbw5) (sc := canonS s) (p := 0) (e := 0) HPA.out (fun _ => ⟨OC.out.few, OC.out.wf⟩)).mono ?_
  rintro x w6 ⟨v6, rfl, hsc, hb6⟩
  rw [HRA.out] at hsc ⊢
  obtain ⟨xm, XM, xmc, xe, XE, xec, xt, XT, xtc, rfl⟩ := hsc.form
  rw [HNC.out] at hsc ⊢
  have HX6 : Hid (ScIn w6 (.agg #[.string nm, .slice xm XM xmc, .slice xe XE xec, .slice xt XT xtc]) (canonS s)) := hsc
  have hb7 : Below w6.heap.size w6 (w6.alloc (.cells #[.string nm, .slice xm XM xmc, .slice xe XE xec, .slice xt XT xtc] 26)) := (Below.refl _ _).alloc (Nat.le_refl _) _
  have BY := Blk.new w6 #[.string nm, .slice xm XM xmc, .slice xe XE xec, .slice xt XT xtc] 26
  have hbw6 : Below w.heap.size w w6 := hbw5.trans (hb6.mono hbw5.size)
  have HX : Hid (ScIn (w6.alloc (.cells #[.string nm, .slice xm XM xmc, .slice xe XE xec, .slice xt XT xtc] 26)) (.agg #[.string nm, .slice xm XM xmc, .slice xe XE xec, .slice xt XT xtc]) (canonS s)) := HX6.out.below hb7
  have BXX := (BX5.below hb6).below hb7
  have hbel : Below w.heap.size w (w6.alloc (.cells #[.string nm, .slice xm XM xmc, .slice xe XE xec, .slice xt XT xtc] 26)) := hbw6.trans (hb7.mono hbw6.size)
  obtain ⟨b7, hb7e⟩ : ∃ n, w6.heap.size = n := ⟨_, rfl⟩
  rw [hb7e] at BY
  go_upto_region 7 with fail
  generalize (w6.alloc (.cells #[.string nm, .slice xm XM xmc, .slice xe XE xec, .slice xt XT xtc] 26)) = wr at *
  clear hb7 hb6 hb7e hbw6 HX6 BX5 hbw5 hsc
  have HGW : Hid (Glob wr) := HG.out.below hbel
  have HTW : Hid (PTab wr) := HPT.out.below hbel
  have HSS : Hid (ScIn wr (.agg #[.string nm, .slice am M cm, .slice ae E ce, .slice at' T ct]) s) := HSC.out.below hbel
  have HCL : Hid (∀ W, Below wr.heap.size wr W → Blk W b7 #[.string nm, .slice xm XM xmc, .slice xe XE xec, .slice xt XT xtc] 26 ∧ Blk W w.heap.size #[.string nm, .slice am M cm, .slice ae E ce, .slice at' T ct] 26) := fun W hW => ⟨BY.below hW, BXX.below hW⟩
  clear BY BXX HG HPT
  refine wp_region_held_drew (S := fun W => Below wr.heap.size wr W) (by kernel_rfl) (below_drewN 1 (Below.refl _ _)) (fun hS => ?_)
  generalize wr.drew = Y at *
  refine rg_take 0 30 (.int .i64 0) _ rfl rfl (by kernel_rfl) (by kernel_rfl) (by kernel_rfl) (fun _ _ _ h => h) (by rfl) (fun w' hw' => ?_) hS (listed' := #[true, false, false, false, false, false, false, false, false, false, false, false, false, false, false, false, false, false, false, false, false, false, false, false, false, false, false, false]) (by kernel_rfl) rfl ?_
  · go_simp
  simp only [List.setIfInBounds_toArray, List.set_cons_zero, List.set_cons_succ]
  refine rg_take 1 31 (.bool true) _ rfl rfl (by kernel_rfl) (by kernel_rfl) (by kernel_rfl) (fun _ _ _ h => h) (by rfl) (fun w' hw' => ?_) hS (listed' := #[true, true, false, false, false, false, false, false, false, false, false, false, false, false, false, false, false, false, false, false, false, false, false, false, false, false, false, false]) (by kernel_rfl) rfl ?_
  · go_simp
  simp only [List.setIfInBounds_toArray, List.set_cons_zero, List.set_cons_succ]
  refine rg_take 2 32 (.bool true) _ rfl rfl (by kernel_rfl) (by kernel_rfl) (by kernel_rfl) (fun _ _ _ h => h) (by rfl) (fun w' hw' => ?_) hS (listed' := #[true, true, true, false, false, false, false, false, false, false, false, false, false, false, false, false, false, false, false, false, false, false, false, false, false, false, false, false]) (by kernel_rfl) rfl ?_
  · go_simp
  simp only [List.setIfInBounds_toArray, List.set_cons_zero, List.set_cons_succ]
  refine rg_take 3 33 (.int .i64 0) _ rfl rfl (by kernel_rfl) (by kernel_rfl) (by kernel_rfl) (fun _ _ _ h => h) (by rfl) (fun w' hw' => ?_) hS (listed' := #[true, true, true, true, false, false, false, false, false, false, false, false, false, false, false, false, false, false, false, false, false, false, false, false, false, false, false, false]) (by kernel_rfl) rfl ?_
  · go_simp
  simp only [List.setIfInBounds_toArray, List.set_cons_zero, List.set_cons_succ]
  refine rg_take 4 34 (.bool true) _ rfl rfl (by kernel_rfl) (by kernel_rfl) (by kernel_rfl) (fun _ _ _ h => h) (by rfl) (fun w' hw' => ?_) hS (listed' := #[true, true, true, true, true, false, false, false, false, false, false, false, false, false, false, false, false, false, false, false, false, false, false, false, false, false, false, false]) (by kernel_rfl) rfl ?_
  · go_simp
  simp only [List.setIfInBounds_toArray, List.set_cons_zero, List.set_cons_succ]
  refine rg_take 5 35 (.bool true) _ rfl rfl (by kernel_rfl) (by kernel_rfl) (by kernel_rfl) (fun _ _ _ h => h) (by rfl) (fun w' hw' => ?_) hS (listed' := #[true, true, true, true, true, true, false, false, false, false, false, false, false, false, false, false, false, false, false, false, false, false, false, false, false, false, false, false]) (by kernel_rfl) rfl ?_
  · go_simp
  simp only [List.setIfInBounds_toArray, List.set_cons_zero, List.set_cons_succ]
  refine rg_take 6 36 (.bool true) _ rfl rfl (by kernel_rfl) (by kernel_rfl) (by kernel_rfl) (fun _ _ _ h => h) (by rfl) (fun w' hw' => ?_) hS (listed' := #[true, true, true, true, true, true, true, false, false, false, false, false, false, false, false, false, false, false, false, false, false, false, false, false, false, false, false, false]) (by kernel_rfl) rfl ?_
  · go_simp
  simp only [List.setIfInBounds_toArray, List.set_cons_zero, List.set_cons_succ]
  refine rg_take 7 37 (.agg #[.string nm, .slice xm XM xmc, .slice xe XE xec, .slice xt XT xtc]) _ rfl rfl (by kernel_rfl) (by kernel_rfl) (by kernel_rfl) (fun _ _ _ h => h) (by rfl) (fun w' hw' => ?_) hS (listed' := #[true, true, true, true, true, true, true, true, false, false, false, false, false, false, false, false, false, false, false, false, false, false, false, false, false, false, false, false]) (by kernel_rfl) rfl ?_
  · obtain ⟨q1, q2⟩ := HCL.out w' hw'; have x0 := (q1.cell 0).trans rfl; have x1 := (q1.cell 1).trans rfl; have x2 := (q1.cell 2).trans rfl; have x3 := (q1.cell 3).trans rfl; go_simp
  simp only [List.setIfInBounds_toArray, List.set_cons_zero, List.set_cons_succ]
  refine rg_take 8 38 (.agg #[.string nm, .slice am M cm, .slice ae E ce, .slice at' T ct]) _ rfl rfl (by kernel_rfl) (by kernel_rfl) (by kernel_rfl) (fun _ _ _ h => h) (by rfl) (fun w' hw' => ?_) hS (listed' := #[true, true, true, true, true, true, true, true, true, false, false, false, false, false, false, false, false, false, false, false, false, false, false, false, false, false, false, false]) (by kernel_rfl) rfl ?_
  · obtain ⟨q1, q2⟩ := HCL.out w' hw'; have x0 := (q2.cell 0).trans rfl; have x1 := (q2.cell 1).trans rfl; have x2 := (q2.cell 2).trans rfl; have x3 := (q2.cell 3).trans rfl; go_simp
  simp only [List.setIfInBounds_toArray, List.set_cons_zero, List.set_cons_succ]
  refine rg_call 9 39 11 #[.agg #[.string nm, .slice am M cm, .slice ae E ce, .slice at' T ct]] rfl rfl (by kernel_rfl) (by rfl) (listed' := #[true, true, true, true, true, true, true, true, true, true, false, false, false, false, false, false, false, false, false, false, false, false, false, false, false, false, false, false]) (by kernel_rfl) (fun W => by go_simp) ?_
  refine (schema_any (HSS.out.below hS) HF.out.few).mono ?_
  rintro e Y2 ⟨um, ue, ut, qq, qx, rfl, hM2, hE2, hT2, hb2⟩
  have hS : Below wr.heap.size wr Y2 := hS.trans (hb2.mono hS.size)
  have HS2 : Hid (ScIn Y2 (.agg #[.string s.name, um, ue, ut]) s) := ⟨_, _, _, rfl, hM2.to_in, hE2.to_in, mt_in hT2⟩
  refine ⟨_, rfl, hS, ?_⟩
  simp only [List.setIfInBounds_toArray, List.set_cons_zero, List.set_cons_succ]
  clear hM2 hE2 hT2
  refine rg_call 10 40 13 #[.agg #[.string s.name, um, ue, ut]] rfl rfl (by kernel_rfl) (by rfl) (listed' := #[true, true, true, true, true, true, true, true, true, true, true, false, false, false, false, false, false, false, false, false, false, false, false, false, false, false, false, false]) (by kernel_rfl) (fun W => by go_simp) ?_
  refine (canon_any HS2.out OS.out.few OS.out.cap).mono ?_
  rintro e Y3 ⟨vm, ve, vt, qr, qy, rfl, hM3, hE3, hT3, hb3⟩
  have hS : Below wr.heap.size wr Y3 := hS.trans (hb3.mono hS.size)
  have HS3 : Hid (ScIn Y3 (.agg #[.string s.name, vm, ve, vt]) (canonS s)) := ⟨_, _, _, rfl, hM3.to_in, hE3.to_in, mt_in hT3⟩
  refine ⟨_, rfl, hS, ?_⟩
  simp only [List.setIfInBounds_toArray, List.set_cons_zero, List.set_cons_succ]
  clear hM3 hE3 hT3 HS2
  refine rg_call 11 41 12 #[.agg #[.string nm, .slice xm XM xmc, .slice xe XE xec, .slice xt XT xtc], .agg #[.string s.name, vm, ve, vt]] rfl rfl (by kernel_rfl) (by rfl) (listed' := #[true, true, true, true, true, true, true, true, true, true, true, true, false, false, false, false, false, false, false, false, false, false, false, false, false, false, false, false]) (by kernel_rfl) (fun W => by go_simp) ?_
  refine (sschemas_any (HX.out.below hS) HS3.out).mono ?_
  rintro e Y4 ⟨rfl, hb4⟩
  have hS : Below wr.heap.size wr Y4 := hS.trans (hb4.mono hS.size)
  refine ⟨_, rfl, hS, ?_⟩
  simp only [List.setIfInBounds_toArray, List.set_cons_zero, List.set_cons_succ]
  clear HS3
  refine rg_take 12 42 (.bool true) _ rfl rfl (by kernel_rfl) (by kernel_rfl) (by kernel_rfl) (fun _ _ _ h => h) (by rfl) (fun w' hw' => ?_) hS (listed' := #[true, true, true, true, true, true, true, true, true, true, true, true, true, false, false, false, false, false, false, false, false, false, false, false, false, false, false, false]) (by kernel_rfl) rfl ?_
  · go_simp
  simp only [List.setIfInBounds_toArray, List.set_cons_zero, List.set_cons_succ]
  refine rg_take 13 43 (.bool true) _ rfl rfl (by kernel_rfl) (by kernel_rfl) (by kernel_rfl) (fun _ _ _ h => h) (by rfl) (fun w' hw' => ?_) hS (listed' := #[true, true, true, true, true, true, true, true, true, true, true, true, true, true, false, false, false, false, false, false, false, false, false, false, false, false, false, false]) (by kernel_rfl) rfl ?_
  · go_simp
  simp only [List.setIfInBounds_toArray, List.set_cons_zero, List.set_cons_succ]
  refine rg_take 14 44 (.agg #[.string nm, .slice xm XM xmc, .slice xe XE xec, .slice xt XT xtc]) _ rfl rfl (by kernel_rfl) (by kernel_rfl) (by kernel_rfl) (fun _ _ _ h => h) (by rfl) (fun w' hw' => ?_) hS (listed' := #[true, true, true, true, true, true, true, true, true, true, true, true, true, true, true, false, false, false, false, false, false, false, false, false, false, false, false, false]) (by kernel_rfl) rfl ?_
  · obtain ⟨q1, q2⟩ := HCL.out w' hw'; have x0 := (q1.cell 0).trans rfl; have x1 := (q1.cell 1).trans rfl; have x2 := (q1.cell 2).trans rfl; have x3 := (q1.cell 3).trans rfl; go_simp
  simp only [List.setIfInBounds_toArray, List.set_cons_zero, List.set_cons_succ]
  refine rg_take 16 46 (.string ps) _ rfl rfl (by kernel_rfl) (by kernel_rfl) (by kernel_rfl) (fun _ _ _ h => h) (by rfl) (fun w' hw' => ?_) hS (listed' := #[true, true, true, true, true, true, true, true, true, true, true, true, true, true, true, false, true, false, false, false, false, false, false, false, false, false, false, false]) (by kernel_rfl) rfl ?_
  · go_simp
  simp only [List.setIfInBounds_toArray, List.set_cons_zero, List.set_cons_succ]
  refine rg_call 15 45 15 #[.agg #[.string nm, .slice xm XM xmc, .slice xe XE xec, .slice xt XT xtc]] rfl rfl (by kernel_rfl) (by rfl) (listed' := #[true, true, true, true, true, true, true, true, true, true, true, true, true, true, true, true, true, false, false, false, false, false, false, false, false, false, false, false]) (by kernel_rfl) (fun W => by go_simp) ?_
  refine (pprint_any (HX.out.below hS) OC.out (HTW.out.below hS)).mono ?_
  rintro e Y5 ⟨rfl, hb5⟩
  rw [HPC.out]
  have hS : Below wr.heap.size wr Y5 := hS.trans (hb5.mono hS.size)
  refine ⟨_, rfl, hS, ?_⟩
  simp only [List.setIfInBounds_toArray, List.set_cons_zero, List.set_cons_succ]
  refine rg_take 17 47 (.bool true) _ rfl rfl (by kernel_rfl) (by kernel_rfl) (by kernel_rfl) (fun _ _ _ h => h) (by rfl) (fun w' hw' => ?_) hS (listed' := #[true, true, true, true, true, true, true, true, true, true, true, true, true, true, true, true, true, true, false, false, false, false, false, false, false, false, false, false]) (by kernel_rfl) rfl ?_
  · go_simp
  simp only [List.setIfInBounds_toArray, List.set_cons_zero, List.set_cons_succ]
  refine rg_take 18 48 (.bool true) _ rfl rfl (by kernel_rfl) (by kernel_rfl) (by kernel_rfl) (fun _ _ _ h => h) (by rfl) (fun w' hw' => ?_) hS (listed' := #[true, true, true, true, true, true, true, true, true, true, true, true, true, true, true, true, true, true, true, false, false, false, false, false, false, false, false, false]) (by kernel_rfl) rfl ?_
  · go_simp
  simp only [List.setIfInBounds_toArray, List.set_cons_zero, List.set_cons_succ]
  refine rg_take 19 49 (.bool true) _ rfl rfl (by kernel_rfl) (by kernel_rfl) (by kernel_rfl) (fun _ _ _ h => h) (by rfl) (fun w' hw' => ?_) hS (listed' := #[true, true, true, true, true, true, true, true, true, true, true, true, true, true, true, true, true, true, true, true, false, false, false, false, false, false, false, false]) (by kernel_rfl) rfl ?_
  · go_simp
  simp only [List.setIfInBounds_toArray, List.set_cons_zero, List.set_cons_succ]
  refine rg_take 20 50 (.agg #[.string nm, .slice xm XM xmc, .slice xe XE xec, .slice xt XT xtc]) _ rfl rfl (by kernel_rfl) (by kernel_rfl) (by kernel_rfl) (fun _ _ _ h => h) (by rfl) (fun w' hw' => ?_) hS (listed' := #[true, true, true, true, true, true, true, true, true, true, true, true, true, true, true, true, true, true, true, true, true, false, false, false, false, false, false, false]) (by kernel_rfl) rfl ?_
  · obtain ⟨q1, q2⟩ := HCL.out w' hw'; have x0 := (q1.cell 0).trans rfl; have x1 := (q1.cell 1).trans rfl; have x2 := (q1.cell 2).trans rfl; have x3 := (q1.cell 3).trans rfl; go_simp
  simp only [List.setIfInBounds_toArray, List.set_cons_zero, List.set_cons_succ]
  refine rg_take 21 51 (.agg #[.string nm, .slice am M cm, .slice ae E ce, .slice at' T ct]) _ rfl rfl (by kernel_rfl) (by kernel_rfl) (by kernel_rfl) (fun _ _ _ h => h) (by rfl) (fun w' hw' => ?_) hS (listed' := #[true, true, true, true, true, true, true, true, true, true, true, true, true, true, true, true, true, true, true, true, true, true, false, false, false, false, false, false]) (by kernel_rfl) rfl ?_
  · obtain ⟨q1, q2⟩ := HCL.out w' hw'; have x0 := (q2.cell 0).trans rfl; have x1 := (q2.cell 1).trans rfl; have x2 := (q2.cell 2).trans rfl; have x3 := (q2.cell 3).trans rfl; go_simp
  simp only [List.setIfInBounds_toArray, List.set_cons_zero, List.set_cons_succ]
  refine rg_call 22 52 17 #[.agg #[.string nm, .slice xm XM xmc, .slice xe XE xec, .slice xt XT xtc], .agg #[.string nm, .slice am M cm, .slice ae E ce, .slice at' T ct]] rfl rfl (by kernel_rfl) (by rfl) (listed' := #[true, true, true, true, true, true, true, true, true, true, true, true, true, true, true, true, true, true, true, true, true, true, true, false, false, false, false, false]) (by kernel_rfl) (fun W => by go_simp) ?_
  refine (psame_any (HX.out.below hS) (HSS.out.below hS) OC.out OS.out (HTW.out.below hS)).mono ?_
  rintro e Y6 ⟨rfl, hb6⟩
  have hS : Below wr.heap.size wr Y6 := hS.trans (hb6.mono hS.size)
  rw [show ((printB (canonS s)).toList == (printB s).toList) = true by rw [HPC.out, HPS.out]; simp]
  refine ⟨_, rfl, hS, ?_⟩
  simp only [List.setIfInBounds_toArray, List.set_cons_zero, List.set_cons_succ]
  refine rg_take 23 53 (.bool true) _ rfl rfl (by kernel_rfl) (by kernel_rfl) (by kernel_rfl) (fun _ _ _ h => h) (by rfl) (fun w' hw' => ?_) hS (listed' := #[true, true, true, true, true, true, true, true, true, true, true, true, true, true, true, true, true, true, true, true, true, true, true, true, false, false, false, false]) (by kernel_rfl) rfl ?_
  · go_simp
  simp only [List.setIfInBounds_toArray, List.set_cons_zero, List.set_cons_succ]
  refine rg_take 24 54 (.bool true) _ rfl rfl (by kernel_rfl) (by kernel_rfl) (by kernel_rfl) (fun _ _ _ h => h) (by rfl) (fun w' hw' => ?_) hS (listed' := #[true, true, true, true, true, true, true, true, true, true, true, true, true, true, true, true, true, true, true, true, true, true, true, true, true, false, false, false]) (by kernel_rfl) rfl ?_
  · go_simp
  simp only [List.setIfInBounds_toArray, List.set_cons_zero, List.set_cons_succ]
  refine rg_call 25 55 10 #[] rfl rfl (by kernel_rfl) (by rfl) (listed' := #[true, true, true, true, true, true, true, true, true, true, true, true, true, true, true, true, true, true, true, true, true, true, true, true, true, true, false, false]) (by kernel_rfl) (fun W => by go_simp) ?_
  refine (pawake_any _ (HGW.out.below hS) (HTW.out.below hS)).mono ?_
  rintro e Y7 ⟨rfl, hb7⟩
  have hS : Below wr.heap.size wr Y7 := hS.trans (hb7.mono hS.size)
  refine ⟨_, rfl, hS, ?_⟩
  simp only [List.setIfInBounds_toArray, List.set_cons_zero, List.set_cons_succ]
  refine rg_take 26 56 (.bool true) _ rfl rfl (by kernel_rfl) (by kernel_rfl) (by kernel_rfl) (fun _ _ _ h => h) (by rfl) (fun w' hw' => ?_) hS (listed' := #[true, true, true, true, true, true, true, true, true, true, true, true, true, true, true, true, true, true, true, true, true, true, true, true, true, true, true, false]) (by kernel_rfl) rfl ?_
  · go_simp
  simp only [List.setIfInBounds_toArray, List.set_cons_zero, List.set_cons_succ]
  refine rg_take 27 2 (.bool true) _ rfl rfl (by kernel_rfl) (by kernel_rfl) (by kernel_rfl) (fun _ _ _ h => h) (by rfl) (fun w' hw' => ?_) hS (listed' := #[true, true, true, true, true, true, true, true, true, true, true, true, true, true, true, true, true, true, true, true, true, true, true, true, true, true, true, true]) (by kernel_rfl) rfl ?_
  · go_simp
  simp only [List.setIfInBounds_toArray, List.set_cons_zero, List.set_cons_succ]
  refine wpAnyH_done (by kernel_rfl) ?_ _
  have hfin : Below w.heap.size w Y7 := hbel.trans (hS.mono hbel.size)
  clear hS HCL
  go_wp2_with fail
  go_ret
  exact ⟨rfl, hfin⟩
end Go.Proofs.YtkfhlgajeejgeaaGreatDoor

/- CheckAll, walked. -/
import Derived.Test.YtomeppgmmlaibaaLwFew
import Derived.Test.YtomeppgmmlaibaaLwSchema
import Derived.Test.YtomeppgmmlaibaaCkFindM
import Derived.Test.YtomeppgmmlaibaaCkRes
import Derived.Test.YtomeppgmmlaibaaCkAwake
import Derived.Test.YtomeppgmmlaibaaScOpen
import Derived.Test.YtomeppgmmlaibaaScSame
import Derived.Test.YtomeppgmmlaibaaCrCheck
namespace Go.Proofs.Ytomeppgmmlaibaa
open Go.ChangeShapes Go.WideShapes Go.ChangeAt Go.RowKit
set_option linter.unusedVariables false
set_option linter.unusedSimpArgs false
set_option maxRecDepth 20000

set_option maxHeartbeats 16000000 in
theorem checkAll_walk (v : Value) (s : ScS) (q : ByteArray) (tg : Int) (w : World) (hr : ScIn w v s) (hw : ScW s) (hq : q.size ≤ 140737488351232) (g1 : (Lit.int .i64 tg).wf = true) :
    Calls Try.prog 3 #[v, .string q, .int .i64 tg] w fun e w' => e = .returned (.bool true) ∧ Below w.heap.size w w' := by
  clear hq g1
  have HSC : Hid (ScIn w v s) := hr
  have HW : Hid (ScW s) := hw
  obtain ⟨vm0, ve0, vt0, rfl, hm, he, ht⟩ := hr
  obtain ⟨am, cm, rfl, qm1, qm2⟩ := hm.form2
  obtain ⟨ae, ce, rfl, qe1, qe2⟩ := he.form2
  obtain ⟨at', ct, rfl, qt1, qt2⟩ := ht.form2
  have HMI : Hid (MsIn w (.slice am s.msgs.length cm) s.msgs) := hm
  have HEI : Hid (EnIn w (.slice ae s.enums.length ce) s.enums) := he
  have hTl : (mtRows s.methods).length = s.methods.length := by simp [mtRows]
  rw [hTl] at ht HSC ⊢
  have HTI : Hid (RowG w (.slice at' s.methods.length ct) 3 (mtRows s.methods)) := ht
  clear hm he ht hw hTl
  obtain ⟨T, hT⟩ : ∃ N, s.methods.length = N := ⟨_, rfl⟩
  obtain ⟨nm, hnm⟩ : ∃ x, s.name = x := ⟨_, rfl⟩
  obtain ⟨M, hM⟩ : ∃ N, s.msgs.length = N := ⟨_, rfl⟩
  obtain ⟨E, hE⟩ : ∃ N, s.enums.length = N := ⟨_, rfl⟩
  rw [hnm, hM, hE, hT] at HSC ⊢
  rw [hM] at HMI
  rw [hE] at HEI
  rw [hT] at HTI
  have HTN : Hid (s.methods.length = T) := hT
  clear hT
  have HNM : Hid (s.name = nm) := hnm
  have HM : Hid (s.msgs.length = M) := hM
  have HE : Hid (s.enums.length = E) := hE
  clear hnm hM hE qm1 qe1 qt1 qm2 qe2 qt2
  have hba : Below w.heap.size w (w.alloc (.cells #[.string nm, .slice am M cm, .slice ae E ce, .slice at' T ct] 26)) := (Below.refl _ _).alloc (Nat.le_refl _) _
  have BX := Blk.new w #[.string nm, .slice am M cm, .slice ae E ce, .slice at' T ct] 26
  go_enter Try.func3, Try.ntmps3
  go_wp2_with fail
  refine (few_any (HSC.out.below hba) HW.out).mono ?_
  rintro e w1 ⟨hP, hb1⟩
  have hbw1 : Below w.heap.size w w1 := hba.trans (hb1.mono hba.size)
  rcases hP with rfl | ⟨rfl, hF⟩
  · go_wp2_with fail
    refine (awake_any _).mono ?_
    rintro e w2 ⟨rfl, hb2⟩
    go_wp2_with fail
    go_ret
    exact ⟨rfl, hbw1.trans (hb2.mono hbw1.size)⟩
  have HF : Hid (FewS s) := hF
  clear hF
  have BX1 := BX.below hb1
  have c0 := (BX1.cell 0).trans rfl
  have c1 := (BX1.cell 1).trans rfl
  have c2 := (BX1.cell 2).trans rfl
  have c3 := (BX1.cell 3).trans rfl
  go_wp2_with fail
  clear c0 c1 c2 c3 hb1 BX
  refine (schema_any (HSC.out.below hbw1) HF.out.few).mono ?_
  rintro e w2 ⟨um, ue, ut, qm, qe, rfl, hM2, hE2, hT2, hb2⟩
  rw [HNM.out]
  have hbw2 : Below w.heap.size w w2 := hbw1.trans (hb2.mono hbw1.size)
  have BX2 := BX1.below hb2
  have mi := hM2.to_in
  have ei := hE2.to_in
  have ti := mt_in hT2
  obtain ⟨ua, uc, hum⟩ := own_form hM2.own
  obtain ⟨ue, ec, hue⟩ := own_form hE2.own
  obtain ⟨ut, tc, hut⟩ := own_form hT2
  subst hum
  subst hue
  subst hut
  rw [HM.out] at mi ⊢
  rw [HE.out] at ei ⊢
  rw [HTN.out] at ti ⊢
  clear hM2 hE2 hT2 hb2 BX1 hbw1
  have ha : Below w2.heap.size w2 (w2.alloc (.cells #[.string nm, .slice ua M uc, .slice ue E ec, .slice ut T tc] 26)) := (Below.refl _ _).alloc (Nat.le_refl _) _
  have hb3 : Below w.heap.size w (w2.alloc (.cells #[.string nm, .slice ua M uc, .slice ue E ec, .slice ut T tc] 26)) := hbw2.trans (ha.mono hbw2.size)
  have BS3 := BX2.below ha
  have BC3 := Blk.new w2 #[.string nm, .slice ua M uc, .slice ue E ec, .slice ut T tc] 26
  have HMC : Hid (MsIn (w2.alloc (.cells #[.string nm, .slice ua M uc, .slice ue E ec, .slice ut T tc] 26)) (.slice ua M uc) s.msgs) := mi.below ha
  have HEC : Hid (EnIn (w2.alloc (.cells #[.string nm, .slice ua M uc, .slice ue E ec, .slice ut T tc] 26)) (.slice ue E ec) s.enums) := ei.below ha
  have HTC : Hid (RowG (w2.alloc (.cells #[.string nm, .slice ua M uc, .slice ue E ec, .slice ut T tc] 26)) (.slice ut T tc) 3 (mtRows s.methods)) := ti.below ha
  clear ha mi ei ti BX2 hbw2
  go_wp2_with fail
  generalize (w2.alloc (.cells #[.string nm, .slice ua M uc, .slice ue E ec, .slice ut T tc] 26)) = w3 at *
  obtain ⟨b7, hb7⟩ : ∃ n, w2.heap.size = n := ⟨_, rfl⟩
  rw [hb7] at BC3 ⊢
  clear hb7
  obtain ⟨X, hX⟩ : ∃ X, checkA s = X := ⟨_, rfl⟩
  have HCK : Hid (∀ W, Below w3.heap.size w3 W → Calls Try.prog 11 #[.agg #[.string nm, .slice ua M uc, .slice ue E ec, .slice ut T tc]] W fun e W' => e = .returned (.int .i64 X) ∧ Below w3.heap.size w3 W') := fun W hW => by
    rw [← hX]
    refine (check_any (s := s) (v := .agg #[.string nm, .slice ua M uc, .slice ue E ec, .slice ut T tc]) ⟨_, _, _, by rw [← HNM.out], HMC.out.below hW, HEC.out.below hW, HTC.out.below hW⟩ HW.out HF.out.few).mono ?_
    rintro e W' ⟨rfl, hb⟩
    exact ⟨rfl, hW.trans (hb.mono hW.size)⟩
  have HRK : Hid (∀ W, Below w3.heap.size w3 W → Calls Try.prog 12 #[.agg #[.string nm, .slice am M cm, .slice ae E ce, .slice at' T ct]] W fun e W' => e = .returned (.int .i64 X) ∧ Below w3.heap.size w3 W') := fun W hW => by
    rw [← hX]
    refine (rcheck_any (HSC.out.below (hb3.trans (hW.mono hb3.size))) HF.out).mono ?_
    rintro e W' ⟨rfl, hb⟩
    exact ⟨rfl, hW.trans (hb.mono hW.size)⟩
  have s0 : w3.cell? ⟨w.heap.size, 0, none⟩ = some (.string nm) := BS3.cell 0
  have s1 : w3.cell? ⟨w.heap.size, 1, none⟩ = some (.slice am M cm) := BS3.cell 1
  have s2 : w3.cell? ⟨w.heap.size, 2, none⟩ = some (.slice ae E ce) := BS3.cell 2
  have s3 : w3.cell? ⟨w.heap.size, 3, none⟩ = some (.slice at' T ct) := BS3.cell 3
  have c0 : w3.cell? ⟨b7, 0, none⟩ = some (.string nm) := BC3.cell 0
  have c1 : w3.cell? ⟨b7, 1, none⟩ = some (.slice ua M uc) := BC3.cell 1
  have c2 : w3.cell? ⟨b7, 2, none⟩ = some (.slice ue E ec) := BC3.cell 2
  have c3 : w3.cell? ⟨b7, 3, none⟩ = some (.slice ut T tc) := BC3.cell 3
  clear hX
  have kk0 := kept_cell s0
  have kk1 := kept_cell s1
  have kk2 := kept_cell s2
  have kk3 := kept_cell s3
  have kk4 := kept_cell c0
  have kk5 := kept_cell c1
  have kk6 := kept_cell c2
  have kk7 := kept_cell c3
  haveI := nonempty_qb (Below.refl w3.heap.size w3)
  refine wp_region_qb (Below.refl w3.heap.size w3) (by kernel_rfl) (by kernel_rfl) ?_
  repeat (go_big_quiet_step (first | (go_at_call 11; exact qb_call HCK.out) | (go_at_call 12; exact qb_call HRK.out)))
  refine wpQuiet_nil ?_
  rintro w4 ⟨⟨_, hW⟩, rfl⟩
  clear kk0 kk1 kk2 kk3 kk4 kk5 kk6 kk7
  clear s0 s1 s2 s3 c0 c1 c2 c3 HCK HRK
  have hb' : Below w.heap.size w w4 := hb3.trans (hW.mono hb3.size)
  have BS' : Blk w4 w.heap.size #[.string nm, .slice am M cm, .slice ae E ce, .slice at' T ct] 26 := BS3.below hW
  have BC' : Blk w4 b7 #[.string nm, .slice ua M uc, .slice ue E ec, .slice ut T tc] 26 := BC3.below hW
  have HMC' : Hid (MsIn w4 (.slice ua M uc) s.msgs) := HMC.out.below hW
  have HEC' : Hid (EnIn w4 (.slice ue E ec) s.enums) := HEC.out.below hW
  have HTC' : Hid (RowG w4 (.slice ut T tc) 3 (mtRows s.methods)) := HTC.out.below hW
  clear hb3
  have hb := hb'
  clear hb'
  clear BS3
  have BS := BS'
  clear BS'
  clear BC3
  have BC := BC'
  clear BC'
  clear HMC
  have HMC := HMC'
  clear HMC'
  clear HEC
  have HEC := HEC'
  clear HEC'
  clear HTC
  have HTC := HTC'
  clear HTC'
  clear hW
  obtain ⟨⟨y0, yf, yr⟩, hy⟩ : ∃ y, (s.msgs.find? fun m => decide (m.name = q)).getD zeroM = y := ⟨_, rfl⟩
  obtain ⟨yb, hyb⟩ : ∃ y, (s.msgs.find? fun m => decide (m.name = q)).isSome = y := ⟨_, rfl⟩
  obtain ⟨⟨z0, zv⟩, hz⟩ : ∃ y, (s.enums.find? fun m => decide (m.name = q)).getD zeroN = y := ⟨_, rfl⟩
  obtain ⟨zb, hzb⟩ : ∃ y, (s.enums.find? fun m => decide (m.name = q)).isSome = y := ⟨_, rfl⟩
  obtain ⟨⟨x0, x1, x2⟩, hx⟩ : ∃ y, (s.methods.find? fun m => decide (m.name = q)).getD zeroT = y := ⟨_, rfl⟩
  obtain ⟨xb, hxb⟩ : ∃ y, (s.methods.find? fun m => decide (m.name = q)).isSome = y := ⟨_, rfl⟩
  obtain ⟨nF, hnF⟩ : ∃ x, yf.length = x := ⟨_, rfl⟩
  obtain ⟨nR, hnR⟩ : ∃ x, yr.length = x := ⟨_, rfl⟩
  obtain ⟨nV, hnV⟩ : ∃ x, zv.length = x := ⟨_, rfl⟩
  have e1 : (flRows yf).length = nF := by rw [← hnF]; simp [flRows]
  have e2 : (inRows yr).length = nR := by rw [← hnR]; simp [inRows]
  have e3 : (nmRows zv).length = nV := by rw [← hnV]; simp [nmRows]
  have Hy : Hid ((s.msgs.find? fun m => decide (m.name = q)).getD zeroM = ⟨y0, yf, yr⟩) := hy
  have Hyb : Hid ((s.msgs.find? fun m => decide (m.name = q)).isSome = yb) := hyb
  have Hz : Hid ((s.enums.find? fun m => decide (m.name = q)).getD zeroN = ⟨z0, zv⟩) := hz
  have Hzb : Hid ((s.enums.find? fun m => decide (m.name = q)).isSome = zb) := hzb
  have Hx : Hid ((s.methods.find? fun m => decide (m.name = q)).getD zeroT = ⟨x0, x1, x2⟩) := hx
  have Hxb : Hid ((s.methods.find? fun m => decide (m.name = q)).isSome = xb) := hxb
  have HnF : Hid (yf.length = nF) := hnF
  have HnR : Hid (yr.length = nR) := hnR
  have HnV : Hid (zv.length = nV) := hnV
  have HE1 : Hid ((flRows yf).length = nF) := e1
  have HE2 : Hid ((inRows yr).length = nR) := e2
  have HE3 : Hid ((nmRows zv).length = nV) := e3
  clear hy hyb hz hzb hx hxb hnF hnR hnV e1 e2 e3
  have d0 : w4.cell? ⟨b7, 0, none⟩ = some (.string nm) := BC.cell 0
  have d1 : w4.cell? ⟨b7, 1, none⟩ = some (.slice ua M uc) := BC.cell 1
  have d2 : w4.cell? ⟨b7, 2, none⟩ = some (.slice ue E ec) := BC.cell 2
  have d3 : w4.cell? ⟨b7, 3, none⟩ = some (.slice ut T tc) := BC.cell 3
  go_wp2_with fail
  clear d0 d1 d2 d3
  refine (cmessage_any HMC.out HF.out.few.flds).mono ?_
  rintro e v5 ⟨vf, vr, rfl, h1, h2, hb0⟩
  rw [Hy.out] at h1 h2 ⊢
  rw [Hyb.out]
  simp only at h1 h2 ⊢
  rw [HnF.out] at h1
  rw [HnR.out] at h2
  obtain ⟨fa1, fc1, rfl⟩ := own_form h1
  obtain ⟨ra1, rc1, rfl⟩ := own_form h2
  have ha : Below v5.heap.size v5 (v5.alloc (.cells #[.string y0, .slice fa1 nF fc1, .slice ra1 nR rc1] 35)) := (Below.refl _ _).alloc (Nat.le_refl _) _
  have hst : Below w4.heap.size w4 (v5.alloc (.cells #[.string y0, .slice fa1 nF fc1, .slice ra1 nR rc1] 35)) := hb0.trans (ha.mono hb0.size)
  have P1 := Blk.new v5 #[.string y0, .slice fa1 nF fc1, .slice ra1 nR rc1] 35
  have HR1 : Hid (RowG (v5.alloc (.cells #[.string y0, .slice fa1 nF fc1, .slice ra1 nR rc1] 35)) (.slice fa1 nF fc1) 5 (flRows yf)) := (own_rowF h1).below ha
  have HQ1 : Hid (RowG (v5.alloc (.cells #[.string y0, .slice fa1 nF fc1, .slice ra1 nR rc1] 35)) (.slice ra1 nR rc1) 1 (inRows yr)) := (own_rowI h2).below ha
  clear h1 h2
  have hb' : Below w.heap.size w (v5.alloc (.cells #[.string y0, .slice fa1 nF fc1, .slice ra1 nR rc1] 35)) := hb.trans (hst.mono hb.size)
  have BS' : Blk (v5.alloc (.cells #[.string y0, .slice fa1 nF fc1, .slice ra1 nR rc1] 35)) w.heap.size #[.string nm, .slice am M cm, .slice ae E ce, .slice at' T ct] 26 := BS.below hst
  have BC' : Blk (v5.alloc (.cells #[.string y0, .slice fa1 nF fc1, .slice ra1 nR rc1] 35)) b7 #[.string nm, .slice ua M uc, .slice ue E ec, .slice ut T tc] 26 := BC.below hst
  have HMC' : Hid (MsIn (v5.alloc (.cells #[.string y0, .slice fa1 nF fc1, .slice ra1 nR rc1] 35)) (.slice ua M uc) s.msgs) := HMC.out.below hst
  have HEC' : Hid (EnIn (v5.alloc (.cells #[.string y0, .slice fa1 nF fc1, .slice ra1 nR rc1] 35)) (.slice ue E ec) s.enums) := HEC.out.below hst
  have HTC' : Hid (RowG (v5.alloc (.cells #[.string y0, .slice fa1 nF fc1, .slice ra1 nR rc1] 35)) (.slice ut T tc) 3 (mtRows s.methods)) := HTC.out.below hst
  clear hb
  have hb := hb'
  clear hb'
  clear BS
  have BS := BS'
  clear BS'
  clear BC
  have BC := BC'
  clear BC'
  clear HMC
  have HMC := HMC'
  clear HMC'
  clear HEC
  have HEC := HEC'
  clear HEC'
  clear HTC
  have HTC := HTC'
  clear HTC'
  clear hst ha hb0
  have d0 : (v5.alloc (.cells #[.string y0, .slice fa1 nF fc1, .slice ra1 nR rc1] 35)).cell? ⟨w.heap.size, 0, none⟩ = some (.string nm) := BS.cell 0
  have d1 : (v5.alloc (.cells #[.string y0, .slice fa1 nF fc1, .slice ra1 nR rc1] 35)).cell? ⟨w.heap.size, 1, none⟩ = some (.slice am M cm) := BS.cell 1
  have d2 : (v5.alloc (.cells #[.string y0, .slice fa1 nF fc1, .slice ra1 nR rc1] 35)).cell? ⟨w.heap.size, 2, none⟩ = some (.slice ae E ce) := BS.cell 2
  have d3 : (v5.alloc (.cells #[.string y0, .slice fa1 nF fc1, .slice ra1 nR rc1] 35)).cell? ⟨w.heap.size, 3, none⟩ = some (.slice at' T ct) := BS.cell 3
  go_wp2_with fail
  clear d0 d1 d2 d3
  generalize v5.alloc (.cells #[.string y0, .slice fa1 nF fc1, .slice ra1 nR rc1] 35) = w5 at *
  obtain ⟨bP1, hbb⟩ : ∃ n, v5.heap.size = n := ⟨_, rfl⟩
  rw [hbb] at P1 ⊢
  clear hbb
  refine (rmessage_any (HMI.out.below hb)).mono ?_
  rintro e v6 ⟨vf, vr, rfl, h1, h2, hb0⟩
  rw [Hy.out] at h1 h2 ⊢
  rw [Hyb.out]
  simp only at h1 h2 ⊢
  obtain ⟨fa2, fc2, rfl, _, _⟩ := h1.form2
  obtain ⟨ra2, rc2, rfl, _, _⟩ := h2.form2
  rw [HE1.out] at h1 ⊢
  rw [HE2.out] at h2 ⊢
  have ha : Below v6.heap.size v6 (v6.alloc (.cells #[.string y0, .slice fa2 nF fc2, .slice ra2 nR rc2] 35)) := (Below.refl _ _).alloc (Nat.le_refl _) _
  have hst : Below w5.heap.size w5 (v6.alloc (.cells #[.string y0, .slice fa2 nF fc2, .slice ra2 nR rc2] 35)) := hb0.trans (ha.mono hb0.size)
  have P2 := Blk.new v6 #[.string y0, .slice fa2 nF fc2, .slice ra2 nR rc2] 35
  have HR2 : Hid (RowG (v6.alloc (.cells #[.string y0, .slice fa2 nF fc2, .slice ra2 nR rc2] 35)) (.slice fa2 nF fc2) 5 (flRows yf)) := (h1).below ha
  have HQ2 : Hid (RowG (v6.alloc (.cells #[.string y0, .slice fa2 nF fc2, .slice ra2 nR rc2] 35)) (.slice ra2 nR rc2) 1 (inRows yr)) := (h2).below ha
  clear h1 h2
  have hb' : Below w.heap.size w (v6.alloc (.cells #[.string y0, .slice fa2 nF fc2, .slice ra2 nR rc2] 35)) := hb.trans (hst.mono hb.size)
  have BS' : Blk (v6.alloc (.cells #[.string y0, .slice fa2 nF fc2, .slice ra2 nR rc2] 35)) w.heap.size #[.string nm, .slice am M cm, .slice ae E ce, .slice at' T ct] 26 := BS.below hst
  have BC' : Blk (v6.alloc (.cells #[.string y0, .slice fa2 nF fc2, .slice ra2 nR rc2] 35)) b7 #[.string nm, .slice ua M uc, .slice ue E ec, .slice ut T tc] 26 := BC.below hst
  have HMC' : Hid (MsIn (v6.alloc (.cells #[.string y0, .slice fa2 nF fc2, .slice ra2 nR rc2] 35)) (.slice ua M uc) s.msgs) := HMC.out.below hst
  have HEC' : Hid (EnIn (v6.alloc (.cells #[.string y0, .slice fa2 nF fc2, .slice ra2 nR rc2] 35)) (.slice ue E ec) s.enums) := HEC.out.below hst
  have HTC' : Hid (RowG (v6.alloc (.cells #[.string y0, .slice fa2 nF fc2, .slice ra2 nR rc2] 35)) (.slice ut T tc) 3 (mtRows s.methods)) := HTC.out.below hst
  have P1' : Blk (v6.alloc (.cells #[.string y0, .slice fa2 nF fc2, .slice ra2 nR rc2] 35)) bP1 #[.string y0, .slice fa1 nF fc1, .slice ra1 nR rc1] 35 := P1.below hst
  have HR1' : Hid (RowG (v6.alloc (.cells #[.string y0, .slice fa2 nF fc2, .slice ra2 nR rc2] 35)) (.slice fa1 nF fc1) 5 (flRows yf)) := HR1.out.below hst
  have HQ1' : Hid (RowG (v6.alloc (.cells #[.string y0, .slice fa2 nF fc2, .slice ra2 nR rc2] 35)) (.slice ra1 nR rc1) 1 (inRows yr)) := HQ1.out.below hst
  clear hb
  have hb := hb'
  clear hb'
  clear BS
  have BS := BS'
  clear BS'
  clear BC
  have BC := BC'
  clear BC'
  clear HMC
  have HMC := HMC'
  clear HMC'
  clear HEC
  have HEC := HEC'
  clear HEC'
  clear HTC
  have HTC := HTC'
  clear HTC'
  clear P1
  have P1 := P1'
  clear P1'
  clear HR1
  have HR1 := HR1'
  clear HR1'
  clear HQ1
  have HQ1 := HQ1'
  clear HQ1'
  clear hst ha hb0
  have d0 : (v6.alloc (.cells #[.string y0, .slice fa2 nF fc2, .slice ra2 nR rc2] 35)).cell? ⟨b7, 0, none⟩ = some (.string nm) := BC.cell 0
  have d1 : (v6.alloc (.cells #[.string y0, .slice fa2 nF fc2, .slice ra2 nR rc2] 35)).cell? ⟨b7, 1, none⟩ = some (.slice ua M uc) := BC.cell 1
  have d2 : (v6.alloc (.cells #[.string y0, .slice fa2 nF fc2, .slice ra2 nR rc2] 35)).cell? ⟨b7, 2, none⟩ = some (.slice ue E ec) := BC.cell 2
  have d3 : (v6.alloc (.cells #[.string y0, .slice fa2 nF fc2, .slice ra2 nR rc2] 35)).cell? ⟨b7, 3, none⟩ = some (.slice ut T tc) := BC.cell 3
  go_wp2_with fail
  clear d0 d1 d2 d3
  generalize v6.alloc (.cells #[.string y0, .slice fa2 nF fc2, .slice ra2 nR rc2] 35) = w6 at *
  obtain ⟨bP2, hbb⟩ : ∃ n, v6.heap.size = n := ⟨_, rfl⟩
  rw [hbb] at P2 ⊢
  clear hbb
  refine (cenumf_any HEC.out HF.out.few.vals).mono ?_
  rintro e v7 ⟨vv, rfl, h1, hb0⟩
  rw [Hz.out] at h1 ⊢
  rw [Hzb.out]
  simp only at h1 ⊢
  rw [HnV.out] at h1
  obtain ⟨fa3, fc3, rfl⟩ := own_form h1
  have ha : Below v7.heap.size v7 (v7.alloc (.cells #[.string z0, .slice fa3 nV fc3] 40)) := (Below.refl _ _).alloc (Nat.le_refl _) _
  have hst : Below w6.heap.size w6 (v7.alloc (.cells #[.string z0, .slice fa3 nV fc3] 40)) := hb0.trans (ha.mono hb0.size)
  have P3 := Blk.new v7 #[.string z0, .slice fa3 nV fc3] 40
  have HR3 : Hid (RowG (v7.alloc (.cells #[.string z0, .slice fa3 nV fc3] 40)) (.slice fa3 nV fc3) 2 (nmRows zv)) := (own_rowN h1).below ha
  clear h1
  have hb' : Below w.heap.size w (v7.alloc (.cells #[.string z0, .slice fa3 nV fc3] 40)) := hb.trans (hst.mono hb.size)
  have BS' : Blk (v7.alloc (.cells #[.string z0, .slice fa3 nV fc3] 40)) w.heap.size #[.string nm, .slice am M cm, .slice ae E ce, .slice at' T ct] 26 := BS.below hst
  have BC' : Blk (v7.alloc (.cells #[.string z0, .slice fa3 nV fc3] 40)) b7 #[.string nm, .slice ua M uc, .slice ue E ec, .slice ut T tc] 26 := BC.below hst
  have HMC' : Hid (MsIn (v7.alloc (.cells #[.string z0, .slice fa3 nV fc3] 40)) (.slice ua M uc) s.msgs) := HMC.out.below hst
  have HEC' : Hid (EnIn (v7.alloc (.cells #[.string z0, .slice fa3 nV fc3] 40)) (.slice ue E ec) s.enums) := HEC.out.below hst
  have HTC' : Hid (RowG (v7.alloc (.cells #[.string z0, .slice fa3 nV fc3] 40)) (.slice ut T tc) 3 (mtRows s.methods)) := HTC.out.below hst
  have P1' : Blk (v7.alloc (.cells #[.string z0, .slice fa3 nV fc3] 40)) bP1 #[.string y0, .slice fa1 nF fc1, .slice ra1 nR rc1] 35 := P1.below hst
  have HR1' : Hid (RowG (v7.alloc (.cells #[.string z0, .slice fa3 nV fc3] 40)) (.slice fa1 nF fc1) 5 (flRows yf)) := HR1.out.below hst
  have HQ1' : Hid (RowG (v7.alloc (.cells #[.string z0, .slice fa3 nV fc3] 40)) (.slice ra1 nR rc1) 1 (inRows yr)) := HQ1.out.below hst
  have P2' : Blk (v7.alloc (.cells #[.string z0, .slice fa3 nV fc3] 40)) bP2 #[.string y0, .slice fa2 nF fc2, .slice ra2 nR rc2] 35 := P2.below hst
  have HR2' : Hid (RowG (v7.alloc (.cells #[.string z0, .slice fa3 nV fc3] 40)) (.slice fa2 nF fc2) 5 (flRows yf)) := HR2.out.below hst
  have HQ2' : Hid (RowG (v7.alloc (.cells #[.string z0, .slice fa3 nV fc3] 40)) (.slice ra2 nR rc2) 1 (inRows yr)) := HQ2.out.below hst
  clear hb
  have hb := hb'
  clear hb'
  clear BS
  have BS := BS'
  clear BS'
  clear BC
  have BC := BC'
  clear BC'
  clear HMC
  have HMC := HMC'
  clear HMC'
  clear HEC
  have HEC := HEC'
  clear HEC'
  clear HTC
  have HTC := HTC'
  clear HTC'
  clear P1
  have P1 := P1'
  clear P1'
  clear HR1
  have HR1 := HR1'
  clear HR1'
  clear HQ1
  have HQ1 := HQ1'
  clear HQ1'
  clear P2
  have P2 := P2'
  clear P2'
  clear HR2
  have HR2 := HR2'
  clear HR2'
  clear HQ2
  have HQ2 := HQ2'
  clear HQ2'
  clear hst ha hb0
  have d0 : (v7.alloc (.cells #[.string z0, .slice fa3 nV fc3] 40)).cell? ⟨w.heap.size, 0, none⟩ = some (.string nm) := BS.cell 0
  have d1 : (v7.alloc (.cells #[.string z0, .slice fa3 nV fc3] 40)).cell? ⟨w.heap.size, 1, none⟩ = some (.slice am M cm) := BS.cell 1
  have d2 : (v7.alloc (.cells #[.string z0, .slice fa3 nV fc3] 40)).cell? ⟨w.heap.size, 2, none⟩ = some (.slice ae E ce) := BS.cell 2
  have d3 : (v7.alloc (.cells #[.string z0, .slice fa3 nV fc3] 40)).cell? ⟨w.heap.size, 3, none⟩ = some (.slice at' T ct) := BS.cell 3
  go_wp2_with fail
  clear d0 d1 d2 d3
  generalize v7.alloc (.cells #[.string z0, .slice fa3 nV fc3] 40) = w7 at *
  obtain ⟨bP3, hbb⟩ : ∃ n, v7.heap.size = n := ⟨_, rfl⟩
  rw [hbb] at P3 ⊢
  clear hbb
  refine (renum_any (HEI.out.below hb)).mono ?_
  rintro e v8 ⟨vv, rfl, h1, hb0⟩
  rw [Hz.out] at h1 ⊢
  rw [Hzb.out]
  simp only at h1 ⊢
  obtain ⟨fa4, fc4, rfl, _, _⟩ := h1.form2
  rw [HE3.out] at h1 ⊢
  have ha : Below v8.heap.size v8 (v8.alloc (.cells #[.string z0, .slice fa4 nV fc4] 40)) := (Below.refl _ _).alloc (Nat.le_refl _) _
  have hst : Below w7.heap.size w7 (v8.alloc (.cells #[.string z0, .slice fa4 nV fc4] 40)) := hb0.trans (ha.mono hb0.size)
  have P4 := Blk.new v8 #[.string z0, .slice fa4 nV fc4] 40
  have HR4 : Hid (RowG (v8.alloc (.cells #[.string z0, .slice fa4 nV fc4] 40)) (.slice fa4 nV fc4) 2 (nmRows zv)) := (h1).below ha
  clear h1
  have hb' : Below w.heap.size w (v8.alloc (.cells #[.string z0, .slice fa4 nV fc4] 40)) := hb.trans (hst.mono hb.size)
  have BS' : Blk (v8.alloc (.cells #[.string z0, .slice fa4 nV fc4] 40)) w.heap.size #[.string nm, .slice am M cm, .slice ae E ce, .slice at' T ct] 26 := BS.below hst
  have BC' : Blk (v8.alloc (.cells #[.string z0, .slice fa4 nV fc4] 40)) b7 #[.string nm, .slice ua M uc, .slice ue E ec, .slice ut T tc] 26 := BC.below hst
  have HMC' : Hid (MsIn (v8.alloc (.cells #[.string z0, .slice fa4 nV fc4] 40)) (.slice ua M uc) s.msgs) := HMC.out.below hst
  have HEC' : Hid (EnIn (v8.alloc (.cells #[.string z0, .slice fa4 nV fc4] 40)) (.slice ue E ec) s.enums) := HEC.out.below hst
  have HTC' : Hid (RowG (v8.alloc (.cells #[.string z0, .slice fa4 nV fc4] 40)) (.slice ut T tc) 3 (mtRows s.methods)) := HTC.out.below hst
  have P1' : Blk (v8.alloc (.cells #[.string z0, .slice fa4 nV fc4] 40)) bP1 #[.string y0, .slice fa1 nF fc1, .slice ra1 nR rc1] 35 := P1.below hst
  have HR1' : Hid (RowG (v8.alloc (.cells #[.string z0, .slice fa4 nV fc4] 40)) (.slice fa1 nF fc1) 5 (flRows yf)) := HR1.out.below hst
  have HQ1' : Hid (RowG (v8.alloc (.cells #[.string z0, .slice fa4 nV fc4] 40)) (.slice ra1 nR rc1) 1 (inRows yr)) := HQ1.out.below hst
  have P2' : Blk (v8.alloc (.cells #[.string z0, .slice fa4 nV fc4] 40)) bP2 #[.string y0, .slice fa2 nF fc2, .slice ra2 nR rc2] 35 := P2.below hst
  have HR2' : Hid (RowG (v8.alloc (.cells #[.string z0, .slice fa4 nV fc4] 40)) (.slice fa2 nF fc2) 5 (flRows yf)) := HR2.out.below hst
  have HQ2' : Hid (RowG (v8.alloc (.cells #[.string z0, .slice fa4 nV fc4] 40)) (.slice ra2 nR rc2) 1 (inRows yr)) := HQ2.out.below hst
  have P3' : Blk (v8.alloc (.cells #[.string z0, .slice fa4 nV fc4] 40)) bP3 #[.string z0, .slice fa3 nV fc3] 40 := P3.below hst
  have HR3' : Hid (RowG (v8.alloc (.cells #[.string z0, .slice fa4 nV fc4] 40)) (.slice fa3 nV fc3) 2 (nmRows zv)) := HR3.out.below hst
  clear hb
  have hb := hb'
  clear hb'
  clear BS
  have BS := BS'
  clear BS'
  clear BC
  have BC := BC'
  clear BC'
  clear HMC
  have HMC := HMC'
  clear HMC'
  clear HEC
  have HEC := HEC'
  clear HEC'
  clear HTC
  have HTC := HTC'
  clear HTC'
  clear P1
  have P1 := P1'
  clear P1'
  clear HR1
  have HR1 := HR1'
  clear HR1'
  clear HQ1
  have HQ1 := HQ1'
  clear HQ1'
  clear P2
  have P2 := P2'
  clear P2'
  clear HR2
  have HR2 := HR2'
  clear HR2'
  clear HQ2
  have HQ2 := HQ2'
  clear HQ2'
  clear P3
  have P3 := P3'
  clear P3'
  clear HR3
  have HR3 := HR3'
  clear HR3'
  clear hst ha hb0
  have d0 : (v8.alloc (.cells #[.string z0, .slice fa4 nV fc4] 40)).cell? ⟨b7, 0, none⟩ = some (.string nm) := BC.cell 0
  have d1 : (v8.alloc (.cells #[.string z0, .slice fa4 nV fc4] 40)).cell? ⟨b7, 1, none⟩ = some (.slice ua M uc) := BC.cell 1
  have d2 : (v8.alloc (.cells #[.string z0, .slice fa4 nV fc4] 40)).cell? ⟨b7, 2, none⟩ = some (.slice ue E ec) := BC.cell 2
  have d3 : (v8.alloc (.cells #[.string z0, .slice fa4 nV fc4] 40)).cell? ⟨b7, 3, none⟩ = some (.slice ut T tc) := BC.cell 3
  go_wp2_with fail
  clear d0 d1 d2 d3
  generalize v8.alloc (.cells #[.string z0, .slice fa4 nV fc4] 40) = w8 at *
  obtain ⟨bP4, hbb⟩ : ∃ n, v8.heap.size = n := ⟨_, rfl⟩
  rw [hbb] at P4 ⊢
  clear hbb
  refine (cmethod_any HTC.out).mono ?_
  rintro e v9 ⟨rfl, hb0⟩
  rw [Hx.out, Hxb.out]
  simp only [mtV]
  have ha : Below v9.heap.size v9 (v9.alloc (.cells #[.string x0, .string x1, .string x2] 44)) := (Below.refl _ _).alloc (Nat.le_refl _) _
  have hst : Below w8.heap.size w8 (v9.alloc (.cells #[.string x0, .string x1, .string x2] 44)) := hb0.trans (ha.mono hb0.size)
  have P5 := Blk.new v9 #[.string x0, .string x1, .string x2] 44
  have hb' : Below w.heap.size w (v9.alloc (.cells #[.string x0, .string x1, .string x2] 44)) := hb.trans (hst.mono hb.size)
  have BS' : Blk (v9.alloc (.cells #[.string x0, .string x1, .string x2] 44)) w.heap.size #[.string nm, .slice am M cm, .slice ae E ce, .slice at' T ct] 26 := BS.below hst
  have BC' : Blk (v9.alloc (.cells #[.string x0, .string x1, .string x2] 44)) b7 #[.string nm, .slice ua M uc, .slice ue E ec, .slice ut T tc] 26 := BC.below hst
  have HMC' : Hid (MsIn (v9.alloc (.cells #[.string x0, .string x1, .string x2] 44)) (.slice ua M uc) s.msgs) := HMC.out.below hst
  have HEC' : Hid (EnIn (v9.alloc (.cells #[.string x0, .string x1, .string x2] 44)) (.slice ue E ec) s.enums) := HEC.out.below hst
  have HTC' : Hid (RowG (v9.alloc (.cells #[.string x0, .string x1, .string x2] 44)) (.slice ut T tc) 3 (mtRows s.methods)) := HTC.out.below hst
  have P1' : Blk (v9.alloc (.cells #[.string x0, .string x1, .string x2] 44)) bP1 #[.string y0, .slice fa1 nF fc1, .slice ra1 nR rc1] 35 := P1.below hst
  have HR1' : Hid (RowG (v9.alloc (.cells #[.string x0, .string x1, .string x2] 44)) (.slice fa1 nF fc1) 5 (flRows yf)) := HR1.out.below hst
  have HQ1' : Hid (RowG (v9.alloc (.cells #[.string x0, .string x1, .string x2] 44)) (.slice ra1 nR rc1) 1 (inRows yr)) := HQ1.out.below hst
  have P2' : Blk (v9.alloc (.cells #[.string x0, .string x1, .string x2] 44)) bP2 #[.string y0, .slice fa2 nF fc2, .slice ra2 nR rc2] 35 := P2.below hst
  have HR2' : Hid (RowG (v9.alloc (.cells #[.string x0, .string x1, .string x2] 44)) (.slice fa2 nF fc2) 5 (flRows yf)) := HR2.out.below hst
  have HQ2' : Hid (RowG (v9.alloc (.cells #[.string x0, .string x1, .string x2] 44)) (.slice ra2 nR rc2) 1 (inRows yr)) := HQ2.out.below hst
  have P3' : Blk (v9.alloc (.cells #[.string x0, .string x1, .string x2] 44)) bP3 #[.string z0, .slice fa3 nV fc3] 40 := P3.below hst
  have HR3' : Hid (RowG (v9.alloc (.cells #[.string x0, .string x1, .string x2] 44)) (.slice fa3 nV fc3) 2 (nmRows zv)) := HR3.out.below hst
  have P4' : Blk (v9.alloc (.cells #[.string x0, .string x1, .string x2] 44)) bP4 #[.string z0, .slice fa4 nV fc4] 40 := P4.below hst
  have HR4' : Hid (RowG (v9.alloc (.cells #[.string x0, .string x1, .string x2] 44)) (.slice fa4 nV fc4) 2 (nmRows zv)) := HR4.out.below hst
  clear hb
  have hb := hb'
  clear hb'
  clear BS
  have BS := BS'
  clear BS'
  clear BC
  have BC := BC'
  clear BC'
  clear HMC
  have HMC := HMC'
  clear HMC'
  clear HEC
  have HEC := HEC'
  clear HEC'
  clear HTC
  have HTC := HTC'
  clear HTC'
  clear P1
  have P1 := P1'
  clear P1'
  clear HR1
  have HR1 := HR1'
  clear HR1'
  clear HQ1
  have HQ1 := HQ1'
  clear HQ1'
  clear P2
  have P2 := P2'
  clear P2'
  clear HR2
  have HR2 := HR2'
  clear HR2'
  clear HQ2
  have HQ2 := HQ2'
  clear HQ2'
  clear P3
  have P3 := P3'
  clear P3'
  clear HR3
  have HR3 := HR3'
  clear HR3'
  clear P4
  have P4 := P4'
  clear P4'
  clear HR4
  have HR4 := HR4'
  clear HR4'
  clear hst ha hb0
  have d0 : (v9.alloc (.cells #[.string x0, .string x1, .string x2] 44)).cell? ⟨w.heap.size, 0, none⟩ = some (.string nm) := BS.cell 0
  have d1 : (v9.alloc (.cells #[.string x0, .string x1, .string x2] 44)).cell? ⟨w.heap.size, 1, none⟩ = some (.slice am M cm) := BS.cell 1
  have d2 : (v9.alloc (.cells #[.string x0, .string x1, .string x2] 44)).cell? ⟨w.heap.size, 2, none⟩ = some (.slice ae E ce) := BS.cell 2
  have d3 : (v9.alloc (.cells #[.string x0, .string x1, .string x2] 44)).cell? ⟨w.heap.size, 3, none⟩ = some (.slice at' T ct) := BS.cell 3
  go_wp2_with fail
  clear d0 d1 d2 d3
  generalize v9.alloc (.cells #[.string x0, .string x1, .string x2] 44) = w9 at *
  obtain ⟨bP5, hbb⟩ : ∃ n, v9.heap.size = n := ⟨_, rfl⟩
  rw [hbb] at P5 ⊢
  clear hbb
  refine (rmethod_any (HTI.out.below hb)).mono ?_
  rintro e v10 ⟨rfl, hb0⟩
  rw [Hx.out, Hxb.out]
  simp only [mtV]
  have ha : Below v10.heap.size v10 (v10.alloc (.cells #[.string x0, .string x1, .string x2] 44)) := (Below.refl _ _).alloc (Nat.le_refl _) _
  have hst : Below w9.heap.size w9 (v10.alloc (.cells #[.string x0, .string x1, .string x2] 44)) := hb0.trans (ha.mono hb0.size)
  have P6 := Blk.new v10 #[.string x0, .string x1, .string x2] 44
  have hb' : Below w.heap.size w (v10.alloc (.cells #[.string x0, .string x1, .string x2] 44)) := hb.trans (hst.mono hb.size)
  have BS' : Blk (v10.alloc (.cells #[.string x0, .string x1, .string x2] 44)) w.heap.size #[.string nm, .slice am M cm, .slice ae E ce, .slice at' T ct] 26 := BS.below hst
  have BC' : Blk (v10.alloc (.cells #[.string x0, .string x1, .string x2] 44)) b7 #[.string nm, .slice ua M uc, .slice ue E ec, .slice ut T tc] 26 := BC.below hst
  have HMC' : Hid (MsIn (v10.alloc (.cells #[.string x0, .string x1, .string x2] 44)) (.slice ua M uc) s.msgs) := HMC.out.below hst
  have HEC' : Hid (EnIn (v10.alloc (.cells #[.string x0, .string x1, .string x2] 44)) (.slice ue E ec) s.enums) := HEC.out.below hst
  have HTC' : Hid (RowG (v10.alloc (.cells #[.string x0, .string x1, .string x2] 44)) (.slice ut T tc) 3 (mtRows s.methods)) := HTC.out.below hst
  have P1' : Blk (v10.alloc (.cells #[.string x0, .string x1, .string x2] 44)) bP1 #[.string y0, .slice fa1 nF fc1, .slice ra1 nR rc1] 35 := P1.below hst
  have HR1' : Hid (RowG (v10.alloc (.cells #[.string x0, .string x1, .string x2] 44)) (.slice fa1 nF fc1) 5 (flRows yf)) := HR1.out.below hst
  have HQ1' : Hid (RowG (v10.alloc (.cells #[.string x0, .string x1, .string x2] 44)) (.slice ra1 nR rc1) 1 (inRows yr)) := HQ1.out.below hst
  have P2' : Blk (v10.alloc (.cells #[.string x0, .string x1, .string x2] 44)) bP2 #[.string y0, .slice fa2 nF fc2, .slice ra2 nR rc2] 35 := P2.below hst
  have HR2' : Hid (RowG (v10.alloc (.cells #[.string x0, .string x1, .string x2] 44)) (.slice fa2 nF fc2) 5 (flRows yf)) := HR2.out.below hst
  have HQ2' : Hid (RowG (v10.alloc (.cells #[.string x0, .string x1, .string x2] 44)) (.slice ra2 nR rc2) 1 (inRows yr)) := HQ2.out.below hst
  have P3' : Blk (v10.alloc (.cells #[.string x0, .string x1, .string x2] 44)) bP3 #[.string z0, .slice fa3 nV fc3] 40 := P3.below hst
  have HR3' : Hid (RowG (v10.alloc (.cells #[.string x0, .string x1, .string x2] 44)) (.slice fa3 nV fc3) 2 (nmRows zv)) := HR3.out.below hst
  have P4' : Blk (v10.alloc (.cells #[.string x0, .string x1, .string x2] 44)) bP4 #[.string z0, .slice fa4 nV fc4] 40 := P4.below hst
  have HR4' : Hid (RowG (v10.alloc (.cells #[.string x0, .string x1, .string x2] 44)) (.slice fa4 nV fc4) 2 (nmRows zv)) := HR4.out.below hst
  have P5' : Blk (v10.alloc (.cells #[.string x0, .string x1, .string x2] 44)) bP5 #[.string x0, .string x1, .string x2] 44 := P5.below hst
  clear hb
  have hb := hb'
  clear hb'
  clear BS
  have BS := BS'
  clear BS'
  clear BC
  have BC := BC'
  clear BC'
  clear HMC
  have HMC := HMC'
  clear HMC'
  clear HEC
  have HEC := HEC'
  clear HEC'
  clear HTC
  have HTC := HTC'
  clear HTC'
  clear P1
  have P1 := P1'
  clear P1'
  clear HR1
  have HR1 := HR1'
  clear HR1'
  clear HQ1
  have HQ1 := HQ1'
  clear HQ1'
  clear P2
  have P2 := P2'
  clear P2'
  clear HR2
  have HR2 := HR2'
  clear HR2'
  clear HQ2
  have HQ2 := HQ2'
  clear HQ2'
  clear P3
  have P3 := P3'
  clear P3'
  clear HR3
  have HR3 := HR3'
  clear HR3'
  clear P4
  have P4 := P4'
  clear P4'
  clear HR4
  have HR4 := HR4'
  clear HR4'
  clear P5
  have P5 := P5'
  clear P5'
  clear hst ha hb0
  have d0 : (v10.alloc (.cells #[.string x0, .string x1, .string x2] 44)).cell? ⟨bP5, 0, none⟩ = some (.string x0) := P5.cell 0
  have d1 : (v10.alloc (.cells #[.string x0, .string x1, .string x2] 44)).cell? ⟨bP5, 1, none⟩ = some (.string x1) := P5.cell 1
  have d2 : (v10.alloc (.cells #[.string x0, .string x1, .string x2] 44)).cell? ⟨bP5, 2, none⟩ = some (.string x2) := P5.cell 2
  have d3 : (v10.alloc (.cells #[.string x0, .string x1, .string x2] 44)).cell? ⟨v10.heap.size, 0, none⟩ = some (.string x0) := P6.cell 0
  have d4 : (v10.alloc (.cells #[.string x0, .string x1, .string x2] 44)).cell? ⟨v10.heap.size, 1, none⟩ = some (.string x1) := P6.cell 1
  have d5 : (v10.alloc (.cells #[.string x0, .string x1, .string x2] 44)).cell? ⟨v10.heap.size, 2, none⟩ = some (.string x2) := P6.cell 2
  have d6 : (v10.alloc (.cells #[.string x0, .string x1, .string x2] 44)).cell? ⟨bP1, 0, none⟩ = some (.string y0) := P1.cell 0
  have d7 : (v10.alloc (.cells #[.string x0, .string x1, .string x2] 44)).cell? ⟨bP1, 1, none⟩ = some (.slice fa1 nF fc1) := P1.cell 1
  have d8 : (v10.alloc (.cells #[.string x0, .string x1, .string x2] 44)).cell? ⟨bP1, 2, none⟩ = some (.slice ra1 nR rc1) := P1.cell 2
  have d9 : (v10.alloc (.cells #[.string x0, .string x1, .string x2] 44)).cell? ⟨bP2, 0, none⟩ = some (.string y0) := P2.cell 0
  have d10 : (v10.alloc (.cells #[.string x0, .string x1, .string x2] 44)).cell? ⟨bP2, 1, none⟩ = some (.slice fa2 nF fc2) := P2.cell 1
  have d11 : (v10.alloc (.cells #[.string x0, .string x1, .string x2] 44)).cell? ⟨bP2, 2, none⟩ = some (.slice ra2 nR rc2) := P2.cell 2
  go_wp2_with fail
  clear d0 d1 d2 d3 d4 d5 d6 d7 d8 d9 d10 d11
  generalize v10.alloc (.cells #[.string x0, .string x1, .string x2] 44) = w10 at *
  obtain ⟨bP6, hbb⟩ : ∃ n, v10.heap.size = n := ⟨_, rfl⟩
  rw [hbb] at P6 ⊢
  clear hbb
  refine (smsgs_any HR1.out HR2.out HQ1.out HQ2.out).mono ?_
  rintro e w11 ⟨rfl, hW⟩
  have hb' : Below w.heap.size w w11 := hb.trans (hW.mono hb.size)
  have BS' : Blk w11 w.heap.size #[.string nm, .slice am M cm, .slice ae E ce, .slice at' T ct] 26 := BS.below hW
  have BC' : Blk w11 b7 #[.string nm, .slice ua M uc, .slice ue E ec, .slice ut T tc] 26 := BC.below hW
  have HMC' : Hid (MsIn w11 (.slice ua M uc) s.msgs) := HMC.out.below hW
  have HEC' : Hid (EnIn w11 (.slice ue E ec) s.enums) := HEC.out.below hW
  have HTC' : Hid (RowG w11 (.slice ut T tc) 3 (mtRows s.methods)) := HTC.out.below hW
  have P1' : Blk w11 bP1 #[.string y0, .slice fa1 nF fc1, .slice ra1 nR rc1] 35 := P1.below hW
  have HR1' : Hid (RowG w11 (.slice fa1 nF fc1) 5 (flRows yf)) := HR1.out.below hW
  have HQ1' : Hid (RowG w11 (.slice ra1 nR rc1) 1 (inRows yr)) := HQ1.out.below hW
  have P2' : Blk w11 bP2 #[.string y0, .slice fa2 nF fc2, .slice ra2 nR rc2] 35 := P2.below hW
  have HR2' : Hid (RowG w11 (.slice fa2 nF fc2) 5 (flRows yf)) := HR2.out.below hW
  have HQ2' : Hid (RowG w11 (.slice ra2 nR rc2) 1 (inRows yr)) := HQ2.out.below hW
  have P3' : Blk w11 bP3 #[.string z0, .slice fa3 nV fc3] 40 := P3.below hW
  have HR3' : Hid (RowG w11 (.slice fa3 nV fc3) 2 (nmRows zv)) := HR3.out.below hW
  have P4' : Blk w11 bP4 #[.string z0, .slice fa4 nV fc4] 40 := P4.below hW
  have HR4' : Hid (RowG w11 (.slice fa4 nV fc4) 2 (nmRows zv)) := HR4.out.below hW
  have P5' : Blk w11 bP5 #[.string x0, .string x1, .string x2] 44 := P5.below hW
  have P6' : Blk w11 bP6 #[.string x0, .string x1, .string x2] 44 := P6.below hW
  clear hb
  have hb := hb'
  clear hb'
  clear BS
  have BS := BS'
  clear BS'
  clear BC
  have BC := BC'
  clear BC'
  clear HMC
  have HMC := HMC'
  clear HMC'
  clear HEC
  have HEC := HEC'
  clear HEC'
  clear HTC
  have HTC := HTC'
  clear HTC'
  clear P1
  have P1 := P1'
  clear P1'
  clear HR1
  have HR1 := HR1'
  clear HR1'
  clear HQ1
  have HQ1 := HQ1'
  clear HQ1'
  clear P2
  have P2 := P2'
  clear P2'
  clear HR2
  have HR2 := HR2'
  clear HR2'
  clear HQ2
  have HQ2 := HQ2'
  clear HQ2'
  clear P3
  have P3 := P3'
  clear P3'
  clear HR3
  have HR3 := HR3'
  clear HR3'
  clear P4
  have P4 := P4'
  clear P4'
  clear HR4
  have HR4 := HR4'
  clear HR4'
  clear P5
  have P5 := P5'
  clear P5'
  clear P6
  have P6 := P6'
  clear P6'
  clear hW
  have d0 : w11.cell? ⟨bP3, 0, none⟩ = some (.string z0) := P3.cell 0
  have d1 : w11.cell? ⟨bP3, 1, none⟩ = some (.slice fa3 nV fc3) := P3.cell 1
  have d2 : w11.cell? ⟨bP4, 0, none⟩ = some (.string z0) := P4.cell 0
  have d3 : w11.cell? ⟨bP4, 1, none⟩ = some (.slice fa4 nV fc4) := P4.cell 1
  go_wp2_with fail
  clear d0 d1 d2 d3
  refine (senums_any HR3.out HR4.out).mono ?_
  rintro e w12 ⟨rfl, hW⟩
  have hb' : Below w.heap.size w w12 := hb.trans (hW.mono hb.size)
  have BS' : Blk w12 w.heap.size #[.string nm, .slice am M cm, .slice ae E ce, .slice at' T ct] 26 := BS.below hW
  have BC' : Blk w12 b7 #[.string nm, .slice ua M uc, .slice ue E ec, .slice ut T tc] 26 := BC.below hW
  have HMC' : Hid (MsIn w12 (.slice ua M uc) s.msgs) := HMC.out.below hW
  have HEC' : Hid (EnIn w12 (.slice ue E ec) s.enums) := HEC.out.below hW
  have HTC' : Hid (RowG w12 (.slice ut T tc) 3 (mtRows s.methods)) := HTC.out.below hW
  have P1' : Blk w12 bP1 #[.string y0, .slice fa1 nF fc1, .slice ra1 nR rc1] 35 := P1.below hW
  have HR1' : Hid (RowG w12 (.slice fa1 nF fc1) 5 (flRows yf)) := HR1.out.below hW
  have HQ1' : Hid (RowG w12 (.slice ra1 nR rc1) 1 (inRows yr)) := HQ1.out.below hW
  have P2' : Blk w12 bP2 #[.string y0, .slice fa2 nF fc2, .slice ra2 nR rc2] 35 := P2.below hW
  have HR2' : Hid (RowG w12 (.slice fa2 nF fc2) 5 (flRows yf)) := HR2.out.below hW
  have HQ2' : Hid (RowG w12 (.slice ra2 nR rc2) 1 (inRows yr)) := HQ2.out.below hW
  have P3' : Blk w12 bP3 #[.string z0, .slice fa3 nV fc3] 40 := P3.below hW
  have HR3' : Hid (RowG w12 (.slice fa3 nV fc3) 2 (nmRows zv)) := HR3.out.below hW
  have P4' : Blk w12 bP4 #[.string z0, .slice fa4 nV fc4] 40 := P4.below hW
  have HR4' : Hid (RowG w12 (.slice fa4 nV fc4) 2 (nmRows zv)) := HR4.out.below hW
  have P5' : Blk w12 bP5 #[.string x0, .string x1, .string x2] 44 := P5.below hW
  have P6' : Blk w12 bP6 #[.string x0, .string x1, .string x2] 44 := P6.below hW
  clear hb
  have hb := hb'
  clear hb'
  clear BS
  have BS := BS'
  clear BS'
  clear BC
  have BC := BC'
  clear BC'
  clear HMC
  have HMC := HMC'
  clear HMC'
  clear HEC
  have HEC := HEC'
  clear HEC'
  clear HTC
  have HTC := HTC'
  clear HTC'
  clear P1
  have P1 := P1'
  clear P1'
  clear HR1
  have HR1 := HR1'
  clear HR1'
  clear HQ1
  have HQ1 := HQ1'
  clear HQ1'
  clear P2
  have P2 := P2'
  clear P2'
  clear HR2
  have HR2 := HR2'
  clear HR2'
  clear HQ2
  have HQ2 := HQ2'
  clear HQ2'
  clear P3
  have P3 := P3'
  clear P3'
  clear HR3
  have HR3 := HR3'
  clear HR3'
  clear P4
  have P4 := P4'
  clear P4'
  clear HR4
  have HR4 := HR4'
  clear HR4'
  clear P5
  have P5 := P5'
  clear P5'
  clear P6
  have P6 := P6'
  clear P6'
  clear hW P1 P2 P3 P4 P5 P6 HR1 HQ1 HR2 HQ2 HR3 HR4
  go_wp2_with fail
  have hM14 : M ≤ 14 := by have := HF.out.msgs; rw [HM.out] at this; exact this
  go_loopw [20] (fun iv wr => ∃ i : Nat, iv = .int .i64 (i : Int) ∧ i ≤ M ∧ Below w12.heap.size w12 wr) (fun iv _ => M - (intOf iv).toNat)
  case atStart => exact ⟨0, rfl, by omega, Below.refl _ _⟩
  case round =>
    obtain ⟨i, rfl, hi, hbl⟩ := hrel
    have hbw : Below w.heap.size w wr := hb.trans (hbl.mono hb.size)
    have BSr := BS.below hbl
    have BCr := BC.below hbl
    have x1 : wr.cell? ⟨w.heap.size, 1, none⟩ = some (.slice am M cm) := BSr.cell 1
    by_cases hlt : i < M
    · obtain ⟨m, hm⟩ : ∃ x, s.msgs[i]? = some x := ⟨_, List.getElem?_eq_getElem (by rw [HM.out]; exact hlt)⟩
      obtain ⟨g, off, vf, vr, rfl, c0, c1, c2, hrf, hrr⟩ := (HMC.out.below hbl).get hm
      obtain ⟨g', off', vf', vr', rfl, s0, s1, s2, hsf, hsr⟩ := (HMI.out.below hbw).get hm
      obtain ⟨fa1, fc1, rfl, _, _⟩ := hrf.form2
      obtain ⟨ra1, rc1, rfl, _, _⟩ := hrr.form2
      obtain ⟨fa2, fc2, rfl, _, _⟩ := hsf.form2
      obtain ⟨ra2, rc2, rfl, _, _⟩ := hsr.form2
      obtain ⟨nF, e1⟩ : ∃ x, (flRows m.fields).length = x := ⟨_, rfl⟩
      obtain ⟨nR, e2⟩ : ∃ x, (inRows m.reserved).length = x := ⟨_, rfl⟩
      rw [e1] at hrf hsf c1 s1
      rw [e2] at hrr hsr c2 s2
      obtain ⟨⟨f0, f1, f2, f3, f4⟩, hf⟩ : ∃ y, (m.fields.find? fun x => decide (x.tag = tg)).getD zeroF = y := ⟨_, rfl⟩
      obtain ⟨fb, hfb⟩ : ∃ y, (m.fields.find? fun x => decide (x.tag = tg)).isSome = y := ⟨_, rfl⟩
      obtain ⟨rb, hrb⟩ : ∃ y, memI tg m.reserved = y := ⟨_, rfl⟩
      have HCF : Hid (∀ W, Below wr.heap.size wr W → Calls Try.prog 21 #[.agg #[.string m.name, .slice fa1 nF fc1, .slice ra1 nR rc1], .int .i64 tg] W fun e W' => e = .returned (.tuple #[.agg #[.string f0, .int .i64 f1, .int .i64 f2, .int .i64 f3, .string f4], .bool fb]) ∧ Below W.heap.size W W') := fun W hW => by
        refine (cfield_any (hrf.below hW)).mono ?_
        rintro e W' ⟨rfl, hb⟩
        exact ⟨by first | rw [hf, hfb]; rfl | rw [hrb], hb⟩
      have HRF : Hid (∀ W, Below wr.heap.size wr W → Calls Try.prog 22 #[.agg #[.string m.name, .slice fa2 nF fc2, .slice ra2 nR rc2], .int .i64 tg] W fun e W' => e = .returned (.tuple #[.agg #[.string f0, .int .i64 f1, .int .i64 f2, .int .i64 f3, .string f4], .bool fb]) ∧ Below W.heap.size W W') := fun W hW => by
        refine (rfield_any (hsf.below hW)).mono ?_
        rintro e W' ⟨rfl, hb⟩
        exact ⟨by first | rw [hf, hfb]; rfl | rw [hrb], hb⟩
      have HCR : Hid (∀ W, Below wr.heap.size wr W → Calls Try.prog 23 #[.agg #[.string m.name, .slice fa1 nF fc1, .slice ra1 nR rc1], .int .i64 tg] W fun e W' => e = .returned (.bool rb) ∧ Below W.heap.size W W') := fun W hW => by
        refine (creserved_any tg (hrr.below hW)).mono ?_
        rintro e W' ⟨rfl, hb⟩
        exact ⟨by first | rw [hf, hfb]; rfl | rw [hrb], hb⟩
      have HRR : Hid (∀ W, Below wr.heap.size wr W → Calls Try.prog 24 #[.agg #[.string m.name, .slice fa2 nF fc2, .slice ra2 nR rc2], .int .i64 tg] W fun e W' => e = .returned (.bool rb) ∧ Below W.heap.size W W') := fun W hW => by
        refine (rreserved_any tg (hsr.below hW)).mono ?_
        rintro e W' ⟨rfl, hb⟩
        exact ⟨by first | rw [hf, hfb]; rfl | rw [hrb], hb⟩
      clear hf hfb hrb hrf hrr hsf hsr e1 e2 hm
      generalize m.name = m0 at *
      have C0 : Hid (wr.cell? ⟨g, off + i * 3, none⟩ = some (.string m0)) := c0
      have C1 : Hid (wr.cell? ⟨g, off + i * 3 + 1, none⟩ = some (.slice fa1 nF fc1)) := c1
      have C2 : Hid (wr.cell? ⟨g, off + i * 3 + 2, none⟩ = some (.slice ra1 nR rc1)) := c2
      have S0 : Hid (wr.cell? ⟨g', off' + i * 3, none⟩ = some (.string m0)) := s0
      have S1 : Hid (wr.cell? ⟨g', off' + i * 3 + 1, none⟩ = some (.slice fa2 nF fc2)) := s1
      have S2 : Hid (wr.cell? ⟨g', off' + i * 3 + 2, none⟩ = some (.slice ra2 nR rc2)) := s2
      have y1 : wr.cell? ⟨b7, 1, none⟩ = some (.slice (some ⟨g, off, none⟩) M uc) := BCr.cell 1
      clear s0 s1 s2
      go_wp2_with fail
      clear x1 y1 c0 c1 c2
      refine (HCF.out wr (Below.refl _ _)).mono ?_
      rintro e v1 ⟨rfl, hb1⟩
      have ha : Below v1.heap.size v1 (v1.alloc (.cells #[.string f0, .int .i64 f1, .int .i64 f2, .int .i64 f3, .string f4] 52)) := (Below.refl _ _).alloc (Nat.le_refl _) _
      have h1 : Below wr.heap.size wr (v1.alloc (.cells #[.string f0, .int .i64 f1, .int .i64 f2, .int .i64 f3, .string f4] 52)) := hb1.trans (ha.mono hb1.size)
      have P1 := Blk.new v1 #[.string f0, .int .i64 f1, .int .i64 f2, .int .i64 f3, .string f4] 52
      have x1 : (v1.alloc (.cells #[.string f0, .int .i64 f1, .int .i64 f2, .int .i64 f3, .string f4] 52)).cell? ⟨w.heap.size, 1, none⟩ = some (.slice (some ⟨g', off', none⟩) M cm) := (BSr.below h1).cell 1
      have s0 : (v1.alloc (.cells #[.string f0, .int .i64 f1, .int .i64 f2, .int .i64 f3, .string f4] 52)).cell? ⟨g', off' + i * 3, none⟩ = some (.string m0) := (h1.cell (World.block_lt_of_cell? _ _ S0.out)).trans S0.out
      have s1 : (v1.alloc (.cells #[.string f0, .int .i64 f1, .int .i64 f2, .int .i64 f3, .string f4] 52)).cell? ⟨g', off' + i * 3 + 1, none⟩ = some (.slice fa2 nF fc2) := (h1.cell (World.block_lt_of_cell? _ _ S1.out)).trans S1.out
      have s2 : (v1.alloc (.cells #[.string f0, .int .i64 f1, .int .i64 f2, .int .i64 f3, .string f4] 52)).cell? ⟨g', off' + i * 3 + 2, none⟩ = some (.slice ra2 nR rc2) := (h1.cell (World.block_lt_of_cell? _ _ S2.out)).trans S2.out
      clear ha hb1
      go_wp2_with fail
      clear x1 s0 s1 s2
      generalize (v1.alloc (.cells #[.string f0, .int .i64 f1, .int .i64 f2, .int .i64 f3, .string f4] 52)) = wa at *
      obtain ⟨p1, hp1⟩ : ∃ n, v1.heap.size = n := ⟨_, rfl⟩
      rw [hp1] at P1 ⊢
      clear hp1
      refine (HRF.out wa h1).mono ?_
      rintro e v2 ⟨rfl, hb1⟩
      have ha : Below v2.heap.size v2 (v2.alloc (.cells #[.string f0, .int .i64 f1, .int .i64 f2, .int .i64 f3, .string f4] 52)) := (Below.refl _ _).alloc (Nat.le_refl _) _
      have h2 : Below wa.heap.size wa (v2.alloc (.cells #[.string f0, .int .i64 f1, .int .i64 f2, .int .i64 f3, .string f4] 52)) := hb1.trans (ha.mono hb1.size)
      have P2 := Blk.new v2 #[.string f0, .int .i64 f1, .int .i64 f2, .int .i64 f3, .string f4] 52
      clear ha hb1
      go_wp2_with fail
      generalize (v2.alloc (.cells #[.string f0, .int .i64 f1, .int .i64 f2, .int .i64 f3, .string f4] 52)) = wz at *
      obtain ⟨p2, hp2⟩ : ∃ n, v2.heap.size = n := ⟨_, rfl⟩
      rw [hp2] at P2 ⊢
      clear hp2
      have P1z := P1.below h2
      have hz : Below wr.heap.size wr wz := h1.trans (h2.mono h1.size)
      have k0 : wz.cell? ⟨g, off + i * 3, none⟩ = some (.string m0) := (hz.cell (World.block_lt_of_cell? _ _ C0.out)).trans C0.out
      have k1 : wz.cell? ⟨g, off + i * 3 + 1, none⟩ = some (.slice fa1 nF fc1) := (hz.cell (World.block_lt_of_cell? _ _ C1.out)).trans C1.out
      have k2 : wz.cell? ⟨g, off + i * 3 + 2, none⟩ = some (.slice ra1 nR rc1) := (hz.cell (World.block_lt_of_cell? _ _ C2.out)).trans C2.out
      have l0 : wz.cell? ⟨g', off' + i * 3, none⟩ = some (.string m0) := (hz.cell (World.block_lt_of_cell? _ _ S0.out)).trans S0.out
      have l1 : wz.cell? ⟨g', off' + i * 3 + 1, none⟩ = some (.slice fa2 nF fc2) := (hz.cell (World.block_lt_of_cell? _ _ S1.out)).trans S1.out
      have l2 : wz.cell? ⟨g', off' + i * 3 + 2, none⟩ = some (.slice ra2 nR rc2) := (hz.cell (World.block_lt_of_cell? _ _ S2.out)).trans S2.out
      have x1 : wz.cell? ⟨w.heap.size, 1, none⟩ = some (.slice (some ⟨g', off', none⟩) M cm) := (BSr.below hz).cell 1
      have y1 : wz.cell? ⟨b7, 1, none⟩ = some (.slice (some ⟨g, off, none⟩) M uc) := (BCr.below hz).cell 1
      have mm0 : wz.cell? ⟨p1, 0, none⟩ = some (.string f0) := P1z.cell 0
      have mm1 : wz.cell? ⟨p1, 1, none⟩ = some (.int .i64 f1) := P1z.cell 1
      have mm2 : wz.cell? ⟨p1, 2, none⟩ = some (.int .i64 f2) := P1z.cell 2
      have mm3 : wz.cell? ⟨p1, 3, none⟩ = some (.int .i64 f3) := P1z.cell 3
      have mm4 : wz.cell? ⟨p1, 4, none⟩ = some (.string f4) := P1z.cell 4
      have nn0 : wz.cell? ⟨p2, 0, none⟩ = some (.string f0) := P2.cell 0
      have nn1 : wz.cell? ⟨p2, 1, none⟩ = some (.int .i64 f1) := P2.cell 1
      have nn2 : wz.cell? ⟨p2, 2, none⟩ = some (.int .i64 f2) := P2.cell 2
      have nn3 : wz.cell? ⟨p2, 3, none⟩ = some (.int .i64 f3) := P2.cell 3
      have nn4 : wz.cell? ⟨p2, 4, none⟩ = some (.string f4) := P2.cell 4
      have HCRz : Hid (∀ W, Below wz.heap.size wz W → Calls Try.prog 23 #[.agg #[.string m0, .slice fa1 nF fc1, .slice ra1 nR rc1], .int .i64 tg] W fun e W' => e = .returned (.bool rb) ∧ Below wz.heap.size wz W') := fun W hW => Calls.mono (HCR.out W (hz.trans (hW.mono hz.size))) (fun e W' h => ⟨h.1, hW.trans (h.2.mono hW.size)⟩)
      have HRRz : Hid (∀ W, Below wz.heap.size wz W → Calls Try.prog 24 #[.agg #[.string m0, .slice fa2 nF fc2, .slice ra2 nR rc2], .int .i64 tg] W fun e W' => e = .returned (.bool rb) ∧ Below wz.heap.size wz W') := fun W hW => Calls.mono (HRR.out W (hz.trans (hW.mono hz.size))) (fun e W' h => ⟨h.1, hW.trans (h.2.mono hW.size)⟩)
      clear HCF HRF HCR HRR P1 P2 P1z h1 h2 BSr BCr
      have kk0 := kept_cell k0
      have kk1 := kept_cell k1
      have kk2 := kept_cell k2
      have kk3 := kept_cell l0
      have kk4 := kept_cell l1
      have kk5 := kept_cell l2
      have kk6 := kept_cell x1
      have kk7 := kept_cell y1
      have kk8 := kept_cell mm0
      have kk9 := kept_cell mm1
      have kk10 := kept_cell mm2
      have kk11 := kept_cell mm3
      have kk12 := kept_cell mm4
      have kk13 := kept_cell nn0
      have kk14 := kept_cell nn1
      have kk15 := kept_cell nn2
      have kk16 := kept_cell nn3
      have kk17 := kept_cell nn4
      haveI := nonempty_qb (Below.refl wz.heap.size wz)
      refine wp_region_qb (Below.refl wz.heap.size wz) (by kernel_rfl) (by kernel_rfl) ?_
      repeat (go_big_quiet_step (first | (go_at_call 23; exact qb_call HCRz.out) | (go_at_call 24; exact qb_call HRRz.out)))
      refine wpQuiet_nil ?_
      rintro we ⟨⟨_, hW⟩, rfl⟩
      clear kk0 kk1 kk2 kk3 kk4 kk5 kk6 kk7 kk8 kk9 kk10 kk11 kk12 kk13 kk14 kk15 kk16 kk17
      have hbn : Below w12.heap.size w12 we := (hbl.trans (hz.mono hbl.size)).trans (hW.mono (hbl.trans (hz.mono hbl.size)).size)
      clear k0 k1 k2 l0 l1 l2 x1 y1 mm0 mm1 mm2 mm3 mm4 nn0 nn1 nn2 nn3 nn4 HCRz HRRz hW hz hbl hbw
      go_wp2_with fail
      go_roundw
      case rel => exact ⟨i + 1, by go_num, by omega, hbn⟩
      case measure => simp [intOf]; omega
    · go_wp2_with fail
      clear x1
      refine (awake_any _).mono ?_
      rintro e w13 ⟨rfl, hb13⟩
      go_wp2_with fail
      go_ret
      exact ⟨rfl, hbw.trans (hb13.mono hbw.size)⟩
end Go.Proofs.Ytomeppgmmlaibaa

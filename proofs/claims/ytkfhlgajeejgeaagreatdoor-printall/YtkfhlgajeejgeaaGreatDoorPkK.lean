/- What print's Canon answers: the schema in order, in new memory. -/
import Derived.Test.YtkfhlgajeejgeaaGreatDoorPkJ
import Derived.Test.YtkfhlgajeejgeaaGreatDoorPkC
import Derived.Test.YtkfhlgajeejgeaaGreatDoorPkF
import Derived.Test.YtkfhlgajeejgeaaGreatDoorPkA
namespace Go.Proofs.YtkfhlgajeejgeaaGreatDoor
open Go.ChangeShapes Go.WideShapes Go.ChangeAt Go.RowKit
set_option linter.unusedVariables false
set_option linter.unusedSimpArgs false
set_option maxRecDepth 20000

set_option maxHeartbeats 8000000 in
theorem canon_any {w : World} {v : Value} {s : ScS} (hr : ScIn w v s) (hf : FewL s) (hv : ∀ e ∈ s.enums, e.values.length ≤ capN) :
    Calls Tryz.prog 13 #[v] w fun e w' => ∃ vm ve vt pm pe, e = .returned (.agg #[.string s.name, vm, ve, vt]) ∧ MsO w' w.heap.size vm (canonS s).msgs pm ∧ EnO w' w.heap.size ve (canonS s).enums pe ∧ w'.ownsRow w.heap.size 54 3 vt s.methods.length (mtRows s.methods).flatten ∧ Below w.heap.size w w' := by
  obtain ⟨vm0, ve0, vt0, rfl, hm, he, ht⟩ := hr
  obtain ⟨am, cm, rfl, qm1, qm2⟩ := hm.form2
  obtain ⟨ae, ce, rfl, qe1, qe2⟩ := he.form2
  obtain ⟨at', ct, rfl, qt1, qt2⟩ := ht.form2
  have hT : (mtRows s.methods).length = s.methods.length := by simp [mtRows]
  rw [hT] at ht qt1 ⊢
  clear hT
  obtain ⟨nm, ms, es, ts⟩ := s
  simp only [canonS] at *
  obtain ⟨mrows, hm1, hm2, hm3, hm4, hm5⟩ := hm.rows
  obtain ⟨erows, he1, he2, he3, he4, he5⟩ := he.rows
  have HF : Hid (FewL ⟨nm, ms, es, ts⟩) := hf
  have HV : Hid (∀ e ∈ es, e.values.length ≤ capN) := hv
  have h1 : ms.length ≤ 14 := hf.msgs
  have h2 : es.length ≤ 10 := hf.enums
  have h3 : ts.length ≤ 10 := hf.meths
  obtain ⟨M, hM⟩ : ∃ N, ms.length = N := ⟨_, rfl⟩
  obtain ⟨E, hE⟩ : ∃ N, es.length = N := ⟨_, rfl⟩
  obtain ⟨T, hT⟩ : ∃ N, ts.length = N := ⟨_, rfl⟩
  rw [hM] at hm1 hm2 qm1 h1 ⊢
  rw [hE] at he1 he2 qe1 h2 ⊢
  rw [hT] at ht qt1 h3 ⊢
  have HM1 : Hid (RowG w (.slice am M cm) 3 mrows) := hm1
  have HM2 : Hid (mrows.length = M) := hm2
  have HM3 : Hid (∀ r ∈ mrows, r.length = 3) := hm3
  have HM4 : Hid (∀ u ∈ mrows.flatten, u.oneCell' = true) := hm4
  have HM5 : Hid (∀ (i : Nat) (m : MsS), ms[i]? = some m → ∃ vf vr, mrows[i]? = some [.string m.name, vf, vr] ∧ RowG w vf 5 (flRows m.fields) ∧ RowG w vr 1 (inRows m.reserved)) := hm5
  have HE1 : Hid (RowG w (.slice ae E ce) 2 erows) := he1
  have HE2 : Hid (erows.length = E) := he2
  have HE3 : Hid (∀ r ∈ erows, r.length = 2) := he3
  have HE4 : Hid (∀ u ∈ erows.flatten, u.oneCell' = true) := he4
  have HE5 : Hid (∀ (i : Nat) (m : EnS), es[i]? = some m → ∃ vf, erows[i]? = some [.string m.name, vf] ∧ RowG w vf 2 (nmRows m.values)) := he5
  have HT : Hid (RowG w (.slice at' T ct) 3 (mtRows ts)) := ht
  have HNM : Hid (ms.length = M) := hM
  have HNE : Hid (es.length = E) := hE
  have HNT : Hid (ts.length = T) := hT
  have HNR : Hid ((mtRows ts).length = T) := by show _ = _; simp [mtRows, hT]
  have HCM : Hid ((ms.map canonM).length = M) := by show _ = _; simp [hM]
  have HCE : Hid ((es.map canonE).length = E) := by show _ = _; simp [hE]
  clear hM hE hT hf hm he ht hm1 hm2 hm3 hm4 hm5 he1 he2 he3 he4 he5 hv
  go_enter Tryz.func13, Tryz.ntmps13
  go_wp2_with fail
  refine M_region (T := fun W => W.cell? ⟨w.heap.size, 1, none⟩ = some (.slice am M cm) ∧ W.cell? ⟨w.heap.size, 2, none⟩ = some (.slice ae E ce) ∧ W.cell? ⟨w.heap.size, 3, none⟩ = some (.slice at' T ct)) (m := 10) (by kernel_rfl) ?_
  have HB0 : Hid (Below w.heap.size w ((w.alloc (.cells #[.string nm, .slice am M cm, .slice ae E ce, .slice at' T ct] 26)).alloc (.cells #[.string ⟨#[]⟩, .slice none 0 0, .slice none 0 0, .slice none 0 0] 26)).drew) := below_drewN 1 (((Below.refl _ _).alloc (Nat.le_refl _) _).alloc (by simp) _)
  have HX0 : Hid (Blk ((w.alloc (.cells #[.string nm, .slice am M cm, .slice ae E ce, .slice at' T ct] 26)).alloc (.cells #[.string ⟨#[]⟩, .slice none 0 0, .slice none 0 0, .slice none 0 0] 26)).drew w.heap.size #[.string nm, .slice am M cm, .slice ae E ce, .slice at' T ct] 26) := (Blk.new w _ _).below (below_drewN 1 ((Below.refl _ _).alloc (Nat.le_refl _) _))
  have HR0 : Hid (Blk ((w.alloc (.cells #[.string nm, .slice am M cm, .slice ae E ce, .slice at' T ct] 26)).alloc (.cells #[.string ⟨#[]⟩, .slice none 0 0, .slice none 0 0, .slice none 0 0] 26)).drew (w.heap.size + 1) #[.string ⟨#[]⟩, .slice none 0 0, .slice none 0 0, .slice none 0 0] 26) := by
    have := Blk.new (w.alloc (.cells #[.string nm, .slice am M cm, .slice ae E ce, .slice at' T ct] 26)) #[.string ⟨#[]⟩, .slice none 0 0, .slice none 0 0, .slice none 0 0] 26
    rw [show (w.alloc (.cells #[.string nm, .slice am M cm, .slice ae E ce, .slice at' T ct] 26)).heap.size = w.heap.size + 1 by simp] at this
    exact this
  have HS0 : Hid (((w.alloc (.cells #[.string nm, .slice am M cm, .slice ae E ce, .slice at' T ct] 26)).alloc (.cells #[.string ⟨#[]⟩, .slice none 0 0, .slice none 0 0, .slice none 0 0] 26)).drew.heap.size = w.heap.size + 2) := by show _ = _; simp [World.drew]
  generalize ((w.alloc (.cells #[.string nm, .slice am M cm, .slice ae E ce, .slice at' T ct] 26)).alloc (.cells #[.string ⟨#[]⟩, .slice none 0 0, .slice none 0 0, .slice none 0 0] 26)).drew = W0 at *
  obtain ⟨b0, hb0⟩ : ∃ n, w.heap.size = n := ⟨_, rfl⟩
  rw [hb0] at HX0 HR0 HS0 ⊢
  have HBZ : Hid (w.heap.size = b0) := hb0
  clear hb0
  have hTW : ∀ W, Below W0.heap.size W0 W → W.cell? ⟨b0, 1, none⟩ = some (.slice am M cm) ∧ W.cell? ⟨b0, 2, none⟩ = some (.slice ae E ce) ∧ W.cell? ⟨b0, 3, none⟩ = some (.slice at' T ct) := fun W hW => ⟨(HX0.out.below hW).cell 1, (HX0.out.below hW).cell 2, (HX0.out.below hW).cell 3⟩
  have hT := hTW W0 (Below.refl _ _)
  refine M_take 0 7 (.pointer (some ⟨b0, 1, none⟩)) _ rfl rfl (by kernel_rfl) (by kernel_rfl) (by kernel_rfl) (by kernel_rfl) (by kernel_rfl) (fun _ _ _ h => h) (by rfl) (fun w' hw' => ?_) hT (listed' := #[true, false, false, false, false, false, false, false, false, false, false, false, false, false, false]) (by kernel_rfl) rfl ?_
  · obtain ⟨g1, g2, g3⟩ := hw'; go_simp
  simp only [List.setIfInBounds_toArray, List.set_cons_zero, List.set_cons_succ]
  refine M_take 3 10 (.pointer (some ⟨b0, 2, none⟩)) _ rfl rfl (by kernel_rfl) (by kernel_rfl) (by kernel_rfl) (by kernel_rfl) (by kernel_rfl) (fun _ _ _ h => h) (by rfl) (fun w' hw' => ?_) hT (listed' := #[true, false, false, true, false, false, false, false, false, false, false, false, false, false, false]) (by kernel_rfl) rfl ?_
  · obtain ⟨g1, g2, g3⟩ := hw'; go_simp
  simp only [List.setIfInBounds_toArray, List.set_cons_zero, List.set_cons_succ]
  refine M_take 6 13 (.pointer (some ⟨b0, 3, none⟩)) _ rfl rfl (by kernel_rfl) (by kernel_rfl) (by kernel_rfl) (by kernel_rfl) (by kernel_rfl) (fun _ _ _ h => h) (by rfl) (fun w' hw' => ?_) hT (listed' := #[true, false, false, true, false, false, true, false, false, false, false, false, false, false, false]) (by kernel_rfl) rfl ?_
  · obtain ⟨g1, g2, g3⟩ := hw'; go_simp
  simp only [List.setIfInBounds_toArray, List.set_cons_zero, List.set_cons_succ]
  refine M_take 1 8 (.slice am M cm) _ rfl rfl (by kernel_rfl) (by kernel_rfl) (by kernel_rfl) (by kernel_rfl) (by kernel_rfl) (fun _ _ _ h => h) (by rfl) (fun w' hw' => ?_) hT (listed' := #[true, true, false, true, false, false, true, false, false, false, false, false, false, false, false]) (by kernel_rfl) rfl ?_
  · obtain ⟨g1, g2, g3⟩ := hw'; go_simp
  simp only [List.setIfInBounds_toArray, List.set_cons_zero, List.set_cons_succ]
  refine M_take 4 11 (.slice ae E ce) _ rfl rfl (by kernel_rfl) (by kernel_rfl) (by kernel_rfl) (by kernel_rfl) (by kernel_rfl) (fun _ _ _ h => h) (by rfl) (fun w' hw' => ?_) hT (listed' := #[true, true, false, true, true, false, true, false, false, false, false, false, false, false, false]) (by kernel_rfl) rfl ?_
  · obtain ⟨g1, g2, g3⟩ := hw'; go_simp
  simp only [List.setIfInBounds_toArray, List.set_cons_zero, List.set_cons_succ]
  refine M_take 7 14 (.slice at' T ct) _ rfl rfl (by kernel_rfl) (by kernel_rfl) (by kernel_rfl) (by kernel_rfl) (by kernel_rfl) (fun _ _ _ h => h) (by rfl) (fun w' hw' => ?_) hT (listed' := #[true, true, false, true, true, false, true, true, false, false, false, false, false, false, false]) (by kernel_rfl) rfl ?_
  · obtain ⟨g1, g2, g3⟩ := hw'; go_simp
  simp only [List.setIfInBounds_toArray, List.set_cons_zero, List.set_cons_succ]
  refine M_call 2 9 25 #[.slice am M cm] rfl rfl (by kernel_rfl) (by rfl) (listed' := #[true, true, true, true, true, false, true, true, false, false, false, false, false, false, false]) (by kernel_rfl) (fun W => by go_simp) ?_
  refine (pfreshM_any (HM1.out.below HB0.out) HM3.out HM4.out (by have := HM2.out; omega)).mono ?_
  rintro e W1 ⟨u, rfl, ho, hq⟩
  have hb1 : Below W0.heap.size W0 W1 := hq
  have hT := hTW W1 hb1
  rw [HM2.out] at ho
  obtain ⟨ma, mc, hu⟩ := own_form ho
  subst hu
  refine ⟨_, rfl, hT, ?_⟩
  simp only [List.setIfInBounds_toArray, List.set_cons_zero, List.set_cons_succ]
  have HO1 : Hid (W1.ownsRow W0.heap.size 40 3 (.slice ma M mc) M mrows.flatten) := ho
  clear ho hq
  refine M_take 9 16 (.pointer (some ⟨b0, 1, none⟩)) _ rfl rfl (by kernel_rfl) (by kernel_rfl) (by kernel_rfl) (by kernel_rfl) (by kernel_rfl) (fun _ _ _ h => h) (by rfl) (fun w' hw' => ?_) hT (listed' := #[true, true, true, true, true, false, true, true, false, true, false, false, false, false, false]) (by kernel_rfl) rfl ?_
  · obtain ⟨g1, g2, g3⟩ := hw'; go_simp
  simp only [List.setIfInBounds_toArray, List.set_cons_zero, List.set_cons_succ]
  refine M_call 5 12 26 #[.slice ae E ce] rfl rfl (by kernel_rfl) (by rfl) (listed' := #[true, true, true, true, true, true, true, true, false, true, false, false, false, false, false]) (by kernel_rfl) (fun W => by go_simp) ?_
  refine (pfreshE_any ((HE1.out.below HB0.out).below hb1) HE3.out HE4.out (by have := HE2.out; omega)).mono ?_
  rintro e W2 ⟨u, rfl, ho, hq⟩
  have hb2 : Below W0.heap.size W0 W2 := hb1.trans (hq.mono hb1.size)
  have hT := hTW W2 hb2
  rw [HE2.out] at ho
  obtain ⟨ea, ec, hu⟩ := own_form ho
  subst hu
  refine ⟨_, rfl, hT, ?_⟩
  simp only [List.setIfInBounds_toArray, List.set_cons_zero, List.set_cons_succ]
  have HO2 : Hid (W2.ownsRow W0.heap.size 47 2 (.slice ea E ec) E erows.flatten) := own_base ho hb1.size
  have HO1 : Hid (W2.ownsRow W0.heap.size 40 3 (.slice ma M mc) M mrows.flatten) := own_below HO1.out hq
  clear ho hq
  refine M_call 8 15 27 #[.slice at' T ct] rfl rfl (by kernel_rfl) (by rfl) (listed' := #[true, true, true, true, true, true, true, true, true, true, false, false, false, false, false]) (by kernel_rfl) (fun W => by go_simp) ?_
  refine (pfreshT_any ((HT.out.below HB0.out).below hb2) (mtr_len _) (mtr_one _) (by have := HNR.out; omega)).mono ?_
  rintro e W3 ⟨u, rfl, ho, hq⟩
  have hb3 : Below W0.heap.size W0 W3 := hb2.trans (hq.mono hb2.size)
  have hT := hTW W3 hb3
  rw [HNR.out] at ho
  obtain ⟨ta, tc, hu⟩ := own_form ho
  subst hu
  refine ⟨_, rfl, hT, ?_⟩
  simp only [List.setIfInBounds_toArray, List.set_cons_zero, List.set_cons_succ]
  have HO3 : Hid (W3.ownsRow W0.heap.size 54 3 (.slice ta T tc) T (mtRows ts).flatten) := own_base ho hb2.size
  have HO1 : Hid (W3.ownsRow W0.heap.size 40 3 (.slice ma M mc) M mrows.flatten) := own_below HO1.out hq
  have HO2 : Hid (W3.ownsRow W0.heap.size 47 2 (.slice ea E ec) E erows.flatten) := own_below HO2.out hq
  clear ho hq hb1 hb2
  have BX3 := HX0.out.below hb3
  have BR3 := HR0.out.below hb3
  have hbw : Below w.heap.size w W3 := HB0.out.trans (hb3.mono HB0.out.size)
  have HSZ : Hid (b0 + 2 = W0.heap.size) := HS0.out.symm
  have x1 := (BX3.cell 1).trans rfl
  have x2 := (BX3.cell 2).trans rfl
  have x3 := (BX3.cell 3).trans rfl
  have z1 := BX3.froz 1
  have z2 := BX3.froz 2
  have z3 := BX3.froz 3
  refine M_store 10 (W3.setCell ⟨b0, 1, none⟩ (.slice ma M mc)) rfl rfl (by kernel_rfl) (by rfl) (listed' := #[true, true, true, true, true, true, true, true, true, true, true, false, false, false, false]) (by kernel_rfl) (by go_simp) (by kernel_rfl) ?_
  have BA : Blk (W3.setCell ⟨b0, 1, none⟩ (.slice ma M mc)) b0 #[.string nm, .slice ma M mc, .slice ae E ce, .slice at' T ct] 26 := BX3.set 1 _ rfl
  have y2 := (BA.cell 2).trans rfl
  have y3 := BA.froz 2
  refine M_runA 11 17 (.pointer (some ⟨b0, 2, none⟩)) (W3.setCell ⟨b0, 1, none⟩ (.slice ma M mc)) rfl rfl (by kernel_rfl) (by rfl) (listed' := #[true, true, true, true, true, true, true, true, true, true, true, true, false, false, false]) (by kernel_rfl) (by go_simp) (by kernel_rfl) ?_
  simp only [List.setIfInBounds_toArray, List.set_cons_zero, List.set_cons_succ]
  refine M_store 12 ((W3.setCell ⟨b0, 1, none⟩ (.slice ma M mc)).setCell ⟨b0, 2, none⟩ (.slice ea E ec)) rfl rfl (by kernel_rfl) (by rfl) (listed' := #[true, true, true, true, true, true, true, true, true, true, true, true, true, false, false]) (by kernel_rfl) (by go_simp) (by kernel_rfl) ?_
  have BB : Blk ((W3.setCell ⟨b0, 1, none⟩ (.slice ma M mc)).setCell ⟨b0, 2, none⟩ (.slice ea E ec)) b0 #[.string nm, .slice ma M mc, .slice ea E ec, .slice at' T ct] 26 := BA.set 2 _ rfl
  have y4 := (BB.cell 3).trans rfl
  have y5 := BB.froz 3
  refine M_runA 13 18 (.pointer (some ⟨b0, 3, none⟩)) ((W3.setCell ⟨b0, 1, none⟩ (.slice ma M mc)).setCell ⟨b0, 2, none⟩ (.slice ea E ec)) rfl rfl (by kernel_rfl) (by rfl) (listed' := #[true, true, true, true, true, true, true, true, true, true, true, true, true, true, false]) (by kernel_rfl) (by go_simp) (by kernel_rfl) ?_
  simp only [List.setIfInBounds_toArray, List.set_cons_zero, List.set_cons_succ]
  refine M_store 14 (((W3.setCell ⟨b0, 1, none⟩ (.slice ma M mc)).setCell ⟨b0, 2, none⟩ (.slice ea E ec)).setCell ⟨b0, 3, none⟩ (.slice ta T tc)) rfl rfl (by kernel_rfl) (by rfl) (listed' := #[true, true, true, true, true, true, true, true, true, true, true, true, true, true, true]) (by kernel_rfl) (by go_simp) (by kernel_rfl) ?_
  refine M_done (by kernel_rfl) ?_ _
  have KS : Kp (fun k => k = b0) W3 (((W3.setCell ⟨b0, 1, none⟩ (.slice ma M mc)).setCell ⟨b0, 2, none⟩ (.slice ea E ec)).setCell ⟨b0, 3, none⟩ (.slice ta T tc)) := by
    refine Kp.setCell ?_ (fun _ => by simp) _
    refine Kp.setCell ?_ (fun _ => by simp) _
    refine Kp.setCell ?_ (fun _ => by simp) _
    exact Kp.refl _ _
  have BX4 : Blk (((W3.setCell ⟨b0, 1, none⟩ (.slice ma M mc)).setCell ⟨b0, 2, none⟩ (.slice ea E ec)).setCell ⟨b0, 3, none⟩ (.slice ta T tc)) b0 #[.string nm, .slice ma M mc, .slice ea E ec, .slice ta T tc] 26 := BB.set 3 _ rfl
  have BR4 := BR3.kp KS (by omega)
  have hq : ∀ k, W0.heap.size ≤ k → ¬ k = b0 := fun k hk => by have := HSZ.out; omega
  have HMP : Hid (MsP (((W3.setCell ⟨b0, 1, none⟩ (.slice ma M mc)).setCell ⟨b0, 2, none⟩ (.slice ea E ec)).setCell ⟨b0, 3, none⟩ (.slice ta T tc)) W0.heap.size (.slice ma M mc) (ms.map canonM) mrows 0 mrows []) := MsP.start (by rw [HCM.out]; exact own_kp HO1.out KS hq) (by rw [HCM.out]; exact HM2.out) HM3.out
  have HEP : Hid (EnP (((W3.setCell ⟨b0, 1, none⟩ (.slice ma M mc)).setCell ⟨b0, 2, none⟩ (.slice ea E ec)).setCell ⟨b0, 3, none⟩ (.slice ta T tc)) W0.heap.size (.slice ea E ec) (es.map canonE) erows 0 erows []) := EnP.start (by rw [HCE.out]; exact own_kp HO2.out KS hq) (by rw [HCE.out]; exact HE2.out) HE3.out
  have HTO : Hid ((((W3.setCell ⟨b0, 1, none⟩ (.slice ma M mc)).setCell ⟨b0, 2, none⟩ (.slice ea E ec)).setCell ⟨b0, 3, none⟩ (.slice ta T tc)).ownsRow W0.heap.size 54 3 (.slice ta T tc) T (mtRows ts).flatten) := own_kp HO3.out KS hq
  have hb4 : Below w.heap.size w (((W3.setCell ⟨b0, 1, none⟩ (.slice ma M mc)).setCell ⟨b0, 2, none⟩ (.slice ea E ec)).setCell ⟨b0, 3, none⟩ (.slice ta T tc)) := hbw.trans (KS.toBelow hbw.size (fun k e => by have := HBZ.out; omega))
  generalize (((W3.setCell ⟨b0, 1, none⟩ (.slice ma M mc)).setCell ⟨b0, 2, none⟩ (.slice ea E ec)).setCell ⟨b0, 3, none⟩ (.slice ta T tc)) = W4 at *
  clear x1 x2 x3 z1 z2 z3 y2 y3 y4 y5 BA BB KS HO1 HO2 HO3 BX3 BR3 hbw hT hTW HX0 HR0 HB0 hb3 hq HM1 HE1 HT HM2 HM3 HM4 HE2 HE3 HE4
  obtain ⟨B, hB⟩ : ∃ B, W0.heap.size = B := ⟨_, rfl⟩
  rw [hB] at HMP HEP HTO HSZ
  clear hB HS0
  have x1 := (BX4.cell 1).trans rfl
  go_wp2_with fail
  clear x1
  go_loopw [22] (fun iv wr => ∃ (k : Nat) (rows : List (List Value)) (ps : List (Value × Value)), iv = .int .i64 (k : Int) ∧ k ≤ M ∧ Hid (MsP wr B (.slice ma M mc) (ms.map canonM) mrows k rows ps) ∧ Hid (EnP wr B (.slice ea E ec) (es.map canonE) erows 0 erows []) ∧ Hid (wr.ownsRow B 54 3 (.slice ta T tc) T (mtRows ts).flatten) ∧ Blk wr b0 #[.string nm, .slice ma M mc, .slice ea E ec, .slice ta T tc] 26 ∧ Blk wr (b0 + 1) #[.string ⟨#[]⟩, .slice none 0 0, .slice none 0 0, .slice none 0 0] 26 ∧ Below w.heap.size w wr) (fun iv _ => M - (intOf iv).toNat)
  case atStart => exact ⟨0, _, _, rfl, by omega, HMP, HEP, HTO, BX4, BR4, hb4⟩
  case round =>
    obtain ⟨k, rows, ps, rfl, hk, HMK, HEK, HTK, BX, BR, hbel⟩ := hrel
    clear HMP HEP HTO BX4 BR4 hb4
    by_cases hlt : k < M
    · obtain ⟨m, hm⟩ : ∃ n, ms[k]? = some n := ⟨_, List.getElem?_eq_getElem (by rw [HNM.out]; exact hlt)⟩
      obtain ⟨vf, vr, hrow, hrf, hrr⟩ := HM5.out k m hm
      have hown := HMK.out.own
      rw [HCM.out] at hown
      obtain ⟨q, qc, hq0, hq1, hq2, hq3, hq4⟩ := own_addr hown (by omega)
      simp only [Value.slice.injEq] at hq0
      obtain ⟨rfl, _, rfl⟩ := hq0
      have hrk : rows[k]? = some [.string m.name, vf, vr] := (HMK.out.rest k (Nat.le_refl _)).trans hrow
      have c0 := own_at HMK.out.wide hown hrk (j := 0) rfl
      have c1 := own_at HMK.out.wide hown hrk (j := 1) rfl
      have c2 := own_at HMK.out.wide hown hrk (j := 2) rfl
      rw [Nat.add_zero] at c0
      have HFl : Hid (m.fields.length ≤ 20 ∧ m.reserved.length ≤ 40) := HF.out.flds m (List.mem_of_getElem? hm)
      have HCK : Hid ((ms.map canonM)[k]? = some (canonM m)) := by show _ = _; simp [hm]
      have HFf : Hid (RowG wr vf 5 (flRows m.fields)) := hrf.below hbel
      have HRr : Hid (RowG wr vr 1 (inRows m.reserved)) := hrr.below hbel
      obtain ⟨a3, c3, hv3, _, _⟩ := hrf.form2
      subst hv3
      obtain ⟨a4, c4, hv4, _, _⟩ := hrr.form2
      subst hv4
      obtain ⟨m0, mf, mr⟩ := m
      simp only at c0 c1 c2 HFl HCK HFf HRr
      have HFf : Hid (RowG wr (.slice a3 (flRows mf).length c3) 5 (flRows mf)) := HFf
      have HRr : Hid (RowG wr (.slice a4 (inRows mr).length c4) 1 (inRows mr)) := HRr
      generalize (flRows mf).length = nF at *
      generalize (inRows mr).length = nR at *
      clear hrf hrr hm hrow hrk
      have HQ : Hid (B ≤ q ∧ q < wr.heap.size) := ⟨hq3, hq4⟩
      have HOW : Hid (wr.ownsRow B 40 3 (.slice (some ⟨q, 0, none⟩) M mc) M rows.flatten) := hown
      clear hown hq3 hq4
      have hkM : (k : Int) < (M : Int) := by omega
      go_wp2_with fail
      clear c0 c1 c2
      refine M_region (T := fun W => W.cell? ⟨b0, 1, none⟩ = some (.slice (some ⟨q, 0, none⟩) M mc) ∧ W.cell? ⟨wr.heap.size, 0, none⟩ = some (.string m0) ∧ W.cell? ⟨wr.heap.size, 1, none⟩ = some (.slice a3 nF c3) ∧ W.cell? ⟨wr.heap.size, 2, none⟩ = some (.slice a4 nR c4)) (m := 6) (by kernel_rfl) ?_
      have hb0 : Below wr.heap.size wr (wr.alloc (.cells #[.string m0, .slice a3 nF c3, .slice a4 nR c4] 40)).drew := below_drewN 1 ((Below.refl _ _).alloc (Nat.le_refl _) _)
      have BM0 : Blk (wr.alloc (.cells #[.string m0, .slice a3 nF c3, .slice a4 nR c4] 40)).drew wr.heap.size #[.string m0, .slice a3 nF c3, .slice a4 nR c4] 40 := Blk.new wr #[.string m0, .slice a3 nF c3, .slice a4 nR c4] 40
      generalize (wr.alloc (.cells #[.string m0, .slice a3 nF c3, .slice a4 nR c4] 40)).drew = W5 at *
      have BX5 := BX.below hb0
      have BR5 := BR.below hb0
      have HM5' : Hid (MsP W5 B (.slice (some ⟨q, 0, none⟩) M mc) (ms.map canonM) mrows k rows ps) := HMK.out.below hb0
      have HE5' : Hid (EnP W5 B (.slice ea E ec) (es.map canonE) erows 0 erows []) := HEK.out.below hb0
      have HT5' : Hid (W5.ownsRow B 54 3 (.slice ta T tc) T (mtRows ts).flatten) := own_below HTK.out hb0
      have HF5 : Hid (RowG W5 (.slice a3 nF c3) 5 (flRows mf)) := HFf.out.below hb0
      have HR5 : Hid (RowG W5 (.slice a4 nR c4) 1 (inRows mr)) := HRr.out.below hb0
      have hbel5 : Below w.heap.size w W5 := hbel.trans (hb0.mono hbel.size)
      have HBW : Hid (B ≤ W5.heap.size) := by have := HQ.out; have := hb0.size; show _ ≤ _; omega
      obtain ⟨bm, hbm⟩ : ∃ n, wr.heap.size = n := ⟨_, rfl⟩
      rw [hbm] at BM0 ⊢
      clear hbm BX BR HMK HEK HTK HFf HRr hb0 hbel
      have hTW : ∀ W, Below W5.heap.size W5 W → W.cell? ⟨b0, 1, none⟩ = some (.slice (some ⟨q, 0, none⟩) M mc) ∧ W.cell? ⟨bm, 0, none⟩ = some (.string m0) ∧ W.cell? ⟨bm, 1, none⟩ = some (.slice a3 nF c3) ∧ W.cell? ⟨bm, 2, none⟩ = some (.slice a4 nR c4) := fun W hW => ⟨(BX5.below hW).cell 1, (BM0.below hW).cell 0, (BM0.below hW).cell 1, (BM0.below hW).cell 2⟩
      have hT := hTW W5 (Below.refl _ _)
      refine M_take 0 27 (.pointer (some ⟨b0, 1, none⟩)) _ rfl rfl (by kernel_rfl) (by kernel_rfl) (by kernel_rfl) (by kernel_rfl) (by kernel_rfl) (fun _ _ _ h => h) (by rfl) (fun w' hw' => ?_) hT (listed' := #[true, false, false, false, false, false, false]) (by kernel_rfl) rfl ?_
      · obtain ⟨g1, g2, g3, g4⟩ := hw'; go_simp
      simp only [List.setIfInBounds_toArray, List.set_cons_zero, List.set_cons_succ]
      refine M_take 2 29 (.int .i64 (k : Int)) _ rfl rfl (by kernel_rfl) (by kernel_rfl) (by kernel_rfl) (by kernel_rfl) (by kernel_rfl) (fun _ _ _ h => h) (by rfl) (fun w' hw' => ?_) hT (listed' := #[true, false, true, false, false, false, false]) (by kernel_rfl) rfl ?_
      · obtain ⟨g1, g2, g3, g4⟩ := hw'; go_simp
      simp only [List.setIfInBounds_toArray, List.set_cons_zero, List.set_cons_succ]
      refine M_take 1 28 (.slice (some ⟨q, 0, none⟩) M mc) _ rfl rfl (by kernel_rfl) (by kernel_rfl) (by kernel_rfl) (by kernel_rfl) (by kernel_rfl) (fun _ _ _ h => h) (by rfl) (fun w' hw' => ?_) hT (listed' := #[true, true, true, false, false, false, false]) (by kernel_rfl) rfl ?_
      · obtain ⟨g1, g2, g3, g4⟩ := hw'; go_simp
      simp only [List.setIfInBounds_toArray, List.set_cons_zero, List.set_cons_succ]
      refine M_take 3 30 (.agg #[.string m0, .slice a3 nF c3, .slice a4 nR c4]) _ rfl rfl (by kernel_rfl) (by kernel_rfl) (by kernel_rfl) (by kernel_rfl) (by kernel_rfl) (fun _ _ _ h => h) (by rfl) (fun w' hw' => ?_) hT (listed' := #[true, true, true, true, false, false, false]) (by kernel_rfl) rfl ?_
      · obtain ⟨g1, g2, g3, g4⟩ := hw'; go_simp
      simp only [List.setIfInBounds_toArray, List.set_cons_zero, List.set_cons_succ]
      refine M_call 4 31 28 #[.agg #[.string m0, .slice a3 nF c3, .slice a4 nR c4]] rfl rfl (by kernel_rfl) (by rfl) (listed' := #[true, true, true, true, true, false, false]) (by kernel_rfl) (fun W => by go_simp) ?_
      refine (canonM_any (m := ⟨m0, mf, mr⟩) HF5.out HR5.out HFl.out.1 (by have := HFl.out; show mr.length ≤ 1000; omega)).mono ?_
      rintro e W6 ⟨uf, ur, rfl, ho1, ho2, hb6⟩
      have hT := hTW W6 hb6
      obtain ⟨fa, fc, hu⟩ := own_form ho1
      subst hu
      obtain ⟨ra, rc, hu⟩ := own_form ho2
      subst hu
      refine ⟨_, rfl, hT, ?_⟩
      simp only [List.setIfInBounds_toArray, List.set_cons_zero, List.set_cons_succ]
      simp only at ho1 ho2 ⊢
      have HCL : Hid ((canonM ⟨m0, mf, mr⟩).fields.length = mf.length ∧ (canonM ⟨m0, mf, mr⟩).reserved.length = mr.length) := ⟨srtF_len _ _, srtF_len _ _⟩
      have HO1 : Hid (W6.ownsRow W5.heap.size 44 5 (.slice fa mf.length fc) (canonM ⟨m0, mf, mr⟩).fields.length (flRows (canonM ⟨m0, mf, mr⟩).fields).flatten) := by show World.ownsRow _ _ _ _ _ _ _; rw [HCL.out.1]; exact ho1
      have HO2 : Hid (W6.ownsRow W5.heap.size 3 1 (.slice ra mr.length rc) (canonM ⟨m0, mf, mr⟩).reserved.length (inRows (canonM ⟨m0, mf, mr⟩).reserved).flatten) := by show World.ownsRow _ _ _ _ _ _ _; rw [HCL.out.2]; exact ho2
      have HM6 : Hid (MsP W6 B (.slice (some ⟨q, 0, none⟩) M mc) (ms.map canonM) mrows k rows ps) := HM5'.out.below hb6
      have BX6 := BX5.below hb6
      have BR6 := BR5.below hb6
      have HE6 : Hid (EnP W6 B (.slice ea E ec) (es.map canonE) erows 0 erows []) := HE5'.out.below hb6
      have HT6 : Hid (W6.ownsRow B 54 3 (.slice ta T tc) T (mtRows ts).flatten) := own_below HT5'.out hb6
      have hbel6 : Below w.heap.size w W6 := hbel5.trans (hb6.mono hbel5.size)
      have hstep := HM6.out.step HCM.out HCK.out HM5'.out.high HBW.out HO1.out HO2.out
      have hown := HM6.out.own
      rw [HCM.out] at hown
      obtain ⟨rk, hrk⟩ : ∃ r, rows[k]? = some r := ⟨_, List.getElem?_eq_getElem (by rw [HM6.out.rl, HCM.out]; exact hlt)⟩
      have hw3 := HM6.out.wide rk (List.mem_of_getElem? hrk)
      obtain ⟨r0, r1, r2, hr3⟩ : ∃ a b c, rk = [a, b, c] := by
        match rk, hw3 with
        | [a, b, c], _ => exact ⟨a, b, c, rfl⟩
      subst hr3
      have c0 := own_at HM6.out.wide hown hrk (j := 0) rfl
      have c1 := own_at HM6.out.wide hown hrk (j := 1) rfl
      have c2 := own_at HM6.out.wide hown hrk (j := 2) rfl
      rw [Nat.add_zero] at c0
      have f0 := own_froz hown (k * 3)
      have f1 := own_froz hown (k * 3 + 1)
      have f2 := own_froz hown (k * 3 + 2)
      have HST : Hid _ := hstep
      clear hstep hown hrk hw3 ho1 ho2
      refine M_run 5 32 (.pointer (some ⟨q, k * 3, none⟩)) (W6) rfl rfl (by kernel_rfl) (by rfl) (listed' := #[true, true, true, true, true, true, false]) (by kernel_rfl) (by go_simp) hT ?_
      simp only [List.setIfInBounds_toArray, List.set_cons_zero, List.set_cons_succ]
      refine M_store 6 (((W6.setCell ⟨q, k * 3, none⟩ (.string m0)).setCell ⟨q, k * 3 + 1, none⟩ (.slice fa mf.length fc)).setCell ⟨q, k * 3 + 2, none⟩ (.slice ra mr.length rc)) rfl rfl (by kernel_rfl) (by rfl) (listed' := #[true, true, true, true, true, true, true]) (by kernel_rfl) (by go_simp) (by kernel_rfl) ?_
      refine M_done (by kernel_rfl) ?_ _
      obtain ⟨hst, KS⟩ := HST.out
      have HM7 : Hid (MsP (((W6.setCell ⟨q, k * 3, none⟩ (.string m0)).setCell ⟨q, k * 3 + 1, none⟩ (.slice fa mf.length fc)).setCell ⟨q, k * 3 + 2, none⟩ (.slice ra mr.length rc)) B (.slice (some ⟨q, 0, none⟩) M mc) (ms.map canonM) mrows (k + 1) (rows.set k [.string m0, .slice fa mf.length fc, .slice ra mr.length rc]) (ps ++ [(.slice fa mf.length fc, .slice ra mr.length rc)])) := hst
      have KS : Kp (fun b => b = q) W6 (((W6.setCell ⟨q, k * 3, none⟩ (.string m0)).setCell ⟨q, k * 3 + 1, none⟩ (.slice fa mf.length fc)).setCell ⟨q, k * 3 + 2, none⟩ (.slice ra mr.length rc)) := KS
      have hne : ∀ b, b < B → ¬ b = q := fun b hb => by have := HQ.out; omega
      have BX7 := BX6.kp KS (hne _ (by have := HSZ.out; omega))
      have BR7 := BR6.kp KS (hne _ (by have := HSZ.out; omega))
      have howm := HM6.out.own
      have HE7 : Hid (EnP (((W6.setCell ⟨q, k * 3, none⟩ (.string m0)).setCell ⟨q, k * 3 + 1, none⟩ (.slice fa mf.length fc)).setCell ⟨q, k * 3 + 2, none⟩ (.slice ra mr.length rc)) B (.slice ea E ec) (es.map canonE) erows 0 erows []) := ⟨HE6.out.len, HE6.out.le, HE6.out.rl, HE6.out.wide, own_kpV HE6.out.own KS (fun b hb e => by subst e; exact own_apart howm HE6.out.own (by decide) b rfl hb), HE6.out.done, HE6.out.rest, fun i m p _ hp => by simp at hp⟩
      have HT7 : Hid ((((W6.setCell ⟨q, k * 3, none⟩ (.string m0)).setCell ⟨q, k * 3 + 1, none⟩ (.slice fa mf.length fc)).setCell ⟨q, k * 3 + 2, none⟩ (.slice ra mr.length rc)).ownsRow B 54 3 (.slice ta T tc) T (mtRows ts).flatten) := own_kpV HT6.out KS (fun b hb e => by subst e; exact own_apart howm HT6.out (by decide) b rfl hb)
      have hbel7 : Below w.heap.size w (((W6.setCell ⟨q, k * 3, none⟩ (.string m0)).setCell ⟨q, k * 3 + 1, none⟩ (.slice fa mf.length fc)).setCell ⟨q, k * 3 + 2, none⟩ (.slice ra mr.length rc)) := hbel6.trans (KS.toBelow hbel6.size (fun b e => by have := HQ.out; have := HSZ.out; have := HBZ.out; omega))
      generalize (((W6.setCell ⟨q, k * 3, none⟩ (.string m0)).setCell ⟨q, k * 3 + 1, none⟩ (.slice fa mf.length fc)).setCell ⟨q, k * 3 + 2, none⟩ (.slice ra mr.length rc)) = W7 at *
      clear hst KS HST BX6 BR6 HE6 HT6 HM6 hbel6 c0 c1 c2 f0 f1 f2 howm HO1 HO2 HM5' HE5' HT5' BX5 BR5 hT hTW BM0 hbel5
      go_wp2_with fail
      go_roundw
      case rel => exact ⟨k + 1, _, _, by go_num, by omega, HM7, HE7, HT7, BX7, BR7, hbel7⟩
      case measure => simp [intOf]; omega
    · obtain rfl : k = M := by omega
      have HMS : Hid (MsO wr B (.slice ma k mc) (ms.map canonM) ps) := by
        have := HMK.out
        rw [← HCM.out] at this
        have := this.all
        rw [HCM.out] at this
        exact this
      clear HMK
      have x2 := (BX.cell 2).trans rfl
      have hkM : ¬ (k : Int) < (k : Int) := by omega
      go_wp2_with fail
      clear x2
      go_loopw [37] (fun iv wr => ∃ (i : Nat) (rows : List (List Value)) (pe : List Value), iv = .int .i64 (i : Int) ∧ i ≤ E ∧ Hid (EnP wr B (.slice ea E ec) (es.map canonE) erows i rows pe) ∧ Hid (MsO wr B (.slice ma k mc) (ms.map canonM) ps) ∧ Hid (wr.ownsRow B 54 3 (.slice ta T tc) T (mtRows ts).flatten) ∧ Blk wr b0 #[.string nm, .slice ma k mc, .slice ea E ec, .slice ta T tc] 26 ∧ Blk wr (b0 + 1) #[.string ⟨#[]⟩, .slice none 0 0, .slice none 0 0, .slice none 0 0] 26 ∧ Below w.heap.size w wr) (fun iv _ => E - (intOf iv).toNat)
      case atStart => exact ⟨0, _, _, rfl, by omega, HEK, HMS, HTK, BX, BR, hbel⟩
      case round =>
        obtain ⟨i, rows, pe, rfl, hi, HEK, HMS, HTK, BX, BR, hbel⟩ := hrel
        by_cases hlt : i < E
        · obtain ⟨m, hm⟩ : ∃ n, es[i]? = some n := ⟨_, List.getElem?_eq_getElem (by rw [HNE.out]; exact hlt)⟩
          obtain ⟨vf, hrow, hrf⟩ := HE5.out i m hm
          have hown := HEK.out.own
          rw [HCE.out] at hown
          obtain ⟨q, qc, hq0, hq1, hq2, hq3, hq4⟩ := own_addr hown (by omega)
          simp only [Value.slice.injEq] at hq0
          obtain ⟨rfl, _, rfl⟩ := hq0
          have hrk : rows[i]? = some [.string m.name, vf] := (HEK.out.rest i (Nat.le_refl _)).trans hrow
          have c0 := own_at HEK.out.wide hown hrk (j := 0) rfl
          have c1 := own_at HEK.out.wide hown hrk (j := 1) rfl
          rw [Nat.add_zero] at c0
          have HFl : Hid (m.values.length ≤ capN) := HV.out m (List.mem_of_getElem? hm)
          have HCK : Hid ((es.map canonE)[i]? = some (canonE m)) := by show _ = _; simp [hm]
          have HFf : Hid (RowG wr vf 2 (nmRows m.values)) := hrf.below hbel
          obtain ⟨a3, c3, hv3, _, _⟩ := hrf.form2
          subst hv3
          obtain ⟨m0, mf⟩ := m
          simp only at c0 c1 HFl HCK HFf
          have HFf : Hid (RowG wr (.slice a3 (nmRows mf).length c3) 2 (nmRows mf)) := HFf
          generalize (nmRows mf).length = nF at *
          clear hrf hm hrow hrk
          have HQ : Hid (B ≤ q ∧ q < wr.heap.size) := ⟨hq3, hq4⟩
          clear hown hq3 hq4
          have hkM : (i : Int) < (E : Int) := by omega
          go_wp2_with fail
          clear c0 c1
          refine M_region (T := fun W => W.cell? ⟨b0, 2, none⟩ = some (.slice (some ⟨q, 0, none⟩) E ec) ∧ W.cell? ⟨wr.heap.size, 0, none⟩ = some (.string m0) ∧ W.cell? ⟨wr.heap.size, 1, none⟩ = some (.slice a3 nF c3)) (m := 6) (by kernel_rfl) ?_
          have hb0 : Below wr.heap.size wr (wr.alloc (.cells #[.string m0, .slice a3 nF c3] 47)).drew := below_drewN 1 ((Below.refl _ _).alloc (Nat.le_refl _) _)
          have BM0 : Blk (wr.alloc (.cells #[.string m0, .slice a3 nF c3] 47)).drew wr.heap.size #[.string m0, .slice a3 nF c3] 47 := Blk.new wr #[.string m0, .slice a3 nF c3] 47
          generalize (wr.alloc (.cells #[.string m0, .slice a3 nF c3] 47)).drew = W5 at *
          have BX5 := BX.below hb0
          have BR5 := BR.below hb0
          have HM5' : Hid (MsO W5 B (.slice ma k mc) (ms.map canonM) ps) := HMS.out.below hb0
          have HE5' : Hid (EnP W5 B (.slice (some ⟨q, 0, none⟩) E ec) (es.map canonE) erows i rows pe) := HEK.out.below hb0
          have HT5' : Hid (W5.ownsRow B 54 3 (.slice ta T tc) T (mtRows ts).flatten) := own_below HTK.out hb0
          have HF5 : Hid (RowG W5 (.slice a3 nF c3) 2 (nmRows mf)) := HFf.out.below hb0
          have hbel5 : Below w.heap.size w W5 := hbel.trans (hb0.mono hbel.size)
          have HBW : Hid (B ≤ W5.heap.size) := by have := HQ.out; have := hb0.size; show _ ≤ _; omega
          obtain ⟨bm, hbm⟩ : ∃ n, wr.heap.size = n := ⟨_, rfl⟩
          rw [hbm] at BM0 ⊢
          clear hbm BX BR HMS HEK HTK HFf hb0 hbel
          have hTW : ∀ W, Below W5.heap.size W5 W → W.cell? ⟨b0, 2, none⟩ = some (.slice (some ⟨q, 0, none⟩) E ec) ∧ W.cell? ⟨bm, 0, none⟩ = some (.string m0) ∧ W.cell? ⟨bm, 1, none⟩ = some (.slice a3 nF c3) := fun W hW => ⟨(BX5.below hW).cell 2, (BM0.below hW).cell 0, (BM0.below hW).cell 1⟩
          have hT := hTW W5 (Below.refl _ _)
          refine M_take 0 42 (.pointer (some ⟨b0, 2, none⟩)) _ rfl rfl (by kernel_rfl) (by kernel_rfl) (by kernel_rfl) (by kernel_rfl) (by kernel_rfl) (fun _ _ _ h => h) (by rfl) (fun w' hw' => ?_) hT (listed' := #[true, false, false, false, false, false, false]) (by kernel_rfl) rfl ?_
          · obtain ⟨g1, g2, g3⟩ := hw'; go_simp
          simp only [List.setIfInBounds_toArray, List.set_cons_zero, List.set_cons_succ]
          refine M_take 2 44 (.int .i64 (i : Int)) _ rfl rfl (by kernel_rfl) (by kernel_rfl) (by kernel_rfl) (by kernel_rfl) (by kernel_rfl) (fun _ _ _ h => h) (by rfl) (fun w' hw' => ?_) hT (listed' := #[true, false, true, false, false, false, false]) (by kernel_rfl) rfl ?_
          · obtain ⟨g1, g2, g3⟩ := hw'; go_simp
          simp only [List.setIfInBounds_toArray, List.set_cons_zero, List.set_cons_succ]
          refine M_take 1 43 (.slice (some ⟨q, 0, none⟩) E ec) _ rfl rfl (by kernel_rfl) (by kernel_rfl) (by kernel_rfl) (by kernel_rfl) (by kernel_rfl) (fun _ _ _ h => h) (by rfl) (fun w' hw' => ?_) hT (listed' := #[true, true, true, false, false, false, false]) (by kernel_rfl) rfl ?_
          · obtain ⟨g1, g2, g3⟩ := hw'; go_simp
          simp only [List.setIfInBounds_toArray, List.set_cons_zero, List.set_cons_succ]
          refine M_take 3 45 (.agg #[.string m0, .slice a3 nF c3]) _ rfl rfl (by kernel_rfl) (by kernel_rfl) (by kernel_rfl) (by kernel_rfl) (by kernel_rfl) (fun _ _ _ h => h) (by rfl) (fun w' hw' => ?_) hT (listed' := #[true, true, true, true, false, false, false]) (by kernel_rfl) rfl ?_
          · obtain ⟨g1, g2, g3⟩ := hw'; go_simp
          simp only [List.setIfInBounds_toArray, List.set_cons_zero, List.set_cons_succ]
          refine M_call 4 46 29 #[.agg #[.string m0, .slice a3 nF c3]] rfl rfl (by kernel_rfl) (by rfl) (listed' := #[true, true, true, true, true, false, false]) (by kernel_rfl) (fun W => by go_simp) ?_
          refine (canonE_any (m := ⟨m0, mf⟩) HF5.out HFl.out).mono ?_
          rintro e W6 ⟨uf, rfl, ho1, hb6⟩
          have hT := hTW W6 hb6
          obtain ⟨fa, fc, hu⟩ := own_form ho1
          subst hu
          refine ⟨_, rfl, hT, ?_⟩
          simp only [List.setIfInBounds_toArray, List.set_cons_zero, List.set_cons_succ]
          simp only at ho1 ⊢
          have HCL : Hid ((canonE ⟨m0, mf⟩).values.length = mf.length) := srtF_len _ _
          have HO1 : Hid (W6.ownsRow W5.heap.size 49 2 (.slice fa mf.length fc) (canonE ⟨m0, mf⟩).values.length (nmRows (canonE ⟨m0, mf⟩).values).flatten) := by show World.ownsRow _ _ _ _ _ _ _; rw [HCL.out]; exact ho1
          have HE6 : Hid (EnP W6 B (.slice (some ⟨q, 0, none⟩) E ec) (es.map canonE) erows i rows pe) := HE5'.out.below hb6
          have BX6 := BX5.below hb6
          have BR6 := BR5.below hb6
          have HM6 : Hid (MsO W6 B (.slice ma k mc) (ms.map canonM) ps) := HM5'.out.below hb6
          have HT6 : Hid (W6.ownsRow B 54 3 (.slice ta T tc) T (mtRows ts).flatten) := own_below HT5'.out hb6
          have hbel6 : Below w.heap.size w W6 := hbel5.trans (hb6.mono hbel5.size)
          have hstep := HE6.out.step HCE.out HCK.out HBW.out HO1.out
          have hown := HE6.out.own
          rw [HCE.out] at hown
          obtain ⟨rk, hrk⟩ : ∃ r, rows[i]? = some r := ⟨_, List.getElem?_eq_getElem (by rw [HE6.out.rl, HCE.out]; exact hlt)⟩
          have hw3 := HE6.out.wide rk (List.mem_of_getElem? hrk)
          obtain ⟨r0, r1, hr3⟩ : ∃ a b, rk = [a, b] := by
            match rk, hw3 with
            | [a, b], _ => exact ⟨a, b, rfl⟩
          subst hr3
          have c0 := own_at HE6.out.wide hown hrk (j := 0) rfl
          have c1 := own_at HE6.out.wide hown hrk (j := 1) rfl
          rw [Nat.add_zero] at c0
          have f0 := own_froz hown (i * 2)
          have f1 := own_froz hown (i * 2 + 1)
          have HST : Hid _ := hstep
          clear hstep hown hrk hw3 ho1
          refine M_run 5 47 (.pointer (some ⟨q, i * 2, none⟩)) (W6) rfl rfl (by kernel_rfl) (by rfl) (listed' := #[true, true, true, true, true, true, false]) (by kernel_rfl) (by go_simp) hT ?_
          simp only [List.setIfInBounds_toArray, List.set_cons_zero, List.set_cons_succ]
          refine M_store 6 ((W6.setCell ⟨q, i * 2, none⟩ (.string m0)).setCell ⟨q, i * 2 + 1, none⟩ (.slice fa mf.length fc)) rfl rfl (by kernel_rfl) (by rfl) (listed' := #[true, true, true, true, true, true, true]) (by kernel_rfl) (by go_simp) (by kernel_rfl) ?_
          refine M_done (by kernel_rfl) ?_ _
          obtain ⟨hst, KS⟩ := HST.out
          have HE7 : Hid (EnP ((W6.setCell ⟨q, i * 2, none⟩ (.string m0)).setCell ⟨q, i * 2 + 1, none⟩ (.slice fa mf.length fc)) B (.slice (some ⟨q, 0, none⟩) E ec) (es.map canonE) erows (i + 1) (rows.set i [.string m0, .slice fa mf.length fc]) (pe ++ [.slice fa mf.length fc])) := hst
          have KS : Kp (fun b => b = q) W6 ((W6.setCell ⟨q, i * 2, none⟩ (.string m0)).setCell ⟨q, i * 2 + 1, none⟩ (.slice fa mf.length fc)) := KS
          have hne : ∀ b, b < B → ¬ b = q := fun b hb => by have := HQ.out; omega
          have BX7 := BX6.kp KS (hne _ (by have := HSZ.out; omega))
          have BR7 := BR6.kp KS (hne _ (by have := HSZ.out; omega))
          have howm := HE6.out.own
          have HM7 : Hid (MsO ((W6.setCell ⟨q, i * 2, none⟩ (.string m0)).setCell ⟨q, i * 2 + 1, none⟩ (.slice fa mf.length fc)) B (.slice ma k mc) (ms.map canonM) ps) := ⟨HM6.out.len, own_kpV HM6.out.own KS (fun b hb e => by subst e; exact own_apart howm HM6.out.own (by decide) b rfl hb), fun j m p hm hp => ⟨own_kpV (HM6.out.each j m p hm hp).1 KS (fun b hb e => by subst e; exact own_apart howm (HM6.out.each j m p hm hp).1 (by decide) b rfl hb), own_kpV (HM6.out.each j m p hm hp).2 KS (fun b hb e => by subst e; exact own_apart howm (HM6.out.each j m p hm hp).2 (by decide) b rfl hb)⟩, HM6.out.apart⟩
          have HT7 : Hid (((W6.setCell ⟨q, i * 2, none⟩ (.string m0)).setCell ⟨q, i * 2 + 1, none⟩ (.slice fa mf.length fc)).ownsRow B 54 3 (.slice ta T tc) T (mtRows ts).flatten) := own_kpV HT6.out KS (fun b hb e => by subst e; exact own_apart howm HT6.out (by decide) b rfl hb)
          have hbel7 : Below w.heap.size w ((W6.setCell ⟨q, i * 2, none⟩ (.string m0)).setCell ⟨q, i * 2 + 1, none⟩ (.slice fa mf.length fc)) := hbel6.trans (KS.toBelow hbel6.size (fun b e => by have := HQ.out; have := HSZ.out; have := HBZ.out; omega))
          generalize ((W6.setCell ⟨q, i * 2, none⟩ (.string m0)).setCell ⟨q, i * 2 + 1, none⟩ (.slice fa mf.length fc)) = W7 at *
          clear hst KS HST BX6 BR6 HE6 HT6 HM6 hbel6 c0 c1 f0 f1 howm HO1 HM5' HE5' HT5' BX5 BR5 hT hTW BM0 hbel5
          go_wp2_with fail
          go_roundw
          case rel => exact ⟨i + 1, _, _, by go_num, by omega, HE7, HM7, HT7, BX7, BR7, hbel7⟩
          case measure => simp [intOf]; omega
        · obtain rfl : i = E := by omega
          have HES : Hid (EnO wr B (.slice ea i ec) (es.map canonE) pe) := by
            have := HEK.out
            rw [← HCE.out] at this
            have := this.all
            rw [HCE.out] at this
            exact this
          clear HEK
          have x0 := (BX.cell 0).trans rfl
          have x1 := (BX.cell 1).trans rfl
          have x2 := (BX.cell 2).trans rfl
          have x3 := (BX.cell 3).trans rfl
          have r0 := (BR.cell 0).trans rfl
          have r1 := (BR.cell 1).trans rfl
          have r2 := (BR.cell 2).trans rfl
          have r3 := (BR.cell 3).trans rfl
          have s0 := BR.froz 0
          have s1 := BR.froz 1
          have s2 := BR.froz 2
          have s3 := BR.froz 3
          have hkM : ¬ (i : Int) < (i : Int) := by omega
          go_wp2_with fail
          refine bodyPost_ret (results_cell rfl _ _ _ ⟨b0 + 1, 0, none⟩ (.agg #[.string nm, .slice ma k mc, .slice ea i ec, .slice ta T tc]) (by go_simp) (by go_simp)) rfl ?_
          have KS : Kp (fun b => b = b0 + 1) wr ((((wr.setCell ⟨b0 + 1, 0, none⟩ (.string nm)).setCell ⟨b0 + 1, 1, none⟩ (.slice ma k mc)).setCell ⟨b0 + 1, 2, none⟩ (.slice ea i ec)).setCell ⟨b0 + 1, 3, none⟩ (.slice ta T tc)) := by
            refine Kp.setCell ?_ (fun _ => by simp) _
            refine Kp.setCell ?_ (fun _ => by simp) _
            refine Kp.setCell ?_ (fun _ => by simp) _
            refine Kp.setCell ?_ (fun _ => by simp) _
            exact Kp.refl _ _
          have hle : w.heap.size ≤ B := by have := HSZ.out; have := HBZ.out; omega
          have hq : ∀ b, B ≤ b → ¬ b = b0 + 1 := fun b hb => by have := HSZ.out; omega
          refine ⟨_, _, _, rfl, ⟨ps, ?_⟩, ⟨pe, ?_⟩, ?_, hbel.trans (KS.toBelow hbel.size (fun b e => by have := HBZ.out; omega))⟩
          · exact (HMS.out.kp KS hq).base hle
          · exact (HES.out.kp KS hq).base hle
          · exact own_base (own_kp HTK.out KS hq) hle
end Go.Proofs.YtkfhlgajeejgeaaGreatDoor

/- What print's Print answers: the schema's text. -/
namespace Go.Proofs.YtkfhlgajeejgeaaGreatDoor
open Go.ChangeShapes Go.WideShapes Go.ChangeAt Go.RowKit
set_option linter.unusedVariables false
set_option linter.unusedSimpArgs false
set_option maxRecDepth 20000

theorem canon_w {s : ScS} (h : ScW s) : ScW (canonS s) := by
  refine ⟨h.name, fun m hm => ?_, fun e he => ?_, h.meths⟩
  · obtain ⟨m', hm', rfl⟩ := List.mem_map.1 hm
    have := h.msgs m' hm'
    exact ⟨this.1, fun f hf => this.2.1 f ((srtF_mem _ _ _).1 hf), fun n hn => this.2.2 n ((srtF_mem _ _ _).1 hn)⟩
  · obtain ⟨m', hm', rfl⟩ := List.mem_map.1 he
    have := h.enums m' hm'
    exact ⟨this.1, fun f hf => this.2 f ((srtF_mem _ _ _).1 hf)⟩
theorem canon_few {s : ScS} (h : FewL s) : FewL (canonS s) := by
  refine ⟨by simpa [canonS] using h.msgs, by simpa [canonS] using h.enums, h.meths, fun m hm => ?_, fun e he => ?_⟩
  · obtain ⟨m', hm', rfl⟩ := List.mem_map.1 hm
    have := h.flds m' hm'
    exact ⟨by rw [show (canonM m').fields.length = m'.fields.length from srtF_len _ _]; exact this.1, by rw [show (canonM m').reserved.length = m'.reserved.length from srtF_len _ _]; exact this.2⟩
  · obtain ⟨m', hm', rfl⟩ := List.mem_map.1 he
    rw [show (canonE m').values.length = m'.values.length from srtF_len _ _]
    exact h.vals m' hm'
def sHead (n : ByteArray) : List UInt8 := [115, 99, 104, 101, 109, 97, 32] ++ n.data.toList ++ [59, 10]
theorem shead_pieces (n : ByteArray) : piecesL [⟨#[115, 99, 104, 101, 109, 97, 32]⟩, n, ⟨#[59]⟩] ++ [10] = sHead n := by simp [piecesL, sHead]
theorem meth_pieces (m : MtS) : piecesL [⟨#[99, 97, 108, 108, 32]⟩, m.name, ⟨#[40]⟩, m.inn, ⟨#[41, 32, 114, 101, 116, 117, 114, 110, 115, 32, 40]⟩, m.out, ⟨#[41, 59]⟩] ++ [10] = methL m := by simp [piecesL, methL]
theorem textL_eq (n : ByteArray) (ms : List MsS) (es : List EnS) (ts : List MtS) : textL ⟨n, ms, es, ts⟩ = sHead n ++ (ms.map msgL).flatten ++ (es.map enumL).flatten ++ (ts.map methL).flatten := by simp [textL, sHead]
set_option maxHeartbeats 4000000 in
theorem print_any {w : World} {v : Value} {s : ScS} (hr : ScIn w v s) (hf : FewL s) (hv : ∀ e ∈ s.enums, e.values.length ≤ capN) (hw : ScW s) (ht : PTab w) (hlen : (printL s).length ≤ 1000000000) :
    Calls Tryz.prog 15 #[v] w fun e w' => e = .returned (.string (printB s)) ∧ Below w.heap.size w w' := by
  have HR : Hid (ScIn w v s) := hr
  obtain ⟨vm0, ve0, vt0, rfl, hm, he, hmt⟩ := hr
  obtain ⟨am, cm, rfl, qm1, qm2⟩ := hm.form2
  obtain ⟨ae, ce, rfl, qe1, qe2⟩ := he.form2
  obtain ⟨at', ct, rfl, qt1, qt2⟩ := hmt.form2
  have HF : Hid (FewL s) := hf
  have HV : Hid (∀ e ∈ s.enums, e.values.length ≤ capN) := hv
  have HW : Hid (ScW (canonS s)) := canon_w hw
  have HFC : Hid (FewL (canonS s)) := canon_few hf
  have HT : Hid (PTab w) := ht
  have HL : Hid ((textL (canonS s)).length ≤ 1000000000) := hlen
  have HPR : Hid (printB s = ⟨(textL (canonS s)).toArray⟩) := rfl
  clear hm he hmt hf hv hw ht hlen qm1 qm2 qe1 qe2 qt1 qt2
  generalize hN0 : s.name = nm at *
  generalize s.msgs.length = M0 at *
  generalize s.enums.length = E0 at *
  generalize (mtRows s.methods).length = T0 at *
  have HAL : Hid (Below w.heap.size w (w.alloc (.cells #[.string nm, .slice am M0 cm, .slice ae E0 ce, .slice at' T0 ct] 26))) := (Below.refl _ _).alloc (Nat.le_refl _) _
  have BX0 : Blk (w.alloc (.cells #[.string nm, .slice am M0 cm, .slice ae E0 ce, .slice at' T0 ct] 26)) w.heap.size #[.string nm, .slice am M0 cm, .slice ae E0 ce, .slice at' T0 ct] 26 := Blk.new w _ _
  go_enter Tryz.func15, Tryz.ntmps15
  go_wp2_with fail
  refine (canon_any (HR.out.below HAL.out) HF.out HV.out).mono ?_
  rintro e w1 ⟨vm, ve, vt, pm, pe, rfl, hMO, hEO, hTO, hb1⟩
  rw [hN0]
  obtain ⟨ma, mc, rfl⟩ := own_form hMO.own
  obtain ⟨ea, ec, rfl⟩ := own_form hEO.own
  obtain ⟨ta, tc, rfl⟩ := own_form hTO
  have HNM : Hid ((canonS s).name = nm) := hN0
  have HMO : Hid (MsO w1 (w.heap.size + 1) (.slice ma (canonS s).msgs.length mc) (canonS s).msgs pm) := by
    have := hMO
    rw [show (w.alloc (.cells #[.string nm, .slice am M0 cm, .slice ae E0 ce, .slice at' T0 ct] 26)).heap.size = w.heap.size + 1 by simp] at this
    exact this
  have HEO : Hid (EnO w1 (w.heap.size + 1) (.slice ea (canonS s).enums.length ec) (canonS s).enums pe) := by
    have := hEO
    rw [show (w.alloc (.cells #[.string nm, .slice am M0 cm, .slice ae E0 ce, .slice at' T0 ct] 26)).heap.size = w.heap.size + 1 by simp] at this
    exact this
  have HTO : Hid (w1.ownsRow (w.heap.size + 1) 54 3 (.slice ta (canonS s).methods.length tc) (canonS s).methods.length (mtRows (canonS s).methods).flatten) := by
    have := hTO
    rw [show (w.alloc (.cells #[.string nm, .slice am M0 cm, .slice ae E0 ce, .slice at' T0 ct] 26)).heap.size = w.heap.size + 1 by simp] at this
    exact this
  have hTS : s.methods.length = (canonS s).methods.length := rfl
  rw [hTS]
  clear hMO hEO hTO hN0 HR HF HV hTS
  generalize canonS s = s' at *
  obtain ⟨nm', ms, es, ts⟩ := s'
  have HW : Hid (ScW ⟨nm', ms, es, ts⟩) := HW
  have HFC : Hid (FewL ⟨nm', ms, es, ts⟩) := HFC
  have HL : Hid ((sHead nm' ++ (ms.map msgL).flatten ++ (es.map enumL).flatten ++ (ts.map methL).flatten).length ≤ 1000000000) := by show _ ≤ _; rw [← textL_eq]; exact HL.out
  have HPR : Hid (printB s = ⟨(sHead nm' ++ (ms.map msgL).flatten ++ (es.map enumL).flatten ++ (ts.map methL).flatten).toArray⟩) := by show _ = _; rw [← textL_eq]; exact HPR.out
  have hnm : nm' = nm := HNM.out
  subst hnm
  clear HNM
  simp only
  have HMO : Hid (MsO w1 (w.heap.size + 1) (.slice ma ms.length mc) ms pm) := HMO
  have HEO : Hid (EnO w1 (w.heap.size + 1) (.slice ea es.length ec) es pe) := HEO
  have HTO : Hid (w1.ownsRow (w.heap.size + 1) 54 3 (.slice ta ts.length tc) ts.length (mtRows ts).flatten) := HTO
  generalize hM : ms.length = M at *
  have HNMs : Hid (ms.length = M) := hM
  clear hM
  generalize hE : es.length = E at *
  have HNE : Hid (es.length = E) := hE
  clear hE
  generalize hTT : ts.length = T at *
  have HNT : Hid (ts.length = T) := hTT
  clear hTT
  have hbw : Below w.heap.size w w1 := HAL.out.trans (hb1.mono HAL.out.size)
  have BX1 := BX0.below hb1
  obtain ⟨b0, hb0⟩ : ∃ n, w.heap.size = n := ⟨_, rfl⟩
  have HBZ : Hid (w.heap.size = b0) := hb0
  rw [hb0] at BX1 ⊢
  rw [hb0] at HMO HEO HTO
  clear hb0 hb1 BX0 HAL
  have x0 := (BX1.cell 0).trans rfl
  have x1 := (BX1.cell 1).trans rfl
  have x2 := (BX1.cell 2).trans rfl
  have x3 := (BX1.cell 3).trans rfl
  have z0 := BX1.froz 0
  have z1 := BX1.froz 1
  have z2 := BX1.froz 2
  have z3 := BX1.froz 3
  have KS : Kp (fun k => k = b0) w1 ((((w1.setCell ⟨b0, 0, none⟩ (.string nm')).setCell ⟨b0, 1, none⟩ (.slice ma M mc)).setCell ⟨b0, 2, none⟩ (.slice ea E ec)).setCell ⟨b0, 3, none⟩ (.slice ta T tc)) := by
    refine Kp.setCell ?_ (fun _ => by simp) _
    refine Kp.setCell ?_ (fun _ => by simp) _
    refine Kp.setCell ?_ (fun _ => by simp) _
    refine Kp.setCell ?_ (fun _ => by simp) _
    exact Kp.refl _ _
  have BA : Blk (w1.setCell ⟨b0, 0, none⟩ (.string nm')) b0 _ 26 := BX1.set 0 (.string nm') rfl
  have BB : Blk ((w1.setCell ⟨b0, 0, none⟩ (.string nm')).setCell ⟨b0, 1, none⟩ (.slice ma M mc)) b0 _ 26 := BA.set 1 (.slice ma M mc) rfl
  have BC : Blk (((w1.setCell ⟨b0, 0, none⟩ (.string nm')).setCell ⟨b0, 1, none⟩ (.slice ma M mc)).setCell ⟨b0, 2, none⟩ (.slice ea E ec)) b0 _ 26 := BB.set 2 (.slice ea E ec) rfl
  have BX2 : Blk ((((w1.setCell ⟨b0, 0, none⟩ (.string nm')).setCell ⟨b0, 1, none⟩ (.slice ma M mc)).setCell ⟨b0, 2, none⟩ (.slice ea E ec)).setCell ⟨b0, 3, none⟩ (.slice ta T tc)) b0 #[.string nm', .slice ma M mc, .slice ea E ec, .slice ta T tc] 26 := BC.set 3 (.slice ta T tc) rfl
  clear BA BB BC
  have hq : ∀ k, b0 + 1 ≤ k → ¬ k = b0 := fun k hk => by omega
  have HMI : Hid (MsIn ((((w1.setCell ⟨b0, 0, none⟩ (.string nm')).setCell ⟨b0, 1, none⟩ (.slice ma M mc)).setCell ⟨b0, 2, none⟩ (.slice ea E ec)).setCell ⟨b0, 3, none⟩ (.slice ta T tc)) (.slice ma M mc) ms) := (HMO.out.kp KS hq).to_in
  have HEI : Hid (EnIn ((((w1.setCell ⟨b0, 0, none⟩ (.string nm')).setCell ⟨b0, 1, none⟩ (.slice ma M mc)).setCell ⟨b0, 2, none⟩ (.slice ea E ec)).setCell ⟨b0, 3, none⟩ (.slice ta T tc)) (.slice ea E ec) es) := (HEO.out.kp KS hq).to_in
  have HTI : Hid (RowG ((((w1.setCell ⟨b0, 0, none⟩ (.string nm')).setCell ⟨b0, 1, none⟩ (.slice ma M mc)).setCell ⟨b0, 2, none⟩ (.slice ea E ec)).setCell ⟨b0, 3, none⟩ (.slice ta T tc)) (.slice ta T tc) 3 (mtRows ts)) := (RowG.own (mtr_len ts) (by decide) (own_kp HTO.out KS hq)).1
  have hbw2 : Below w.heap.size w ((((w1.setCell ⟨b0, 0, none⟩ (.string nm')).setCell ⟨b0, 1, none⟩ (.slice ma M mc)).setCell ⟨b0, 2, none⟩ (.slice ea E ec)).setCell ⟨b0, 3, none⟩ (.slice ta T tc)) := hbw.trans (KS.toBelow hbw.size (fun k e => by have := HBZ.out; omega))
  have HTW : Hid (PTab ((((w1.setCell ⟨b0, 0, none⟩ (.string nm')).setCell ⟨b0, 1, none⟩ (.slice ma M mc)).setCell ⟨b0, 2, none⟩ (.slice ea E ec)).setCell ⟨b0, 3, none⟩ (.slice ta T tc))) := HT.out.below hbw2
  clear KS hq HMO HEO HTO hbw HT BX1
  go_upto_region 2 with fail
  clear x0 x1 x2 x3 z0 z1 z2 z3
  generalize ((((w1.setCell ⟨b0, 0, none⟩ (.string nm')).setCell ⟨b0, 1, none⟩ (.slice ma M mc)).setCell ⟨b0, 2, none⟩ (.slice ea E ec)).setCell ⟨b0, 3, none⟩ (.slice ta T tc)) = w2 at *
  have x0 : ∀ o, (w2.alloc o).cell? ⟨b0, 0, none⟩ = some (.string nm') := fun o => ((BX2.below ((Below.refl _ _).alloc (Nat.le_refl _) o)).cell 0).trans rfl
  have hlt0 := BX2.lt
  have hM14 : M ≤ 14 := by have := HFC.out.msgs; have h2 := HNMs.out; simp only at this; omega
  have hE10 : E ≤ 10 := by have := HFC.out.enums; have h2 := HNE.out; simp only at this; omega
  have hT10 : T ≤ 10 := by have := HFC.out.meths; have h2 := HNT.out; simp only at this; omega
  go_wp2_with fail
  clear x0
  have hal : ∀ (W : World) (cs : Array Value), Below W.heap.size W (W.alloc (.cells cs 9)) := fun W cs => (Below.refl _ _).alloc (Nat.le_refl _) _
  have HPN : Hid (Pg w2 w2.heap.size [] (w2.alloc (.cells #[.pointer none, .slice none 0 0] 68))) := Pg.new (Below.refl _ _)
  refine (line_any (n := 3) (ps := [⟨#[115, 99, 104, 101, 109, 97, 32]⟩, nm', ⟨#[59]⟩]) (HPN.out.below (hal _ _)) (Blk.newAt (b := w2.heap.size + 1) (by simp)) rfl (by decide) (by
    have h1 := HL.out
    have h2 : (piecesL [⟨#[115, 99, 104, 101, 109, 97, 32]⟩, nm', ⟨#[59]⟩] ++ [10]).length = (sHead nm').length := by rw [shead_pieces nm']
    simp only [List.length_append, List.length_cons, List.length_nil] at h1 h2 ⊢
    omega)).mono ?_
  rintro e w3 ⟨rfl, hp3, _⟩
  have HP3 : Hid (Pg w2 w2.heap.size (sHead nm' ++ ((ms.take 0).map msgL).flatten) w3) := by
    show Pg _ _ _ _
    rw [List.take_zero, List.map_nil, List.flatten_nil, List.append_nil, ← shead_pieces nm']
    exact hp3
  clear hp3 HPN
  obtain ⟨b, hbe⟩ : ∃ n, w2.heap.size = n := ⟨_, rfl⟩
  rw [hbe] at HP3 ⊢
  clear hbe
  have HBX : Hid (∀ W, Below w2.heap.size w2 W → Blk W b0 #[.string nm', .slice ma M mc, .slice ea E ec, .slice ta T tc] 26) := fun W hW => BX2.below hW
  clear BX2
  have x1 := ((HBX.out w3 HP3.out.bel).cell 1).trans rfl
  go_wp2_with fail
  clear x1
  go_loopw [19] (fun iv wr => ∃ k : Nat, iv = .int .i64 (k : Int) ∧ k ≤ M ∧ Hid (Pg w2 b (sHead nm' ++ ((ms.take k).map msgL).flatten) wr)) (fun iv _ => M - (intOf iv).toNat)
  case atStart => exact ⟨0, rfl, by omega, HP3⟩
  case round =>
    obtain ⟨k, rfl, hk, HPk⟩ := hrel
    clear HP3
    by_cases hlt : k < M
    · obtain ⟨m, hm⟩ : ∃ n, ms[k]? = some n := ⟨_, List.getElem?_eq_getElem (by rw [HNMs.out]; exact hlt)⟩
      obtain ⟨g, off, vf, vr, rfl, c0, c1, c2, hrf, hrr⟩ := HMI.out.get hm
      have c0 := (HPk.out.bel.cell (World.block_lt_of_cell? _ _ c0)).trans c0
      have c1 := (HPk.out.bel.cell (World.block_lt_of_cell? _ _ c1)).trans c1
      have c2 := (HPk.out.bel.cell (World.block_lt_of_cell? _ _ c2)).trans c2
      have HMW : Hid (MsW m) := HW.out.msgs m (List.mem_of_getElem? hm)
      have HRN : Hid (m.reserved.length ≤ 1000) := by have := HFC.out.flds m (List.mem_of_getElem? hm); show _ ≤ _; omega
      have HTK : Hid (((ms.take (k + 1)).map msgL).flatten = ((ms.take k).map msgL).flatten ++ msgL m) := map_take msgL hm
      have HLE : Hid ((sHead nm' ++ ((ms.take k).map msgL).flatten).length + (msgL m).length ≤ 1000000000) := by
        have h1 := HL.out
        have h2 := map_take_le msgL ms (k + 1)
        rw [HTK.out, List.length_append] at h2
        simp only [List.length_append] at h1 h2
        show _ ≤ _
        simp only [List.length_append]
        omega
      have HRF : Hid (RowG w2 vf 5 (flRows m.fields)) := hrf
      have HRR : Hid (RowG w2 vr 1 (inRows m.reserved)) := hrr
      obtain ⟨a3, c3, hv3, _, _⟩ := hrf.form2
      subst hv3
      obtain ⟨a4, c4, hv4, _, _⟩ := hrr.form2
      subst hv4
      generalize hm0 : m.name = m0 at *
      have HM0 : Hid (m.name = m0) := hm0
      generalize (flRows m.fields).length = nF at *
      generalize (inRows m.reserved).length = nR at *
      clear hrf hrr hm hm0
      have hkn : (k : Int) < (M : Int) := by omega
      go_wp2_with fail
      clear c0 c1 c2
      have hbx : Below wr.heap.size wr (wr.alloc (.cells #[.string m0, .slice a3 nF c3, .slice a4 nR c4] 40)) := (Below.refl _ _).alloc (Nat.le_refl _) _
      have HMA := message_any (m := m) (HPk.out.below hbx) HRF.out HRR.out HTW.out HMW.out HRN.out HLE.out
      rw [HM0.out] at HMA
      refine HMA.mono ?_
      rintro e w5 ⟨rfl, hp5, _⟩
      have HP5 : Hid (Pg w2 b (sHead nm' ++ ((ms.take (k + 1)).map msgL).flatten) w5) := by
        show Pg _ _ _ _
        rw [HTK.out, ← List.append_assoc]
        exact hp5
      clear hp5 HMA hbx HPk
      go_wp2_with fail
      go_roundw
      case rel => exact ⟨k + 1, by go_num, by omega, HP5⟩
      case measure => simp [intOf]; omega
    · obtain rfl : k = M := by omega
      have hkn : ¬ (k : Int) < (k : Int) := by omega
      have HP3 : Hid (Pg w2 b (sHead nm' ++ (ms.map msgL).flatten ++ ((es.take 0).map enumL).flatten) wr) := by
        have := HPk.out
        rw [List.take_of_length_le (by rw [HNMs.out]; omega)] at this
        show Pg _ _ _ _
        rw [List.take_zero, List.map_nil, List.flatten_nil, List.append_nil]
        exact this
      clear HPk
      have x2 := ((HBX.out wr HP3.out.bel).cell 2).trans rfl
      go_wp2_with fail
      clear x2
      go_loopw [29] (fun iv wr => ∃ i : Nat, iv = .int .i64 (i : Int) ∧ i ≤ E ∧ Hid (Pg w2 b (sHead nm' ++ (ms.map msgL).flatten ++ ((es.take i).map enumL).flatten) wr)) (fun iv _ => E - (intOf iv).toNat)
      case atStart => exact ⟨0, rfl, by omega, HP3⟩
      case round =>
        obtain ⟨i, rfl, hi, HPk⟩ := hrel
        clear HP3
        by_cases hlt : i < E
        · obtain ⟨m, hm⟩ : ∃ n, es[i]? = some n := ⟨_, List.getElem?_eq_getElem (by rw [HNE.out]; exact hlt)⟩
          obtain ⟨g, off, vf, rfl, c0, c1, hrf⟩ := HEI.out.get hm
          have c0 := (HPk.out.bel.cell (World.block_lt_of_cell? _ _ c0)).trans c0
          have c1 := (HPk.out.bel.cell (World.block_lt_of_cell? _ _ c1)).trans c1
          have HMW : Hid (EnW m) := HW.out.enums m (List.mem_of_getElem? hm)
          have HTK : Hid (((es.take (i + 1)).map enumL).flatten = ((es.take i).map enumL).flatten ++ enumL m) := map_take enumL hm
          have HLE : Hid ((sHead nm' ++ (ms.map msgL).flatten ++ ((es.take i).map enumL).flatten).length + (enumL m).length ≤ 1000000000) := by
            have h1 := HL.out
            have h2 := map_take_le enumL es (i + 1)
            rw [HTK.out, List.length_append] at h2
            simp only [List.length_append] at h1 h2
            show _ ≤ _
            simp only [List.length_append]
            omega
          have HRF : Hid (RowG w2 vf 2 (nmRows m.values)) := hrf
          obtain ⟨a3, c3, hv3, _, _⟩ := hrf.form2
          subst hv3
          generalize hm0 : m.name = m0 at *
          have HM0 : Hid (m.name = m0) := hm0
          generalize (nmRows m.values).length = nF at *
          clear hrf hm hm0
          have hkn : (i : Int) < (E : Int) := by omega
          go_wp2_with fail
          clear c0 c1
          have hbx : Below wr.heap.size wr (wr.alloc (.cells #[.string m0, .slice a3 nF c3] 47)) := (Below.refl _ _).alloc (Nat.le_refl _) _
          have HMA := enum_any (m := m) (HPk.out.below hbx) HRF.out HTW.out HMW.out HLE.out
          rw [HM0.out] at HMA
          refine HMA.mono ?_
          rintro e w5 ⟨rfl, hp5, _⟩
          have HP5 : Hid (Pg w2 b (sHead nm' ++ (ms.map msgL).flatten ++ ((es.take (i + 1)).map enumL).flatten) w5) := by
            show Pg _ _ _ _
            rw [HTK.out, ← List.append_assoc]
            exact hp5
          clear hp5 HMA hbx HPk
          go_wp2_with fail
          go_roundw
          case rel => exact ⟨i + 1, by go_num, by omega, HP5⟩
          case measure => simp [intOf]; omega
        · obtain rfl : i = E := by omega
          have hkn : ¬ (i : Int) < (i : Int) := by omega
          have HP3 : Hid (Pg w2 b (sHead nm' ++ (ms.map msgL).flatten ++ (es.map enumL).flatten ++ ((ts.take 0).map methL).flatten) wr) := by
            have := HPk.out
            rw [List.take_of_length_le (by rw [HNE.out]; omega)] at this
            show Pg _ _ _ _
            rw [List.take_zero, List.map_nil, List.flatten_nil, List.append_nil]
            exact this
          clear HPk
          have x3 := ((HBX.out wr HP3.out.bel).cell 3).trans rfl
          go_wp2_with fail
          clear x3
          go_loopw [39] (fun iv wr => ∃ j : Nat, iv = .int .i64 (j : Int) ∧ j ≤ T ∧ Hid (Pg w2 b (sHead nm' ++ (ms.map msgL).flatten ++ (es.map enumL).flatten ++ ((ts.take j).map methL).flatten) wr)) (fun iv _ => T - (intOf iv).toNat)
          case atStart => exact ⟨0, rfl, by omega, HP3⟩
          case round =>
            obtain ⟨j, rfl, hj, HPk⟩ := hrel
            clear HP3
            by_cases hlt : j < T
            · obtain ⟨m, hm⟩ : ∃ n, ts[j]? = some n := ⟨_, List.getElem?_eq_getElem (by rw [HNT.out]; exact hlt)⟩
              have hrr : (mtRows ts)[j]? = some m.cells := by simp [mtRows, hm]
              obtain ⟨g, off, rfl, cc⟩ := (HTI.out.below HPk.out.bel).get hrr
              have HTK : Hid (((ts.take (j + 1)).map methL).flatten = ((ts.take j).map methL).flatten ++ methL m) := map_take methL hm
              have HLE : Hid ((sHead nm' ++ (ms.map msgL).flatten ++ (es.map enumL).flatten ++ ((ts.take j).map methL).flatten).length + (methL m).length ≤ 1000000000) := by
                have h1 := HL.out
                have h2 := map_take_le methL ts (j + 1)
                rw [HTK.out, List.length_append] at h2
                simp only [List.length_append] at h1 h2
                show _ ≤ _
                simp only [List.length_append]
                omega
              have HPL : Hid _ := meth_pieces m
              obtain ⟨f0, f1, f2⟩ := m
              have c0 := cc 0 _ rfl
              have c1 := cc 1 _ rfl
              have c2 := cc 2 _ rfl
              rw [Nat.add_zero] at c0
              clear hm hrr cc
              have hkn : (j : Int) < (T : Int) := by omega
              have hbx : Below wr.heap.size wr (wr.alloc (.cells #[.string f0, .string f1, .string f2] 54)) := (Below.refl _ _).alloc (Nat.le_refl _) _
              have HPX : Hid (Pg w2 b (sHead nm' ++ (ms.map msgL).flatten ++ (es.map enumL).flatten ++ ((ts.take j).map methL).flatten) (wr.alloc (.cells #[.string f0, .string f1, .string f2] 54))) := HPk.out.below hbx
              clear HPk hbx
              go_wp2_with fail
              clear c0 c1 c2
              refine (line_any (n := 7) (ps := [⟨#[99, 97, 108, 108, 32]⟩, f0, ⟨#[40]⟩, f1, ⟨#[41, 32, 114, 101, 116, 117, 114, 110, 115, 32, 40]⟩, f2, ⟨#[41, 59]⟩]) (HPX.out.below (hal _ _)) (Blk.newAt (b := wr.heap.size + 1) (by simp)) rfl (by decide) (by
                have h1 := HLE.out
                rw [← HPL.out] at h1
                simp only [List.length_append, List.length_cons, List.length_nil] at h1 ⊢
                omega)).mono ?_
              rintro e w5 ⟨rfl, hp5, _⟩
              have HP5 : Hid (Pg w2 b (sHead nm' ++ (ms.map msgL).flatten ++ (es.map enumL).flatten ++ ((ts.take (j + 1)).map methL).flatten) w5) := by
                show Pg _ _ _ _
                rw [HTK.out, ← HPL.out, ← List.append_assoc, ← List.append_assoc]
                exact hp5
              clear hp5 HPX
              go_wp2_with fail
              go_roundw
              case rel => exact ⟨j + 1, by go_num, by omega, HP5⟩
              case measure => simp [intOf]; omega
            · obtain rfl : j = T := by omega
              have hkn : ¬ (j : Int) < (j : Int) := by omega
              have HP3 : Hid (Pg w2 b (sHead nm' ++ (ms.map msgL).flatten ++ (es.map enumL).flatten ++ (ts.map methL).flatten) wr) := by
                have := HPk.out
                rw [List.take_of_length_le (by rw [HNT.out]; omega)] at this
                exact this
              clear HPk
              go_wp2_with fail
              refine (pgString_any HP3.out (by simp [sHead])).mono ?_
              rintro e w6 ⟨rfl, hb6⟩
              rw [← HPR.out]
              have hbf : Below w.heap.size w w6 := hbw2.trans (hb6.mono hbw2.size)
              clear HP3 HPR HL
              generalize hTX : printB s = tx
              have HTX : Hid (printB s = tx) := hTX
              clear hTX
              go_wp2_with fail
              go_ret
              exact ⟨by rw [HTX.out]; rfl, hbf⟩
end Go.Proofs.YtkfhlgajeejgeaaGreatDoor

/- Plain facts on texts that are put together and cut: the runes of two texts, one behind the other; a text that is cut within a rune. -/
namespace Go.Proofs.YtkfhlgajeejgeaaGreatDoor
open Go.RowKit
set_option linter.unusedVariables false
set_option linter.unusedSimpArgs false
set_option maxRecDepth 20000

theorem nxL_append {l : List UInt8} {c k : Nat} (h : nxL l = some (c, k)) (t : List UInt8) : nxL (l ++ t) = some (c, k) := by
  obtain ⟨h1, h2, h3, h4, h5, _⟩ := nxL_some l c k h
  have e : l ++ t = (Utf8.encode c).data.toList ++ (l.drop k ++ t) := by
    rw [h2, ← List.append_assoc, List.take_append_drop]
  rw [e, nxL_encode c h1, h3]
theorem nxL_short {l : List UInt8} {c k : Nat} (h : nxL l = some (c, k)) (m : Nat) (hm : m < k) : nxL (l.take m) = none := by
  cases e : nxL (l.take m) with
  | none => rfl
  | some x =>
    obtain ⟨c', k'⟩ := x
    have h2 := nxL_append e (l.drop m)
    rw [List.take_append_drop, h] at h2
    simp only [Option.some.injEq, Prod.mk.injEq] at h2
    obtain ⟨_, _, _, _, h5, _⟩ := nxL_some _ _ _ e
    rw [List.length_take] at h5
    omega

theorem runesOf_append (f : Nat) : ∀ (l : List UInt8), l.length ≤ f → ∀ (acc : List Nat) (t : List UInt8), runesOf l = some acc → runesOf (l ++ t) = (runesOf t).map (acc ++ ·) := by
  induction f with
  | zero =>
    intro l hl acc t h
    have : l = [] := List.length_eq_zero_iff.1 (by omega)
    subst this
    rw [runesOf_nil] at h
    simp at h; subst h
    simp
  | succ f ih =>
    intro l hl acc t h
    match l with
    | [] =>
      rw [runesOf_nil] at h
      simp at h; subst h
      simp
    | a :: r =>
      cases e : nxL (a :: r) with
      | none => rw [runesOf_bad (by simp) e] at h; cases h
      | some x =>
        obtain ⟨c, k⟩ := x
        obtain ⟨_, _, _, h4, h5, _⟩ := nxL_some _ _ _ e
        rw [runesOf_step e] at h
        cases e2 : runesOf ((a :: r).drop k) with
        | none => rw [e2] at h; cases h
        | some rs' =>
          rw [e2] at h
          simp at h; subst h
          have hd : (a :: r ++ t).drop k = (a :: r).drop k ++ t := by
            rw [List.drop_append_of_le_length h5]
          rw [runesOf_step (nxL_append e t), hd, ih _ (by simp at hl h5 ⊢; omega) rs' t e2]
          cases runesOf t <;> simp
theorem runes_join {l t : List UInt8} {acc : List Nat} (h : runesOf l = some acc) : runesOf (l ++ t) = (runesOf t).map (acc ++ ·) := runesOf_append l.length l (Nat.le_refl _) acc t h

theorem runesOf_encode (c : Nat) (h : Utf8.valid c = true) : runesOf (Utf8.encode c).data.toList = some [c] := by
  have e := nxL_encode c h []
  rw [List.append_nil] at e
  rw [runesOf_step e]
  generalize Utf8.encode (c : Int) = b
  have : (b.data.toList).drop b.size = [] := List.drop_eq_nil_of_le (by rw [Array.length_toList]; exact Nat.le_refl _)
  rw [this, runesOf_nil]; rfl

/-- A text cut at a place to which its runes lead. -/
def CutAt (l : List UInt8) (pos : Nat) (acc : List Nat) : Prop := runesOf (l.take pos) = some acc
theorem CutAt.start (l : List UInt8) : CutAt l 0 [] := by unfold CutAt; simp [runesOf_nil]
theorem CutAt.rest {l : List UInt8} {pos : Nat} {acc : List Nat} (h : CutAt l pos acc) : runesOf l = (runesOf (l.drop pos)).map (acc ++ ·) := by
  have := runes_join (t := l.drop pos) h
  rw [List.take_append_drop] at this
  exact this
theorem CutAt.next {l : List UInt8} {pos : Nat} {acc rs : List Nat} (h : CutAt l pos acc) (hr : runesOf l = some rs) (hp : pos < l.length) :
    ∃ c k, nxL (l.drop pos) = some (c, k) ∧ CutAt l (pos + k) (acc ++ [c]) ∧ 1 ≤ k ∧ k ≤ 4 ∧ pos + k ≤ l.length ∧ ∀ m, pos < m → m < pos + k → runesOf (l.take m) = none := by
  cases e : nxL (l.drop pos) with
  | none =>
    have h1 := h.rest
    have hne : l.drop pos ≠ [] := by intro e2; have : (l.drop pos).length = 0 := by rw [e2]; rfl
                                     rw [List.length_drop] at this; omega
    rw [hr, runesOf_bad hne e] at h1
    cases h1
  | some x =>
    obtain ⟨c, k⟩ := x
    obtain ⟨g1, g2, g3, g4, g5, g6, _⟩ := nxL_some _ _ _ e
    rw [List.length_drop] at g5
    refine ⟨c, k, rfl, ?_, g4, g6, by omega, ?_⟩
    · unfold CutAt at h ⊢
      rw [List.take_add, runes_join h, ← g2, runesOf_encode c g1]; rfl
    · intro m h1 h2
      have e2 : l.take m = l.take pos ++ (l.drop pos).take (m - pos) := by
        have e4 : pos + (m - pos) = m := by omega
        rw [← List.take_add, e4]
      rw [e2, runes_join h, runesOf_bad ?_ (nxL_short e (m - pos) (by omega))]; rfl
      intro e3
      have : ((l.drop pos).take (m - pos)).length = 0 := by rw [e3]; rfl
      rw [List.length_take, List.length_drop] at this; omega
theorem CutAt.done {l : List UInt8} {pos : Nat} {acc rs : List Nat} (h : CutAt l pos acc) (hr : runesOf l = some rs) :
    validB (l.take pos) = true ∧ validB (l.drop pos) = true ∧ countN (l.take pos) + countN (l.drop pos) = countN l := by
  have h1 := h.rest
  unfold CutAt at h
  rw [hr] at h1
  cases e : runesOf (l.drop pos) with
  | none => rw [e] at h1; cases h1
  | some r =>
    rw [e] at h1
    simp at h1
    subst h1
    unfold validB countN
    rw [h, e, hr]
    simp
end Go.Proofs.YtkfhlgajeejgeaaGreatDoor

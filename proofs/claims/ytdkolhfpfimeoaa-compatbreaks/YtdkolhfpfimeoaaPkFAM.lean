/- Part 13 of what the proof stands on. -/
import Derived.Test.YtdkolhfpfimeoaaPkFAL
namespace Go.Proofs.Ytdkolhfpfimeoaa
set_option maxHeartbeats 8000000
set_option linter.unusedVariables false
set_option linter.unusedSimpArgs false
set_option maxRecDepth 20000
open Go.ChangeShapes Go.WideShapes Go.ChangeAt Go.RowKit Go.Maps
theorem compatBreaks_walk (v1 : Value) (s1 : ScS) (call field how : Int) (w : World) (hr1 : ScIn w v1 s1) (hw1 : ScW s1) (g1 : (Lit.int .i64 call).wf = true) (g2 : (Lit.int .i64 field).wf = true) (g3 : (Lit.int .i64 how).wf = true) :
  Calls Try.prog 7 #[v1,.int .i64 call,.int .i64 field,.int .i64 how] w fun e w' => e = .returned (.bool true) ∧ Below w.heap.size w w' := by
 have HEV : Hid EvolC := evolves_any;obtain ⟨i1,i2⟩ := bounds_i64 g1;obtain ⟨i3,i4⟩ := bounds_i64 g2;obtain ⟨i5,i6⟩ := bounds_i64 g3;clear g1 g2 g3;obtain ⟨vm1,ve1,vt1,rfl,hms,hen,hmt⟩ := hr1;obtain ⟨ma1,mc1,rfl, -, -⟩ := hms.form2;obtain ⟨ea1,ec1,rfl, -, -⟩ := hen.form2;obtain ⟨ta1,tc1,rfl, -, -⟩ := hmt.form2;have hq1 : ScIn w (.agg #[.string s1.name,.slice ma1 s1.msgs.length mc1,.slice ea1 s1.enums.length ec1,.slice ta1 (mtRows s1.methods).length tc1]) s1 := ⟨_,_,_,rfl,hms,hen,hmt⟩;obtain ⟨mn1,hmn⟩ : ∃ z,s1.msgs.length = z := ⟨_,rfl⟩;obtain ⟨en1,hen'⟩ : ∃ z,s1.enums.length = z := ⟨_,rfl⟩;obtain ⟨tn1,htn⟩ : ∃ z,(mtRows s1.methods).length = z := ⟨_,rfl⟩;obtain ⟨sn1,hsn⟩ : ∃ z,s1.name = z := ⟨_,rfl⟩;rw [hmn,hen',htn,hsn] at hq1 ⊢;have HS1 : Hid (ScIn w (.agg #[.string sn1,.slice ma1 mn1 mc1,.slice ea1 en1 ec1,.slice ta1 tn1 tc1]) s1 ∧ ScW s1) := ⟨hq1,hw1⟩;have HF1 : Hid (∀ W,Below w.heap.size w W → Calls Try.prog 9 #[.agg #[.string sn1,.slice ma1 mn1 mc1,.slice ea1 en1 ec1,.slice ta1 tn1 tc1]] W fun e w' => FewP s1 e ∧ Below W.heap.size W w') := fun W hW => few_any (HS1.out.1.below hW) HS1.out.2
 clear hms hen hmt hmn hen' htn hsn hq1 hw1
 have HBB : Hid (Below w.heap.size w (w.alloc (Obj.cells #[.string sn1,.slice ma1 mn1 mc1,.slice ea1 en1 ec1,.slice ta1 tn1 tc1] 26)) ∧ Blk (w.alloc (Obj.cells #[.string sn1,.slice ma1 mn1 mc1,.slice ea1 en1 ec1,.slice ta1 tn1 tc1] 26)) (w.heap.size) #[.string sn1,.slice ma1 mn1 mc1,.slice ea1 en1 ec1,.slice ta1 tn1 tc1] 26) := (by
  have h1 := alls_below [(#[.string sn1,.slice ma1 mn1 mc1,.slice ea1 en1 ec1,.slice ta1 tn1 tc1],26)] w;have h2 := alls_blk [(#[.string sn1,.slice ma1 mn1 mc1,.slice ea1 en1 ec1,.slice ta1 tn1 tc1],26)] w
  exact ⟨h1.1,h2 0 _ rfl⟩ : _ ∧ _)
 go_enter Try.func7,Try.ntmps7
 go_wp2_with fail;generalize (w.alloc (Obj.cells #[.string sn1,.slice ma1 mn1 mc1,.slice ea1 en1 ec1,.slice ta1 tn1 tc1] 26)) = WA at *;obtain ⟨b0,hb0⟩ : ∃ z,w.heap.size = z := ⟨_,rfl⟩;have HBZ : Hid (w.heap.size = b0) := hb0;rw [hb0] at HBB
 try simp only [hb0]
 have HWA : Hid (Below w.heap.size w WA) := (by rw [hb0]; exact HBB.out.1 : Below _ _ _);clear hb0;refine (HF1.out _ HWA.out).mono ?_;rintro e w2 ⟨hf1,hb2⟩;have hA2 : Below WA.heap.size WA w2 := hb2;have hbw2 : Below w.heap.size w w2 := HWA.out.trans (hb2.mono HWA.out.size);have BB2 := HBB.out.2.below hA2;have t0 := (BB2.cell 0).trans rfl;have t1 := (BB2.cell 1).trans rfl;have t2 := (BB2.cell 2).trans rfl;have t3 := (BB2.cell 3).trans rfl;have hl1 := BB2.lt;clear hb2 HF1 BB2
 rcases hf1 with rfl | ⟨rfl,hf1⟩
 ·go_wp2_with fail;refine (evawake_any HEV.out _).mono ?_;rintro e wz ⟨rfl,hbz⟩;have hbwz : Below w.heap.size w wz := hbw2.trans (hbz.mono hbw2.size);clear hbz;go_wp2_with fail;go_ret;exact ⟨rfl,hbwz⟩
 have HW1 : Hid (FewS s1) := hf1;clear hf1;have HI1 : Hid (SIn w (.agg #[.string sn1,.slice ma1 mn1 mc1,.slice ea1 en1 ec1,.slice ta1 tn1 tc1]) s1) := ⟨HS1.out.1,HS1.out.2,HW1.out.few⟩;go_wp2_with fail;refine (rcheck_any (HI1.out.below hbw2).row HW1.out).mono ?_;rintro e w3 ⟨rfl,hb3⟩;have hA3 : Below WA.heap.size WA w3 := hA2.trans (hb3.mono hA2.size);have hbw3 : Below w.heap.size w w3 := hbw2.trans (hb3.mono hbw2.size);clear hb3 hA2 hbw2 t0 t1 t2 t3 hl1 HS1;have BB3 := HBB.out.2.below hA3;have t0 := (BB3.cell 0).trans rfl;have t1 := (BB3.cell 1).trans rfl;have t2 := (BB3.cell 2).trans rfl;have t3 := (BB3.cell 3).trans rfl;have hl1 := BB3.lt;clear BB3
 by_cases hok : checkA s1 = 0
 rotate_left
 ·have e1 : (checkA s1 == 0) = false := by simpa using hok
  clear hok;go_wp2_with fail;refine (evawake_any HEV.out _).mono ?_;rintro e wz ⟨rfl,hbz⟩;have hbwz : Below w.heap.size w wz := hbw3.trans (hbz.mono hbw3.size);clear hbz;go_wp2_with fail;go_ret;exact ⟨rfl,hbwz⟩
 have HOK : Hid (OkS s1) := (checkA_ok s1).1 hok;rw [hok];clear hok
 have hTN : (mtRows s1.methods).length = s1.methods.length := by simp [mtRows]
 have hMT : RowG w (.slice ta1 tn1 tc1) 3 (mtRows s1.methods) := by
  obtain ⟨x1,x2,x3,e, -, -,h3⟩ := HI1.out.row;simp only [Value.agg.injEq,Array.mk.injEq,List.cons.injEq,and_true] at e;obtain ⟨-,rfl,rfl,rfl⟩ := e;exact h3
 have htn : tn1 = s1.methods.length := by
  obtain ⟨a,c,e, -, -⟩ := hMT.form2;simp only [Value.slice.injEq] at e;rw [e.2.1,hTN]
 have HTN : Hid (s1.methods.length = tn1) := htn.symm;have HMT : Hid (RowG w (.slice ta1 tn1 tc1) 3 (mtRows s1.methods)) := hMT
 have htl : tn1 ≤ 10 := by rw [htn]; exact HW1.out.few.meths
 clear hTN hMT htn
 by_cases hz : tn1 = 0
 ·have HZ : Hid (tn1 = 0) := hz
  have hd1 : ((tn1 : Int) == 0) = true := by simp; omega
  clear hz;go_wp2_with fail;refine (evawake_any HEV.out _).mono ?_;rintro e wz ⟨rfl,hbz⟩;have hbwz : Below w.heap.size w wz := hbw3.trans (hbz.mono hbw3.size);clear hbz;go_wp2_with fail;go_ret;exact ⟨rfl,hbwz⟩
 have hd1 : ((tn1 : Int) == 0) = false := by simp; omega
 go_wp2_with fail;refine (schema_ap (HI1.out.below hbw3).row HW1.out.few).mono ?_;rintro e w4 ⟨um,ue,ut,pm,pe,rfl,hM4,hE4,hT4,hb4,hap,hae⟩;have HAP : Hid (ApR pm ∧ ApE pe) := ⟨hap,hae⟩;clear hap hae;have hbw4 : Below w.heap.size w w4 := hbw3.trans (hb4.mono hbw3.size);have hA4 : Below WA.heap.size WA w4 := hA3.trans (hb4.mono hA3.size);have hM4' := hM4.base hA3.size;have hE4' := hE4.base hA3.size;have hT4' := own_base hT4 hA3.size;clear hM4 hE4 hT4 hb4;obtain ⟨q,qc,hq, -⟩ := own_addr hM4'.own (by have := HOK.out.some; omega);obtain ⟨ea2,ec2,hev⟩ := own_form hE4'.own;obtain ⟨ta2,tc2,htv⟩ := own_form hT4';subst hq;subst hev;subst htv;obtain ⟨sn,hsn⟩ : ∃ z,s1.name = z := ⟨_,rfl⟩;obtain ⟨M,hMl⟩ : ∃ z,s1.msgs.length = z := ⟨_,rfl⟩;obtain ⟨E,hEl⟩ : ∃ z,s1.enums.length = z := ⟨_,rfl⟩;obtain ⟨T,hTl⟩ : ∃ z,s1.methods.length = z := ⟨_,rfl⟩;have HLN : Hid (s1.msgs.length = M ∧ s1.enums.length = E ∧ s1.methods.length = T ∧ s1.name = sn) := ⟨hMl,hEl,hTl,hsn⟩;have hcp := CpO.new (s := s1) hA4.size hM4' hE4' hT4';have hal4 : Below w4.heap.size w4 (w4.alloc (Obj.cells #[.string s1.name,.slice (some ⟨q,0,none⟩) s1.msgs.length qc,.slice ea2 s1.enums.length ec2,.slice ta2 s1.methods.length tc2] 26)) := (Below.refl _ _).alloc (Nat.le_refl _) _;have hbwD : Below w.heap.size w _ := hbw4.trans (hal4.mono hbw4.size);have hAD : Below WA.heap.size WA _ := hA4.trans (hal4.mono hA4.size);rw [hMl,hEl,hTl,hsn] at hcp hbwD hAD ⊢;clear hM4' hE4' hT4' hal4 hMl hEl hTl hsn;clear hd1 t0 t1 t2 t3 hl1 hbw3 hA3;obtain ⟨hp1,hp2⟩ := placeI_in call (tn1 : Int) (by omega);obtain ⟨k0,hk⟩ : ∃ z : Nat,placeI call (tn1 : Int) = (z : Int) := ⟨(placeI call (tn1 : Int)).toNat,by omega⟩
 have hkm : k0 < tn1 := by omega
 have HPL : Hid (∀ W,Calls Try.prog 17 #[.int .i64 call,.int .i64 (tn1 : Int)] W fun e w1 => e = .returned (.int .i64 (k0 : Int)) ∧ w1 = W) := fun W => by
  have h1 := place_is call (tn1 : Int) i1 i2 (by omega) (by omega) W;rw [hk] at h1;exact h1
 obtain ⟨m,hm⟩ : ∃ z,s1.methods[k0]? = some z := ⟨_,List.getElem?_eq_getElem (by rw [HTN.out]; exact hkm)⟩;obtain ⟨inn,hin⟩ : ∃ z,m.inn = z := ⟨_,rfl⟩;have HQ : Hid (∃ x ∈ s1.methods,x.inn = inn) := ⟨m,List.mem_of_getElem? hm,hin⟩;have hgl := HMT.out.get (show (mtRows s1.methods)[k0]? = some [.string m.name,.string m.inn,.string m.out] by simp [mtRows,hm,MtS.cells]);obtain ⟨gm,om,rfl,c1⟩ := hgl;have c11 := c1 1 _ rfl;rw [hin] at c11;have HCE : Hid (w.cell? ⟨gm,om + k0 * 3 + 1,none⟩ = some (.string inn)) := c11;clear hp1 hp2 hk c1 c11 hm hin m i1 i2
 go_upto_region 4 with fail
 generalize (w4.alloc (Obj.cells #[.string sn,.slice (some ⟨q,0,none⟩) M qc,.slice ea2 E ec2,.slice ta2 T tc2] 26)) = D at *;obtain ⟨bt,hbt⟩ : ∃ z,w4.heap.size = z := ⟨_,rfl⟩;rw [hbt] at hcp
 try simp only [hbt]
 have HS1N : Hid (s1.name = sn) := HLN.out.2.2.2;have HS0 : Hid ((⟨sn,s1.msgs,s1.enums,s1.methods⟩ : ScS) = s1) := (by have h := HS1N.out; subst h; rfl : (⟨sn,s1.msgs,s1.enums,s1.methods⟩ : ScS) = s1);have HCD : Hid (CpO D WA.heap.size bt (.slice (some ⟨q,0,none⟩) M qc) (.slice ea2 E ec2) (.slice ta2 T tc2) ⟨sn,s1.msgs,s1.enums,s1.methods⟩ pm pe ∧ Below w.heap.size w D ∧ Below WA.heap.size WA D) := ⟨by rw [HS0.out]; exact hcp,hbwD,hAD⟩;clear hbwD hbw4 hA4 hAD hcp hbt;have hS : Below D.heap.size D D.drew := (Below.refl _ _).drew;refine wp_region_held_drew (S := fun w' => Below D.heap.size D w') (by kernel_rfl) hS (fun hS => ?_);refine rg_take 0 41 (.pointer (some ⟨b0,3,none⟩)) _ rfl rfl (by kernel_rfl) (by kernel_rfl) (by kernel_rfl) (fun _ _ _ h => h) (by rfl) (fun w' hw' => ?_) hS (listed' := bts 11 1) (by kernel_rfl) rfl ?_
 ·go_simp
 simp only [zsA,zsZ,zsS];refine rg_take 1 42 (.slice (some ⟨gm,om,none⟩) tn1 tc1) _ rfl rfl (by kernel_rfl) (by kernel_rfl) (by kernel_rfl) (fun _ _ _ h => h) (by rfl) (fun w' hw' => ?_) hS (listed' := bts 11 3) (by kernel_rfl) rfl ?_
 ·have f0 := ((HBB.out.2.below (HCD.out.2.2.trans (hw'.mono HCD.out.2.2.size))).cell 3).trans rfl; go_simp
 simp only [zsA,zsZ,zsS];refine rg_take 2 43 (.int .i64 call) _ rfl rfl (by kernel_rfl) (by kernel_rfl) (by kernel_rfl) (fun _ _ _ h => h) (by rfl) (fun w' hw' => ?_) hS (listed' := bts 11 7) (by kernel_rfl) rfl ?_
 ·go_simp
 simp only [zsA,zsZ,zsS];refine rg_take 3 44 (.pointer (some ⟨b0,3,none⟩)) _ rfl rfl (by kernel_rfl) (by kernel_rfl) (by kernel_rfl) (fun _ _ _ h => h) (by rfl) (fun w' hw' => ?_) hS (listed' := bts 11 15) (by kernel_rfl) rfl ?_
 ·go_simp
 simp only [zsA,zsZ,zsS];refine rg_take 4 45 (.slice (some ⟨gm,om,none⟩) tn1 tc1) _ rfl rfl (by kernel_rfl) (by kernel_rfl) (by kernel_rfl) (fun _ _ _ h => h) (by rfl) (fun w' hw' => ?_) hS (listed' := bts 11 31) (by kernel_rfl) rfl ?_
 ·have f0 := ((HBB.out.2.below (HCD.out.2.2.trans (hw'.mono HCD.out.2.2.size))).cell 3).trans rfl; go_simp
 simp only [zsA,zsZ,zsS];refine rg_take 5 46 (.int .i64 (tn1 : Int)) _ rfl rfl (by kernel_rfl) (by kernel_rfl) (by kernel_rfl) (fun _ _ _ h => h) (by rfl) (fun w' hw' => ?_) hS (listed' := bts 11 63) (by kernel_rfl) rfl ?_
 ·go_simp
 simp only [zsA,zsZ,zsS];refine rg_call 6 47 17 #[.int .i64 call,.int .i64 (tn1 : Int)] rfl rfl (by kernel_rfl) (by rfl) (listed' := bts 11 127) (by kernel_rfl) (fun W => by go_simp) ?_;refine (HPL.out _).mono ?_;rintro ee W4c ⟨rfl,rfl⟩;refine ⟨_,rfl,hS,?_⟩;simp only [zsA,zsZ,zsS];refine rg_take 7 48 (.pointer (some ⟨gm,om + k0 * 3,none⟩)) _ rfl rfl (by kernel_rfl) (by kernel_rfl) (by kernel_rfl) (fun _ _ _ h => h) (by rfl) (fun w' hw' => ?_) hS (listed' := bts 11 255) (by kernel_rfl) rfl ?_
 ·go_simp
 simp only [zsA,zsZ,zsS];refine rg_take 8 49 (.pointer (some ⟨gm,om + k0 * 3 + 1,none⟩)) _ rfl rfl (by kernel_rfl) (by kernel_rfl) (by kernel_rfl) (fun _ _ _ h => h) (by rfl) (fun w' hw' => ?_) hS (listed' := bts 11 511) (by kernel_rfl) rfl ?_
 ·go_simp
 simp only [zsA,zsZ,zsS];refine rg_take 9 50 (.string inn) _ rfl rfl (by kernel_rfl) (by kernel_rfl) (by kernel_rfl) (fun _ _ _ h => h) (by rfl) (fun w' hw' => ?_) hS (listed' := bts 11 1023) (by kernel_rfl) rfl ?_
 ·have f0 := (Kp.ofBelow (S := fun _ => False) (HCD.out.2.1.trans (hw'.mono HCD.out.2.1.size))).cell HCE.out (fun e => e); go_simp
 simp only [zsA,zsZ,zsS];refine rg_take 10 10 (.string inn) _ rfl rfl (by kernel_rfl) (by kernel_rfl) (by kernel_rfl) (fun _ _ _ h => h) (by rfl) (fun w' hw' => ?_) hS (listed' := bts 11 2047) (by kernel_rfl) rfl ?_
 ·go_simp
 simp only [zsA,zsZ,zsS];refine wpAnyH_done (by kernel_rfl) ?_ _;generalize hD4 : D.drew = D4 at *;have HC0 : Hid (CpO D4 WA.heap.size bt (.slice (some ⟨q,0,none⟩) M qc) (.slice ea2 E ec2) (.slice ta2 T tc2) ⟨sn,s1.msgs,s1.enums,s1.methods⟩ pm pe ∧ Below w.heap.size w D4 ∧ Below WA.heap.size WA D4) := ⟨HCD.out.1.below hS,HCD.out.2.1.trans (hS.mono HCD.out.2.1.size),HCD.out.2.2.trans (hS.mono HCD.out.2.2.size)⟩
 have hM14 : M ≤ 14 := by rw [← HLN.out.1]; exact HW1.out.few.msgs
 clear HCD hS hD4 HPL;go_wp2_with fail
 go_loopw [11] (fun iv wr => ∃ i : Nat,iv = .int .i64 (i : Int) ∧ i ≤ M ∧ Hid (CpO wr WA.heap.size bt (.slice (some ⟨q,0,none⟩) M qc) (.slice ea2 E ec2) (.slice ta2 T tc2) ⟨sn,s1.msgs,s1.enums,s1.methods⟩ pm pe ∧ Below w.heap.size w wr ∧ Below WA.heap.size WA wr)) (fun iv _ => M - (intOf iv).toNat)
 case atStart => exact ⟨0,rfl,by omega,HC0⟩
 case round =>
  clear HC0;obtain ⟨i,rfl,hi,HC⟩ := hrel;have BT := HC.out.1.blk;have hlr := BT.lt;have k1 := (BT.cell 1).trans rfl
  by_cases hlt : i < M
  rotate_left
  ·obtain rfl : M = i := by omega
   have hdl : decide ((M : Int) < (M : Int)) = false := by simp
   have hbw5 := HC.out.2.1;clear BT HC;go_wp2_with fail;refine (evawake_any HEV.out _).mono ?_;rintro e wz ⟨rfl,hbz⟩;have hbwz : Below w.heap.size w wz := hbw5.trans (hbz.mono hbw5.size);clear hbz;go_wp2_with fail;go_ret;exact ⟨rfl,hbwz⟩
  have hid : decide ((i : Int) < (M : Int)) = true := by simp; omega
  obtain ⟨m,hm⟩ : ∃ z,s1.msgs[i]? = some z := ⟨_,List.getElem?_eq_getElem (by rw [HLN.out.1]; exact hlt)⟩;obtain ⟨p,hp⟩ : ∃ z,pm[i]? = some z := ⟨_,List.getElem?_eq_getElem (by rw [HC.out.1.ms.len]; show i < s1.msgs.length; rw [HLN.out.1]; exact hlt)⟩;have hown := (HC.out.1.ms.each i m p hm hp).1;obtain ⟨fa,fc,hpv⟩ := own_form hown;obtain ⟨ra,rc,hpr⟩ := own_form (HC.out.1.ms.each i m p hm hp).2;obtain ⟨nF,hnF⟩ : ∃ z,m.fields.length = z := ⟨_,rfl⟩;obtain ⟨nR,hnR⟩ : ∃ z,m.reserved.length = z := ⟨_,rfl⟩;obtain ⟨mnm,hmn⟩ : ∃ z,m.name = z := ⟨_,rfl⟩;rw [hnF] at hpv hown;rw [hnR] at hpr;have HMN : Hid (m.name = mnm ∧ m.fields.length = nF ∧ m.reserved.length = nR) := ⟨hmn,hnF,hnR⟩;have c0 := (HC.out.1.fcell hm hp).1;have c1 := (HC.out.1.fcell hm hp).2.1;rw [hmn] at c0;rw [hpv] at c1;have HM : Hid (s1.msgs[i]? = some m) := hm;have HP : Hid (pm[i]? = some p) := hp;have HPV : Hid (p.1 = .slice fa nF fc ∧ p.2 = .slice ra nR rc) := ⟨hpv,hpr⟩;have HNB : Hid (nF ≤ 20) := (by rw [← hnF]; exact ((HW1.out.few).flds m (List.mem_of_getElem? hm)).1 : nF ≤ 20);have HNR : Hid (nR ≤ 32) := (by rw [← hnR]; exact res_len HOK.out hm : nR ≤ 32)
  by_cases hn : mnm = inn
  rotate_left
  ·have e1 := bytes_ne hn;clear hn hm hp hown hpv hpr hnF hnR hmn BT;go_wp2_with fail
   go_roundw
   case rel => exact ⟨i + 1,congrArg (Value.int .i64) (Int.natCast_add i 1).symm,by omega,HC⟩
   case measure => simp [intOf]; omega
  by_cases hz : nF = 0
  ·subst hn;have HZ : Hid (nF = 0) := hz
   have e1 : ((nF : Int) == 0) = true := by simp; omega
   clear hz hm hp hown hpv hpr hnF hnR hmn BT;go_wp2_with fail
   go_roundw
   case rel => exact ⟨i + 1,congrArg (Value.int .i64) (Int.natCast_add i 1).symm,by omega,HC⟩
   case measure => simp [intOf]; omega
  have e1 : ((nF : Int) == 0) = false := by simp; omega
  obtain ⟨gf,fc2,hq,hnc1,hnc2,hgf, -⟩ := own_addr (hpv ▸ hown) (by omega);simp only [Value.slice.injEq,true_and] at hq;obtain ⟨rfl,rfl⟩ := hq;subst hn;obtain ⟨hp1,hp2⟩ := placeI_in field (nF : Int) (by omega);obtain ⟨j,hk⟩ : ∃ z : Nat,placeI field (nF : Int) = (z : Int) := ⟨(placeI field (nF : Int)).toNat,by omega⟩
  have hjn : j < nF := by omega
  have HPF : Hid (∀ W,Calls Try.prog 17 #[.int .i64 field,.int .i64 (nF : Int)] W fun e w1 => e = .returned (.int .i64 (j : Int)) ∧ w1 = W) := fun W => by
   have h1 := place_is field (nF : Int) i3 i4 (by omega) (by have := HNB.out; omega) W;rw [hk] at h1;exact h1
  obtain ⟨hp3,hp4⟩ := placeI_in how (4 : Int) (by omega);obtain ⟨hh,hk4⟩ : ∃ z : Nat,placeI how (4 : Int) = (z : Int) := ⟨(placeI how (4 : Int)).toNat,by omega⟩;have HH4 : Hid (hh < 4) := (by omega : hh < 4)
  have HPH : Hid (∀ W,Calls Try.prog 17 #[.int .i64 how,.int .i64 4] W fun e w1 => e = .returned (.int .i64 (hh : Int)) ∧ w1 = W) := fun W => by
   have h1 := place_is how (4 : Int) i5 i6 (by omega) (by omega) W;rw [hk4] at h1;exact h1
  obtain ⟨f,hf⟩ : ∃ z,m.fields[j]? = some z := ⟨_,List.getElem?_eq_getElem (by rw [hnF]; exact hjn)⟩;have HF : Hid (m.fields[j]? = some f) := hf;obtain ⟨tg,htg⟩ : ∃ z,f.tag = z := ⟨_,rfl⟩;have HTG : Hid (f.tag = tg) := htg;have HQN : Hid (∃ x ∈ s1.methods,x.inn = m.name) := (by rw [hmn]; exact HQ.out : ∃ x ∈ s1.methods,x.inn = m.name);have HFO : Hid (wr.ownsRow WA.heap.size 42 5 (.slice (some ⟨gf,0,none⟩) nF fc) nF (flRows m.fields).flatten) := (by rw [← hpv]; exact hown : World.ownsRow _ _ _ _ _ _ _)
  have HCW : Hid (∀ W,Below wr.heap.size wr W → W.cell? ⟨q,i * 3 + 1,none⟩ = some (.slice (some ⟨gf,0,none⟩) nF fc) ∧ W.frozen? ⟨q,i * 3 + 1,none⟩ = false ∧ W.cell? ⟨gf,j * 5 + 2,none⟩ = some (.int .i64 f.label) ∧ W.frozen? ⟨gf,j * 5 + 2,none⟩ = false) := fun W hW => by
   have h1 := own_below HFO.out hW;exact ⟨by have h2 := ((HC.out.1.below hW).fcell hm hp).2.1; rw [hpv] at h2; exact h2,(HC.out.1.below hW).froz _,own_at (fl_len _) h1 (fl_get hf) (j := 2) rfl,own_froz h1 _⟩
  have y1 := own_at (fl_len _) HFO.out (fl_get hf) (j := 1) rfl;rw [htg] at y1;have HNC : Hid (nF ≤ fc ∧ fc ≤ 9223372036854775807) := ⟨hnc1,hnc2⟩
  have HLB : Hid (I64 f.label ∧ FlW f ∧ I64 tg) := (by
   have h1 := (HI1.out.wf.msgs m (List.mem_of_getElem? hm)).2.1 f (List.mem_of_getElem? hf)
   exact ⟨h1.2.2.2.1,h1,htg ▸ h1.2.2.1⟩ : _ ∧ _ ∧ _)
  have HMW : Hid (MsW m) := HI1.out.wf.msgs m (List.mem_of_getElem? hm);clear hm hp hown hpv hpr hnF hnR hmn BT hp1 hp2 hp3 hp4 hk hk4 i3 i4 i5 i6 hf htg hnc1 hnc2 hz;go_wp2_with fail;refine (HPF.out _).mono ?_;rintro e w5 ⟨rfl,h5⟩;obtain rfl : wr = w5 := h5.symm;go_wp2_with fail;refine (HPH.out _).mono ?_;rintro e w6 ⟨rfl,h5⟩;obtain rfl : wr = w6 := h5.symm;clear HPF HPH k1 hlr c0 c1 y1 e1 hid
  have hh4 : hh = 0 ∨ hh = 1 ∨ hh = 2 ∨ hh = 3 := by have := HH4.out; omega
  clear HH4
  have hwj : IntKind.i64.wrap ((j : Int) + 1) = ((j + 1 : Nat) : Int) := by rw [IntKind.wrap_i64]; have := HNB.out; omega
  rcases hh4 with rfl | rfl | rfl | rfl
  ·obtain ⟨oa,hoa⟩ : ∃ z,(if fc = j + 1 then 0 else (j + 1) * 5) = z := ⟨_,rfl⟩;have HOA : Hid ((if fc = j + 1 then 0 else (j + 1) * 5) = oa) := hoa;have hnc1 := HNC.out.1;have hnc2 := HNC.out.2;clear hoa
   go_upto_region 19 with fail
   refine M_region (T := fun W => Below wr.heap.size wr W) (m := 17) (by kernel_rfl) ?_;have hS : Below wr.heap.size wr wr.drew := (Below.refl _ _).drew;refine M_take 0 155 (.pointer (some ⟨q,i * 3,none⟩)) _ rfl rfl (by kernel_rfl) (by kernel_rfl) (by kernel_rfl) (by kernel_rfl) (by kernel_rfl) (fun _ _ _ h => h) (by rfl) (fun w' hw' => ?_) hS (listed' := bts 19 1) (by kernel_rfl) rfl ?_
   ·go_simp
   simp only [zsA,zsZ,zsS];refine M_take 1 156 (.pointer (some ⟨q,i * 3,none⟩)) _ rfl rfl (by kernel_rfl) (by kernel_rfl) (by kernel_rfl) (by kernel_rfl) (by kernel_rfl) (fun _ _ _ h => h) (by rfl) (fun w' hw' => ?_) hS (listed' := bts 19 3) (by kernel_rfl) rfl ?_
   ·go_simp
   simp only [zsA,zsZ,zsS];refine M_take 2 157 (.pointer (some ⟨q,i * 3,none⟩)) _ rfl rfl (by kernel_rfl) (by kernel_rfl) (by kernel_rfl) (by kernel_rfl) (by kernel_rfl) (fun _ _ _ h => h) (by rfl) (fun w' hw' => ?_) hS (listed' := bts 19 7) (by kernel_rfl) rfl ?_
   ·go_simp
   simp only [zsA,zsZ,zsS];refine M_take 3 158 (.pointer (some ⟨q,i * 3 + 1,none⟩)) _ rfl rfl (by kernel_rfl) (by kernel_rfl) (by kernel_rfl) (by kernel_rfl) (by kernel_rfl) (fun _ _ _ h => h) (by rfl) (fun w' hw' => ?_) hS (listed' := bts 19 15) (by kernel_rfl) rfl ?_
   ·go_simp
   simp only [zsA,zsZ,zsS];refine M_take 4 159 (.slice (some ⟨gf,0,none⟩) nF fc) _ rfl rfl (by kernel_rfl) (by kernel_rfl) (by kernel_rfl) (by kernel_rfl) (by kernel_rfl) (fun _ _ _ h => h) (by rfl) (fun w' hw' => ?_) hS (listed' := bts 19 31) (by kernel_rfl) rfl ?_
   ·obtain ⟨g1,g2,g3,g4⟩ := HCW.out _ hw'; go_simp
   simp only [zsA,zsZ,zsS];refine M_take 5 160 (.int .i64 (j : Int)) _ rfl rfl (by kernel_rfl) (by kernel_rfl) (by kernel_rfl) (by kernel_rfl) (by kernel_rfl) (fun _ _ _ h => h) (by rfl) (fun w' hw' => ?_) hS (listed' := bts 19 63) (by kernel_rfl) rfl ?_
   ·go_simp
   simp only [zsA,zsZ,zsS];refine M_take 6 161 (.int .i64 (j : Int)) _ rfl rfl (by kernel_rfl) (by kernel_rfl) (by kernel_rfl) (by kernel_rfl) (by kernel_rfl) (fun _ _ _ h => h) (by rfl) (fun w' hw' => ?_) hS (listed' := bts 19 127) (by kernel_rfl) rfl ?_
   ·go_simp
   simp only [zsA,zsZ,zsS];refine M_take 7 162 (.slice (some ⟨gf,0,none⟩) j j) _ rfl rfl (by kernel_rfl) (by kernel_rfl) (by kernel_rfl) (by kernel_rfl) (by kernel_rfl) (fun _ _ _ h => h) (by rfl) (fun w' hw' => ?_) hS (listed' := bts 19 255) (by kernel_rfl) rfl ?_
   ·go_simp; try (intro hq; exfalso; omega)
   simp only [zsA,zsZ,zsS];refine M_take 8 163 (.pointer (some ⟨q,i * 3,none⟩)) _ rfl rfl (by kernel_rfl) (by kernel_rfl) (by kernel_rfl) (by kernel_rfl) (by kernel_rfl) (fun _ _ _ h => h) (by rfl) (fun w' hw' => ?_) hS (listed' := bts 19 511) (by kernel_rfl) rfl ?_
   ·go_simp
   simp only [zsA,zsZ,zsS];refine M_take 9 164 (.pointer (some ⟨q,i * 3,none⟩)) _ rfl rfl (by kernel_rfl) (by kernel_rfl) (by kernel_rfl) (by kernel_rfl) (by kernel_rfl) (fun _ _ _ h => h) (by rfl) (fun w' hw' => ?_) hS (listed' := bts 19 1023) (by kernel_rfl) rfl ?_
   ·go_simp
   simp only [zsA,zsZ,zsS];refine M_take 10 165 (.pointer (some ⟨q,i * 3 + 1,none⟩)) _ rfl rfl (by kernel_rfl) (by kernel_rfl) (by kernel_rfl) (by kernel_rfl) (by kernel_rfl) (fun _ _ _ h => h) (by rfl) (fun w' hw' => ?_) hS (listed' := bts 19 2047) (by kernel_rfl) rfl ?_
   ·go_simp
   simp only [zsA,zsZ,zsS];refine M_take 11 166 (.slice (some ⟨gf,0,none⟩) nF fc) _ rfl rfl (by kernel_rfl) (by kernel_rfl) (by kernel_rfl) (by kernel_rfl) (by kernel_rfl) (fun _ _ _ h => h) (by rfl) (fun w' hw' => ?_) hS (listed' := bts 19 4095) (by kernel_rfl) rfl ?_
   ·obtain ⟨g1,g2,g3,g4⟩ := HCW.out _ hw'; go_simp
   simp only [zsA,zsZ,zsS];refine M_take 12 167 (.int .i64 (j : Int)) _ rfl rfl (by kernel_rfl) (by kernel_rfl) (by kernel_rfl) (by kernel_rfl) (by kernel_rfl) (fun _ _ _ h => h) (by rfl) (fun w' hw' => ?_) hS (listed' := bts 19 8191) (by kernel_rfl) rfl ?_
   ·go_simp
   simp only [zsA,zsZ,zsS];refine M_take 13 168 (.int .i64 ((j + 1 : Nat) : Int)) _ rfl rfl (by kernel_rfl) (by kernel_rfl) (by kernel_rfl) (by kernel_rfl) (by kernel_rfl) (fun _ _ _ h => h) (by rfl) (fun w' hw' => ?_) hS (listed' := bts 19 16383) (by kernel_rfl) rfl ?_
   ·go_simp
   simp only [zsA,zsZ,zsS];refine M_take 14 169 (.slice (some ⟨gf,oa,none⟩) (nF - (j + 1)) (fc - (j + 1))) _ rfl rfl (by kernel_rfl) (by kernel_rfl) (by kernel_rfl) (by kernel_rfl) (by kernel_rfl) (fun _ _ _ h => h) (by rfl) (fun w' hw' => ?_) hS (listed' := bts 19 32767) (by kernel_rfl) rfl ?_
   ·go_simp; rw [if_pos (by omega)]; have ho := HOA.out; by_cases hq : fc = j + 1; (rw [if_pos hq] at ho; rw [if_pos hq,← ho]); (rw [if_neg hq] at ho; rw [if_neg hq,← ho])
   simp only [zsA,zsZ,zsS];obtain ⟨a2,c2,U2,e1,e2,e3,e4⟩ := cutB (own_below HFO.out hS) HMN.out.2.1 hjn HNB.out (oa := oa) (by have ho := HOA.out; by_cases hq : fc = j + 1; (left; omega); (right; rw [if_neg hq] at ho; exact ho.symm));have hS2 : Below wr.heap.size wr U2 := hS.trans (e4.mono hS.size);have HR2 : Hid ((Builtin.append_ #[37,37] 37 #[.slice (some ⟨gf,0,none⟩) j j,.slice (some ⟨gf,oa,none⟩) (nF - (j + 1)) (fc - (j + 1))]).run Try.prog wr.drew = .ok (.slice a2 (nF - 1) c2) U2) := e1;have hcq := (HC.out.1.toQ HAP.out.1).putF HM.out HP.out hS2 e2 e3;have hb6 : Below w.heap.size w (U2.setCell ⟨q,i * 3 + 1,none⟩ (.slice a2 (nF - 1) c2)) := set_bel (HC.out.2.1.trans (hS2.mono HC.out.2.1.size)) (Nat.le_trans HWA.out.size HC.out.1.hi);have hA6 : Below WA.heap.size WA (U2.setCell ⟨q,i * 3 + 1,none⟩ (.slice a2 (nF - 1) c2)) := set_bel (HC.out.2.2.trans (hS2.mono HC.out.2.2.size)) HC.out.1.hi;have HCQ : Hid (CpQ (U2.setCell ⟨q,i * 3 + 1,none⟩ (.slice a2 (nF - 1) c2)) WA.heap.size bt (.slice (some ⟨q,0,none⟩) M qc) (.slice ea2 E ec2) (.slice ta2 T tc2) (setM ⟨sn,s1.msgs,s1.enums,s1.methods⟩ i (cutF m j)) (pm.set i (.slice a2 (nF - 1) c2,p.2)) pe ∧ Below w.heap.size w (U2.setCell ⟨q,i * 3 + 1,none⟩ (.slice a2 (nF - 1) c2)) ∧ Below WA.heap.size WA (U2.setCell ⟨q,i * 3 + 1,none⟩ (.slice a2 (nF - 1) c2))) := ⟨hcq,hb6,hA6⟩;clear e1 e2 e3 e4 hcq hb6 hA6;refine M_run 15 170 (.slice a2 (nF - 1) c2) (U2) rfl rfl (by kernel_rfl) (by rfl) (listed' := bts 19 65535) (by kernel_rfl) (append_run rfl rfl rfl HR2.out) hS2 ?_;simp only [zsA,zsZ,zsS];obtain ⟨g1,g2,g3,g4⟩ := HCW.out _ hS2;refine M_run 16 171 (.pointer (some ⟨q,i * 3,none⟩)) U2 rfl rfl (by kernel_rfl) (by rfl) (listed' := bts 19 131071) (by kernel_rfl) (by go_simp) hS2 ?_;simp only [zsA,zsZ,zsS];refine M_runA 17 172 (.pointer (some ⟨q,i * 3 + 1,none⟩)) U2 rfl rfl (by kernel_rfl) (by rfl) (listed' := bts 19 262143) (by kernel_rfl) (by go_simp) (by kernel_rfl) ?_;simp only [zsA,zsZ,zsS];refine M_store 18 (U2.setCell ⟨q,i * 3 + 1,none⟩ (.slice a2 (nF - 1) c2)) rfl rfl (by kernel_rfl) (by rfl) (listed' := bts 19 524287) (by kernel_rfl) (by go_simp) (by kernel_rfl) ?_;refine M_done (by kernel_rfl) ?_ _;clear g1 g2 g3 g4 hS hS2 HR2 HCW HFO HC hnc1 hnc2 HOA hwj;generalize (U2.setCell ⟨q,i * 3 + 1,none⟩ (.slice a2 (nF - 1) c2)) = D6 at *;have HEE : Hid (evolA s1 (setM s1 i (cutF m j)) = (mnm,tg,false)) := (by rw [← HMN.out.1,← HTG.out]; exact brk_cut HOK.out HM.out HF.out HQN.out : _ = _);have hT6 : Below D6.heap.size D6 D6 := Below.refl _ _;have hb6 := HCQ.out.2.1;have hA6 := HCQ.out.2.2;have HTW : Hid (∀ W,Below D6.heap.size D6 W → SIn W (.agg #[.string sn,.slice (some ⟨q,0,none⟩) M qc,.slice ea2 E ec2,.slice ta2 T tc2]) (setM s1 i (cutF m j)) ∧ Blk W bt #[.string sn,.slice (some ⟨q,0,none⟩) M qc,.slice ea2 E ec2,.slice ta2 T tc2] 26) := fun W hW => ⟨by have h1 := (HCQ.out.1.below hW).sin (setM_wE (by rw [HS0.out]; exact HI1.out.wf) (cutF_w HMW.out j)) (setM_fewE (by rw [HS0.out]; exact HI1.out.few) (by show (m.fields.eraseIdx j).length ≤ 20; exact Nat.le_trans (List.length_eraseIdx_le ..) (by rw [HMN.out.2.1]; exact HNB.out)) (by show m.reserved.length ≤ 40; rw [HMN.out.2.2]; have := HNR.out; omega)); rw [HS0.out] at h1; rw [show (setM s1 i (cutF m j)).name = sn from HS1N.out] at h1; exact h1,HCQ.out.1.blk.below hW⟩
   clear HCQ
   go_upto_region 26 with fail
   have hS : Below D6.heap.size D6 D6.drew := (Below.refl _ _).drew;refine wp_region_held_drew (S := fun w' => Below D6.heap.size D6 w') (by kernel_rfl) hS (fun hS => ?_);refine rg_take 0 214 (.agg #[.string sn1,.slice ma1 mn1 mc1,.slice ea1 en1 ec1,.slice (some ⟨gm,om,none⟩) tn1 tc1]) _ rfl rfl (by kernel_rfl) (by kernel_rfl) (by kernel_rfl) (fun _ _ _ h => h) (by rfl) (fun w' hw' => ?_) hS (listed' := bts 11 1) (by kernel_rfl) rfl ?_
   ·have f0 := ((HBB.out.2.below (hA6.trans (hw'.mono hA6.size))).cell 0).trans rfl; have f1 := ((HBB.out.2.below (hA6.trans (hw'.mono hA6.size))).cell 1).trans rfl; have f2 := ((HBB.out.2.below (hA6.trans (hw'.mono hA6.size))).cell 2).trans rfl; have f3 := ((HBB.out.2.below (hA6.trans (hw'.mono hA6.size))).cell 3).trans rfl; go_simp
   simp only [zsA,zsZ,zsS];refine rg_take 2 216 (.agg #[.string sn,.slice (some ⟨q,0,none⟩) M qc,.slice ea2 E ec2,.slice ta2 T tc2]) _ rfl rfl (by kernel_rfl) (by kernel_rfl) (by kernel_rfl) (fun _ _ _ h => h) (by rfl) (fun w' hw' => ?_) hS (listed' := bts 11 5) (by kernel_rfl) rfl ?_
   ·have HB := (HTW.out _ (hT6.trans (hw'.mono hT6.size))).2; have f0 := (HB.cell 0).trans rfl; have f1 := (HB.cell 1).trans rfl; have f2 := (HB.cell 2).trans rfl; have f3 := (HB.cell 3).trans rfl; go_simp
   simp only [zsA,zsZ,zsS];refine rg_call 1 215 12 #[.agg #[.string sn1,.slice ma1 mn1 mc1,.slice ea1 en1 ec1,.slice (some ⟨gm,om,none⟩) tn1 tc1]] rfl rfl (by kernel_rfl) (by rfl) (listed' := bts 11 7) (by kernel_rfl) (fun W => by go_simp) ?_;refine Calls.mono (schemaE_any (HI1.out.below (hb6.trans (hS.mono hb6.size)))) ?_;rintro ee W26s0 ⟨r260,rfl,hr1,hbU⟩;have HR0 : Hid (SIn W26s0 r260 s1) := hr1;clear hr1;have hS0 := hS;have hS : Below D6.heap.size D6 W26s0 := hS0.trans (hbU.mono hS0.size);clear hS0 hbU;refine ⟨_,rfl,hS,?_⟩;simp only [zsA,zsZ,zsS];refine rg_call 3 217 11 #[r260,.agg #[.string sn,.slice (some ⟨q,0,none⟩) M qc,.slice ea2 E ec2,.slice ta2 T tc2]] rfl rfl (by kernel_rfl) (by rfl) (listed' := bts 11 15) (by kernel_rfl) (fun W => by go_simp) ?_;refine Calls.mono (HEV.out _ _ _ _ _ (HR0.out) ((HTW.out _ (hT6.trans (hS.mono hT6.size))).1)) ?_;rintro ee W26c ⟨rfl,hbU⟩;rw [HEE.out];clear HR0;have hS0 := hS;have hS : Below D6.heap.size D6 W26c := hS0.trans (hbU.mono hS0.size);clear hS0 hbU;refine ⟨_,rfl,hS,?_⟩;simp only [zsA,zsZ,zsS];refine rg_take 4 213 (.tuple #[.string mnm,.int .i64 tg,.bool false]) _ rfl rfl (by kernel_rfl) (by kernel_rfl) (by kernel_rfl) (fun _ _ _ h => h) (by rfl) (fun w' hw' => ?_) hS (listed' := bts 11 31) (by kernel_rfl) rfl ?_
   ·go_simp
   simp only [zsA,zsZ,zsS];refine rg_take 5 218 (.string mnm) _ rfl rfl (by kernel_rfl) (by kernel_rfl) (by kernel_rfl) (fun _ _ _ h => h) (by rfl) (fun w' hw' => ?_) hS (listed' := bts 11 63) (by kernel_rfl) rfl ?_
   ·go_simp
   simp only [zsA,zsZ,zsS];refine rg_take 6 219 (.int .i64 tg) _ rfl rfl (by kernel_rfl) (by kernel_rfl) (by kernel_rfl) (fun _ _ _ h => h) (by rfl) (fun w' hw' => ?_) hS (listed' := bts 11 127) (by kernel_rfl) rfl ?_
   ·go_simp
   simp only [zsA,zsZ,zsS];refine rg_take 7 220 (.bool false) _ rfl rfl (by kernel_rfl) (by kernel_rfl) (by kernel_rfl) (fun _ _ _ h => h) (by rfl) (fun w' hw' => ?_) hS (listed' := bts 11 255) (by kernel_rfl) rfl ?_
   ·go_simp
   simp only [zsA,zsZ,zsS];refine rg_take 8 21 (.string mnm) _ rfl rfl (by kernel_rfl) (by kernel_rfl) (by kernel_rfl) (fun _ _ _ h => h) (by rfl) (fun w' hw' => ?_) hS (listed' := bts 11 511) (by kernel_rfl) rfl ?_
   ·go_simp
   simp only [zsA,zsZ,zsS];refine rg_take 9 22 (.int .i64 tg) _ rfl rfl (by kernel_rfl) (by kernel_rfl) (by kernel_rfl) (fun _ _ _ h => h) (by rfl) (fun w' hw' => ?_) hS (listed' := bts 11 1023) (by kernel_rfl) rfl ?_
   ·go_simp
   simp only [zsA,zsZ,zsS];refine rg_take 10 23 (.bool false) _ rfl rfl (by kernel_rfl) (by kernel_rfl) (by kernel_rfl) (fun _ _ _ h => h) (by rfl) (fun w' hw' => ?_) hS (listed' := bts 11 2047) (by kernel_rfl) rfl ?_
   ·go_simp
   simp only [zsA,zsZ,zsS];refine wpAnyH_done (by kernel_rfl) ?_ _;have hbw26e : Below w.heap.size w W26c := hb6.trans (hS.mono hb6.size);have hA26e : Below WA.heap.size WA W26c := hA6.trans (hS.mono hA6.size);have hT26e := hT6.trans (hS.mono hT6.size);clear hS;clear hb6 hA6 hT6 hA26e hT26e;go_wp2_with fail;refine (evawake_any HEV.out _).mono ?_;rintro e wz ⟨rfl,hbz⟩;have hbwz : Below w.heap.size w wz := hbw26e.trans (hbz.mono hbw26e.size);clear hbz;go_wp2_with fail;go_ret;exact ⟨rfl,hbwz⟩
  ·have hnc1 := HNC.out.1;have hnc2 := HNC.out.2;have hl3 := tmod3 f.label
   have hwl : IntKind.i64.wrap (f.label.tmod 3 + 1) = f.label.tmod 3 + 1 := by rw [IntKind.wrap_i64]; omega
   have hwm : IntKind.i64.wrap (f.label.tmod 3) = f.label.tmod 3 := by rw [IntKind.wrap_i64]; omega
   go_upto_region 21 with fail
   refine M_region (T := fun W => Below wr.heap.size wr W) (m := 16) (by kernel_rfl) ?_;have hS : Below wr.heap.size wr wr.drew := (Below.refl _ _).drew;refine M_take 0 175 (.pointer (some ⟨q,i * 3,none⟩)) _ rfl rfl (by kernel_rfl) (by kernel_rfl) (by kernel_rfl) (by kernel_rfl) (by kernel_rfl) (fun _ _ _ h => h) (by rfl) (fun w' hw' => ?_) hS (listed' := bts 18 1) (by kernel_rfl) rfl ?_
   ·go_simp
   simp only [zsA,zsZ,zsS];refine M_take 1 176 (.pointer (some ⟨q,i * 3,none⟩)) _ rfl rfl (by kernel_rfl) (by kernel_rfl) (by kernel_rfl) (by kernel_rfl) (by kernel_rfl) (fun _ _ _ h => h) (by rfl) (fun w' hw' => ?_) hS (listed' := bts 18 3) (by kernel_rfl) rfl ?_
   ·go_simp
   simp only [zsA,zsZ,zsS];refine M_take 2 177 (.pointer (some ⟨q,i * 3 + 1,none⟩)) _ rfl rfl (by kernel_rfl) (by kernel_rfl) (by kernel_rfl) (by kernel_rfl) (by kernel_rfl) (fun _ _ _ h => h) (by rfl) (fun w' hw' => ?_) hS (listed' := bts 18 7) (by kernel_rfl) rfl ?_
   ·go_simp
   simp only [zsA,zsZ,zsS];refine M_take 3 178 (.slice (some ⟨gf,0,none⟩) nF fc) _ rfl rfl (by kernel_rfl) (by kernel_rfl) (by kernel_rfl) (by kernel_rfl) (by kernel_rfl) (fun _ _ _ h => h) (by rfl) (fun w' hw' => ?_) hS (listed' := bts 18 15) (by kernel_rfl) rfl ?_
   ·obtain ⟨g1,g2,g3,g4⟩ := HCW.out _ hw'; go_simp
   simp only [zsA,zsZ,zsS];refine M_take 4 179 (.int .i64 (j : Int)) _ rfl rfl (by kernel_rfl) (by kernel_rfl) (by kernel_rfl) (by kernel_rfl) (by kernel_rfl) (fun _ _ _ h => h) (by rfl) (fun w' hw' => ?_) hS (listed' := bts 18 31) (by kernel_rfl) rfl ?_
   ·go_simp
   simp only [zsA,zsZ,zsS];refine M_take 5 180 (.pointer (some ⟨q,i * 3,none⟩)) _ rfl rfl (by kernel_rfl) (by kernel_rfl) (by kernel_rfl) (by kernel_rfl) (by kernel_rfl) (fun _ _ _ h => h) (by rfl) (fun w' hw' => ?_) hS (listed' := bts 18 63) (by kernel_rfl) rfl ?_
   ·go_simp
   simp only [zsA,zsZ,zsS];refine M_take 6 181 (.pointer (some ⟨q,i * 3,none⟩)) _ rfl rfl (by kernel_rfl) (by kernel_rfl) (by kernel_rfl) (by kernel_rfl) (by kernel_rfl) (fun _ _ _ h => h) (by rfl) (fun w' hw' => ?_) hS (listed' := bts 18 127) (by kernel_rfl) rfl ?_
   ·go_simp
   simp only [zsA,zsZ,zsS];refine M_take 7 182 (.pointer (some ⟨q,i * 3 + 1,none⟩)) _ rfl rfl (by kernel_rfl) (by kernel_rfl) (by kernel_rfl) (by kernel_rfl) (by kernel_rfl) (fun _ _ _ h => h) (by rfl) (fun w' hw' => ?_) hS (listed' := bts 18 255) (by kernel_rfl) rfl ?_
   ·go_simp
   simp only [zsA,zsZ,zsS];refine M_take 8 183 (.slice (some ⟨gf,0,none⟩) nF fc) _ rfl rfl (by kernel_rfl) (by kernel_rfl) (by kernel_rfl) (by kernel_rfl) (by kernel_rfl) (fun _ _ _ h => h) (by rfl) (fun w' hw' => ?_) hS (listed' := bts 18 511) (by kernel_rfl) rfl ?_
   ·obtain ⟨g1,g2,g3,g4⟩ := HCW.out _ hw'; go_simp
   simp only [zsA,zsZ,zsS];refine M_take 9 184 (.int .i64 (j : Int)) _ rfl rfl (by kernel_rfl) (by kernel_rfl) (by kernel_rfl) (by kernel_rfl) (by kernel_rfl) (fun _ _ _ h => h) (by rfl) (fun w' hw' => ?_) hS (listed' := bts 18 1023) (by kernel_rfl) rfl ?_
   ·go_simp
   simp only [zsA,zsZ,zsS];refine M_take 10 185 (.pointer (some ⟨gf,j * 5,none⟩)) _ rfl rfl (by kernel_rfl) (by kernel_rfl) (by kernel_rfl) (by kernel_rfl) (by kernel_rfl) (fun _ _ _ h => h) (by rfl) (fun w' hw' => ?_) hS (listed' := bts 18 2047) (by kernel_rfl) rfl ?_
   ·go_simp
   simp only [zsA,zsZ,zsS];refine M_take 11 186 (.pointer (some ⟨gf,j * 5 + 2,none⟩)) _ rfl rfl (by kernel_rfl) (by kernel_rfl) (by kernel_rfl) (by kernel_rfl) (by kernel_rfl) (fun _ _ _ h => h) (by rfl) (fun w' hw' => ?_) hS (listed' := bts 18 4095) (by kernel_rfl) rfl ?_
   ·go_simp
   simp only [zsA,zsZ,zsS];refine M_take 12 187 (.int .i64 f.label) _ rfl rfl (by kernel_rfl) (by kernel_rfl) (by kernel_rfl) (by kernel_rfl) (by kernel_rfl) (fun _ _ _ h => h) (by rfl) (fun w' hw' => ?_) hS (listed' := bts 18 8191) (by kernel_rfl) rfl ?_
   ·obtain ⟨g1,g2,g3,g4⟩ := HCW.out _ hw'; go_simp
   simp only [zsA,zsZ,zsS];refine M_take 13 188 (.int .i64 (f.label.tmod 3)) _ rfl rfl (by kernel_rfl) (by kernel_rfl) (by kernel_rfl) (by kernel_rfl) (by kernel_rfl) (fun _ _ _ h => h) (by rfl) (fun w' hw' => ?_) hS (listed' := bts 18 16383) (by kernel_rfl) rfl ?_
   ·go_simp
   simp only [zsA,zsZ,zsS];refine M_take 14 189 (.int .i64 (f.label.tmod 3 + 1)) _ rfl rfl (by kernel_rfl) (by kernel_rfl) (by kernel_rfl) (by kernel_rfl) (by kernel_rfl) (fun _ _ _ h => h) (by rfl) (fun w' hw' => ?_) hS (listed' := bts 18 32767) (by kernel_rfl) rfl ?_
   ·go_simp
   simp only [zsA,zsZ,zsS];refine M_take 15 190 (.pointer (some ⟨gf,j * 5,none⟩)) _ rfl rfl (by kernel_rfl) (by kernel_rfl) (by kernel_rfl) (by kernel_rfl) (by kernel_rfl) (fun _ _ _ h => h) (by rfl) (fun w' hw' => ?_) hS (listed' := bts 18 65535) (by kernel_rfl) rfl ?_
   ·go_simp
   simp only [zsA,zsZ,zsS];obtain ⟨g1,g2,g3,g4⟩ := HCW.out _ hS;refine M_runA 16 191 (.pointer (some ⟨gf,j * 5 + 2,none⟩)) wr.drew rfl rfl (by kernel_rfl) (by rfl) (listed' := bts 18 131071) (by kernel_rfl) (by go_simp) (by kernel_rfl) ?_;simp only [zsA,zsZ,zsS];refine M_store 17 (wr.drew.setCell ⟨gf,j * 5 + 2,none⟩ (.int .i64 (f.label.tmod 3 + 1))) rfl rfl (by kernel_rfl) (by rfl) (listed' := bts 18 262143) (by kernel_rfl) (by go_simp) (by kernel_rfl) ?_;refine M_done (by kernel_rfl) ?_ _;have hcp := (HC.out.1.below hS).cell HM.out HP.out HPV.out.1 HF.out (q := 2) (f' := labF f) (by decide) rfl;have HCQ : Hid (CpO (wr.drew.setCell ⟨gf,j * 5 + 2,none⟩ (.int .i64 (f.label.tmod 3 + 1))) WA.heap.size bt (.slice (some ⟨q,0,none⟩) M qc) (.slice ea2 E ec2) (.slice ta2 T tc2) (setM ⟨sn,s1.msgs,s1.enums,s1.methods⟩ i (setF m j (labF f))) pm pe ∧ Below w.heap.size w (wr.drew.setCell ⟨gf,j * 5 + 2,none⟩ (.int .i64 (f.label.tmod 3 + 1))) ∧ Below WA.heap.size WA (wr.drew.setCell ⟨gf,j * 5 + 2,none⟩ (.int .i64 (f.label.tmod 3 + 1)))) := ⟨hcp,set_bel (HC.out.2.1.trans (hS.mono HC.out.2.1.size)) (Nat.le_trans HWA.out.size (HFO.out.lt gf rfl).1),set_bel (HC.out.2.2.trans (hS.mono HC.out.2.2.size)) (HFO.out.lt gf rfl).1⟩;clear g1 g2 g3 g4 hS hcp HCW HFO HC hnc1 hnc2 hwj hl3 hwl hwm;generalize (wr.drew.setCell ⟨gf,j * 5 + 2,none⟩ (.int .i64 (f.label.tmod 3 + 1))) = D6 at *;have HEE : Hid (evolA s1 (setM s1 i (setF m j (labF f))) = (mnm,tg,false)) := (by rw [← HMN.out.1,← HTG.out]; exact brk_lab HOK.out HM.out HF.out HQN.out : _ = _);have hT6 : Below D6.heap.size D6 D6 := Below.refl _ _;have hb6 := HCQ.out.2.1;have hA6 := HCQ.out.2.2;have HTW : Hid (∀ W,Below D6.heap.size D6 W → SIn W (.agg #[.string sn,.slice (some ⟨q,0,none⟩) M qc,.slice ea2 E ec2,.slice ta2 T tc2]) (setM s1 i (setF m j (labF f))) ∧ Blk W bt #[.string sn,.slice (some ⟨q,0,none⟩) M qc,.slice ea2 E ec2,.slice ta2 T tc2] 26) := fun W hW => ⟨by have h1 := (HCQ.out.1.below hW).sin (setM_wE (by rw [HS0.out]; exact HI1.out.wf) (setF_w HMW.out (labF_w HLB.out.2.1))) (setM_fewE (by rw [HS0.out]; exact HI1.out.few) (by show (m.fields.set j _).length ≤ 20; rw [List.length_set,HMN.out.2.1]; exact HNB.out) (by show m.reserved.length ≤ 40; rw [HMN.out.2.2]; have := HNR.out; omega)); rw [HS0.out] at h1; rw [show (setM s1 i (setF m j (labF f))).name = sn from HS1N.out] at h1; exact h1,HCQ.out.1.blk.below hW⟩
   clear HCQ
   go_upto_region 26 with fail
   have hS : Below D6.heap.size D6 D6.drew := (Below.refl _ _).drew;refine wp_region_held_drew (S := fun w' => Below D6.heap.size D6 w') (by kernel_rfl) hS (fun hS => ?_);refine rg_take 0 214 (.agg #[.string sn1,.slice ma1 mn1 mc1,.slice ea1 en1 ec1,.slice (some ⟨gm,om,none⟩) tn1 tc1]) _ rfl rfl (by kernel_rfl) (by kernel_rfl) (by kernel_rfl) (fun _ _ _ h => h) (by rfl) (fun w' hw' => ?_) hS (listed' := bts 11 1) (by kernel_rfl) rfl ?_
   ·have f0 := ((HBB.out.2.below (hA6.trans (hw'.mono hA6.size))).cell 0).trans rfl; have f1 := ((HBB.out.2.below (hA6.trans (hw'.mono hA6.size))).cell 1).trans rfl; have f2 := ((HBB.out.2.below (hA6.trans (hw'.mono hA6.size))).cell 2).trans rfl; have f3 := ((HBB.out.2.below (hA6.trans (hw'.mono hA6.size))).cell 3).trans rfl; go_simp
   simp only [zsA,zsZ,zsS];refine rg_take 2 216 (.agg #[.string sn,.slice (some ⟨q,0,none⟩) M qc,.slice ea2 E ec2,.slice ta2 T tc2]) _ rfl rfl (by kernel_rfl) (by kernel_rfl) (by kernel_rfl) (fun _ _ _ h => h) (by rfl) (fun w' hw' => ?_) hS (listed' := bts 11 5) (by kernel_rfl) rfl ?_
   ·have HB := (HTW.out _ (hT6.trans (hw'.mono hT6.size))).2; have f0 := (HB.cell 0).trans rfl; have f1 := (HB.cell 1).trans rfl; have f2 := (HB.cell 2).trans rfl; have f3 := (HB.cell 3).trans rfl; go_simp
   simp only [zsA,zsZ,zsS];refine rg_call 1 215 12 #[.agg #[.string sn1,.slice ma1 mn1 mc1,.slice ea1 en1 ec1,.slice (some ⟨gm,om,none⟩) tn1 tc1]] rfl rfl (by kernel_rfl) (by rfl) (listed' := bts 11 7) (by kernel_rfl) (fun W => by go_simp) ?_;refine Calls.mono (schemaE_any (HI1.out.below (hb6.trans (hS.mono hb6.size)))) ?_;rintro ee W26s0 ⟨r260,rfl,hr1,hbU⟩;have HR0 : Hid (SIn W26s0 r260 s1) := hr1;clear hr1;have hS0 := hS;have hS : Below D6.heap.size D6 W26s0 := hS0.trans (hbU.mono hS0.size);clear hS0 hbU;refine ⟨_,rfl,hS,?_⟩;simp only [zsA,zsZ,zsS];refine rg_call 3 217 11 #[r260,.agg #[.string sn,.slice (some ⟨q,0,none⟩) M qc,.slice ea2 E ec2,.slice ta2 T tc2]] rfl rfl (by kernel_rfl) (by rfl) (listed' := bts 11 15) (by kernel_rfl) (fun W => by go_simp) ?_;refine Calls.mono (HEV.out _ _ _ _ _ (HR0.out) ((HTW.out _ (hT6.trans (hS.mono hT6.size))).1)) ?_;rintro ee W26c ⟨rfl,hbU⟩;rw [HEE.out];clear HR0;have hS0 := hS;have hS : Below D6.heap.size D6 W26c := hS0.trans (hbU.mono hS0.size);clear hS0 hbU;refine ⟨_,rfl,hS,?_⟩;simp only [zsA,zsZ,zsS];refine rg_take 4 213 (.tuple #[.string mnm,.int .i64 tg,.bool false]) _ rfl rfl (by kernel_rfl) (by kernel_rfl) (by kernel_rfl) (fun _ _ _ h => h) (by rfl) (fun w' hw' => ?_) hS (listed' := bts 11 31) (by kernel_rfl) rfl ?_
   ·go_simp
   simp only [zsA,zsZ,zsS];refine rg_take 5 218 (.string mnm) _ rfl rfl (by kernel_rfl) (by kernel_rfl) (by kernel_rfl) (fun _ _ _ h => h) (by rfl) (fun w' hw' => ?_) hS (listed' := bts 11 63) (by kernel_rfl) rfl ?_
   ·go_simp
   simp only [zsA,zsZ,zsS];refine rg_take 6 219 (.int .i64 tg) _ rfl rfl (by kernel_rfl) (by kernel_rfl) (by kernel_rfl) (fun _ _ _ h => h) (by rfl) (fun w' hw' => ?_) hS (listed' := bts 11 127) (by kernel_rfl) rfl ?_
   ·go_simp
   simp only [zsA,zsZ,zsS];refine rg_take 7 220 (.bool false) _ rfl rfl (by kernel_rfl) (by kernel_rfl) (by kernel_rfl) (fun _ _ _ h => h) (by rfl) (fun w' hw' => ?_) hS (listed' := bts 11 255) (by kernel_rfl) rfl ?_
   ·go_simp
   simp only [zsA,zsZ,zsS];refine rg_take 8 21 (.string mnm) _ rfl rfl (by kernel_rfl) (by kernel_rfl) (by kernel_rfl) (fun _ _ _ h => h) (by rfl) (fun w' hw' => ?_) hS (listed' := bts 11 511) (by kernel_rfl) rfl ?_
   ·go_simp
   simp only [zsA,zsZ,zsS];refine rg_take 9 22 (.int .i64 tg) _ rfl rfl (by kernel_rfl) (by kernel_rfl) (by kernel_rfl) (fun _ _ _ h => h) (by rfl) (fun w' hw' => ?_) hS (listed' := bts 11 1023) (by kernel_rfl) rfl ?_
   ·go_simp
   simp only [zsA,zsZ,zsS];refine rg_take 10 23 (.bool false) _ rfl rfl (by kernel_rfl) (by kernel_rfl) (by kernel_rfl) (fun _ _ _ h => h) (by rfl) (fun w' hw' => ?_) hS (listed' := bts 11 2047) (by kernel_rfl) rfl ?_
   ·go_simp
   simp only [zsA,zsZ,zsS];refine wpAnyH_done (by kernel_rfl) ?_ _;have hbw26e : Below w.heap.size w W26c := hb6.trans (hS.mono hb6.size);have hA26e : Below WA.heap.size WA W26c := hA6.trans (hS.mono hA6.size);have hT26e := hT6.trans (hS.mono hT6.size);clear hS;clear hb6 hA6 hT6 hA26e hT26e;go_wp2_with fail;refine (evawake_any HEV.out _).mono ?_;rintro e wz ⟨rfl,hbz⟩;have hbwz : Below w.heap.size w wz := hbw26e.trans (hbz.mono hbw26e.size);clear hbz;go_wp2_with fail;go_ret;exact ⟨rfl,hbwz⟩
  ·have hh1 := own_at (fl_len _) HFO.out (fl_get HF.out) (j := 3) rfl;have hh2 := own_at (fl_len _) HFO.out (fl_get HF.out) (j := 4) rfl;have hz1 := own_froz HFO.out (j * 5 + 3);have hz2 := own_froz HFO.out (j * 5 + 4);obtain ⟨g1,g2,g3,g4⟩ := HCW.out _ (Below.refl _ _);obtain ⟨kd,hkd⟩ : ∃ z,f.kind = z := ⟨_,rfl⟩;have HKD : Hid (f.kind = kd) := hkd;rw [hkd] at hh1;clear hkd
   by_cases hk5 : kd = 5
   ·subst hk5;have hbw5 := HC.out.2.1;clear HCW HFO HC;go_wp2_with fail;refine (evawake_any HEV.out _).mono ?_;rintro e wz ⟨rfl,hbz⟩;have hbwz : Below w.heap.size w wz := hbw5.trans (hbz.mono hbw5.size);clear hbz;go_wp2_with fail;go_ret;exact ⟨rfl,hbwz⟩
   have e5 : (kd == 5) = false := by simpa using hk5
   have HK5 : Hid (kd ≠ 5) := hk5;clear hk5
   go_upto_region 26 with fail
   have hcp1 := HC.out.1.cell HM.out HP.out HPV.out.1 HF.out (q := 3) (f' := ⟨f.name,f.tag,f.label,5,f.tname⟩) (u := .int .i64 5) (by decide) rfl
   have hjf : j < m.fields.length := by rw [HMN.out.2.1]; exact hjn
   have him : i < s1.msgs.length := (List.getElem?_eq_some_iff.1 HM.out).1;have hcp2 := hcp1.cell (i := i) (m := ⟨m.name,m.fields.set j ⟨f.name,f.tag,f.label,5,f.tname⟩,m.reserved⟩) (List.getElem?_set_self him) HP.out HPV.out.1 (List.getElem?_set_self hjf) (q := 4) (f' := bytF f) (u := .string ⟨#[]⟩) (by decide) rfl
   have HSS : Hid ((⟨sn,(s1.msgs.set i ⟨m.name,m.fields.set j ⟨f.name,f.tag,f.label,5,f.tname⟩,m.reserved⟩).set i ⟨m.name,(m.fields.set j ⟨f.name,f.tag,f.label,5,f.tname⟩).set j (bytF f),m.reserved⟩,s1.enums,s1.methods⟩ : ScS) = setM ⟨sn,s1.msgs,s1.enums,s1.methods⟩ i (setF m j (bytF f))) := (by
    unfold setM setF
    simp only [List.set_set] : _ = _)
   replace hcp2 := HSS.out ▸ hcp2
   have hgl := (HFO.out.lt gf rfl).1;have HCQ : Hid (CpO ((wr.setCell ⟨gf,j * 5 + 3,none⟩ (.int .i64 5)).setCell ⟨gf,j * 5 + 3 + 1,none⟩ (.string ⟨#[]⟩)) WA.heap.size bt (.slice (some ⟨q,0,none⟩) M qc) (.slice ea2 E ec2) (.slice ta2 T tc2) (setM ⟨sn,s1.msgs,s1.enums,s1.methods⟩ i (setF m j (bytF f))) pm pe ∧ Below w.heap.size w ((wr.setCell ⟨gf,j * 5 + 3,none⟩ (.int .i64 5)).setCell ⟨gf,j * 5 + 3 + 1,none⟩ (.string ⟨#[]⟩)) ∧ Below WA.heap.size WA ((wr.setCell ⟨gf,j * 5 + 3,none⟩ (.int .i64 5)).setCell ⟨gf,j * 5 + 3 + 1,none⟩ (.string ⟨#[]⟩))) := ⟨hcp2,set_bel (set_bel HC.out.2.1 (Nat.le_trans HWA.out.size hgl)) (Nat.le_trans HWA.out.size hgl),set_bel (set_bel HC.out.2.2 hgl) hgl⟩;have HK6 : Hid (f.kind ≠ 5) := (by rw [HKD.out]; exact HK5.out : f.kind ≠ 5);clear hcp1 hcp2 hjf him hgl hh1 hh2 hz1 hz2 g1 g2 g3 g4 HCW HFO HC hwj e5;generalize ((wr.setCell ⟨gf,j * 5 + 3,none⟩ (.int .i64 5)).setCell ⟨gf,j * 5 + 3 + 1,none⟩ (.string ⟨#[]⟩)) = D6 at *;have HEE : Hid (evolA s1 (setM s1 i (setF m j (bytF f))) = (mnm,tg,false)) := (by rw [← HMN.out.1,← HTG.out]; exact brk_byt HOK.out HM.out HF.out HK6.out HQN.out : _ = _);have hT6 : Below D6.heap.size D6 D6 := Below.refl _ _;have hb6 := HCQ.out.2.1;have hA6 := HCQ.out.2.2;have HTW : Hid (∀ W,Below D6.heap.size D6 W → SIn W (.agg #[.string sn,.slice (some ⟨q,0,none⟩) M qc,.slice ea2 E ec2,.slice ta2 T tc2]) (setM s1 i (setF m j (bytF f))) ∧ Blk W bt #[.string sn,.slice (some ⟨q,0,none⟩) M qc,.slice ea2 E ec2,.slice ta2 T tc2] 26) := fun W hW => ⟨by have h1 := (HCQ.out.1.below hW).sin (setM_wE (by rw [HS0.out]; exact HI1.out.wf) (setF_w HMW.out (bytF_w HLB.out.2.1))) (setM_fewE (by rw [HS0.out]; exact HI1.out.few) (by show (m.fields.set j _).length ≤ 20; rw [List.length_set,HMN.out.2.1]; exact HNB.out) (by show m.reserved.length ≤ 40; rw [HMN.out.2.2]; have := HNR.out; omega)); rw [HS0.out] at h1; rw [show (setM s1 i (setF m j (bytF f))).name = sn from HS1N.out] at h1; exact h1,HCQ.out.1.blk.below hW⟩
   clear HCQ
   go_upto_region 26 with fail
   have hS : Below D6.heap.size D6 D6.drew := (Below.refl _ _).drew;refine wp_region_held_drew (S := fun w' => Below D6.heap.size D6 w') (by kernel_rfl) hS (fun hS => ?_);refine rg_take 0 214 (.agg #[.string sn1,.slice ma1 mn1 mc1,.slice ea1 en1 ec1,.slice (some ⟨gm,om,none⟩) tn1 tc1]) _ rfl rfl (by kernel_rfl) (by kernel_rfl) (by kernel_rfl) (fun _ _ _ h => h) (by rfl) (fun w' hw' => ?_) hS (listed' := bts 11 1) (by kernel_rfl) rfl ?_
   ·have f0 := ((HBB.out.2.below (hA6.trans (hw'.mono hA6.size))).cell 0).trans rfl; have f1 := ((HBB.out.2.below (hA6.trans (hw'.mono hA6.size))).cell 1).trans rfl; have f2 := ((HBB.out.2.below (hA6.trans (hw'.mono hA6.size))).cell 2).trans rfl; have f3 := ((HBB.out.2.below (hA6.trans (hw'.mono hA6.size))).cell 3).trans rfl; go_simp
   simp only [zsA,zsZ,zsS];refine rg_take 2 216 (.agg #[.string sn,.slice (some ⟨q,0,none⟩) M qc,.slice ea2 E ec2,.slice ta2 T tc2]) _ rfl rfl (by kernel_rfl) (by kernel_rfl) (by kernel_rfl) (fun _ _ _ h => h) (by rfl) (fun w' hw' => ?_) hS (listed' := bts 11 5) (by kernel_rfl) rfl ?_
   ·have HB := (HTW.out _ (hT6.trans (hw'.mono hT6.size))).2; have f0 := (HB.cell 0).trans rfl; have f1 := (HB.cell 1).trans rfl; have f2 := (HB.cell 2).trans rfl; have f3 := (HB.cell 3).trans rfl; go_simp
   simp only [zsA,zsZ,zsS];refine rg_call 1 215 12 #[.agg #[.string sn1,.slice ma1 mn1 mc1,.slice ea1 en1 ec1,.slice (some ⟨gm,om,none⟩) tn1 tc1]] rfl rfl (by kernel_rfl) (by rfl) (listed' := bts 11 7) (by kernel_rfl) (fun W => by go_simp) ?_;refine Calls.mono (schemaE_any (HI1.out.below (hb6.trans (hS.mono hb6.size)))) ?_;rintro ee W26s0 ⟨r260,rfl,hr1,hbU⟩;have HR0 : Hid (SIn W26s0 r260 s1) := hr1;clear hr1;have hS0 := hS;have hS : Below D6.heap.size D6 W26s0 := hS0.trans (hbU.mono hS0.size);clear hS0 hbU;refine ⟨_,rfl,hS,?_⟩;simp only [zsA,zsZ,zsS];refine rg_call 3 217 11 #[r260,.agg #[.string sn,.slice (some ⟨q,0,none⟩) M qc,.slice ea2 E ec2,.slice ta2 T tc2]] rfl rfl (by kernel_rfl) (by rfl) (listed' := bts 11 15) (by kernel_rfl) (fun W => by go_simp) ?_;refine Calls.mono (HEV.out _ _ _ _ _ (HR0.out) ((HTW.out _ (hT6.trans (hS.mono hT6.size))).1)) ?_;rintro ee W26c ⟨rfl,hbU⟩;rw [HEE.out];clear HR0;have hS0 := hS;have hS : Below D6.heap.size D6 W26c := hS0.trans (hbU.mono hS0.size);clear hS0 hbU;refine ⟨_,rfl,hS,?_⟩;simp only [zsA,zsZ,zsS];refine rg_take 4 213 (.tuple #[.string mnm,.int .i64 tg,.bool false]) _ rfl rfl (by kernel_rfl) (by kernel_rfl) (by kernel_rfl) (fun _ _ _ h => h) (by rfl) (fun w' hw' => ?_) hS (listed' := bts 11 31) (by kernel_rfl) rfl ?_
   ·go_simp
   simp only [zsA,zsZ,zsS];refine rg_take 5 218 (.string mnm) _ rfl rfl (by kernel_rfl) (by kernel_rfl) (by kernel_rfl) (fun _ _ _ h => h) (by rfl) (fun w' hw' => ?_) hS (listed' := bts 11 63) (by kernel_rfl) rfl ?_
   ·go_simp
   simp only [zsA,zsZ,zsS];refine rg_take 6 219 (.int .i64 tg) _ rfl rfl (by kernel_rfl) (by kernel_rfl) (by kernel_rfl) (fun _ _ _ h => h) (by rfl) (fun w' hw' => ?_) hS (listed' := bts 11 127) (by kernel_rfl) rfl ?_
   ·go_simp
   simp only [zsA,zsZ,zsS];refine rg_take 7 220 (.bool false) _ rfl rfl (by kernel_rfl) (by kernel_rfl) (by kernel_rfl) (fun _ _ _ h => h) (by rfl) (fun w' hw' => ?_) hS (listed' := bts 11 255) (by kernel_rfl) rfl ?_
   ·go_simp
   simp only [zsA,zsZ,zsS];refine rg_take 8 21 (.string mnm) _ rfl rfl (by kernel_rfl) (by kernel_rfl) (by kernel_rfl) (fun _ _ _ h => h) (by rfl) (fun w' hw' => ?_) hS (listed' := bts 11 511) (by kernel_rfl) rfl ?_
   ·go_simp
   simp only [zsA,zsZ,zsS];refine rg_take 9 22 (.int .i64 tg) _ rfl rfl (by kernel_rfl) (by kernel_rfl) (by kernel_rfl) (fun _ _ _ h => h) (by rfl) (fun w' hw' => ?_) hS (listed' := bts 11 1023) (by kernel_rfl) rfl ?_
   ·go_simp
   simp only [zsA,zsZ,zsS];refine rg_take 10 23 (.bool false) _ rfl rfl (by kernel_rfl) (by kernel_rfl) (by kernel_rfl) (fun _ _ _ h => h) (by rfl) (fun w' hw' => ?_) hS (listed' := bts 11 2047) (by kernel_rfl) rfl ?_
   ·go_simp
   simp only [zsA,zsZ,zsS];refine wpAnyH_done (by kernel_rfl) ?_ _;have hbw26e : Below w.heap.size w W26c := hb6.trans (hS.mono hb6.size);have hA26e : Below WA.heap.size WA W26c := hA6.trans (hS.mono hA6.size);have hT26e := hT6.trans (hS.mono hT6.size);clear hS;clear hb6 hA6 hT6 hA26e hT26e;go_wp2_with fail;refine (evawake_any HEV.out _).mono ?_;rintro e wz ⟨rfl,hbz⟩;have hbwz : Below w.heap.size w wz := hbw26e.trans (hbz.mono hbw26e.size);clear hbz;go_wp2_with fail;go_ret;exact ⟨rfl,hbwz⟩
  ·obtain ⟨oa,hoa⟩ : ∃ z,(if fc = j + 1 then 0 else (j + 1) * 5) = z := ⟨_,rfl⟩;have HOA : Hid ((if fc = j + 1 then 0 else (j + 1) * 5) = oa) := hoa;have hnc1 := HNC.out.1;have hnc2 := HNC.out.2;clear hoa
   go_upto_region 13 with fail
   refine M_region (T := fun W => Below wr.heap.size wr W) (m := 17) (by kernel_rfl) ?_;have hS : Below wr.heap.size wr wr.drew := (Below.refl _ _).drew;refine M_take 0 93 (.pointer (some ⟨q,i * 3,none⟩)) _ rfl rfl (by kernel_rfl) (by kernel_rfl) (by kernel_rfl) (by kernel_rfl) (by kernel_rfl) (fun _ _ _ h => h) (by rfl) (fun w' hw' => ?_) hS (listed' := bts 19 1) (by kernel_rfl) rfl ?_
   ·go_simp
   simp only [zsA,zsZ,zsS];refine M_take 1 94 (.pointer (some ⟨q,i * 3,none⟩)) _ rfl rfl (by kernel_rfl) (by kernel_rfl) (by kernel_rfl) (by kernel_rfl) (by kernel_rfl) (fun _ _ _ h => h) (by rfl) (fun w' hw' => ?_) hS (listed' := bts 19 3) (by kernel_rfl) rfl ?_
   ·go_simp
   simp only [zsA,zsZ,zsS];refine M_take 2 95 (.pointer (some ⟨q,i * 3,none⟩)) _ rfl rfl (by kernel_rfl) (by kernel_rfl) (by kernel_rfl) (by kernel_rfl) (by kernel_rfl) (fun _ _ _ h => h) (by rfl) (fun w' hw' => ?_) hS (listed' := bts 19 7) (by kernel_rfl) rfl ?_
   ·go_simp
   simp only [zsA,zsZ,zsS];refine M_take 3 96 (.pointer (some ⟨q,i * 3 + 1,none⟩)) _ rfl rfl (by kernel_rfl) (by kernel_rfl) (by kernel_rfl) (by kernel_rfl) (by kernel_rfl) (fun _ _ _ h => h) (by rfl) (fun w' hw' => ?_) hS (listed' := bts 19 15) (by kernel_rfl) rfl ?_
   ·go_simp
   simp only [zsA,zsZ,zsS];refine M_take 4 97 (.slice (some ⟨gf,0,none⟩) nF fc) _ rfl rfl (by kernel_rfl) (by kernel_rfl) (by kernel_rfl) (by kernel_rfl) (by kernel_rfl) (fun _ _ _ h => h) (by rfl) (fun w' hw' => ?_) hS (listed' := bts 19 31) (by kernel_rfl) rfl ?_
   ·obtain ⟨g1,g2,g3,g4⟩ := HCW.out _ hw'; go_simp
   simp only [zsA,zsZ,zsS];refine M_take 5 98 (.int .i64 (j : Int)) _ rfl rfl (by kernel_rfl) (by kernel_rfl) (by kernel_rfl) (by kernel_rfl) (by kernel_rfl) (fun _ _ _ h => h) (by rfl) (fun w' hw' => ?_) hS (listed' := bts 19 63) (by kernel_rfl) rfl ?_
   ·go_simp
   simp only [zsA,zsZ,zsS];refine M_take 6 99 (.int .i64 (j : Int)) _ rfl rfl (by kernel_rfl) (by kernel_rfl) (by kernel_rfl) (by kernel_rfl) (by kernel_rfl) (fun _ _ _ h => h) (by rfl) (fun w' hw' => ?_) hS (listed' := bts 19 127) (by kernel_rfl) rfl ?_
   ·go_simp
   simp only [zsA,zsZ,zsS];refine M_take 7 100 (.slice (some ⟨gf,0,none⟩) j j) _ rfl rfl (by kernel_rfl) (by kernel_rfl) (by kernel_rfl) (by kernel_rfl) (by kernel_rfl) (fun _ _ _ h => h) (by rfl) (fun w' hw' => ?_) hS (listed' := bts 19 255) (by kernel_rfl) rfl ?_
   ·go_simp; try (intro hq; exfalso; omega)
   simp only [zsA,zsZ,zsS];refine M_take 8 101 (.pointer (some ⟨q,i * 3,none⟩)) _ rfl rfl (by kernel_rfl) (by kernel_rfl) (by kernel_rfl) (by kernel_rfl) (by kernel_rfl) (fun _ _ _ h => h) (by rfl) (fun w' hw' => ?_) hS (listed' := bts 19 511) (by kernel_rfl) rfl ?_
   ·go_simp
   simp only [zsA,zsZ,zsS];refine M_take 9 102 (.pointer (some ⟨q,i * 3,none⟩)) _ rfl rfl (by kernel_rfl) (by kernel_rfl) (by kernel_rfl) (by kernel_rfl) (by kernel_rfl) (fun _ _ _ h => h) (by rfl) (fun w' hw' => ?_) hS (listed' := bts 19 1023) (by kernel_rfl) rfl ?_
   ·go_simp
   simp only [zsA,zsZ,zsS];refine M_take 10 103 (.pointer (some ⟨q,i * 3 + 1,none⟩)) _ rfl rfl (by kernel_rfl) (by kernel_rfl) (by kernel_rfl) (by kernel_rfl) (by kernel_rfl) (fun _ _ _ h => h) (by rfl) (fun w' hw' => ?_) hS (listed' := bts 19 2047) (by kernel_rfl) rfl ?_
   ·go_simp
   simp only [zsA,zsZ,zsS];refine M_take 11 104 (.slice (some ⟨gf,0,none⟩) nF fc) _ rfl rfl (by kernel_rfl) (by kernel_rfl) (by kernel_rfl) (by kernel_rfl) (by kernel_rfl) (fun _ _ _ h => h) (by rfl) (fun w' hw' => ?_) hS (listed' := bts 19 4095) (by kernel_rfl) rfl ?_
   ·obtain ⟨g1,g2,g3,g4⟩ := HCW.out _ hw'; go_simp
   simp only [zsA,zsZ,zsS];refine M_take 12 105 (.int .i64 (j : Int)) _ rfl rfl (by kernel_rfl) (by kernel_rfl) (by kernel_rfl) (by kernel_rfl) (by kernel_rfl) (fun _ _ _ h => h) (by rfl) (fun w' hw' => ?_) hS (listed' := bts 19 8191) (by kernel_rfl) rfl ?_
   ·go_simp
   simp only [zsA,zsZ,zsS];refine M_take 13 106 (.int .i64 ((j + 1 : Nat) : Int)) _ rfl rfl (by kernel_rfl) (by kernel_rfl) (by kernel_rfl) (by kernel_rfl) (by kernel_rfl) (fun _ _ _ h => h) (by rfl) (fun w' hw' => ?_) hS (listed' := bts 19 16383) (by kernel_rfl) rfl ?_
   ·go_simp
   simp only [zsA,zsZ,zsS];refine M_take 14 107 (.slice (some ⟨gf,oa,none⟩) (nF - (j + 1)) (fc - (j + 1))) _ rfl rfl (by kernel_rfl) (by kernel_rfl) (by kernel_rfl) (by kernel_rfl) (by kernel_rfl) (fun _ _ _ h => h) (by rfl) (fun w' hw' => ?_) hS (listed' := bts 19 32767) (by kernel_rfl) rfl ?_
   ·go_simp; rw [if_pos (by omega)]; have ho := HOA.out; by_cases hq : fc = j + 1; (rw [if_pos hq] at ho; rw [if_pos hq,← ho]); (rw [if_neg hq] at ho; rw [if_neg hq,← ho])
   simp only [zsA,zsZ,zsS];obtain ⟨a2,c2,U2,e1,e2,e3,e4⟩ := cutB (own_below HFO.out hS) HMN.out.2.1 hjn HNB.out (oa := oa) (by have ho := HOA.out; by_cases hq : fc = j + 1; (left; omega); (right; rw [if_neg hq] at ho; exact ho.symm));have hS2 : Below wr.heap.size wr U2 := hS.trans (e4.mono hS.size);have HR2 : Hid ((Builtin.append_ #[37,37] 37 #[.slice (some ⟨gf,0,none⟩) j j,.slice (some ⟨gf,oa,none⟩) (nF - (j + 1)) (fc - (j + 1))]).run Try.prog wr.drew = .ok (.slice a2 (nF - 1) c2) U2) := e1;have hcq := (HC.out.1.toQ HAP.out.1).putF HM.out HP.out hS2 e2 e3;have hb6 : Below w.heap.size w (U2.setCell ⟨q,i * 3 + 1,none⟩ (.slice a2 (nF - 1) c2)) := set_bel (HC.out.2.1.trans (hS2.mono HC.out.2.1.size)) (Nat.le_trans HWA.out.size HC.out.1.hi);have hA6 : Below WA.heap.size WA (U2.setCell ⟨q,i * 3 + 1,none⟩ (.slice a2 (nF - 1) c2)) := set_bel (HC.out.2.2.trans (hS2.mono HC.out.2.2.size)) HC.out.1.hi;have HCQ : Hid (CpQ (U2.setCell ⟨q,i * 3 + 1,none⟩ (.slice a2 (nF - 1) c2)) WA.heap.size bt (.slice (some ⟨q,0,none⟩) M qc) (.slice ea2 E ec2) (.slice ta2 T tc2) (setM ⟨sn,s1.msgs,s1.enums,s1.methods⟩ i (cutF m j)) (pm.set i (.slice a2 (nF - 1) c2,p.2)) pe ∧ Below w.heap.size w (U2.setCell ⟨q,i * 3 + 1,none⟩ (.slice a2 (nF - 1) c2)) ∧ Below WA.heap.size WA (U2.setCell ⟨q,i * 3 + 1,none⟩ (.slice a2 (nF - 1) c2))) := ⟨hcq,hb6,hA6⟩;clear e1 e2 e3 e4 hcq hb6 hA6;refine M_run 15 108 (.slice a2 (nF - 1) c2) (U2) rfl rfl (by kernel_rfl) (by rfl) (listed' := bts 19 65535) (by kernel_rfl) (append_run rfl rfl rfl HR2.out) hS2 ?_;simp only [zsA,zsZ,zsS];obtain ⟨g1,g2,g3,g4⟩ := HCW.out _ hS2;refine M_run 16 109 (.pointer (some ⟨q,i * 3,none⟩)) U2 rfl rfl (by kernel_rfl) (by rfl) (listed' := bts 19 131071) (by kernel_rfl) (by go_simp) hS2 ?_;simp only [zsA,zsZ,zsS];refine M_runA 17 110 (.pointer (some ⟨q,i * 3 + 1,none⟩)) U2 rfl rfl (by kernel_rfl) (by rfl) (listed' := bts 19 262143) (by kernel_rfl) (by go_simp) (by kernel_rfl) ?_;simp only [zsA,zsZ,zsS];refine M_store 18 (U2.setCell ⟨q,i * 3 + 1,none⟩ (.slice a2 (nF - 1) c2)) rfl rfl (by kernel_rfl) (by rfl) (listed' := bts 19 524287) (by kernel_rfl) (by go_simp) (by kernel_rfl) ?_;refine M_done (by kernel_rfl) ?_ _;clear g1 g2 g3 g4 hS hS2 HR2 HCW HFO HC hnc1 hnc2 HOA hwj;generalize (U2.setCell ⟨q,i * 3 + 1,none⟩ (.slice a2 (nF - 1) c2)) = D6 at *;have HMI : Hid (i < s1.msgs.length) := (List.getElem?_eq_some_iff.1 HM.out).1;have HPI : Hid (i < pm.length) := (List.getElem?_eq_some_iff.1 HP.out).1;have HM2 : Hid ((setM ⟨sn,s1.msgs,s1.enums,s1.methods⟩ i (cutF m j)).msgs[i]? = some (cutF m j)) := List.getElem?_set_self HMI.out;have HP2 : Hid ((pm.set i (.slice a2 (nF - 1) c2,p.2))[i]? = some (.slice a2 (nF - 1) c2,p.2)) := List.getElem?_set_self HPI.out;have k2 := (HCQ.out.1.fcell HM2.out HP2.out).2.2
   replace k2 : D6.cell? ⟨q,i * 3 + 2,none⟩ = some p.2 := k2
   rw [HPV.out.2] at k2;have hqD := World.block_lt_of_cell? _ _ k2;have hal : Below D6.heap.size D6 (D6.alloc (Obj.cells #[.int .i64 tg] 3)) := (Below.refl _ _).alloc (Nat.le_refl _) _;have hor : World.ownsRow D6 WA.heap.size 3 1 p.2 (cutF m j).reserved.length (inRows (cutF m j).reserved).flatten := (HCQ.out.1.each i _ _ HM2.out HP2.out).2.2
   replace hor : World.ownsRow D6 WA.heap.size 3 1 p.2 m.reserved.length (inRows m.reserved).flatten := hor
   rw [HPV.out.2,HMN.out.2.2] at hor;have BNN : Blk (D6.alloc (Obj.cells #[.int .i64 tg] 3)) D6.heap.size #[.int .i64 tg] 3 := Blk.new D6 _ _;obtain ⟨v',W7,r1,r2,r3,r4⟩ := run_joinF (w := (D6.alloc (Obj.cells #[.int .i64 tg] 3))) 38 38 3 1 8 _ Try.underlying38 infoIn rfl (by decide) WA.heap.size (.slice ra nR rc) nR (inRows m.reserved).flatten (own_below hor hal) (.slice (some ⟨D6.heap.size,0,none⟩) 1 1) [[.int .i64 tg]] (RowG.blk BNN rfl (by simp) rfl (by omega)) (by simp) (by simp [Value.oneCell']) (by have := HNR.out; simp; omega) (by decide) (Nat.le_trans HCQ.out.2.2.size hal.size)
   replace r2 : W7.ownsRow WA.heap.size 3 1 v' (nR + 1) ((inRows m.reserved).flatten ++ [.int .i64 tg]) := r2
   obtain ⟨ra2,rc2,rfl⟩ := own_form r2;have HRUN : Hid ((Builtin.append_ #[38,38] 38 #[.slice ra nR rc,.slice (some ⟨D6.heap.size,0,none⟩) 1 1]).run Try.prog (D6.alloc (Obj.cells #[.int .i64 tg] 3)) = .ok (.slice ra2 (nR + 1) rc2) W7) := r1
   have hkr : Kp (fun b => p.2.ownBlock = some b) D6 W7 := by
    rw [HPV.out.2];exact (Kp.ofBelow hal).trans2 ((Kp.refl _ _).grown r3 fun k hk _ => hk) fun _ _ e => e
   have hfr : ∀ b,(Value.slice ra2 (nR + 1) rc2).ownBlock = some b → p.2.ownBlock = some b ∨ D6.heap.size ≤ b := fun b hb => by
    rw [HPV.out.2]
    rcases r4 with e | e
    ·left; rw [← e]; exact hb
    ·right
     rw [e] at hb;simp only [Option.some.injEq] at hb;have := hal.size
     omega
   have ho7 : W7.ownsRow WA.heap.size 3 1 (.slice ra2 (nR + 1) rc2) (m.reserved ++ [tg]).length (inRows (m.reserved ++ [tg])).flatten := by
    rw [List.length_append,HMN.out.2.2,show (inRows (m.reserved ++ [tg])).flatten = (inRows m.reserved).flatten ++ [.int .i64 tg] by simp [inRows]];exact r2
   have hcq := HCQ.out.1.putR HM2.out HP2.out hkr ho7 hfr
   have HSS : Hid (setM (setM ⟨sn,s1.msgs,s1.enums,s1.methods⟩ i (cutF m j)) i ⟨(cutF m j).name,(cutF m j).fields,m.reserved ++ [tg]⟩ = setM ⟨sn,s1.msgs,s1.enums,s1.methods⟩ i (resF m j tg)) := (by
    unfold setM;simp only [List.set_set]
    rfl : _ = _)
   rw [HSS.out] at hcq
   have hk3 : W7.cell? ⟨q,i * 3 + 2,none⟩ = some (.slice ra nR rc) := hkr.cell k2 (fun e => by
    obtain ⟨cs,hB⟩ := own_blkE (show D6.ownsRow WA.heap.size 3 1 p.2 nR (inRows m.reserved).flatten by rw [HPV.out.2]; exact hor) e;obtain ⟨cs2,hB2⟩ := own_blkE HCQ.out.1.own (g := q) rfl;have h3 := hB.symm.trans hB2;simp only [Option.some.injEq,Obj.cells.injEq] at h3;have h4 := h3.2.1
    revert h4
    decide)
   have hz3 : W7.frozen? ⟨q,i * 3 + 2,none⟩ = false := by
    obtain ⟨cs2,hB2⟩ := own_blkE HCQ.out.1.own (g := q) rfl
    have h5 := hB2.kp hkr (fun e => by
     obtain ⟨cs,hB⟩ := own_blkE (show D6.ownsRow WA.heap.size 3 1 p.2 nR (inRows m.reserved).flatten by rw [HPV.out.2]; exact hor) e;have h3 := hB.symm.trans hB2;simp only [Option.some.injEq,Obj.cells.injEq] at h3;have h4 := h3.2.1
     revert h4
     decide)
    exact h5.froz _
   have hlo : ∀ b,p.2.ownBlock = some b → WA.heap.size ≤ b := fun b hb => (World.ownsRow.lt (show D6.ownsRow WA.heap.size 3 1 p.2 nR (inRows m.reserved).flatten by rw [HPV.out.2]; exact hor) b hb).1
   have hb7 : Below w.heap.size w W7 := HCQ.out.2.1.trans (hkr.toBelow HCQ.out.2.1.size fun b e => Nat.le_trans HWA.out.size (hlo b e));have hA7 : Below WA.heap.size WA W7 := HCQ.out.2.2.trans (hkr.toBelow HCQ.out.2.2.size fun b e => hlo b e);have HCR : Hid (CpQ (W7.setCell ⟨q,i * 3 + 2,none⟩ (.slice ra2 (nR + 1) rc2)) WA.heap.size bt (.slice (some ⟨q,0,none⟩) M qc) (.slice ea2 E ec2) (.slice ta2 T tc2) (setM ⟨sn,s1.msgs,s1.enums,s1.methods⟩ i (resF m j tg)) ((pm.set i (.slice a2 (nF - 1) c2,p.2)).set i (.slice a2 (nF - 1) c2,.slice ra2 (nR + 1) rc2)) pe ∧ Below w.heap.size w (W7.setCell ⟨q,i * 3 + 2,none⟩ (.slice ra2 (nR + 1) rc2)) ∧ Below WA.heap.size WA (W7.setCell ⟨q,i * 3 + 2,none⟩ (.slice ra2 (nR + 1) rc2))) := ⟨hcq,set_bel hb7 (Nat.le_trans HWA.out.size HCQ.out.1.hi),set_bel hA7 HCQ.out.1.hi⟩;clear r1 r2 r3 r4 hkr hfr ho7 hcq hlo hb7 hA7 hor BNN hal HCQ
   go_upto_region 15 with (first | (at_builtin; refine wpList_ran rfl (append_run rfl rfl rfl HRUN.out) ?_) | fail)
   generalize (W7.setCell ⟨q,i * 3 + 2,none⟩ (.slice ra2 (nR + 1) rc2)) = D8 at *;obtain ⟨a1,a2',a3,hEA⟩ : ∃ a1 a2 a3,evolA s1 (setM s1 i (resF m j tg)) = (a1,a2,a3) := ⟨_,_,_,rfl⟩;obtain ⟨b1,b2,b3,hEB⟩ : ∃ a1 a2 a3,evolA (setM s1 i (resF m j tg)) s1 = (a1,a2,a3) := ⟨_,_,_,rfl⟩;have HEE : Hid (evolA s1 (setM s1 i (resF m j tg)) = (a1,a2',a3) ∧ evolA (setM s1 i (resF m j tg)) s1 = (b1,b2,b3)) := ⟨hEA,hEB⟩;have hbr := brk_res HOK.out HM.out HF.out HQN.out;rw [HTG.out,HMN.out.2.2,hEA,hEB] at hbr;have hb3 : b3 = false := hbr.2;have HA3 : Hid (nR + 1 ≤ 32 → a3 = true) := fun h => congrArg (fun x => x.2.2) (hbr.1 h)
   subst hb3;clear hbr hEA hEB HSS k2 hk3 hz3 HRUN HM2 HP2;have hT6 : Below D8.heap.size D8 D8 := Below.refl _ _;have hb6 := HCR.out.2.1;have hA6 := HCR.out.2.2;have HMR : Hid (((setM ⟨sn,s1.msgs,s1.enums,s1.methods⟩ i (resF m j tg)).msgs[i]? = some (resF m j tg)) ∧ (((pm.set i (.slice a2 (nF - 1) c2,p.2)).set i (.slice a2 (nF - 1) c2,.slice ra2 (nR + 1) rc2))[i]? = some (.slice a2 (nF - 1) c2,.slice ra2 (nR + 1) rc2))) := ⟨List.getElem?_set_self HMI.out,List.getElem?_set_self (by rw [List.length_set]; exact HPI.out)⟩;have HTW : Hid (∀ W,Below D8.heap.size D8 W → SIn W (.agg #[.string sn,.slice (some ⟨q,0,none⟩) M qc,.slice ea2 E ec2,.slice ta2 T tc2]) (setM s1 i (resF m j tg)) ∧ Blk W bt #[.string sn,.slice (some ⟨q,0,none⟩) M qc,.slice ea2 E ec2,.slice ta2 T tc2] 26) := fun W hW => ⟨by have h1 := (HCR.out.1.below hW).sin (setM_wE (by rw [HS0.out]; exact HI1.out.wf) (resF_w HMW.out j HLB.out.2.2)) (setM_fewE (by rw [HS0.out]; exact HI1.out.few) (by show (m.fields.eraseIdx j).length ≤ 20; exact Nat.le_trans (List.length_eraseIdx_le ..) (by rw [HMN.out.2.1]; exact HNB.out)) (by show (m.reserved ++ [tg]).length ≤ 40; rw [List.length_append,HMN.out.2.2]; have := HNR.out; simp only [List.length_cons,List.length_nil]; omega)); rw [HS0.out] at h1; rw [show (setM s1 i (resF m j tg)).name = sn from HS1N.out] at h1; exact h1,HCR.out.1.blk.below hW⟩
   go_upto_region 15 with fail
   have hS : Below D8.heap.size D8 D8.drew := (Below.refl _ _).drew;refine wp_region_held_drew (S := fun w' => Below D8.heap.size D8 w') (by kernel_rfl) hS (fun hS => ?_);refine rg_take 0 122 (.agg #[.string sn1,.slice ma1 mn1 mc1,.slice ea1 en1 ec1,.slice (some ⟨gm,om,none⟩) tn1 tc1]) _ rfl rfl (by kernel_rfl) (by kernel_rfl) (by kernel_rfl) (fun _ _ _ h => h) (by rfl) (fun w' hw' => ?_) hS (listed' := bts 11 1) (by kernel_rfl) rfl ?_
   ·have f0 := ((HBB.out.2.below (hA6.trans (hw'.mono hA6.size))).cell 0).trans rfl; have f1 := ((HBB.out.2.below (hA6.trans (hw'.mono hA6.size))).cell 1).trans rfl; have f2 := ((HBB.out.2.below (hA6.trans (hw'.mono hA6.size))).cell 2).trans rfl; have f3 := ((HBB.out.2.below (hA6.trans (hw'.mono hA6.size))).cell 3).trans rfl; go_simp
   simp only [zsA,zsZ,zsS];refine rg_take 2 124 (.agg #[.string sn,.slice (some ⟨q,0,none⟩) M qc,.slice ea2 E ec2,.slice ta2 T tc2]) _ rfl rfl (by kernel_rfl) (by kernel_rfl) (by kernel_rfl) (fun _ _ _ h => h) (by rfl) (fun w' hw' => ?_) hS (listed' := bts 11 5) (by kernel_rfl) rfl ?_
   ·have HB := (HTW.out _ (hT6.trans (hw'.mono hT6.size))).2; have f0 := (HB.cell 0).trans rfl; have f1 := (HB.cell 1).trans rfl; have f2 := (HB.cell 2).trans rfl; have f3 := (HB.cell 3).trans rfl; go_simp
   simp only [zsA,zsZ,zsS];refine rg_call 1 123 12 #[.agg #[.string sn1,.slice ma1 mn1 mc1,.slice ea1 en1 ec1,.slice (some ⟨gm,om,none⟩) tn1 tc1]] rfl rfl (by kernel_rfl) (by rfl) (listed' := bts 11 7) (by kernel_rfl) (fun W => by go_simp) ?_;refine Calls.mono (schemaE_any (HI1.out.below (hb6.trans (hS.mono hb6.size)))) ?_;rintro ee W15s0 ⟨r150,rfl,hr1,hbU⟩;have HR0 : Hid (SIn W15s0 r150 s1) := hr1;clear hr1;have hS0 := hS;have hS : Below D8.heap.size D8 W15s0 := hS0.trans (hbU.mono hS0.size);clear hS0 hbU;refine ⟨_,rfl,hS,?_⟩;simp only [zsA,zsZ,zsS];refine rg_call 3 125 11 #[r150,.agg #[.string sn,.slice (some ⟨q,0,none⟩) M qc,.slice ea2 E ec2,.slice ta2 T tc2]] rfl rfl (by kernel_rfl) (by rfl) (listed' := bts 11 15) (by kernel_rfl) (fun W => by go_simp) ?_;refine Calls.mono (HEV.out _ _ _ _ _ (HR0.out) ((HTW.out _ (hT6.trans (hS.mono hT6.size))).1)) ?_;rintro ee W15c ⟨rfl,hbU⟩;rw [HEE.out.1];clear HR0;have hS0 := hS;have hS : Below D8.heap.size D8 W15c := hS0.trans (hbU.mono hS0.size);clear hS0 hbU;refine ⟨_,rfl,hS,?_⟩;simp only [zsA,zsZ,zsS];refine rg_take 4 121 (.tuple #[.string a1,.int .i64 a2',.bool a3]) _ rfl rfl (by kernel_rfl) (by kernel_rfl) (by kernel_rfl) (fun _ _ _ h => h) (by rfl) (fun w' hw' => ?_) hS (listed' := bts 11 31) (by kernel_rfl) rfl ?_
   ·go_simp
   simp only [zsA,zsZ,zsS];refine rg_take 5 126 (.string a1) _ rfl rfl (by kernel_rfl) (by kernel_rfl) (by kernel_rfl) (fun _ _ _ h => h) (by rfl) (fun w' hw' => ?_) hS (listed' := bts 11 63) (by kernel_rfl) rfl ?_
   ·go_simp
   simp only [zsA,zsZ,zsS];refine rg_take 6 127 (.int .i64 a2') _ rfl rfl (by kernel_rfl) (by kernel_rfl) (by kernel_rfl) (fun _ _ _ h => h) (by rfl) (fun w' hw' => ?_) hS (listed' := bts 11 127) (by kernel_rfl) rfl ?_
   ·go_simp
   simp only [zsA,zsZ,zsS];refine rg_take 7 128 (.bool a3) _ rfl rfl (by kernel_rfl) (by kernel_rfl) (by kernel_rfl) (fun _ _ _ h => h) (by rfl) (fun w' hw' => ?_) hS (listed' := bts 11 255) (by kernel_rfl) rfl ?_
   ·go_simp
   simp only [zsA,zsZ,zsS];refine rg_take 8 15 (.string a1) _ rfl rfl (by kernel_rfl) (by kernel_rfl) (by kernel_rfl) (fun _ _ _ h => h) (by rfl) (fun w' hw' => ?_) hS (listed' := bts 11 511) (by kernel_rfl) rfl ?_
   ·go_simp
   simp only [zsA,zsZ,zsS];refine rg_take 9 16 (.int .i64 a2') _ rfl rfl (by kernel_rfl) (by kernel_rfl) (by kernel_rfl) (fun _ _ _ h => h) (by rfl) (fun w' hw' => ?_) hS (listed' := bts 11 1023) (by kernel_rfl) rfl ?_
   ·go_simp
   simp only [zsA,zsZ,zsS];refine rg_take 10 17 (.bool a3) _ rfl rfl (by kernel_rfl) (by kernel_rfl) (by kernel_rfl) (fun _ _ _ h => h) (by rfl) (fun w' hw' => ?_) hS (listed' := bts 11 2047) (by kernel_rfl) rfl ?_
   ·go_simp
   simp only [zsA,zsZ,zsS];refine wpAnyH_done (by kernel_rfl) ?_ _;have hbw15e : Below w.heap.size w W15c := hb6.trans (hS.mono hb6.size);have hA15e : Below WA.heap.size WA W15c := hA6.trans (hS.mono hA6.size);have hT15e := hT6.trans (hS.mono hT6.size);clear hS
   go_upto_region 16 with fail
   have hS : Below W15c.heap.size W15c W15c.drew := (Below.refl _ _).drew;refine wp_region_held_drew (S := fun w' => Below W15c.heap.size W15c w') (by kernel_rfl) hS (fun hS => ?_);refine rg_take 0 130 (.agg #[.string sn,.slice (some ⟨q,0,none⟩) M qc,.slice ea2 E ec2,.slice ta2 T tc2]) _ rfl rfl (by kernel_rfl) (by kernel_rfl) (by kernel_rfl) (fun _ _ _ h => h) (by rfl) (fun w' hw' => ?_) hS (listed' := bts 11 1) (by kernel_rfl) rfl ?_
   ·have HB := (HTW.out _ (hT15e.trans (hw'.mono hT15e.size))).2; have f0 := (HB.cell 0).trans rfl; have f1 := (HB.cell 1).trans rfl; have f2 := (HB.cell 2).trans rfl; have f3 := (HB.cell 3).trans rfl; go_simp
   simp only [zsA,zsZ,zsS];refine rg_take 1 131 (.agg #[.string sn1,.slice ma1 mn1 mc1,.slice ea1 en1 ec1,.slice (some ⟨gm,om,none⟩) tn1 tc1]) _ rfl rfl (by kernel_rfl) (by kernel_rfl) (by kernel_rfl) (fun _ _ _ h => h) (by rfl) (fun w' hw' => ?_) hS (listed' := bts 11 3) (by kernel_rfl) rfl ?_
   ·have f0 := ((HBB.out.2.below (hA15e.trans (hw'.mono hA15e.size))).cell 0).trans rfl; have f1 := ((HBB.out.2.below (hA15e.trans (hw'.mono hA15e.size))).cell 1).trans rfl; have f2 := ((HBB.out.2.below (hA15e.trans (hw'.mono hA15e.size))).cell 2).trans rfl; have f3 := ((HBB.out.2.below (hA15e.trans (hw'.mono hA15e.size))).cell 3).trans rfl; go_simp
   simp only [zsA,zsZ,zsS];refine rg_call 2 132 12 #[.agg #[.string sn1,.slice ma1 mn1 mc1,.slice ea1 en1 ec1,.slice (some ⟨gm,om,none⟩) tn1 tc1]] rfl rfl (by kernel_rfl) (by rfl) (listed' := bts 11 7) (by kernel_rfl) (fun W => by go_simp) ?_;refine Calls.mono (schemaE_any (HI1.out.below (hbw15e.trans (hS.mono hbw15e.size)))) ?_;rintro ee W16s1 ⟨r161,rfl,hr1,hbU⟩;have HR1 : Hid (SIn W16s1 r161 s1) := hr1;clear hr1;have hS0 := hS;have hS : Below W15c.heap.size W15c W16s1 := hS0.trans (hbU.mono hS0.size);clear hS0 hbU;refine ⟨_,rfl,hS,?_⟩;simp only [zsA,zsZ,zsS];refine rg_call 3 133 11 #[.agg #[.string sn,.slice (some ⟨q,0,none⟩) M qc,.slice ea2 E ec2,.slice ta2 T tc2],r161] rfl rfl (by kernel_rfl) (by rfl) (listed' := bts 11 15) (by kernel_rfl) (fun W => by go_simp) ?_;refine Calls.mono (HEV.out _ _ _ _ _ ((HTW.out _ (hT15e.trans (hS.mono hT15e.size))).1) (HR1.out)) ?_;rintro ee W16c ⟨rfl,hbU⟩;rw [HEE.out.2];clear HR1;have hS0 := hS;have hS : Below W15c.heap.size W15c W16c := hS0.trans (hbU.mono hS0.size);clear hS0 hbU;refine ⟨_,rfl,hS,?_⟩;simp only [zsA,zsZ,zsS];refine rg_take 4 129 (.tuple #[.string b1,.int .i64 b2,.bool false]) _ rfl rfl (by kernel_rfl) (by kernel_rfl) (by kernel_rfl) (fun _ _ _ h => h) (by rfl) (fun w' hw' => ?_) hS (listed' := bts 11 31) (by kernel_rfl) rfl ?_
   ·go_simp
   simp only [zsA,zsZ,zsS];refine rg_take 5 134 (.string b1) _ rfl rfl (by kernel_rfl) (by kernel_rfl) (by kernel_rfl) (fun _ _ _ h => h) (by rfl) (fun w' hw' => ?_) hS (listed' := bts 11 63) (by kernel_rfl) rfl ?_
   ·go_simp
   simp only [zsA,zsZ,zsS];refine rg_take 6 135 (.int .i64 b2) _ rfl rfl (by kernel_rfl) (by kernel_rfl) (by kernel_rfl) (fun _ _ _ h => h) (by rfl) (fun w' hw' => ?_) hS (listed' := bts 11 127) (by kernel_rfl) rfl ?_
   ·go_simp
   simp only [zsA,zsZ,zsS];refine rg_take 7 136 (.bool false) _ rfl rfl (by kernel_rfl) (by kernel_rfl) (by kernel_rfl) (fun _ _ _ h => h) (by rfl) (fun w' hw' => ?_) hS (listed' := bts 11 255) (by kernel_rfl) rfl ?_
   ·go_simp
   simp only [zsA,zsZ,zsS];refine rg_take 8 18 (.string b1) _ rfl rfl (by kernel_rfl) (by kernel_rfl) (by kernel_rfl) (fun _ _ _ h => h) (by rfl) (fun w' hw' => ?_) hS (listed' := bts 11 511) (by kernel_rfl) rfl ?_
   ·go_simp
   simp only [zsA,zsZ,zsS];refine rg_take 9 19 (.int .i64 b2) _ rfl rfl (by kernel_rfl) (by kernel_rfl) (by kernel_rfl) (fun _ _ _ h => h) (by rfl) (fun w' hw' => ?_) hS (listed' := bts 11 1023) (by kernel_rfl) rfl ?_
   ·go_simp
   simp only [zsA,zsZ,zsS];refine rg_take 10 20 (.bool false) _ rfl rfl (by kernel_rfl) (by kernel_rfl) (by kernel_rfl) (fun _ _ _ h => h) (by rfl) (fun w' hw' => ?_) hS (listed' := bts 11 2047) (by kernel_rfl) rfl ?_
   ·go_simp
   simp only [zsA,zsZ,zsS];refine wpAnyH_done (by kernel_rfl) ?_ _;have hbw16e : Below w.heap.size w W16c := hbw15e.trans (hS.mono hbw15e.size);have hA16e : Below WA.heap.size WA W16c := hA15e.trans (hS.mono hA15e.size);have hT16e := hT15e.trans (hS.mono hT15e.size);clear hS;have k2 := ((HCR.out.1.below hT16e).fcell HMR.out.1 HMR.out.2).2.2
   replace k2 : W16c.cell? ⟨q,i * 3 + 2,none⟩ = some (.slice ra2 (nR + 1) rc2) := k2
   clear hb6 hA6 hT6 hbw15e hA15e hT15e hA16e hT16e HCR HMR HEE HTW
   cases a3 with
   | true =>
    clear HA3 k2;go_wp2_with fail;refine (evawake_any HEV.out _).mono ?_;rintro e wz ⟨rfl,hbz⟩;have hbwz : Below w.heap.size w wz := hbw16e.trans (hbz.mono hbw16e.size);clear hbz;go_wp2_with fail;go_ret;exact ⟨rfl,hbwz⟩
   | false =>
    have hd : decide ((nR : Int) + 1 > 32) = true := by
     have h : ¬ nR + 1 ≤ 32 := fun h => by have := HA3.out h; cases this
     simp; omega
    clear HA3;go_wp2_with fail;refine (evawake_any HEV.out _).mono ?_;rintro e wz ⟨rfl,hbz⟩;have hbwz : Below w.heap.size w wz := hbw16e.trans (hbz.mono hbw16e.size);clear hbz;go_wp2_with fail;go_ret;exact ⟨rfl,hbwz⟩
end Go.Proofs.Ytdkolhfpfimeoaa

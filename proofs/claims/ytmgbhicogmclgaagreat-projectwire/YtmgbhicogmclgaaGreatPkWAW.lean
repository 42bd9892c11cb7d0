/- Part 23 of what the proof stands on. -/
import Derived.Test.YtmgbhicogmclgaaGreatPkWAV
namespace Go.Proofs.YtmgbhicogmclgaaGreat
set_option maxHeartbeats 8000000
set_option linter.unusedVariables false
set_option linter.unusedSimpArgs false
set_option maxRecDepth 20000
open Go.ChangeShapes Go.WideShapes Go.ChangeAt Go.RowKit
theorem encA_leP (n : Nat) (t : Tr) : (encA n t).1.length ≤ 4096 := by
 unfold encA ofR
 split
 ·simp
 ·unfold putL
  split
  ·split
   ·assumption
   ·simp
  ·simp
theorem mtr_lenP (ms : List MtS) : ∀ r ∈ mtRows ms,r.length = 3 := fun r hr => by
 simp only [mtRows,List.mem_map] at hr;obtain ⟨_,_,rfl⟩ := hr
 rfl
theorem schemaP_any {w : World} {v : Value} {s : ScS} (hr : ScIn w v s) (hf : FewL s) : Calls Tryz.prog 10 #[v] w fun e w' => ∃ r,e = .returned r ∧ ScIn w' r s ∧ Below w.heap.size w w' :=
 (schema_any hr hf).mono fun e w' ⟨vm,ve,vt,pm,pe,h1,h2,h3,h4,h5⟩ => ⟨_,h1,⟨vm,ve,vt,rfl,h2.to_in,h3.to_in,(RowG.own (mtr_lenP _) (by decide) h4).1⟩,h5⟩
theorem dblk2P (w : World) (c1 c2 : Array Value) (t1 t2 : TypeId) : Blk ((w.alloc (Obj.cells c1 t1)).alloc (Obj.cells c2 t2)) w.heap.size c1 t1 ∧ Blk ((w.alloc (Obj.cells c1 t1)).alloc (Obj.cells c2 t2)) (w.heap.size + 1) c2 t2 ∧ Below w.heap.size w ((w.alloc (Obj.cells c1 t1)).alloc (Obj.cells c2 t2)) := by
 have s1 : (w.alloc (Obj.cells c1 t1)).heap.size = w.heap.size + 1 := by simp
 have b2 := Blk.new (w.alloc (Obj.cells c1 t1)) c2 t2;rw [s1] at b2;exact ⟨(Blk.new w c1 t1).below (bra _),b2,((Below.refl _ w).alloc (Nat.le_refl _) _).alloc (by omega) _⟩
theorem row_sliceP {w : World} {v : Value} {size : Nat} {rs : List (List Value)} (h : RowG w v size rs) : ∃ a n c,v = .slice a n c := by
 obtain ⟨a,c,h,_⟩ := h.form;exact ⟨a,_,c,h⟩
theorem projectWire_walk (v : Value) (s : ScS) (nm : ByteArray) (vt : Value) (n : Nat) (t : Tr) (w : World) (hr : ScIn w v s) (hw : ScW s) (hnm : nm.size ≤ 140737488351232) (h : TrIn n w vt t) :
  Calls Tryz.prog 4 #[v,.string nm,vt] w fun e w' => e = .returned (.bool true) ∧ Below w.heap.size w w' := by
 have HPJ : ProjC := project_any;have HSL : Hid (∀ W,Below w.heap.size w W → Calls Tryz.prog 6 #[vt] W fun e w' => SmallP t vt W e ∧ Below W.heap.size W w') := fun W hW => small_any n t vt W (h.below hW)
 have HPJ' : Hid ProjC := HPJ;obtain ⟨m,ve,vr, -,rfl, -, -, -, -,ra,ea'⟩ := h.open;obtain ⟨pe,ce,rfl,e1,e2, -⟩ := ea'.open;obtain ⟨pr,cr,rfl,e3,e4, -⟩ := rest_holds ra;clear ea' ra h e1 e2 e3 e4 HPJ;obtain ⟨K,hK⟩ : ∃ z,t.kind = z := ⟨_,rfl⟩;obtain ⟨N,hN⟩ : ∃ z,t.n = z := ⟨_,rfl⟩;obtain ⟨S,hS⟩ : ∃ z,t.s = z := ⟨_,rfl⟩;obtain ⟨Ke,hKe⟩ : ∃ z,t.es.length = z := ⟨_,rfl⟩;obtain ⟨Kr,hKr⟩ : ∃ z,t.rest.length = z := ⟨_,rfl⟩;rw [hKe,hKr,hK,hN,hS] at HSL ⊢;have HKT : Hid (t.kind = K ∧ t.n = N ∧ t.s = S) := ⟨hK,hN,hS⟩;clear hK hN hS hKe hKr;have hs' := hr;obtain ⟨vm,ve,vt,rfl,hms,hen,hmt⟩ := hr;obtain ⟨ma,mc,rfl, -⟩ := hms.open;obtain ⟨ea,ec,rfl, -⟩ := hen.open;obtain ⟨ta,tn,tc,rfl⟩ := row_sliceP hmt;generalize s.msgs.length = mn at *;generalize s.enums.length = en at *;obtain ⟨sn,hsn⟩ : ∃ z,s.name = z := ⟨_,rfl⟩;rw [hsn] at hs' ⊢;have HSC : Hid (ScIn w (.agg #[.string sn,.slice ma mn mc,.slice ea en ec,.slice ta tn tc]) s) := hs';have HSW : Hid (ScW s) := hw;obtain ⟨BS,BT,al⟩ := dblk2P w #[.string sn,.slice ma mn mc,.slice ea en ec,.slice ta tn tc] #[.int .i64 K,.int .i64 N,.string S,.slice pe Ke ce,.slice pr Kr cr] 26 30;have HFW : Hid (Calls Tryz.prog 5 #[.agg #[.string sn,.slice ma mn mc,.slice ea en ec,.slice ta tn tc]] ((w.alloc (Obj.cells #[.string sn,.slice ma mn mc,.slice ea en ec,.slice ta tn tc] 26)).alloc (Obj.cells #[.int .i64 K,.int .i64 N,.string S,.slice pe Ke ce,.slice pr Kr cr] 30)) fun e w' => FewP s e ∧ Below ((w.alloc (Obj.cells #[.string sn,.slice ma mn mc,.slice ea en ec,.slice ta tn tc] 26)).alloc (Obj.cells #[.int .i64 K,.int .i64 N,.string S,.slice pe Ke ce,.slice pr Kr cr] 30)).heap.size ((w.alloc (Obj.cells #[.string sn,.slice ma mn mc,.slice ea en ec,.slice ta tn tc] 26)).alloc (Obj.cells #[.int .i64 K,.int .i64 N,.string S,.slice pe Ke ce,.slice pr Kr cr] 30)) w') := few_any (hs'.below al) hw;clear hs' hms hen hmt hsn hw hnm
 go_enter Tryz.func4,Tryz.ntmps4
 go_wp2_with fail;obtain ⟨b0,hb0⟩ : ∃ z,w.heap.size = z := ⟨_,rfl⟩;have HBZ : Hid (w.heap.size = b0) := hb0;generalize ((w.alloc (Obj.cells #[.string sn,.slice ma mn mc,.slice ea en ec,.slice ta tn tc] 26)).alloc (Obj.cells #[.int .i64 K,.int .i64 N,.string S,.slice pe Ke ce,.slice pr Kr cr] 30)) = WA at *;rw [hb0] at BS BT
 try simp only [hb0]
 clear hb0;obtain ⟨s0,s1,s2,s3⟩ := cl4 BS;have HBB : Hid (Blk WA b0 #[.string sn,.slice ma mn mc,.slice ea en ec,.slice ta tn tc] 26 ∧ Blk WA (b0 + 1) #[.int .i64 K,.int .i64 N,.string S,.slice pe Ke ce,.slice pr Kr cr] 30) := ⟨BS,BT⟩;have HWA : Hid (Below w.heap.size w WA) := al;clear BS BT
 try go_wp2_with fail
 refine HFW.out.mono ?_;rintro e w2 ⟨hfw,hb2⟩;have hbw2 : Below w.heap.size w w2 := al.trans (hb2.mono al.size);have hA2 : Below WA.heap.size WA w2 := hb2;clear hb2 al HFW s0 s1 s2 s3
 rcases hfw with rfl | ⟨rfl,hfs⟩
 ·skip
  go_wp2_with fail;refine (pjawake_any _).mono ?_;rintro e wz ⟨rfl,hbz⟩;have hbwz : Below w.heap.size w wz := hbw2.trans (hbz.mono hbw2.size);clear hbz;go_wp2_with fail;go_ret;exact ⟨rfl,hbwz⟩
 have HFS : Hid (FewS s) := hfs;have BT2 := HBB.out.2.below hA2;obtain ⟨q0,q1,q2,q3,q4⟩ := cl5 BT2;clear BT2 hfs;go_wp2_with fail;refine (HSL.out _ hbw2).mono ?_;rintro e w3 ⟨⟨R,rfl,hR⟩,hb3⟩;have hbw3 : Below w.heap.size w w3 := hbw2.trans (hb3.mono hbw2.size);have hA3 : Below WA.heap.size WA w3 := hA2.trans (hb3.mono hA2.size);have HRR : Hid (R = true → SmN 14 t ∧ cntN 14 t ≤ 200 ∧ TrIn 14 w3 (.agg #[.int .i64 K,.int .i64 N,.string S,.slice pe Ke ce,.slice pr Kr cr]) t) := fun hr => ⟨(hR hr).1,(hR hr).2.1,(hR hr).2.2.below hb3⟩
 clear hR hb3 HSL q0 q1 q2 q3 q4 hA2
 cases R with
 | false =>
  go_wp2_with fail;refine (pjawake_any _).mono ?_;rintro e wz ⟨rfl,hbz⟩;have hbwz : Below w.heap.size w wz := hbw3.trans (hbz.mono hbw3.size);clear hbz;go_wp2_with fail;go_ret;exact ⟨rfl,hbwz⟩
 | true =>
  obtain ⟨s1',s2',s3'⟩ := HRR.out rfl;have HS1 : Hid (SmN 14 t ∧ cntN 14 t ≤ 200 ∧ TrIn 14 w3 (.agg #[.int .i64 K,.int .i64 N,.string S,.slice pe Ke ce,.slice pr Kr cr]) t) := ⟨s1',s2',s3'⟩;have HRK : Hid (∀ W,Below w.heap.size w W → Calls Tryz.prog 15 #[.agg #[.string sn,.slice ma mn mc,.slice ea en ec,.slice ta tn tc]] W fun e w' => e = .returned (.int .i64 (checkA s)) ∧ Below W.heap.size W w') := fun W hW => rcheck_any (HSC.out.below hW) HFS.out
  have BS3 := HBB.out.1.below hA3;obtain ⟨s0,s1,s2,s3⟩ := cl4 BS3;clear s1' s2' s3' HRR BS3;go_wp2_with fail;refine (HRK.out _ hbw3).mono ?_;rintro e w4 ⟨rfl,hb4⟩;have hbw4 : Below w.heap.size w w4 := hbw3.trans (hb4.mono hbw3.size);have hA4 : Below WA.heap.size WA w4 := hA3.trans (hb4.mono hA3.size);have HT4 : Hid (TrIn 14 w4 (.agg #[.int .i64 K,.int .i64 N,.string S,.slice pe Ke ce,.slice pr Kr cr]) t) := HS1.out.2.2.below hb4;clear hb4 hbw3 hA3 HRK s0 s1 s2 s3;obtain ⟨A,hA⟩ : ∃ z,checkA s = z := ⟨_,rfl⟩;have HA : Hid (checkA s = A) := hA;rw [hA];clear hA
  by_cases hA0 : A = 0
  rotate_left
  ·have d : (A != 0) = true := by simpa using hA0
   clear hA0;go_wp2_with fail;refine (pjawake_any _).mono ?_;rintro e wz ⟨rfl,hbz⟩;have hbwz : Below w.heap.size w wz := hbw4.trans (hbz.mono hbw4.size);clear hbz;go_wp2_with fail;go_ret;exact ⟨rfl,hbwz⟩
  subst hA0;have HEC : Hid (Calls Tryz.prog 16 #[.agg #[.int .i64 K,.int .i64 N,.string S,.slice pe Ke ce,.slice pr Kr cr]] w4 (EncP (encA 14 t) w4)) := rEncode_any 14 t _ w4 HT4.out HS1.out.1 (by omega);have HLE : Hid ((encA 14 t).1.length ≤ 4096 ∧ ∀ k ∈ (encA 14 t).1,k < 256) := ⟨encA_leP 14 t,encA_bytes 14 t⟩;have BT4 := HBB.out.2.below hA4;obtain ⟨q0,q1,q2,q3,q4⟩ := cl5 BT4;clear BT4;generalize encA 14 t = Y at *;go_wp2_with fail;refine Calls.mono HEC.out ?_;rintro e w5 ⟨ro,rfl,ho,hb5⟩;have hbw5 : Below w.heap.size w w5 := hbw4.trans (hb5.mono hbw4.size);have hA5 : Below WA.heap.size WA w5 := hA4.trans (hb5.mono hA4.size);obtain ⟨Yn,Ye⟩ := Y;simp only at ho HLE ⊢;have HBY : Hid (ByS w5 ro Yn) := ByS.own ho HLE.out.2;obtain ⟨ya,yc,rfl, -⟩ := own_open ho;obtain ⟨YL,hYL⟩ : ∃ z,Yn.length = z := ⟨_,rfl⟩;have HYL : Hid (Yn.length = YL) := hYL
  have hY4 : YL ≤ 4096 := by rw [← hYL]; exact HLE.out.1
  rw [hYL] at HBY ⊢;clear hYL HEC ho hb5 hbw4 hA4 q0 q1 q2 q3 q4
  by_cases hYe : Ye = 0
  rotate_left
  ·have d : ((Ye : Int) != 0) = true := by simp; omega
   clear hYe;go_wp2_with fail;refine (pjawake_any _).mono ?_;rintro e wz ⟨rfl,hbz⟩;have hbwz : Below w.heap.size w wz := hbw5.trans (hbz.mono hbw5.size);clear hbz;go_wp2_with fail;go_ret;exact ⟨rfl,hbwz⟩
  subst hYe;simp only [show ((0 : Nat) : Int) = 0 from rfl];obtain ⟨RD,hRD⟩ : ∃ R,decA s nm Yn = R := ⟨_,rfl⟩;have HRD : Hid (decA s nm Yn = RD) := hRD
  have HDE : Hid (Calls Tryz.prog 17 #[.agg #[.string sn,.slice ma mn mc,.slice ea en ec,.slice ta tn tc],.string nm,.slice ya YL yc] w5 (DtrP 11 RD w5)) := (by
   have h1 := r12decode_any (HSC.out.below hbw5) HFS.out HBY.out (nm := nm);rw [hRD] at h1
   exact h1 : Calls Tryz.prog _ _ _ _)
  have BS5 := HBB.out.1.below hA5;obtain ⟨s0,s1,s2,s3⟩ := cl4 BS5;clear hRD BS5;go_wp2_with fail;refine HDE.out.mono ?_;rintro e w6 ⟨r6,bs6,rfl,ht6,hap6,hb6⟩;have hbw6 : Below w.heap.size w w6 := hbw5.trans (hb6.mono hbw5.size);have hA6 : Below WA.heap.size WA w6 := hA5.trans (hb6.mono hA5.size);have hTI6 := ht6.trIn;obtain ⟨z1,z2,z3,z4,z5,z6,rfl⟩ := ht6.open;obtain ⟨T,DE⟩ := RD;simp only at hTI6 ⊢;have al7 : Below w6.heap.size w6 (w6.alloc (Obj.cells #[.int .i64 T.kind,.int .i64 T.n,.string T.s,.slice z1 z2 z3,.slice z4 z5 z6] 30)) := bra _;have HB7 : Hid (Blk (w6.alloc (Obj.cells #[.int .i64 T.kind,.int .i64 T.n,.string T.s,.slice z1 z2 z3,.slice z4 z5 z6] 30)) w6.heap.size #[.int .i64 T.kind,.int .i64 T.n,.string T.s,.slice z1 z2 z3,.slice z4 z5 z6] 30 ∧ TrIn 11 (w6.alloc (Obj.cells #[.int .i64 T.kind,.int .i64 T.n,.string T.s,.slice z1 z2 z3,.slice z4 z5 z6] 30)) (.agg #[.int .i64 T.kind,.int .i64 T.n,.string T.s,.slice z1 z2 z3,.slice z4 z5 z6]) T) := ⟨Blk.new w6 _ _,hTI6.below al7⟩;have HW7 : Hid (Below w.heap.size w (w6.alloc (Obj.cells #[.int .i64 T.kind,.int .i64 T.n,.string T.s,.slice z1 z2 z3,.slice z4 z5 z6] 30)) ∧ Below WA.heap.size WA (w6.alloc (Obj.cells #[.int .i64 T.kind,.int .i64 T.n,.string T.s,.slice z1 z2 z3,.slice z4 z5 z6] 30))) := ⟨hbw6.trans (al7.mono hbw6.size),hA6.trans (al7.mono hA6.size)⟩;clear HDE ht6 hap6 hb6 hTI6 al7 hbw5 hA5 hbw6 hA6 s0 s1 s2 s3
  by_cases hDE : DE = 0
  rotate_left
  ·have d : (DE != 0) = true := by simpa using hDE
   have hbw7 := HW7.out.1;clear hDE;go_wp2_with fail;refine (pjawake_any _).mono ?_;rintro e wz ⟨rfl,hbz⟩;have hbwz : Below w.heap.size w wz := hbw7.trans (hbz.mono hbw7.size);clear hbz;go_wp2_with fail;go_ret;exact ⟨rfl,hbwz⟩
  subst hDE;obtain ⟨bx,hbx⟩ : ∃ z,w6.heap.size = z := ⟨_,rfl⟩;rw [hbx] at HB7
  go_upto_region 9 with fail
  try simp only [hbx]
  clear hbx;obtain ⟨W5,hW5⟩ : ∃ z,w6.alloc (Obj.cells #[.int .i64 T.kind,.int .i64 T.n,.string T.s,.slice z1 z2 z3,.slice z4 z5 z6] 30) = z := ⟨_,rfl⟩;rw [hW5] at HB7 HW7 ⊢;clear hW5;obtain ⟨sm1,cn1,va1, -⟩ := again_facts HLE.out.2 HRD.out
  have hpj : projA 11 s nm T = (prM 11 s nm T,true) := by
   unfold projA;rw [if_pos];unfold validA at va1
   by_cases h1 : checkA s ≠ 0
   ·rw [if_pos h1] at va1; omega
   ·rw [if_neg h1] at va1
    by_cases h2 : (msgOf s nm).isSome = false
    ·rw [if_pos h2] at va1; omega
    ·rw [if_neg h2] at va1
     by_cases h3 : chkN 11 T = false ∨ T.kind ≠ 3
     ·rw [if_pos h3] at va1; omega
     ·refine ⟨by omega,?_,by omega,by simpa using (not_or.1 h3).1⟩
      cases hq : (msgOf s nm).isSome with
      | true => rfl
      | false => exact absurd hq h2
  have HSM : Hid (SmN 11 T ∧ cntN 11 T ≤ 4097) := ⟨sm1,cn1⟩;obtain ⟨RX,hRX⟩ : ∃ R,prM 11 s nm T = R := ⟨_,rfl⟩
  have hcx : cntN 11 RX ≤ 4097 := by rw [← hRX]; exact Nat.le_trans (prM_cnt 11 nm T) cn1
  rw [hRX] at hpj;obtain ⟨pj2,fit2, -⟩ := proj_twice hpj sm1
  have hrest : RX.rest = [] := by rw [fit2.form]
  have HPJ1 : Hid (projA 11 s nm T = (RX,true) ∧ projA 11 s nm RX = (RX,true) ∧ SmN 11 RX ∧ cntN 11 RX ≤ 4097 ∧ RX.rest = []) := ⟨hpj,pj2,fit2.sm,hcx,hrest⟩;obtain ⟨R,hR⟩ : ∃ R : Tr × Bool,R = (RX,true) := ⟨_,rfl⟩;have HR12 : Hid (R.1 = RX ∧ R.2 = true) := ⟨by rw [hR],by rw [hR]⟩;have HRE : Hid (R = (RX,true)) := hR;clear sm1 cn1 va1 hpj hRX hcx pj2 fit2 hrest hR;obtain ⟨K2,hK2⟩ : ∃ z,R.1.kind = z := ⟨_,rfl⟩;obtain ⟨N2,hN2⟩ : ∃ z,R.1.n = z := ⟨_,rfl⟩;obtain ⟨S2,hS2⟩ : ∃ z,R.1.s = z := ⟨_,rfl⟩;have HKS : Hid (R.1.kind = K2 ∧ R.1.n = N2 ∧ R.1.s = S2) := ⟨hK2,hN2,hS2⟩;clear hK2 hN2 hS2;have HBR : Hid (R.2 = true) := HR12.out.2;have HCS : Hid (∀ W,Below W5.heap.size W5 W → Calls Tryz.prog 10 #[.agg #[.string sn,.slice ma mn mc,.slice ea en ec,.slice ta tn tc]] W fun e w' => ∃ r,e = .returned r ∧ ScIn w' r s ∧ Below W.heap.size W w') := fun W hW => schemaP_any (HSC.out.below (HW7.out.1.trans (hW.mono HW7.out.1.size))) HFS.out.few
  have HCT : Hid (∀ W,Below W5.heap.size W5 W → Calls Tryz.prog 8 #[.agg #[.int .i64 T.kind,.int .i64 T.n,.string T.s,.slice z1 z2 z3,.slice z4 z5 z6]] W (CopyP 11 T W)) := fun W hW => copy_any 11 T _ W (HB7.out.2.below hW) HSM.out.1
  have HPC : Hid (∀ sv tv W,ScIn W sv s → TrW 11 W tv T → Calls Tryz.prog 9 #[sv,.string nm,tv] W (SeeFP 11 R W)) := fun sv tv W hsv htv => by
   have h1 := HPJ'.out 10 s sv nm tv T W (by omega) hsv HSW.out HFS.out.few htv HSM.out.1 (Nat.le_trans HSM.out.2 (by omega));rw [HPJ1.out.1,← HRE.out] at h1;exact h1
  have HCB : Hid (∀ W,Below W5.heap.size W5 W → Blk W b0 #[.string sn,.slice ma mn mc,.slice ea en ec,.slice ta tn tc] 26 ∧ Blk W bx #[.int .i64 T.kind,.int .i64 T.n,.string T.s,.slice z1 z2 z3,.slice z4 z5 z6] 30) := fun W hW => ⟨HBB.out.1.below (HW7.out.2.trans (hW.mono HW7.out.2.size)),HB7.out.1.below hW⟩
  go_upto_region 9 with fail
  go_cut [11,12] from 47 to 55 (fun pv bv wx => ∃ (b : Nat) (a1 a2 : Option Addr) (n1 c1 n2 c2 : Nat),pv = .pointer (some ⟨b,0,none⟩) ∧ bv = .bool true ∧ Hid (Blk wx b #[.int .i64 K2,.int .i64 N2,.string S2,.slice a1 n1 c1,.slice a2 n2 c2] 30 ∧ (TrIn 11 wx (.agg #[.int .i64 K2,.int .i64 N2,.string S2,.slice a1 n1 c1,.slice a2 n2 c2]) R.1 ∧ TrW 11 wx (.agg #[.int .i64 K2,.int .i64 N2,.string S2,.slice a1 n1 c1,.slice a2 n2 c2]) R.1) ∧ Below W5.heap.size W5 wx))
  case first =>
   refine M_region (T := fun W => Below W5.heap.size W5 W) (m := 11) (by kernel_rfl) ?_;have hS : Below W5.heap.size W5 W5.drew := (Below.refl _ _).drew;refine M_tk 0 48 (.agg #[.string sn,.slice ma mn mc,.slice ea en ec,.slice ta tn tc]) (fun w' hw' => ?_) hS (bts 12 1) ?_
   ·obtain ⟨HB0,HB1⟩ := HCB.out _ hw'; obtain ⟨f0,f1,f2,f3⟩ := cl4 HB0; go_simp
   refine M_tk 2 50 (.string nm) (fun w' hw' => ?_) hS (bts 12 5) ?_
   ·go_simp
   refine M_tk 3 51 (.agg #[.int .i64 T.kind,.int .i64 T.n,.string T.s,.slice z1 z2 z3,.slice z4 z5 z6]) (fun w' hw' => ?_) hS (bts 12 13) ?_
   ·obtain ⟨HB0,HB1⟩ := HCB.out _ hw'; obtain ⟨f0,f1,f2,f3,f4⟩ := cl5 HB1; go_simp
   generalize W5.drew = U0 at *;refine M_fork 1 9 49 11 10 #[.agg #[.string sn,.slice ma mn mc,.slice ea en ec,.slice ta tn tc]] (.pointer (some ⟨U0.heap.size,0,none⟩)) (U0.alloc (Obj.cells #[.int .i64 0,.int .i64 0,.string ⟨#[]⟩,.slice none 0 0,.slice none 0 0] 30)) rfl rfl rfl rfl (by kernel_rfl) (by rfl) (by rfl) (by go_simp) (by go_simp) ?_ (hS.trans ((bra _).mono hS.size)) ?_
   ·skip
    refine (HCS.out U0 hS).mono ?_;rintro ee V1 ⟨sv,rfl,hsv,hbU⟩;have hS0 := hS;have hS : Below W5.heap.size W5 V1 := hS0.trans (hbU.mono hS0.size);clear hS0 hbU;refine ⟨_,rfl,hS,?_⟩;simp only [zsA,zsZ,zsS];refine M_fork 4 9 52 11 8 #[.agg #[.int .i64 T.kind,.int .i64 T.n,.string T.s,.slice z1 z2 z3,.slice z4 z5 z6]] (.pointer (some ⟨V1.heap.size,0,none⟩)) (V1.alloc (Obj.cells #[.int .i64 0,.int .i64 0,.string ⟨#[]⟩,.slice none 0 0,.slice none 0 0] 30)) rfl rfl rfl rfl (by kernel_rfl) (by rfl) (by rfl) (by go_simp) (by go_simp) ?_ (hS.trans ((bra _).mono hS.size)) ?_
    ·skip
     refine (HCT.out V1 hS).mono ?_;rintro ee V2 ⟨tv,bst,rfl,htv0,hbU⟩
     replace hsv := hsv.below hbU
     have htv := htv0.trW;clear htv0;have hS0 := hS;have hS : Below W5.heap.size W5 V2 := hS0.trans (hbU.mono hS0.size);clear hS0 hbU;refine ⟨_,rfl,hS,?_⟩;simp only [zsA,zsZ,zsS];refine M_fork 5 9 53 11 9 #[sv,.string nm,tv] (.pointer (some ⟨V2.heap.size,0,none⟩)) (V2.alloc (Obj.cells #[.int .i64 0,.int .i64 0,.string ⟨#[]⟩,.slice none 0 0,.slice none 0 0] 30)) rfl rfl rfl rfl (by kernel_rfl) (by rfl) (by rfl) (by go_simp) (by go_simp) ?_ (hS.trans ((bra _).mono hS.size)) ?_
     ·skip
      refine (HPC.out sv tv V2 hsv htv).mono ?_;rintro ee V3 ⟨r4,bs4,rfl,ht4,hap4,hbU⟩
      replace hsv := hsv.below hbU
      replace htv := htv.cel (Cel.ofBelow hbU)
      obtain ⟨a1,n1,c1,a2,n2,c2,hr4⟩ := ht4.open;rw [HKS.out.1,HKS.out.2.1,HKS.out.2.2] at hr4;subst hr4;rw [HBR.out];clear hsv htv;have hS0 := hS;have hS : Below W5.heap.size W5 V3 := hS0.trans (hbU.mono hS0.size);clear hS0 hbU;refine ⟨_,rfl,hS,?_⟩;simp only [zsA,zsZ,zsS];refine M_tk 6 47 (.tuple #[.agg #[.int .i64 K2,.int .i64 N2,.string S2,.slice a1 n1 c1,.slice a2 n2 c2],.bool true]) (fun w' hw' => ?_) hS (bts 12 127) ?_
      ·go_simp
      refine M_tk 7 54 (.agg #[.int .i64 K2,.int .i64 N2,.string S2,.slice a1 n1 c1,.slice a2 n2 c2]) (fun w' hw' => ?_) hS (bts 12 255) ?_
      ·go_simp
      refine M_tk 8 55 (.bool true) (fun w' hw' => ?_) hS (bts 12 511) ?_
      ·go_simp
      refine M_rn 9 11 (.pointer (some ⟨V3.heap.size,0,none⟩)) (V3.alloc (Obj.cells #[.int .i64 0,.int .i64 0,.string ⟨#[]⟩,.slice none 0 0,.slice none 0 0] 30)) (bts 12 1023) rfl (by go_simp) (hS.trans ((bra _).mono hS.size)) ?_;have hbU : Below V3.heap.size V3 (V3.alloc (Obj.cells #[.int .i64 0,.int .i64 0,.string ⟨#[]⟩,.slice none 0 0,.slice none 0 0] 30)) := bra _;obtain ⟨bz,hbz⟩ : ∃ z,V3.heap.size = z := ⟨_,rfl⟩
      have BZ : Blk (V3.alloc (Obj.cells #[.int .i64 0,.int .i64 0,.string ⟨#[]⟩,.slice none 0 0,.slice none 0 0] 30)) bz #[.int .i64 0,.int .i64 0,.string ⟨#[]⟩,.slice none 0 0,.slice none 0 0] 30 := by rw [← hbz]; exact Blk.new V3 _ _
      have GZ : W5.heap.size ≤ bz := by rw [← hbz]; exact hS.size
      have hS0 := hS;have hS : Below W5.heap.size W5 (V3.alloc (Obj.cells #[.int .i64 0,.int .i64 0,.string ⟨#[]⟩,.slice none 0 0,.slice none 0 0] 30)) := hS0.trans (hbU.mono hS0.size)
      have hnz : bz ∉ bs4 := fun hc => by have h1 := (hap4.2 _ hc).2; rw [hbz] at h1; omega
      replace ht4 := ht4.sm (Sm.below hbU fun q hq => (hap4.2 q hq).2)
      replace hap4 := hap4.mono hbU.size
      clear hS0 hbU;simp only [zsA,zsZ,zsS]
      try simp only [hbz]
      clear hbz;generalize (V3.alloc (Obj.cells #[.int .i64 0,.int .i64 0,.string ⟨#[]⟩,.slice none 0 0,.slice none 0 0] 30)) = V4 at *;obtain ⟨k0,k1,k2,k3,k4⟩ := cl5 BZ;obtain ⟨z0,z1,z2,z3,z4⟩ := fz5 BZ;have hfin := see_store BZ ht4 hnz hS GZ;refine M_sT 10 (set5 V4 bz 0 (.int .i64 K2) (.int .i64 N2) (.string S2) (.slice a1 n1 c1) (.slice a2 n2 c2)) (bts 12 2047) rfl (by unfold set5; go_simp) hfin.2.2 ?_;clear k0 z0 k1 z1 k2 z2 k3 z3 k4 z4;have HFI : Hid (Blk (set5 V4 bz 0 (.int .i64 K2) (.int .i64 N2) (.string S2) (.slice a1 n1 c1) (.slice a2 n2 c2)) bz #[.int .i64 K2,.int .i64 N2,.string S2,.slice a1 n1 c1,.slice a2 n2 c2] 30 ∧ (TrIn 11 (set5 V4 bz 0 (.int .i64 K2) (.int .i64 N2) (.string S2) (.slice a1 n1 c1) (.slice a2 n2 c2)) (.agg #[.int .i64 K2,.int .i64 N2,.string S2,.slice a1 n1 c1,.slice a2 n2 c2]) R.1 ∧ TrW 11 (set5 V4 bz 0 (.int .i64 K2) (.int .i64 N2) (.string S2) (.slice a1 n1 c1) (.slice a2 n2 c2)) (.agg #[.int .i64 K2,.int .i64 N2,.string S2,.slice a1 n1 c1,.slice a2 n2 c2]) R.1) ∧ Below W5.heap.size W5 (set5 V4 bz 0 (.int .i64 K2) (.int .i64 N2) (.string S2) (.slice a1 n1 c1) (.slice a2 n2 c2))) := hfin;clear hfin hS BZ ht4 hap4 hnz GZ;generalize (set5 V4 bz 0 (.int .i64 K2) (.int .i64 N2) (.string S2) (.slice a1 n1 c1) (.slice a2 n2 c2)) = V9 at *;refine M_rA 11 12 (.bool true) V9 (bts 12 4095) rfl (by go_simp) ?_;simp only [zsA,zsZ,zsS];refine M_done (by kernel_rfl) ?_ _;go_wp2_with fail
      go_meet
      exact ⟨bz,a1,a2,n1,c1,n2,c2,rfl,rfl,HFI⟩
     ·skip
      have hbU : Below V2.heap.size V2 (V2.alloc (Obj.cells #[.int .i64 0,.int .i64 0,.string ⟨#[]⟩,.slice none 0 0,.slice none 0 0] 30)) := bra _;obtain ⟨bz,hbz⟩ : ∃ z,V2.heap.size = z := ⟨_,rfl⟩
      have BZ : Blk (V2.alloc (Obj.cells #[.int .i64 0,.int .i64 0,.string ⟨#[]⟩,.slice none 0 0,.slice none 0 0] 30)) bz #[.int .i64 0,.int .i64 0,.string ⟨#[]⟩,.slice none 0 0,.slice none 0 0] 30 := by rw [← hbz]; exact Blk.new V2 _ _
      have GZ : W5.heap.size ≤ bz := by rw [← hbz]; exact hS.size
      have hS0 := hS;have hS : Below W5.heap.size W5 (V2.alloc (Obj.cells #[.int .i64 0,.int .i64 0,.string ⟨#[]⟩,.slice none 0 0,.slice none 0 0] 30)) := hS0.trans (hbU.mono hS0.size)
      replace hsv := hsv.below hbU
      replace htv := htv.cel (Cel.ofBelow hbU)
      clear hS0 hbU;simp only [zsA,zsZ,zsS]
      try simp only [hbz]
      clear hbz;generalize (V2.alloc (Obj.cells #[.int .i64 0,.int .i64 0,.string ⟨#[]⟩,.slice none 0 0,.slice none 0 0] 30)) = V5 at *;refine M_cl 5 53 9 #[sv,.string nm,tv] (bts 12 575) rfl (fun W => by go_simp) ?_;refine (HPC.out sv tv V5 hsv htv).mono ?_;rintro ee V6 ⟨r4,bs4,rfl,ht4,hap4,hbU⟩
      have hnz : bz ∉ bs4 := fun hc => by have h1 := (hap4.2 _ hc).1; have h2 := BZ.lt; omega
      replace BZ := BZ.below hbU
      replace hsv := hsv.below hbU
      replace htv := htv.cel (Cel.ofBelow hbU)
      obtain ⟨a1,n1,c1,a2,n2,c2,hr4⟩ := ht4.open;rw [HKS.out.1,HKS.out.2.1,HKS.out.2.2] at hr4;subst hr4;rw [HBR.out];clear hsv htv;have hS0 := hS;have hS : Below W5.heap.size W5 V6 := hS0.trans (hbU.mono hS0.size);clear hS0 hbU;refine ⟨_,rfl,hS,?_⟩;simp only [zsA,zsZ,zsS];refine M_tk 6 47 (.tuple #[.agg #[.int .i64 K2,.int .i64 N2,.string S2,.slice a1 n1 c1,.slice a2 n2 c2],.bool true]) (fun w' hw' => ?_) hS (bts 12 639) ?_
      ·go_simp
      refine M_tk 7 54 (.agg #[.int .i64 K2,.int .i64 N2,.string S2,.slice a1 n1 c1,.slice a2 n2 c2]) (fun w' hw' => ?_) hS (bts 12 767) ?_
      ·go_simp
      refine M_tk 8 55 (.bool true) (fun w' hw' => ?_) hS (bts 12 1023) ?_
      ·go_simp
      obtain ⟨k0,k1,k2,k3,k4⟩ := cl5 BZ;obtain ⟨z0,z1,z2,z3,z4⟩ := fz5 BZ;have hfin := see_store BZ ht4 hnz hS GZ;refine M_sT 10 (set5 V6 bz 0 (.int .i64 K2) (.int .i64 N2) (.string S2) (.slice a1 n1 c1) (.slice a2 n2 c2)) (bts 12 2047) rfl (by unfold set5; go_simp) hfin.2.2 ?_;clear k0 z0 k1 z1 k2 z2 k3 z3 k4 z4;have HFI : Hid (Blk (set5 V6 bz 0 (.int .i64 K2) (.int .i64 N2) (.string S2) (.slice a1 n1 c1) (.slice a2 n2 c2)) bz #[.int .i64 K2,.int .i64 N2,.string S2,.slice a1 n1 c1,.slice a2 n2 c2] 30 ∧ (TrIn 11 (set5 V6 bz 0 (.int .i64 K2) (.int .i64 N2) (.string S2) (.slice a1 n1 c1) (.slice a2 n2 c2)) (.agg #[.int .i64 K2,.int .i64 N2,.string S2,.slice a1 n1 c1,.slice a2 n2 c2]) R.1 ∧ TrW 11 (set5 V6 bz 0 (.int .i64 K2) (.int .i64 N2) (.string S2) (.slice a1 n1 c1) (.slice a2 n2 c2)) (.agg #[.int .i64 K2,.int .i64 N2,.string S2,.slice a1 n1 c1,.slice a2 n2 c2]) R.1) ∧ Below W5.heap.size W5 (set5 V6 bz 0 (.int .i64 K2) (.int .i64 N2) (.string S2) (.slice a1 n1 c1) (.slice a2 n2 c2))) := hfin;clear hfin hS BZ ht4 hap4 hnz GZ;generalize (set5 V6 bz 0 (.int .i64 K2) (.int .i64 N2) (.string S2) (.slice a1 n1 c1) (.slice a2 n2 c2)) = V9 at *;refine M_rA 11 12 (.bool true) V9 (bts 12 4095) rfl (by go_simp) ?_;simp only [zsA,zsZ,zsS];refine M_done (by kernel_rfl) ?_ _;go_wp2_with fail
      go_meet
      exact ⟨bz,a1,a2,n1,c1,n2,c2,rfl,rfl,HFI⟩
    ·skip
     have hbU : Below V1.heap.size V1 (V1.alloc (Obj.cells #[.int .i64 0,.int .i64 0,.string ⟨#[]⟩,.slice none 0 0,.slice none 0 0] 30)) := bra _;obtain ⟨bz,hbz⟩ : ∃ z,V1.heap.size = z := ⟨_,rfl⟩
     have BZ : Blk (V1.alloc (Obj.cells #[.int .i64 0,.int .i64 0,.string ⟨#[]⟩,.slice none 0 0,.slice none 0 0] 30)) bz #[.int .i64 0,.int .i64 0,.string ⟨#[]⟩,.slice none 0 0,.slice none 0 0] 30 := by rw [← hbz]; exact Blk.new V1 _ _
     have GZ : W5.heap.size ≤ bz := by rw [← hbz]; exact hS.size
     have hS0 := hS;have hS : Below W5.heap.size W5 (V1.alloc (Obj.cells #[.int .i64 0,.int .i64 0,.string ⟨#[]⟩,.slice none 0 0,.slice none 0 0] 30)) := hS0.trans (hbU.mono hS0.size)
     replace hsv := hsv.below hbU
     clear hS0 hbU;simp only [zsA,zsZ,zsS]
     try simp only [hbz]
     clear hbz;generalize (V1.alloc (Obj.cells #[.int .i64 0,.int .i64 0,.string ⟨#[]⟩,.slice none 0 0,.slice none 0 0] 30)) = V7 at *;refine M_cl 4 52 8 #[.agg #[.int .i64 T.kind,.int .i64 T.n,.string T.s,.slice z1 z2 z3,.slice z4 z5 z6]] (bts 12 543) rfl (fun W => by go_simp) ?_;refine (HCT.out V7 hS).mono ?_;rintro ee V8 ⟨tv,bst,rfl,htv0,hbU⟩
     replace BZ := BZ.below hbU
     replace hsv := hsv.below hbU
     have htv := htv0.trW;clear htv0;have hS0 := hS;have hS : Below W5.heap.size W5 V8 := hS0.trans (hbU.mono hS0.size);clear hS0 hbU;refine ⟨_,rfl,hS,?_⟩;simp only [zsA,zsZ,zsS];refine M_cl 5 53 9 #[sv,.string nm,tv] (bts 12 575) rfl (fun W => by go_simp) ?_;refine (HPC.out sv tv V8 hsv htv).mono ?_;rintro ee V9 ⟨r4,bs4,rfl,ht4,hap4,hbU⟩
     have hnz : bz ∉ bs4 := fun hc => by have h1 := (hap4.2 _ hc).1; have h2 := BZ.lt; omega
     replace BZ := BZ.below hbU
     replace hsv := hsv.below hbU
     replace htv := htv.cel (Cel.ofBelow hbU)
     obtain ⟨a1,n1,c1,a2,n2,c2,hr4⟩ := ht4.open;rw [HKS.out.1,HKS.out.2.1,HKS.out.2.2] at hr4;subst hr4;rw [HBR.out];clear hsv htv;have hS0 := hS;have hS : Below W5.heap.size W5 V9 := hS0.trans (hbU.mono hS0.size);clear hS0 hbU;refine ⟨_,rfl,hS,?_⟩;simp only [zsA,zsZ,zsS];refine M_tk 6 47 (.tuple #[.agg #[.int .i64 K2,.int .i64 N2,.string S2,.slice a1 n1 c1,.slice a2 n2 c2],.bool true]) (fun w' hw' => ?_) hS (bts 12 639) ?_
     ·go_simp
     refine M_tk 7 54 (.agg #[.int .i64 K2,.int .i64 N2,.string S2,.slice a1 n1 c1,.slice a2 n2 c2]) (fun w' hw' => ?_) hS (bts 12 767) ?_
     ·go_simp
     refine M_tk 8 55 (.bool true) (fun w' hw' => ?_) hS (bts 12 1023) ?_
     ·go_simp
     obtain ⟨k0,k1,k2,k3,k4⟩ := cl5 BZ;obtain ⟨z0,z1,z2,z3,z4⟩ := fz5 BZ;have hfin := see_store BZ ht4 hnz hS GZ;refine M_sT 10 (set5 V9 bz 0 (.int .i64 K2) (.int .i64 N2) (.string S2) (.slice a1 n1 c1) (.slice a2 n2 c2)) (bts 12 2047) rfl (by unfold set5; go_simp) hfin.2.2 ?_;clear k0 z0 k1 z1 k2 z2 k3 z3 k4 z4;have HFI : Hid (Blk (set5 V9 bz 0 (.int .i64 K2) (.int .i64 N2) (.string S2) (.slice a1 n1 c1) (.slice a2 n2 c2)) bz #[.int .i64 K2,.int .i64 N2,.string S2,.slice a1 n1 c1,.slice a2 n2 c2] 30 ∧ (TrIn 11 (set5 V9 bz 0 (.int .i64 K2) (.int .i64 N2) (.string S2) (.slice a1 n1 c1) (.slice a2 n2 c2)) (.agg #[.int .i64 K2,.int .i64 N2,.string S2,.slice a1 n1 c1,.slice a2 n2 c2]) R.1 ∧ TrW 11 (set5 V9 bz 0 (.int .i64 K2) (.int .i64 N2) (.string S2) (.slice a1 n1 c1) (.slice a2 n2 c2)) (.agg #[.int .i64 K2,.int .i64 N2,.string S2,.slice a1 n1 c1,.slice a2 n2 c2]) R.1) ∧ Below W5.heap.size W5 (set5 V9 bz 0 (.int .i64 K2) (.int .i64 N2) (.string S2) (.slice a1 n1 c1) (.slice a2 n2 c2))) := hfin;clear hfin hS BZ ht4 hap4 hnz GZ;generalize (set5 V9 bz 0 (.int .i64 K2) (.int .i64 N2) (.string S2) (.slice a1 n1 c1) (.slice a2 n2 c2)) = V9 at *;refine M_rA 11 12 (.bool true) V9 (bts 12 4095) rfl (by go_simp) ?_;simp only [zsA,zsZ,zsS];refine M_done (by kernel_rfl) ?_ _;go_wp2_with fail
     go_meet
     exact ⟨bz,a1,a2,n1,c1,n2,c2,rfl,rfl,HFI⟩
   ·skip
    have hbU : Below U0.heap.size U0 (U0.alloc (Obj.cells #[.int .i64 0,.int .i64 0,.string ⟨#[]⟩,.slice none 0 0,.slice none 0 0] 30)) := bra _;obtain ⟨bz,hbz⟩ : ∃ z,U0.heap.size = z := ⟨_,rfl⟩
    have BZ : Blk (U0.alloc (Obj.cells #[.int .i64 0,.int .i64 0,.string ⟨#[]⟩,.slice none 0 0,.slice none 0 0] 30)) bz #[.int .i64 0,.int .i64 0,.string ⟨#[]⟩,.slice none 0 0,.slice none 0 0] 30 := by rw [← hbz]; exact Blk.new U0 _ _
    have GZ : W5.heap.size ≤ bz := by rw [← hbz]; exact hS.size
    have hS0 := hS;have hS : Below W5.heap.size W5 (U0.alloc (Obj.cells #[.int .i64 0,.int .i64 0,.string ⟨#[]⟩,.slice none 0 0,.slice none 0 0] 30)) := hS0.trans (hbU.mono hS0.size);clear hS0 hbU;simp only [zsA,zsZ,zsS]
    try simp only [hbz]
    clear hbz;generalize (U0.alloc (Obj.cells #[.int .i64 0,.int .i64 0,.string ⟨#[]⟩,.slice none 0 0,.slice none 0 0] 30)) = V10 at *;refine M_cl 1 49 10 #[.agg #[.string sn,.slice ma mn mc,.slice ea en ec,.slice ta tn tc]] (bts 12 527) rfl (fun W => by go_simp) ?_;refine (HCS.out V10 hS).mono ?_;rintro ee V11 ⟨sv,rfl,hsv,hbU⟩
    replace BZ := BZ.below hbU
    have hS0 := hS;have hS : Below W5.heap.size W5 V11 := hS0.trans (hbU.mono hS0.size);clear hS0 hbU;refine ⟨_,rfl,hS,?_⟩;simp only [zsA,zsZ,zsS];refine M_cl 4 52 8 #[.agg #[.int .i64 T.kind,.int .i64 T.n,.string T.s,.slice z1 z2 z3,.slice z4 z5 z6]] (bts 12 543) rfl (fun W => by go_simp) ?_;refine (HCT.out V11 hS).mono ?_;rintro ee V12 ⟨tv,bst,rfl,htv0,hbU⟩
    replace BZ := BZ.below hbU
    replace hsv := hsv.below hbU
    have htv := htv0.trW;clear htv0;have hS0 := hS;have hS : Below W5.heap.size W5 V12 := hS0.trans (hbU.mono hS0.size);clear hS0 hbU;refine ⟨_,rfl,hS,?_⟩;simp only [zsA,zsZ,zsS];refine M_cl 5 53 9 #[sv,.string nm,tv] (bts 12 575) rfl (fun W => by go_simp) ?_;refine (HPC.out sv tv V12 hsv htv).mono ?_;rintro ee V13 ⟨r4,bs4,rfl,ht4,hap4,hbU⟩
    have hnz : bz ∉ bs4 := fun hc => by have h1 := (hap4.2 _ hc).1; have h2 := BZ.lt; omega
    replace BZ := BZ.below hbU
    replace hsv := hsv.below hbU
    replace htv := htv.cel (Cel.ofBelow hbU)
    obtain ⟨a1,n1,c1,a2,n2,c2,hr4⟩ := ht4.open;rw [HKS.out.1,HKS.out.2.1,HKS.out.2.2] at hr4;subst hr4;rw [HBR.out];clear hsv htv;have hS0 := hS;have hS : Below W5.heap.size W5 V13 := hS0.trans (hbU.mono hS0.size);clear hS0 hbU;refine ⟨_,rfl,hS,?_⟩;simp only [zsA,zsZ,zsS];refine M_tk 6 47 (.tuple #[.agg #[.int .i64 K2,.int .i64 N2,.string S2,.slice a1 n1 c1,.slice a2 n2 c2],.bool true]) (fun w' hw' => ?_) hS (bts 12 639) ?_
    ·go_simp
    refine M_tk 7 54 (.agg #[.int .i64 K2,.int .i64 N2,.string S2,.slice a1 n1 c1,.slice a2 n2 c2]) (fun w' hw' => ?_) hS (bts 12 767) ?_
    ·go_simp
    refine M_tk 8 55 (.bool true) (fun w' hw' => ?_) hS (bts 12 1023) ?_
    ·go_simp
    obtain ⟨k0,k1,k2,k3,k4⟩ := cl5 BZ;obtain ⟨z0,z1,z2,z3,z4⟩ := fz5 BZ;have hfin := see_store BZ ht4 hnz hS GZ;refine M_sT 10 (set5 V13 bz 0 (.int .i64 K2) (.int .i64 N2) (.string S2) (.slice a1 n1 c1) (.slice a2 n2 c2)) (bts 12 2047) rfl (by unfold set5; go_simp) hfin.2.2 ?_;clear k0 z0 k1 z1 k2 z2 k3 z3 k4 z4;have HFI : Hid (Blk (set5 V13 bz 0 (.int .i64 K2) (.int .i64 N2) (.string S2) (.slice a1 n1 c1) (.slice a2 n2 c2)) bz #[.int .i64 K2,.int .i64 N2,.string S2,.slice a1 n1 c1,.slice a2 n2 c2] 30 ∧ (TrIn 11 (set5 V13 bz 0 (.int .i64 K2) (.int .i64 N2) (.string S2) (.slice a1 n1 c1) (.slice a2 n2 c2)) (.agg #[.int .i64 K2,.int .i64 N2,.string S2,.slice a1 n1 c1,.slice a2 n2 c2]) R.1 ∧ TrW 11 (set5 V13 bz 0 (.int .i64 K2) (.int .i64 N2) (.string S2) (.slice a1 n1 c1) (.slice a2 n2 c2)) (.agg #[.int .i64 K2,.int .i64 N2,.string S2,.slice a1 n1 c1,.slice a2 n2 c2]) R.1) ∧ Below W5.heap.size W5 (set5 V13 bz 0 (.int .i64 K2) (.int .i64 N2) (.string S2) (.slice a1 n1 c1) (.slice a2 n2 c2))) := hfin;clear hfin hS BZ ht4 hap4 hnz GZ;generalize (set5 V13 bz 0 (.int .i64 K2) (.int .i64 N2) (.string S2) (.slice a1 n1 c1) (.slice a2 n2 c2)) = V9 at *;refine M_rA 11 12 (.bool true) V9 (bts 12 4095) rfl (by go_simp) ?_;simp only [zsA,zsZ,zsS];refine M_done (by kernel_rfl) ?_ _;go_wp2_with fail
    go_meet
    exact ⟨bz,a1,a2,n1,c1,n2,c2,rfl,rfl,HFI⟩
  case rest =>
   obtain ⟨b,a1,a2,n1,c1,n2,c2,rfl,rfl,HFI⟩ := hcut;have HW8 : Hid (Below w.heap.size w wc ∧ Below WA.heap.size WA wc) := ⟨HW7.out.1.trans (HFI.out.2.2.mono HW7.out.1.size),HW7.out.2.trans (HFI.out.2.2.mono HW7.out.2.size)⟩;clear HCS HCT HPC HCB;have HCS : Hid (∀ W,Below wc.heap.size wc W → Calls Tryz.prog 10 #[.agg #[.string sn,.slice ma mn mc,.slice ea en ec,.slice ta tn tc]] W fun e w' => ∃ r,e = .returned r ∧ ScIn w' r s ∧ Below W.heap.size W w') := fun W hW => schemaP_any (HSC.out.below (HW8.out.1.trans (hW.mono HW8.out.1.size))) HFS.out.few
   have HPC : Hid (∀ sv W,Below wc.heap.size wc W → ScIn W sv s → Calls Tryz.prog 9 #[sv,.string nm,.agg #[.int .i64 K2,.int .i64 N2,.string S2,.slice a1 n1 c1,.slice a2 n2 c2]] W (SeeFP 11 R W)) := fun sv W hW hsv => by
    have h1 := HPJ'.out 10 s sv nm (.agg #[.int .i64 K2,.int .i64 N2,.string S2,.slice a1 n1 c1,.slice a2 n2 c2]) R.1 W (by omega) hsv HSW.out HFS.out.few (HFI.out.2.1.2.cel (Cel.ofBelow hW)) (by rw [HR12.out.1]; exact HPJ1.out.2.2.1) (by rw [HR12.out.1]; exact Nat.le_trans HPJ1.out.2.2.2.1 (by omega));rw [HR12.out.1,HPJ1.out.2.1,← HRE.out] at h1;exact h1
   have HCB : Hid (∀ W,Below wc.heap.size wc W → Blk W b0 #[.string sn,.slice ma mn mc,.slice ea en ec,.slice ta tn tc] 26 ∧ Blk W b #[.int .i64 K2,.int .i64 N2,.string S2,.slice a1 n1 c1,.slice a2 n2 c2] 30) := fun W hW => ⟨HBB.out.1.below (HW8.out.2.trans (hW.mono HW8.out.2.size)),HFI.out.1.below hW⟩
   go_upto_region 10 with fail
   go_cut [13,14] from 56 to 63 (fun pv bv wx => ∃ (b9 : Nat) (y1 y2 : Option Addr) (m1 d1 m2 d2 : Nat),pv = .pointer (some ⟨b9,0,none⟩) ∧ bv = .bool true ∧ Hid (Blk wx b9 #[.int .i64 K2,.int .i64 N2,.string S2,.slice y1 m1 d1,.slice y2 m2 d2] 30 ∧ (TrIn 11 wx (.agg #[.int .i64 K2,.int .i64 N2,.string S2,.slice y1 m1 d1,.slice y2 m2 d2]) R.1 ∧ TrW 11 wx (.agg #[.int .i64 K2,.int .i64 N2,.string S2,.slice y1 m1 d1,.slice y2 m2 d2]) R.1) ∧ Below wc.heap.size wc wx))
   case first =>
    refine M_region (T := fun W => Below wc.heap.size wc W) (m := 10) (by kernel_rfl) ?_;have hS : Below wc.heap.size wc wc.drew := (Below.refl _ _).drew;refine M_tk 0 57 (.agg #[.string sn,.slice ma mn mc,.slice ea en ec,.slice ta tn tc]) (fun w' hw' => ?_) hS (bts 11 1) ?_
    ·obtain ⟨HB0,HB1⟩ := HCB.out _ hw'; obtain ⟨f0,f1,f2,f3⟩ := cl4 HB0; go_simp
    refine M_tk 2 59 (.string nm) (fun w' hw' => ?_) hS (bts 11 5) ?_
    ·go_simp
    refine M_tk 3 60 (.agg #[.int .i64 K2,.int .i64 N2,.string S2,.slice a1 n1 c1,.slice a2 n2 c2]) (fun w' hw' => ?_) hS (bts 11 13) ?_
    ·obtain ⟨HB0,HB1⟩ := HCB.out _ hw'; obtain ⟨f0,f1,f2,f3,f4⟩ := cl5 HB1; go_simp
    generalize wc.drew = U0 at *;refine M_fork 1 8 58 13 10 #[.agg #[.string sn,.slice ma mn mc,.slice ea en ec,.slice ta tn tc]] (.pointer (some ⟨U0.heap.size,0,none⟩)) (U0.alloc (Obj.cells #[.int .i64 0,.int .i64 0,.string ⟨#[]⟩,.slice none 0 0,.slice none 0 0] 30)) rfl rfl rfl rfl (by kernel_rfl) (by rfl) (by rfl) (by go_simp) (by go_simp) ?_ (hS.trans ((bra _).mono hS.size)) ?_
    ·skip
     refine (HCS.out U0 hS).mono ?_;rintro ee V1 ⟨sv,rfl,hsv,hbU⟩;have hS0 := hS;have hS : Below wc.heap.size wc V1 := hS0.trans (hbU.mono hS0.size);clear hS0 hbU;refine ⟨_,rfl,hS,?_⟩;simp only [zsA,zsZ,zsS];refine M_fork 4 8 61 13 9 #[sv,.string nm,.agg #[.int .i64 K2,.int .i64 N2,.string S2,.slice a1 n1 c1,.slice a2 n2 c2]] (.pointer (some ⟨V1.heap.size,0,none⟩)) (V1.alloc (Obj.cells #[.int .i64 0,.int .i64 0,.string ⟨#[]⟩,.slice none 0 0,.slice none 0 0] 30)) rfl rfl rfl rfl (by kernel_rfl) (by rfl) (by rfl) (by go_simp) (by go_simp) ?_ (hS.trans ((bra _).mono hS.size)) ?_
     ·skip
      refine (HPC.out sv V1 hS hsv).mono ?_;rintro ee V2 ⟨r4,bs4,rfl,ht4,hap4,hbU⟩
      replace hsv := hsv.below hbU
      obtain ⟨y1,m1,d1,y2,m2,d2,hr4⟩ := ht4.open;rw [HKS.out.1,HKS.out.2.1,HKS.out.2.2] at hr4;subst hr4;rw [HBR.out];clear hsv;have hS0 := hS;have hS : Below wc.heap.size wc V2 := hS0.trans (hbU.mono hS0.size);clear hS0 hbU;refine ⟨_,rfl,hS,?_⟩;simp only [zsA,zsZ,zsS];refine M_tk 5 56 (.tuple #[.agg #[.int .i64 K2,.int .i64 N2,.string S2,.slice y1 m1 d1,.slice y2 m2 d2],.bool true]) (fun w' hw' => ?_) hS (bts 11 63) ?_
      ·go_simp
      refine M_tk 6 62 (.agg #[.int .i64 K2,.int .i64 N2,.string S2,.slice y1 m1 d1,.slice y2 m2 d2]) (fun w' hw' => ?_) hS (bts 11 127) ?_
      ·go_simp
      refine M_tk 7 63 (.bool true) (fun w' hw' => ?_) hS (bts 11 255) ?_
      ·go_simp
      refine M_rn 8 13 (.pointer (some ⟨V2.heap.size,0,none⟩)) (V2.alloc (Obj.cells #[.int .i64 0,.int .i64 0,.string ⟨#[]⟩,.slice none 0 0,.slice none 0 0] 30)) (bts 11 511) rfl (by go_simp) (hS.trans ((bra _).mono hS.size)) ?_;have hbU : Below V2.heap.size V2 (V2.alloc (Obj.cells #[.int .i64 0,.int .i64 0,.string ⟨#[]⟩,.slice none 0 0,.slice none 0 0] 30)) := bra _;obtain ⟨bz,hbz⟩ : ∃ z,V2.heap.size = z := ⟨_,rfl⟩
      have BZ : Blk (V2.alloc (Obj.cells #[.int .i64 0,.int .i64 0,.string ⟨#[]⟩,.slice none 0 0,.slice none 0 0] 30)) bz #[.int .i64 0,.int .i64 0,.string ⟨#[]⟩,.slice none 0 0,.slice none 0 0] 30 := by rw [← hbz]; exact Blk.new V2 _ _
      have GZ : wc.heap.size ≤ bz := by rw [← hbz]; exact hS.size
      have hS0 := hS;have hS : Below wc.heap.size wc (V2.alloc (Obj.cells #[.int .i64 0,.int .i64 0,.string ⟨#[]⟩,.slice none 0 0,.slice none 0 0] 30)) := hS0.trans (hbU.mono hS0.size)
      have hnz : bz ∉ bs4 := fun hc => by have h1 := (hap4.2 _ hc).2; rw [hbz] at h1; omega
      replace ht4 := ht4.sm (Sm.below hbU fun q hq => (hap4.2 q hq).2)
      replace hap4 := hap4.mono hbU.size
      clear hS0 hbU;simp only [zsA,zsZ,zsS]
      try simp only [hbz]
      clear hbz;generalize (V2.alloc (Obj.cells #[.int .i64 0,.int .i64 0,.string ⟨#[]⟩,.slice none 0 0,.slice none 0 0] 30)) = V3 at *;obtain ⟨k0,k1,k2,k3,k4⟩ := cl5 BZ;obtain ⟨z0,z1,z2,z3,z4⟩ := fz5 BZ;have hfin := see_store BZ ht4 hnz hS GZ;refine M_sT 9 (set5 V3 bz 0 (.int .i64 K2) (.int .i64 N2) (.string S2) (.slice y1 m1 d1) (.slice y2 m2 d2)) (bts 11 1023) rfl (by unfold set5; go_simp) hfin.2.2 ?_;clear k0 z0 k1 z1 k2 z2 k3 z3 k4 z4;have HFJ : Hid (Blk (set5 V3 bz 0 (.int .i64 K2) (.int .i64 N2) (.string S2) (.slice y1 m1 d1) (.slice y2 m2 d2)) bz #[.int .i64 K2,.int .i64 N2,.string S2,.slice y1 m1 d1,.slice y2 m2 d2] 30 ∧ (TrIn 11 (set5 V3 bz 0 (.int .i64 K2) (.int .i64 N2) (.string S2) (.slice y1 m1 d1) (.slice y2 m2 d2)) (.agg #[.int .i64 K2,.int .i64 N2,.string S2,.slice y1 m1 d1,.slice y2 m2 d2]) R.1 ∧ TrW 11 (set5 V3 bz 0 (.int .i64 K2) (.int .i64 N2) (.string S2) (.slice y1 m1 d1) (.slice y2 m2 d2)) (.agg #[.int .i64 K2,.int .i64 N2,.string S2,.slice y1 m1 d1,.slice y2 m2 d2]) R.1) ∧ Below wc.heap.size wc (set5 V3 bz 0 (.int .i64 K2) (.int .i64 N2) (.string S2) (.slice y1 m1 d1) (.slice y2 m2 d2))) := hfin;clear hfin hS BZ ht4 hap4 hnz GZ;generalize (set5 V3 bz 0 (.int .i64 K2) (.int .i64 N2) (.string S2) (.slice y1 m1 d1) (.slice y2 m2 d2)) = V9 at *;refine M_rA 10 14 (.bool true) V9 (bts 11 2047) rfl (by go_simp) ?_;simp only [zsA,zsZ,zsS];refine M_done (by kernel_rfl) ?_ _;go_wp2_with fail
      go_meet
      exact ⟨bz,y1,y2,m1,d1,m2,d2,rfl,rfl,HFJ⟩
     ·skip
      have hbU : Below V1.heap.size V1 (V1.alloc (Obj.cells #[.int .i64 0,.int .i64 0,.string ⟨#[]⟩,.slice none 0 0,.slice none 0 0] 30)) := bra _;obtain ⟨bz,hbz⟩ : ∃ z,V1.heap.size = z := ⟨_,rfl⟩
      have BZ : Blk (V1.alloc (Obj.cells #[.int .i64 0,.int .i64 0,.string ⟨#[]⟩,.slice none 0 0,.slice none 0 0] 30)) bz #[.int .i64 0,.int .i64 0,.string ⟨#[]⟩,.slice none 0 0,.slice none 0 0] 30 := by rw [← hbz]; exact Blk.new V1 _ _
      have GZ : wc.heap.size ≤ bz := by rw [← hbz]; exact hS.size
      have hS0 := hS;have hS : Below wc.heap.size wc (V1.alloc (Obj.cells #[.int .i64 0,.int .i64 0,.string ⟨#[]⟩,.slice none 0 0,.slice none 0 0] 30)) := hS0.trans (hbU.mono hS0.size)
      replace hsv := hsv.below hbU
      clear hS0 hbU;simp only [zsA,zsZ,zsS]
      try simp only [hbz]
      clear hbz;generalize (V1.alloc (Obj.cells #[.int .i64 0,.int .i64 0,.string ⟨#[]⟩,.slice none 0 0,.slice none 0 0] 30)) = V4 at *;refine M_cl 4 61 9 #[sv,.string nm,.agg #[.int .i64 K2,.int .i64 N2,.string S2,.slice a1 n1 c1,.slice a2 n2 c2]] (bts 11 287) rfl (fun W => by go_simp) ?_;refine (HPC.out sv V4 hS hsv).mono ?_;rintro ee V5 ⟨r4,bs4,rfl,ht4,hap4,hbU⟩
      have hnz : bz ∉ bs4 := fun hc => by have h1 := (hap4.2 _ hc).1; have h2 := BZ.lt; omega
      replace BZ := BZ.below hbU
      replace hsv := hsv.below hbU
      obtain ⟨y1,m1,d1,y2,m2,d2,hr4⟩ := ht4.open;rw [HKS.out.1,HKS.out.2.1,HKS.out.2.2] at hr4;subst hr4;rw [HBR.out];clear hsv;have hS0 := hS;have hS : Below wc.heap.size wc V5 := hS0.trans (hbU.mono hS0.size);clear hS0 hbU;refine ⟨_,rfl,hS,?_⟩;simp only [zsA,zsZ,zsS];refine M_tk 5 56 (.tuple #[.agg #[.int .i64 K2,.int .i64 N2,.string S2,.slice y1 m1 d1,.slice y2 m2 d2],.bool true]) (fun w' hw' => ?_) hS (bts 11 319) ?_
      ·go_simp
      refine M_tk 6 62 (.agg #[.int .i64 K2,.int .i64 N2,.string S2,.slice y1 m1 d1,.slice y2 m2 d2]) (fun w' hw' => ?_) hS (bts 11 383) ?_
      ·go_simp
      refine M_tk 7 63 (.bool true) (fun w' hw' => ?_) hS (bts 11 511) ?_
      ·go_simp
      obtain ⟨k0,k1,k2,k3,k4⟩ := cl5 BZ;obtain ⟨z0,z1,z2,z3,z4⟩ := fz5 BZ;have hfin := see_store BZ ht4 hnz hS GZ;refine M_sT 9 (set5 V5 bz 0 (.int .i64 K2) (.int .i64 N2) (.string S2) (.slice y1 m1 d1) (.slice y2 m2 d2)) (bts 11 1023) rfl (by unfold set5; go_simp) hfin.2.2 ?_;clear k0 z0 k1 z1 k2 z2 k3 z3 k4 z4;have HFJ : Hid (Blk (set5 V5 bz 0 (.int .i64 K2) (.int .i64 N2) (.string S2) (.slice y1 m1 d1) (.slice y2 m2 d2)) bz #[.int .i64 K2,.int .i64 N2,.string S2,.slice y1 m1 d1,.slice y2 m2 d2] 30 ∧ (TrIn 11 (set5 V5 bz 0 (.int .i64 K2) (.int .i64 N2) (.string S2) (.slice y1 m1 d1) (.slice y2 m2 d2)) (.agg #[.int .i64 K2,.int .i64 N2,.string S2,.slice y1 m1 d1,.slice y2 m2 d2]) R.1 ∧ TrW 11 (set5 V5 bz 0 (.int .i64 K2) (.int .i64 N2) (.string S2) (.slice y1 m1 d1) (.slice y2 m2 d2)) (.agg #[.int .i64 K2,.int .i64 N2,.string S2,.slice y1 m1 d1,.slice y2 m2 d2]) R.1) ∧ Below wc.heap.size wc (set5 V5 bz 0 (.int .i64 K2) (.int .i64 N2) (.string S2) (.slice y1 m1 d1) (.slice y2 m2 d2))) := hfin;clear hfin hS BZ ht4 hap4 hnz GZ;generalize (set5 V5 bz 0 (.int .i64 K2) (.int .i64 N2) (.string S2) (.slice y1 m1 d1) (.slice y2 m2 d2)) = V9 at *;refine M_rA 10 14 (.bool true) V9 (bts 11 2047) rfl (by go_simp) ?_;simp only [zsA,zsZ,zsS];refine M_done (by kernel_rfl) ?_ _;go_wp2_with fail
      go_meet
      exact ⟨bz,y1,y2,m1,d1,m2,d2,rfl,rfl,HFJ⟩
    ·skip
     have hbU : Below U0.heap.size U0 (U0.alloc (Obj.cells #[.int .i64 0,.int .i64 0,.string ⟨#[]⟩,.slice none 0 0,.slice none 0 0] 30)) := bra _;obtain ⟨bz,hbz⟩ : ∃ z,U0.heap.size = z := ⟨_,rfl⟩
     have BZ : Blk (U0.alloc (Obj.cells #[.int .i64 0,.int .i64 0,.string ⟨#[]⟩,.slice none 0 0,.slice none 0 0] 30)) bz #[.int .i64 0,.int .i64 0,.string ⟨#[]⟩,.slice none 0 0,.slice none 0 0] 30 := by rw [← hbz]; exact Blk.new U0 _ _
     have GZ : wc.heap.size ≤ bz := by rw [← hbz]; exact hS.size
     have hS0 := hS;have hS : Below wc.heap.size wc (U0.alloc (Obj.cells #[.int .i64 0,.int .i64 0,.string ⟨#[]⟩,.slice none 0 0,.slice none 0 0] 30)) := hS0.trans (hbU.mono hS0.size);clear hS0 hbU;simp only [zsA,zsZ,zsS]
     try simp only [hbz]
     clear hbz;generalize (U0.alloc (Obj.cells #[.int .i64 0,.int .i64 0,.string ⟨#[]⟩,.slice none 0 0,.slice none 0 0] 30)) = V6 at *;refine M_cl 1 58 10 #[.agg #[.string sn,.slice ma mn mc,.slice ea en ec,.slice ta tn tc]] (bts 11 271) rfl (fun W => by go_simp) ?_;refine (HCS.out V6 hS).mono ?_;rintro ee V7 ⟨sv,rfl,hsv,hbU⟩
     replace BZ := BZ.below hbU
     have hS0 := hS;have hS : Below wc.heap.size wc V7 := hS0.trans (hbU.mono hS0.size);clear hS0 hbU;refine ⟨_,rfl,hS,?_⟩;simp only [zsA,zsZ,zsS];refine M_cl 4 61 9 #[sv,.string nm,.agg #[.int .i64 K2,.int .i64 N2,.string S2,.slice a1 n1 c1,.slice a2 n2 c2]] (bts 11 287) rfl (fun W => by go_simp) ?_;refine (HPC.out sv V7 hS hsv).mono ?_;rintro ee V8 ⟨r4,bs4,rfl,ht4,hap4,hbU⟩
     have hnz : bz ∉ bs4 := fun hc => by have h1 := (hap4.2 _ hc).1; have h2 := BZ.lt; omega
     replace BZ := BZ.below hbU
     replace hsv := hsv.below hbU
     obtain ⟨y1,m1,d1,y2,m2,d2,hr4⟩ := ht4.open;rw [HKS.out.1,HKS.out.2.1,HKS.out.2.2] at hr4;subst hr4;rw [HBR.out];clear hsv;have hS0 := hS;have hS : Below wc.heap.size wc V8 := hS0.trans (hbU.mono hS0.size);clear hS0 hbU;refine ⟨_,rfl,hS,?_⟩;simp only [zsA,zsZ,zsS];refine M_tk 5 56 (.tuple #[.agg #[.int .i64 K2,.int .i64 N2,.string S2,.slice y1 m1 d1,.slice y2 m2 d2],.bool true]) (fun w' hw' => ?_) hS (bts 11 319) ?_
     ·go_simp
     refine M_tk 6 62 (.agg #[.int .i64 K2,.int .i64 N2,.string S2,.slice y1 m1 d1,.slice y2 m2 d2]) (fun w' hw' => ?_) hS (bts 11 383) ?_
     ·go_simp
     refine M_tk 7 63 (.bool true) (fun w' hw' => ?_) hS (bts 11 511) ?_
     ·go_simp
     obtain ⟨k0,k1,k2,k3,k4⟩ := cl5 BZ;obtain ⟨z0,z1,z2,z3,z4⟩ := fz5 BZ;have hfin := see_store BZ ht4 hnz hS GZ;refine M_sT 9 (set5 V8 bz 0 (.int .i64 K2) (.int .i64 N2) (.string S2) (.slice y1 m1 d1) (.slice y2 m2 d2)) (bts 11 1023) rfl (by unfold set5; go_simp) hfin.2.2 ?_;clear k0 z0 k1 z1 k2 z2 k3 z3 k4 z4;have HFJ : Hid (Blk (set5 V8 bz 0 (.int .i64 K2) (.int .i64 N2) (.string S2) (.slice y1 m1 d1) (.slice y2 m2 d2)) bz #[.int .i64 K2,.int .i64 N2,.string S2,.slice y1 m1 d1,.slice y2 m2 d2] 30 ∧ (TrIn 11 (set5 V8 bz 0 (.int .i64 K2) (.int .i64 N2) (.string S2) (.slice y1 m1 d1) (.slice y2 m2 d2)) (.agg #[.int .i64 K2,.int .i64 N2,.string S2,.slice y1 m1 d1,.slice y2 m2 d2]) R.1 ∧ TrW 11 (set5 V8 bz 0 (.int .i64 K2) (.int .i64 N2) (.string S2) (.slice y1 m1 d1) (.slice y2 m2 d2)) (.agg #[.int .i64 K2,.int .i64 N2,.string S2,.slice y1 m1 d1,.slice y2 m2 d2]) R.1) ∧ Below wc.heap.size wc (set5 V8 bz 0 (.int .i64 K2) (.int .i64 N2) (.string S2) (.slice y1 m1 d1) (.slice y2 m2 d2))) := hfin;clear hfin hS BZ ht4 hap4 hnz GZ;generalize (set5 V8 bz 0 (.int .i64 K2) (.int .i64 N2) (.string S2) (.slice y1 m1 d1) (.slice y2 m2 d2)) = V9 at *;refine M_rA 10 14 (.bool true) V9 (bts 11 2047) rfl (by go_simp) ?_;simp only [zsA,zsZ,zsS];refine M_done (by kernel_rfl) ?_ _;go_wp2_with fail
     go_meet
     exact ⟨bz,y1,y2,m1,d1,m2,d2,rfl,rfl,HFJ⟩
   case rest =>
    obtain ⟨b9,y1,y2,m1,d1,m2,d2,rfl,rfl,HFJ⟩ := hcut;have hn2 : R.1.rest.length = n2 := (HFI.out.2.1.2.parts).2.2.2.2
    have hn0 : n2 = 0 := by rw [← hn2,HR12.out.1,HPJ1.out.2.2.2.2]; rfl
    subst hn0;have BTc := HFI.out.1.below HFJ.out.2.2;have BUc := HFJ.out.1;have hbwc : Below w.heap.size w wc := HW8.out.1.trans (HFJ.out.2.2.mono HW8.out.1.size);have HSM2 : Hid (∀ W,Below wc.heap.size wc W → Calls Tryz.prog 12 #[.agg #[.int .i64 K2,.int .i64 N2,.string S2,.slice a1 n1 c1,.slice a2 0 c2],.agg #[.int .i64 K2,.int .i64 N2,.string S2,.slice y1 m1 d1,.slice y2 m2 d2]] W fun e w' => e = .returned (.bool true) ∧ Below W.heap.size W w') := fun W hW => rsame_eq (HFI.out.2.1.1.below (HFJ.out.2.2.trans (hW.mono HFJ.out.2.2.size))) (HFJ.out.2.1.1.below hW)
    obtain ⟨f0,f1,f2,f3,f4⟩ := cl5 BTc;obtain ⟨k0,k1,k2,k3,k4⟩ := cl5 BUc;clear hn2 HCS HPC HCB HPJ';go_wp2_with fail;refine (HSM2.out _ (Below.refl _ _)).mono ?_;rintro e w9 ⟨rfl,hb9⟩;have hbw9 : Below w.heap.size w w9 := hbwc.trans (hb9.mono hbwc.size);have BT9 := BTc.below hb9;clear hb9 hbwc BTc BUc HSM2 f0 f1 f2 f3 f4 k0 k1 k2 k3 k4;have f4 := (BT9.cell 4).trans rfl;clear BT9;go_wp2_with fail;refine (pjawake_any _).mono ?_;rintro e wz ⟨rfl,hbz⟩;have hbwz : Below w.heap.size w wz := hbw9.trans (hbz.mono hbw9.size);clear hbz;go_wp2_with fail;go_ret;exact ⟨rfl,hbwz⟩
end Go.Proofs.YtmgbhicogmclgaaGreat

/- Part 20 of what the proof stands on. -/
import Derived.Test.YtmgbhicogmclgaaPkDAS
namespace Go.Proofs.Ytmgbhicogmclgaa
set_option maxHeartbeats 8000000
set_option linter.unusedVariables false
set_option linter.unusedSimpArgs false
set_option maxRecDepth 20000
open Go.ChangeShapes Go.WideShapes Go.ChangeAt Go.RowKit
theorem typeB_kind {mn en : List ByteArray} {k : Int} {t : ByteArray} (h : typeB mn en k t = true) : 1 ≤ k ∧ k ≤ 7 := by
 unfold typeB at h
 by_cases h1 : 1 ≤ k ∧ k ≤ 7
 ·exact h1
 ·exfalso
  revert h
  simp
  intros
  omega
theorem ok_kinds {s : ScS} (h : OkS s) : ∀ m ∈ s.msgs,∀ f ∈ m.fields,1 ≤ f.kind ∧ f.kind ≤ 7 := fun m hm f hf => typeB_kind ((h.msgs m hm).2.2.2.2.1 f hf).1.2.2.2
theorem row_sliceD {w : World} {v : Value} {size : Nat} {rs : List (List Value)} (h : RowG w v size rs) : ∃ a n c,v = .slice a n c := by
 obtain ⟨a,c,h,_⟩ := h.form;exact ⟨a,_,c,h⟩
theorem projectDrops_walk (v : Value) (s : ScS) (which field : Int) (la : Option Addr) (L lc : Nat) (zs : List Int) (w : World) (hr : ScIn w v s) (hw : ScW s) (g1 : (Lit.int .i64 which).wf = true) (g2 : (Lit.int .i64 field).wf = true) (hI : IsRow .i64 w la L lc zs) (hcap : lc * Try.prog.bytesOf 3 ≤ 140737488351232) :
  Calls Try.prog 5 #[v,.int .i64 which,.int .i64 field,.slice la L lc] w fun e w' => e = .returned (.bool true) ∧ Below w.heap.size w w' := by
 have HPJ : ProjC := project_any;have HPJ' : Hid ProjC := HPJ;clear HPJ;obtain ⟨i1,i2⟩ := bounds_i64 g1;obtain ⟨i3,i4⟩ := bounds_i64 g2;clear g2;obtain ⟨hRl,hLl⟩ := hI.rowG;have HRL : Hid (RowG w (.slice la L lc) 1 (inRows (zs.take L)) ∧ (zs.take L).length = L) := ⟨hRl,hLl⟩;have hs' := hr;obtain ⟨vm,ve,vt,rfl,hms,hen,hmt⟩ := hr;obtain ⟨ma,mc,rfl,hmc1,hmc2, -⟩ := hms.open;obtain ⟨ea,ec,rfl, -⟩ := hen.open;obtain ⟨ta,tn,tc,rfl⟩ := row_sliceD hmt;obtain ⟨mn,hmn⟩ : ∃ z,s.msgs.length = z := ⟨_,rfl⟩;obtain ⟨en,hen'⟩ : ∃ z,s.enums.length = z := ⟨_,rfl⟩;obtain ⟨sn,hsn⟩ : ∃ z,s.name = z := ⟨_,rfl⟩;rw [hmn,hen',hsn] at hs' ⊢;rw [hmn] at hmc1 hms;unfold maxLen at hmc2;have HMN : Hid (s.msgs.length = mn) := hmn;have HSN : Hid (s.name = sn) := hsn;have HSC : Hid (ScIn w (.agg #[.string sn,.slice ma mn mc,.slice ea en ec,.slice ta tn tc]) s) := hs';have HMS : Hid (MsIn w (.slice ma mn mc) s.msgs) := hms;have HSW : Hid (ScW s) := hw;have al : Below w.heap.size w (w.alloc (Obj.cells #[.string sn,.slice ma mn mc,.slice ea en ec,.slice ta tn tc] 26)) := (Below.refl _ _).alloc (Nat.le_refl _) _;have BS : Blk (w.alloc (Obj.cells #[.string sn,.slice ma mn mc,.slice ea en ec,.slice ta tn tc] 26)) w.heap.size #[.string sn,.slice ma mn mc,.slice ea en ec,.slice ta tn tc] 26 := Blk.new w _ _;have HFW : Hid (Calls Try.prog 7 #[.agg #[.string sn,.slice ma mn mc,.slice ea en ec,.slice ta tn tc]] (w.alloc (Obj.cells #[.string sn,.slice ma mn mc,.slice ea en ec,.slice ta tn tc] 26)) fun e w' => FewP s e ∧ Below (w.alloc (Obj.cells #[.string sn,.slice ma mn mc,.slice ea en ec,.slice ta tn tc] 26)).heap.size (w.alloc (Obj.cells #[.string sn,.slice ma mn mc,.slice ea en ec,.slice ta tn tc] 26)) w') := few_any (hs'.below al) hw;clear hRl hLl hI hcap hs' hms hen hmt hmn hen' hsn hw g1
 go_enter Try.func5,Try.ntmps5
 go_wp2_with fail;refine HFW.out.mono ?_;rintro e w2 ⟨hfw,hb2⟩;have hbw2 : Below w.heap.size w w2 := al.trans (hb2.mono al.size);have BS2 := BS.below hb2;clear hb2 al BS HFW
 rcases hfw with rfl | ⟨rfl,hfs⟩
 ·clear BS2;go_wp2_with fail;refine (pjawake_any _).mono ?_;rintro e wz ⟨rfl,hbz⟩;have hbwz : Below w.heap.size w wz := hbw2.trans (hbz.mono hbw2.size);clear hbz;go_wp2_with fail;go_ret;exact ⟨rfl,hbwz⟩
 have HFS : Hid (FewS s) := hfs;have HRK : Hid (Calls Try.prog 16 #[.agg #[.string sn,.slice ma mn mc,.slice ea en ec,.slice ta tn tc]] w2 fun e w' => e = .returned (.int .i64 (checkA s)) ∧ Below w2.heap.size w2 w') := rcheck_any (HSC.out.below hbw2) hfs;have s0 := (BS2.cell 0).trans rfl;have s1 := (BS2.cell 1).trans rfl;have s2 := (BS2.cell 2).trans rfl;have s3 := (BS2.cell 3).trans rfl;clear hfs;go_wp2_with fail;refine HRK.out.mono ?_;rintro e w3 ⟨rfl,hb3⟩;have hbw3 : Below w.heap.size w w3 := hbw2.trans (hb3.mono hbw2.size);have BS3 := BS2.below hb3;clear hb3 hbw2 BS2 HRK s0 s1 s2 s3;obtain ⟨A,hA⟩ : ∃ z,checkA s = z := ⟨_,rfl⟩;have HA : Hid (checkA s = A) := hA;rw [hA];clear hA
 by_cases hA0 : A = 0
 rotate_left
 ·have d : (A != 0) = true := by simpa using hA0
  clear hA0 BS3;go_wp2_with fail;refine (pjawake_any _).mono ?_;rintro e wz ⟨rfl,hbz⟩;have hbwz : Below w.heap.size w wz := hbw3.trans (hbz.mono hbw3.size);clear hbz;go_wp2_with fail;go_ret;exact ⟨rfl,hbwz⟩
 subst hA0;have HOK : Hid (OkS s) := (checkA_ok s).1 HA.out
 by_cases hL2 : 200 < L
 ·have d : decide (200 < (L : Int)) = true := by simp; omega
  clear BS3;go_wp2_with fail;refine (pjawake_any _).mono ?_;rintro e wz ⟨rfl,hbz⟩;have hbwz : Below w.heap.size w wz := hbw3.trans (hbz.mono hbw3.size);clear hbz;go_wp2_with fail;go_ret;exact ⟨rfl,hbwz⟩
 have d : decide (200 < (L : Int)) = false := by simp; omega
 have hmn1 : 0 < mn := by have := HOK.out.some; rw [HMN.out] at this; exact this
 have hmn2 : mn ≤ 14 := by have := HFS.out.msgs; rw [HMN.out] at this; exact this
 obtain ⟨hp1,hp2⟩ := placeI_in which (mn : Int) (by omega);obtain ⟨k,hk⟩ : ∃ z : Nat,placeI which (mn : Int) = (z : Int) := ⟨(placeI which (mn : Int)).toNat,by omega⟩
 have hkm : k < mn := by omega
 have HPL : Hid (∀ W,Calls Try.prog 17 #[.int .i64 which,.int .i64 (mn : Int)] W fun e w1 => e = .returned (.int .i64 (k : Int)) ∧ w1 = W) := fun W => by
  have h1 := place_is which (mn : Int) i1 i2 (by omega) (by omega) W;rw [hk] at h1;exact h1
 obtain ⟨m,hm⟩ : ∃ x,s.msgs[k]? = some x := ⟨_,List.getElem?_eq_getElem (by rw [HMN.out]; exact hkm)⟩;have HM : Hid (s.msgs[k]? = some m) := hm;clear hk hp1 hp2 i1 i2 hm
 have HSCC : Hid (Calls Try.prog 11 #[.agg #[.string sn,.slice ma mn mc,.slice ea en ec,.slice ta tn tc]] w3 fun e w' => ∃ vm ve vt pm pe,e = .returned (.agg #[.string sn,vm,ve,vt]) ∧ MsO w' w3.heap.size vm s.msgs pm ∧ EnO w' w3.heap.size ve s.enums pe ∧ w'.ownsRow w3.heap.size 67 3 vt s.methods.length (mtRows s.methods).flatten ∧ Below w3.heap.size w3 w') := (by
  have h1 := schema_any (HSC.out.below hbw3) HFS.out.few;rw [HSN.out] at h1
  exact h1 : Calls Try.prog _ _ _ _)
 have s0 := (BS3.cell 0).trans rfl;have s1 := (BS3.cell 1).trans rfl;have s2 := (BS3.cell 2).trans rfl;have s3 := (BS3.cell 3).trans rfl;go_wp2_with fail;refine HSCC.out.mono ?_;rintro e w4 ⟨vm,ve,vt,pm,pe,rfl,hMs,hEn,hMt,hb4⟩;have BS4 := BS3.below hb4;have hbw4 : Below w.heap.size w w4 := hbw3.trans (hb4.mono hbw3.size);have hlt3 : w.heap.size < w3.heap.size := BS3.lt;clear BS3 hbw3 HSCC s0 s1 s2 s3;obtain ⟨p,hp⟩ : ∃ p,pm[k]? = some p := ⟨_,List.getElem?_eq_getElem (by rw [hMs.len,HMN.out]; exact hkm)⟩
 obtain ⟨gm,cm,rfl,hgm,hgm4⟩ : ∃ gm cm,vm = .slice (some ⟨gm,0,none⟩) mn cm ∧ w3.heap.size ≤ gm ∧ gm < w4.heap.size := by
  rcases hMs.own.2 with ⟨e,h0⟩ | ⟨q,cap',cur,e,h2,h3,_⟩
  ·rw [HMN.out] at h0; omega
  ·rw [HMN.out] at e; exact ⟨q,cap',e,h2,(Array.getElem?_eq_some_iff.1 h3).1⟩
 obtain ⟨ae,me,ce,rfl⟩ : ∃ a n c,ve = .slice a n c := by
  obtain ⟨a,c,e⟩ := own_form hEn.own;exact ⟨a,_,c,e⟩
 obtain ⟨at',mt,ct,rfl⟩ : ∃ a n c,vt = .slice a n c := by
  obtain ⟨a,c,e⟩ := own_form hMt;exact ⟨a,_,c,e⟩
 have al5 : Below w4.heap.size w4 (w4.alloc (Obj.cells #[.string sn,.slice (some ⟨gm,0,none⟩) mn cm,.slice ae me ce,.slice at' mt ct] 26)) := (Below.refl _ _).alloc (Nat.le_refl _) _;have hbw5 : Below w.heap.size w (w4.alloc (Obj.cells #[.string sn,.slice (some ⟨gm,0,none⟩) mn cm,.slice ae me ce,.slice at' mt ct] 26)) := hbw4.trans (al5.mono hbw4.size);have BS5 := BS4.below al5;have BC5 : Blk (w4.alloc (Obj.cells #[.string sn,.slice (some ⟨gm,0,none⟩) mn cm,.slice ae me ce,.slice at' mt ct] 26)) w4.heap.size #[.string sn,.slice (some ⟨gm,0,none⟩) mn cm,.slice ae me ce,.slice at' mt ct] 26 := Blk.new w4 _ _;have HMO : Hid (MsO (w4.alloc (Obj.cells #[.string sn,.slice (some ⟨gm,0,none⟩) mn cm,.slice ae me ce,.slice at' mt ct] 26)) w3.heap.size (.slice (some ⟨gm,0,none⟩) mn cm) s.msgs pm ∧ EnO (w4.alloc (Obj.cells #[.string sn,.slice (some ⟨gm,0,none⟩) mn cm,.slice ae me ce,.slice at' mt ct] 26)) w3.heap.size (.slice ae me ce) s.enums pe ∧ ((w4.alloc (Obj.cells #[.string sn,.slice (some ⟨gm,0,none⟩) mn cm,.slice ae me ce,.slice at' mt ct] 26))).ownsRow w3.heap.size 67 3 (.slice at' mt ct) s.methods.length (mtRows s.methods).flatten) := ⟨hMs.below al5,hEn.below al5,own_below hMt al5⟩
 have hg5 : gm < ((w4.alloc (Obj.cells #[.string sn,.slice (some ⟨gm,0,none⟩) mn cm,.slice ae me ce,.slice at' mt ct] 26))).heap.size := by
  rcases HMO.out.1.own.2 with ⟨e,h0⟩ | ⟨q,cap',cur,e,h2,h3,_⟩
  ·cases e
  ·simp only [Value.slice.injEq,Option.some.injEq,Addr.mk.injEq] at e;obtain ⟨⟨rfl, -⟩, -⟩ := e;exact (Array.getElem?_eq_some_iff.1 h3).1
 have HP : Hid (pm[k]? = some p) := hp;have hlt4 : w.heap.size < w4.heap.size := BS4.lt;clear hMs hEn hMt hp al5 BS4 hbw4 hb4;have q1 := (BS5.cell 1).trans rfl;go_wp2_with fail;refine (HPL.out _).mono ?_;rintro e w6 ⟨rfl,rfl⟩;clear HPL;obtain ⟨b0,hb0⟩ : ∃ z,w.heap.size = z := ⟨_,rfl⟩;have HBZ : Hid (w.heap.size = b0) := hb0;obtain ⟨gc,hgc⟩ : ∃ z,w4.heap.size = z := ⟨_,rfl⟩;obtain ⟨B3,hB3⟩ : ∃ z,w3.heap.size = z := ⟨_,rfl⟩;rw [hb0] at BS5 q1;rw [hgc] at BC5 hgm4;rw [hb0,hB3] at hlt3;rw [hB3] at HMO hgm
 have hbc : b0 < gc := by
  rw [← hgc,← hb0];exact hlt4
 try simp only [hb0]
 try simp only [hgc]
 clear hb0 hgc hB3;generalize (w4.alloc (Obj.cells #[.string sn,.slice (some ⟨gm,0,none⟩) mn cm,.slice ae me ce,.slice at' mt ct] 26)) = W5 at *;have HCB : Hid (Blk W5 b0 #[.string sn,.slice ma mn mc,.slice ea en ec,.slice ta tn tc] 26 ∧ Blk W5 gc #[.string sn,.slice (some ⟨gm,0,none⟩) mn cm,.slice ae me ce,.slice at' mt ct] 26 ∧ Below w.heap.size w W5) := ⟨BS5,BC5,hbw5⟩;obtain ⟨gm',om,e9,cm9⟩ := (RowG.own (ms_len s.msgs pm) (by decide) HMO.out.1.own).1.get (ms_get HM.out HP.out);simp only [Option.some.injEq,Addr.mk.injEq,and_true] at e9;obtain ⟨rfl,rfl⟩ := e9;have m0 := cm9 0 _ rfl;have m1 := cm9 1 _ rfl;have m2 := cm9 2 _ rfl;simp only [Nat.zero_add,Nat.add_zero] at m0 m1 m2;obtain ⟨hof,hor⟩ := HMO.out.1.each k m p HM.out HP.out;obtain ⟨af,cf,hpf⟩ := own_form hof;obtain ⟨nf,hnf⟩ : ∃ z,m.fields.length = z := ⟨_,rfl⟩;rw [hnf] at hpf hof;rw [hpf] at m1 hof;have HNF : Hid (m.fields.length = nf) := hnf;have HMF : Hid (W5.ownsRow B3 54 5 (.slice af nf cf) nf (flRows m.fields).flatten) := hof
 have hnf20 : nf ≤ 20 := by rw [← hnf]; exact (HFS.out.few.flds m (List.mem_of_getElem? HM.out)).1
 obtain ⟨mnm,hmnm⟩ : ∃ z,m.name = z := ⟨_,rfl⟩;rw [hmnm] at m0;have HNM : Hid (m.name = mnm) := hmnm;have c1 := (BC5.cell 1).trans rfl;clear cm9 hof hor hnf hpf hmnm BS5 BC5 q1
 by_cases hn0 : nf = 0
 ·have d : ((nf : Int) == 0) = true := by simp; omega
  subst hn0;go_wp2_with fail;refine (pjawake_any _).mono ?_;rintro e wz ⟨rfl,hbz⟩;have hbwz : Below w.heap.size w wz := hbw5.trans (hbz.mono hbw5.size);clear hbz;go_wp2_with fail;go_ret;exact ⟨rfl,hbwz⟩
 have d : ((nf : Int) == 0) = false := by simp; omega
 obtain ⟨hp3,hp4⟩ := placeI_in field (nf : Int) (by omega);obtain ⟨j,hj⟩ : ∃ z : Nat,placeI field (nf : Int) = (z : Int) := ⟨(placeI field (nf : Int)).toNat,by omega⟩
 have hjn : j < nf := by omega
 have HPL : Hid (∀ W,Calls Try.prog 17 #[.int .i64 field,.int .i64 (nf : Int)] W fun e w1 => e = .returned (.int .i64 (j : Int)) ∧ w1 = W) := fun W => by
  have h1 := place_is field (nf : Int) i3 i4 (by omega) (by omega) W;rw [hj] at h1;exact h1
 obtain ⟨f,hf⟩ : ∃ x,m.fields[j]? = some x := ⟨_,List.getElem?_eq_getElem (by rw [HNF.out]; exact hjn)⟩;have HF : Hid (m.fields[j]? = some f) := hf;obtain ⟨gf,of',rfl,cf9⟩ := (RowG.own (fl_len m.fields) (by decide) HMF.out).1.get (show (flRows m.fields)[j]? = some f.cells by simp [flRows,hf])
 obtain rfl : of' = 0 := by
  rcases HMF.out.2 with ⟨e,h0⟩ | ⟨q,cap',cur,e,_⟩
  ·cases e
  ·simp only [Value.slice.injEq,Option.some.injEq,Addr.mk.injEq] at e;exact e.1.2.1
 have ft := cf9 1 _ rfl;simp only [Nat.zero_add] at ft;obtain ⟨GT,hGT⟩ : ∃ z,f.tag = z := ⟨_,rfl⟩;have HGT : Hid (f.tag = GT) := hGT;rw [hGT] at ft;have HM1 : Hid (W5.cell? ⟨gm,k * 3,none⟩ = some (.string mnm) ∧ W5.cell? ⟨gm,k * 3 + 1,none⟩ = some (.slice (some ⟨gf,0,none⟩) nf cf) ∧ W5.cell? ⟨gm,k * 3 + 2,none⟩ = some p.2) := ⟨m0,m1,m2⟩;clear hj hp3 hp4 i3 i4 hf cf9 hGT hn0;go_wp2_with fail;refine (HPL.out _).mono ?_;rintro e w6 ⟨rfl,rfl⟩;clear HPL
 go_upto_region 10 with fail
 clear m0 m1 m2 ft c1 d
 have HNO0 : Hid (∀ x ∈ s.msgs.take 0,∀ f ∈ x.fields,¬ (f.kind = 7 ∧ f.tname = mnm)) := fun x hx => by simp at hx
 have HB0 : Hid (Below w6.heap.size w6 w6) := Below.refl _ _;go_wp2_with fail
 go_loopw [14] (fun iv wr => ∃ i : Nat,iv = .int .i64 (i : Int) ∧ i ≤ mn ∧ Hid (∀ x ∈ s.msgs.take i,∀ f ∈ x.fields,¬ (f.kind = 7 ∧ f.tname = mnm)) ∧ Hid (Below w6.heap.size w6 wr)) (fun iv _ => mn - (intOf iv).toNat)
 case atStart => exact ⟨0,rfl,by omega,HNO0,HB0⟩
 case round =>
  clear HNO0 HB0;obtain ⟨i,rfl,hi,HNO,HBI⟩ := hrel;have q1 := ((HCB.out.1.below HBI.out).cell 1).trans rfl
  by_cases hlt : i < mn
  ·obtain ⟨x,hx⟩ : ∃ x,s.msgs[i]? = some x := ⟨_,List.getElem?_eq_getElem (by rw [HMN.out]; exact hlt)⟩;have HX : Hid (s.msgs[i]? = some x) := hx;obtain ⟨gs,os,vf,vr,rfl,c0,c1,c2,hrf,hrr⟩ := HMS.out.get hx;obtain ⟨ax,cx,hvf, -⟩ := hrf.form;obtain ⟨nx,hnx⟩ : ∃ z,(flRows x.fields).length = z := ⟨_,rfl⟩;rw [hnx] at hvf;subst hvf;have HNX : Hid (x.fields.length = nx) := (by rw [← hnx]; simp [flRows] : _ = _);have HRF : Hid (RowG w (.slice ax nx cx) 5 (flRows x.fields)) := hrf;have HC1 : Hid (w.cell? ⟨gs,os + i * 3 + 1,none⟩ = some (.slice ax nx cx)) := c1;have hbw : Below w.heap.size w wr := HCB.out.2.2.trans (HBI.out.mono HCB.out.2.2.size);have x1 := (hbw.cell (World.block_lt_of_cell? _ _ c1)).trans c1
   have hnx20 : nx ≤ 20 := by rw [← HNX.out]; exact (HFS.out.few.flds x (List.mem_of_getElem? hx)).1
   clear hx c0 c1 c2 hrf hrr hnx hbw
   have HNQ0 : Hid (∀ f ∈ x.fields.take 0,¬ (f.kind = 7 ∧ f.tname = mnm)) := fun f hf => by simp at hf
   go_wp2_with fail
   go_loopw [15] (fun qv wz => ∃ q : Nat,qv = .int .i64 (q : Int) ∧ q ≤ nx ∧ Hid (∀ f ∈ x.fields.take q,¬ (f.kind = 7 ∧ f.tname = mnm)) ∧ Hid (Below w6.heap.size w6 wz)) (fun qv _ => nx - (intOf qv).toNat)
   case atStart => exact ⟨0,rfl,by omega,HNQ0,HBI⟩
   case round =>
    clear HNQ0 HBI q1 x1;obtain ⟨q,rfl,hq,HNQ,HBQ⟩ := hrel;have hbw : Below w.heap.size w wr := HCB.out.2.2.trans (HBQ.out.mono HCB.out.2.2.size);have q1 := ((HCB.out.1.below HBQ.out).cell 1).trans rfl;have x1 := (hbw.cell (World.block_lt_of_cell? _ _ HC1.out)).trans HC1.out
    by_cases hlt2 : q < nx
    ·obtain ⟨y,hy⟩ : ∃ y,x.fields[q]? = some y := ⟨_,List.getElem?_eq_getElem (by rw [HNX.out]; exact hlt2)⟩;have HY : Hid (x.fields[q]? = some y) := hy;obtain ⟨gx,ox,rfl,cy⟩ := HRF.out.get (show (flRows x.fields)[q]? = some y.cells by simp [flRows,hy]);obtain ⟨y1,y2,y3,y4,y5⟩ := y;have z3 := cy 3 _ rfl;have z4 := cy 4 _ rfl;have w3' := (hbw.cell (World.block_lt_of_cell? _ _ z3)).trans z3;have w4' := (hbw.cell (World.block_lt_of_cell? _ _ z4)).trans z4;have n0 := (HBQ.out.cell (World.block_lt_of_cell? _ _ HM1.out.1)).trans HM1.out.1;have k1 := kept_cellW q1;have k2 := kept_cellW x1;have k3 := kept_cellW w3';have k4 := kept_cellW w4';have k5 := kept_cellW n0;clear hy cy z3 z4 w3' w4' n0 hbw
     by_cases h7 : y4 = 7 ∧ y5 = mnm
     ·obtain ⟨rfl,h75⟩ := h7;subst h75
      go_upto_region 16 with fail
      clear q1 x1
      haveI := nonempty_qb (Below.refl wr.heap.size wr)
      refine wp_region_qb (Below.refl wr.heap.size wr) (by kernel_rfl) (by kernel_rfl) ?_
      repeat (go_big_quiet_step (fail))
      refine wpQuiet_nil ?_;rintro W1 ⟨⟨_,hW1⟩,rfl⟩;have hbw1 : Below w.heap.size w W1 := HCB.out.2.2.trans ((HBQ.out.trans (hW1.mono HBQ.out.size)).mono HCB.out.2.2.size);clear k1 k2 k3 k4 k5 hW1;go_wp2_with fail;refine (pjawake_any _).mono ?_;rintro e wz ⟨rfl,hbz⟩;have hbwz : Below w.heap.size w wz := hbw1.trans (hbz.mono hbw1.size);clear hbz;go_wp2_with fail;go_ret;exact ⟨rfl,hbwz⟩
     ·have HY7 : Hid (¬ (y4 = 7 ∧ y5 = mnm)) := h7
      have HNQ2 : Hid (∀ f ∈ x.fields.take (q + 1),¬ (f.kind = 7 ∧ f.tname = mnm)) := fun f hf => by
       rw [take_atC HY.out] at hf
       rcases List.mem_append.1 hf with hf | hf
       ·exact HNQ.out f hf
       ·obtain rfl := List.mem_singleton.1 hf;exact HY7.out
      go_upto_region 16 with fail
      clear q1 x1
      by_cases h77 : y4 = 7
      ·subst h77;have h5 : ¬ y5 = mnm := fun e => h7 ⟨rfl,e⟩
       have hl5 : ¬ y5.toList = mnm.toList := fun e => h5 (toList_ext e)
       clear h7;have HCQ : Hid (∀ W,Below wr.heap.size wr W → W.cell? ⟨b0,1,none⟩ = some (.slice (some ⟨gs,os,none⟩) mn mc) ∧ W.cell? ⟨gs,os + i * 3 + 1,none⟩ = some (.slice (some ⟨gx,ox,none⟩) nx cx) ∧ W.cell? ⟨gx,ox + q * 5 + 3,none⟩ = some (.int .i64 7) ∧ W.cell? ⟨gx,ox + q * 5 + 4,none⟩ = some (.string y5) ∧ W.cell? ⟨gm,k * 3,none⟩ = some (.string mnm)) := fun W hW => ⟨k1 ⟨W,hW⟩,k2 ⟨W,hW⟩,k3 ⟨W,hW⟩,k4 ⟨W,hW⟩,k5 ⟨W,hW⟩⟩
       have hS : Below wr.heap.size wr wr.drew := (Below.refl _ _).drew;refine wp_region_held_drew (S := fun w' => Below wr.heap.size wr w') (by kernel_rfl) hS (fun hS => ?_);refine rg_take 0 86 (.pointer (some ⟨b0,1,none⟩)) _ rfl rfl (by kernel_rfl) (by kernel_rfl) (by kernel_rfl) (fun _ _ _ h => h) (by rfl) (fun w' hw' => ?_) hS (listed' := bts 16 1) (by kernel_rfl) rfl ?_
       ·go_simp
       simp only [zsA,zsZ,zsS];refine rg_take 1 87 (.slice (some ⟨gs,os,none⟩) mn mc) _ rfl rfl (by kernel_rfl) (by kernel_rfl) (by kernel_rfl) (fun _ _ _ h => h) (by rfl) (fun w' hw' => ?_) hS (listed' := bts 16 3) (by kernel_rfl) rfl ?_
       ·obtain ⟨f1,f2,f3,f4,f5⟩ := HCQ.out _ hw'; go_simp
       simp only [zsA,zsZ,zsS];refine rg_take 2 88 (.int .i64 (i : Int)) _ rfl rfl (by kernel_rfl) (by kernel_rfl) (by kernel_rfl) (fun _ _ _ h => h) (by rfl) (fun w' hw' => ?_) hS (listed' := bts 16 7) (by kernel_rfl) rfl ?_
       ·go_simp
       simp only [zsA,zsZ,zsS];refine rg_take 3 89 (.pointer (some ⟨gs,os + i * 3,none⟩)) _ rfl rfl (by kernel_rfl) (by kernel_rfl) (by kernel_rfl) (fun _ _ _ h => h) (by rfl) (fun w' hw' => ?_) hS (listed' := bts 16 15) (by kernel_rfl) rfl ?_
       ·go_simp
       simp only [zsA,zsZ,zsS];refine rg_take 4 90 (.pointer (some ⟨gs,os + i * 3 + 1,none⟩)) _ rfl rfl (by kernel_rfl) (by kernel_rfl) (by kernel_rfl) (fun _ _ _ h => h) (by rfl) (fun w' hw' => ?_) hS (listed' := bts 16 31) (by kernel_rfl) rfl ?_
       ·go_simp
       simp only [zsA,zsZ,zsS];refine rg_take 5 91 (.slice (some ⟨gx,ox,none⟩) nx cx) _ rfl rfl (by kernel_rfl) (by kernel_rfl) (by kernel_rfl) (fun _ _ _ h => h) (by rfl) (fun w' hw' => ?_) hS (listed' := bts 16 63) (by kernel_rfl) rfl ?_
       ·obtain ⟨f1,f2,f3,f4,f5⟩ := HCQ.out _ hw'; go_simp
       simp only [zsA,zsZ,zsS];refine rg_take 6 92 (.int .i64 (q : Int)) _ rfl rfl (by kernel_rfl) (by kernel_rfl) (by kernel_rfl) (fun _ _ _ h => h) (by rfl) (fun w' hw' => ?_) hS (listed' := bts 16 127) (by kernel_rfl) rfl ?_
       ·go_simp
       simp only [zsA,zsZ,zsS];refine rg_take 7 93 (.pointer (some ⟨gx,ox + q * 5,none⟩)) _ rfl rfl (by kernel_rfl) (by kernel_rfl) (by kernel_rfl) (fun _ _ _ h => h) (by rfl) (fun w' hw' => ?_) hS (listed' := bts 16 255) (by kernel_rfl) rfl ?_
       ·go_simp
       simp only [zsA,zsZ,zsS];refine rg_take 8 94 (.pointer (some ⟨gx,ox + q * 5 + 3,none⟩)) _ rfl rfl (by kernel_rfl) (by kernel_rfl) (by kernel_rfl) (fun _ _ _ h => h) (by rfl) (fun w' hw' => ?_) hS (listed' := bts 16 511) (by kernel_rfl) rfl ?_
       ·go_simp
       simp only [zsA,zsZ,zsS];refine rg_take 9 95 (.agg #[.int .i64 7,.string y5]) _ rfl rfl (by kernel_rfl) (by kernel_rfl) (by kernel_rfl) (fun _ _ _ h => h) (by rfl) (fun w' hw' => ?_) hS (listed' := bts 16 1023) (by kernel_rfl) rfl ?_
       ·obtain ⟨f1,f2,f3,f4,f5⟩ := HCQ.out _ hw'; go_simp
       simp only [zsA,zsZ,zsS];refine rg_take 10 96 (.pointer (some ⟨gm,k * 3,none⟩)) _ rfl rfl (by kernel_rfl) (by kernel_rfl) (by kernel_rfl) (fun _ _ _ h => h) (by rfl) (fun w' hw' => ?_) hS (listed' := bts 16 2047) (by kernel_rfl) rfl ?_
       ·go_simp
       simp only [zsA,zsZ,zsS];refine rg_take 11 97 (.pointer (some ⟨gm,k * 3,none⟩)) _ rfl rfl (by kernel_rfl) (by kernel_rfl) (by kernel_rfl) (fun _ _ _ h => h) (by rfl) (fun w' hw' => ?_) hS (listed' := bts 16 4095) (by kernel_rfl) rfl ?_
       ·go_simp
       simp only [zsA,zsZ,zsS];refine rg_take 12 98 (.pointer (some ⟨gm,k * 3,none⟩)) _ rfl rfl (by kernel_rfl) (by kernel_rfl) (by kernel_rfl) (fun _ _ _ h => h) (by rfl) (fun w' hw' => ?_) hS (listed' := bts 16 8191) (by kernel_rfl) rfl ?_
       ·go_simp
       simp only [zsA,zsZ,zsS];refine rg_take 13 99 (.string mnm) _ rfl rfl (by kernel_rfl) (by kernel_rfl) (by kernel_rfl) (fun _ _ _ h => h) (by rfl) (fun w' hw' => ?_) hS (listed' := bts 16 16383) (by kernel_rfl) rfl ?_
       ·obtain ⟨f1,f2,f3,f4,f5⟩ := HCQ.out _ hw'; go_simp
       simp only [zsA,zsZ,zsS];refine rg_take 14 100 (.agg #[.int .i64 7,.string mnm]) _ rfl rfl (by kernel_rfl) (by kernel_rfl) (by kernel_rfl) (fun _ _ _ h => h) (by rfl) (fun w' hw' => ?_) hS (listed' := bts 16 32767) (by kernel_rfl) rfl ?_
       ·go_simp
       simp only [zsA,zsZ,zsS];refine rg_take 15 101 (.bool false) _ rfl rfl (by kernel_rfl) (by kernel_rfl) (by kernel_rfl) (fun _ _ _ h => h) (by rfl) (fun w' hw' => ?_) hS (listed' := bts 16 65535) (by kernel_rfl) rfl ?_
       ·go_simp
       simp only [zsA,zsZ,zsS];refine wpAnyH_done (by kernel_rfl) ?_ _;generalize wr.drew = W1 at *;have hW1 := hS;clear hS HCQ;have HB2 : Hid (Below w6.heap.size w6 W1) := HBQ.out.trans (hW1.mono HBQ.out.size);clear k1 k2 k3 k4 k5 hW1;go_wp2_with fail
       go_roundw
       case rel => exact ⟨q + 1,by go_num,by omega,HNQ2,HB2⟩
       case measure => simp [intOf]; omega
      ·have d4 : (y4 == 7) = false := by simpa using h77
       clear h7 h77
       haveI := nonempty_qb (Below.refl wr.heap.size wr)
       refine wp_region_qb (Below.refl wr.heap.size wr) (by kernel_rfl) (by kernel_rfl) ?_
       repeat (go_big_quiet_step (fail))
       refine wpQuiet_nil ?_;rintro W1 ⟨⟨_,hW1⟩,rfl⟩;have HB2 : Hid (Below w6.heap.size w6 W1) := HBQ.out.trans (hW1.mono HBQ.out.size);clear k1 k2 k3 k4 k5 hW1;go_wp2_with fail
       go_roundw
       case rel => exact ⟨q + 1,by go_num,by omega,HNQ2,HB2⟩
       case measure => simp [intOf]; omega
    ·obtain rfl : q = nx := by omega
     have HNO2 : Hid (∀ x ∈ s.msgs.take (i + 1),∀ f ∈ x.fields,¬ (f.kind = 7 ∧ f.tname = mnm)) := fun x' hx' f hf => by
      rw [take_atC HX.out] at hx'
      rcases List.mem_append.1 hx' with hx' | hx'
      ·exact HNO.out x' hx' f hf
      ·obtain rfl := List.mem_singleton.1 hx';refine HNQ.out f ?_;rw [List.take_of_length_le (by rw [HNX.out]; exact Nat.le_refl _)];exact hf
     clear hbw;go_wp2_with fail
     go_roundw
     case rel => exact ⟨i + 1,by go_num,by omega,HNO2,HBQ⟩
     case measure => simp [intOf]; omega
  ·obtain rfl : mn = i := by omega
   have HNX : Hid (∀ x ∈ s.msgs,∀ f ∈ x.fields,f.kind = 7 → f.tname ≠ m.name) := (by
    have h1 := HNO.out;rw [List.take_of_length_le (by rw [HMN.out]; exact Nat.le_refl _)] at h1;intro x hx f hf h7 e
    exact h1 x hx f hf ⟨h7,by rw [e,HNM.out]⟩ : ∀ x ∈ s.msgs,∀ f ∈ x.fields,f.kind = 7 → f.tname ≠ m.name)
   have hgmw : gm < wr.heap.size := Nat.lt_of_lt_of_le hg5 HBI.out.size;have HMO2 : Hid (MsO wr B3 (.slice (some ⟨gm,0,none⟩) mn cm) s.msgs pm ∧ wr.ownsRow B3 54 5 (.slice (some ⟨gf,0,none⟩) nf cf) nf (flRows m.fields).flatten) := ⟨HMO.out.1.below HBI.out,own_below HMF.out HBI.out⟩
   have HMW : Hid (∀ W,Below wr.heap.size wr W → W.cell? ⟨gm,k * 3,none⟩ = some (.string mnm) ∧ W.cell? ⟨gm,k * 3 + 1,none⟩ = some (.slice (some ⟨gf,0,none⟩) nf cf) ∧ W.frozen? ⟨gm,k * 3 + 1,none⟩ = false) := fun W hW => by
    have hb := HBI.out.trans (hW.mono HBI.out.size);obtain ⟨z0,z1, -⟩ := HM1.out;refine ⟨(hb.cell (World.block_lt_of_cell? _ _ z0)).trans z0,(hb.cell (World.block_lt_of_cell? _ _ z1)).trans z1,?_⟩;have h2 := own_below HMO2.out.1.own hW
    rcases h2.2 with ⟨e,_⟩ | ⟨q,cap',cur,e,_,h3,_⟩
    ·cases e
    ·simp only [Value.slice.injEq,Option.some.injEq,Addr.mk.injEq] at e;obtain ⟨⟨rfl, -⟩, -⟩ := e;exact block_froz h3 _
   have hnc : nf ≤ cf ∧ cf ≤ 9223372036854775807 := by
    rcases HMF.out.2 with ⟨e,_⟩ | ⟨q,cap',cur,e,_,_,h4,h5,_⟩
    ·cases e
    ·simp only [Value.slice.injEq,true_and] at e;unfold maxLen at h5
     omega
   have hwj : IntKind.i64.wrap ((j : Int) + 1) = ((j + 1 : Nat) : Int) := by rw [IntKind.wrap_i64]; omega
   obtain ⟨oa,hoa⟩ : ∃ z,(if cf = j + 1 then 0 else (j + 1) * 5) = z := ⟨_,rfl⟩;have HOA : Hid ((if cf = j + 1 then 0 else (j + 1) * 5) = oa) := hoa;clear HNO hoa
   go_upto_region 18 with fail
   clear q1;refine M_region (T := fun W => Below wr.heap.size wr W) (m := 17) (by kernel_rfl) ?_;have hS : Below wr.heap.size wr wr.drew := (Below.refl _ _).drew;refine M_take 0 103 (.pointer (some ⟨gm,k * 3,none⟩)) _ rfl rfl (by kernel_rfl) (by kernel_rfl) (by kernel_rfl) (by kernel_rfl) (by kernel_rfl) (fun _ _ _ h => h) (by rfl) (fun w' hw' => ?_) hS (listed' := bts 19 1) (by kernel_rfl) rfl ?_
   ·go_simp
   simp only [zsA,zsZ,zsS];refine M_take 1 104 (.pointer (some ⟨gm,k * 3,none⟩)) _ rfl rfl (by kernel_rfl) (by kernel_rfl) (by kernel_rfl) (by kernel_rfl) (by kernel_rfl) (fun _ _ _ h => h) (by rfl) (fun w' hw' => ?_) hS (listed' := bts 19 3) (by kernel_rfl) rfl ?_
   ·go_simp
   simp only [zsA,zsZ,zsS];refine M_take 2 105 (.pointer (some ⟨gm,k * 3,none⟩)) _ rfl rfl (by kernel_rfl) (by kernel_rfl) (by kernel_rfl) (by kernel_rfl) (by kernel_rfl) (fun _ _ _ h => h) (by rfl) (fun w' hw' => ?_) hS (listed' := bts 19 7) (by kernel_rfl) rfl ?_
   ·go_simp
   simp only [zsA,zsZ,zsS];refine M_take 3 106 (.pointer (some ⟨gm,k * 3 + 1,none⟩)) _ rfl rfl (by kernel_rfl) (by kernel_rfl) (by kernel_rfl) (by kernel_rfl) (by kernel_rfl) (fun _ _ _ h => h) (by rfl) (fun w' hw' => ?_) hS (listed' := bts 19 15) (by kernel_rfl) rfl ?_
   ·go_simp
   simp only [zsA,zsZ,zsS];refine M_take 4 107 (.slice (some ⟨gf,0,none⟩) nf cf) _ rfl rfl (by kernel_rfl) (by kernel_rfl) (by kernel_rfl) (by kernel_rfl) (by kernel_rfl) (fun _ _ _ h => h) (by rfl) (fun w' hw' => ?_) hS (listed' := bts 19 31) (by kernel_rfl) rfl ?_
   ·obtain ⟨f1,f2,f3⟩ := HMW.out _ hw'; go_simp
   simp only [zsA,zsZ,zsS];refine M_take 5 108 (.int .i64 (j : Int)) _ rfl rfl (by kernel_rfl) (by kernel_rfl) (by kernel_rfl) (by kernel_rfl) (by kernel_rfl) (fun _ _ _ h => h) (by rfl) (fun w' hw' => ?_) hS (listed' := bts 19 63) (by kernel_rfl) rfl ?_
   ·go_simp
   simp only [zsA,zsZ,zsS];refine M_take 6 109 (.slice (some ⟨gf,0,none⟩) j cf) _ rfl rfl (by kernel_rfl) (by kernel_rfl) (by kernel_rfl) (by kernel_rfl) (by kernel_rfl) (fun _ _ _ h => h) (by rfl) (fun w' hw' => ?_) hS (listed' := bts 19 127) (by kernel_rfl) rfl ?_
   ·go_simp; try (intro hq; exfalso; omega)
   simp only [zsA,zsZ,zsS];refine M_take 8 111 (.pointer (some ⟨gm,k * 3,none⟩)) _ rfl rfl (by kernel_rfl) (by kernel_rfl) (by kernel_rfl) (by kernel_rfl) (by kernel_rfl) (fun _ _ _ h => h) (by rfl) (fun w' hw' => ?_) hS (listed' := bts 19 383) (by kernel_rfl) rfl ?_
   ·go_simp
   simp only [zsA,zsZ,zsS];refine M_take 9 112 (.pointer (some ⟨gm,k * 3,none⟩)) _ rfl rfl (by kernel_rfl) (by kernel_rfl) (by kernel_rfl) (by kernel_rfl) (by kernel_rfl) (fun _ _ _ h => h) (by rfl) (fun w' hw' => ?_) hS (listed' := bts 19 895) (by kernel_rfl) rfl ?_
   ·go_simp
   simp only [zsA,zsZ,zsS];refine M_take 10 113 (.pointer (some ⟨gm,k * 3 + 1,none⟩)) _ rfl rfl (by kernel_rfl) (by kernel_rfl) (by kernel_rfl) (by kernel_rfl) (by kernel_rfl) (fun _ _ _ h => h) (by rfl) (fun w' hw' => ?_) hS (listed' := bts 19 1919) (by kernel_rfl) rfl ?_
   ·go_simp
   simp only [zsA,zsZ,zsS];refine M_take 11 114 (.slice (some ⟨gf,0,none⟩) nf cf) _ rfl rfl (by kernel_rfl) (by kernel_rfl) (by kernel_rfl) (by kernel_rfl) (by kernel_rfl) (fun _ _ _ h => h) (by rfl) (fun w' hw' => ?_) hS (listed' := bts 19 3967) (by kernel_rfl) rfl ?_
   ·obtain ⟨f1,f2,f3⟩ := HMW.out _ hw'; go_simp
   simp only [zsA,zsZ,zsS];refine M_take 12 115 (.int .i64 (j : Int)) _ rfl rfl (by kernel_rfl) (by kernel_rfl) (by kernel_rfl) (by kernel_rfl) (by kernel_rfl) (fun _ _ _ h => h) (by rfl) (fun w' hw' => ?_) hS (listed' := bts 19 8063) (by kernel_rfl) rfl ?_
   ·go_simp
   simp only [zsA,zsZ,zsS];refine M_take 13 116 (.int .i64 ((j + 1 : Nat) : Int)) _ rfl rfl (by kernel_rfl) (by kernel_rfl) (by kernel_rfl) (by kernel_rfl) (by kernel_rfl) (fun _ _ _ h => h) (by rfl) (fun w' hw' => ?_) hS (listed' := bts 19 16255) (by kernel_rfl) rfl ?_
   ·go_simp
   simp only [zsA,zsZ,zsS];refine M_take 14 117 (.slice (some ⟨gf,oa,none⟩) (nf - (j + 1)) (cf - (j + 1))) _ rfl rfl (by kernel_rfl) (by kernel_rfl) (by kernel_rfl) (by kernel_rfl) (by kernel_rfl) (fun _ _ _ h => h) (by rfl) (fun w' hw' => ?_) hS (listed' := bts 19 32639) (by kernel_rfl) rfl ?_
   ·go_simp; rw [if_pos (by omega)]; have ho := HOA.out; by_cases hq : cf = j + 1; (rw [if_pos hq] at ho; rw [if_pos hq,← ho]); (rw [if_neg hq] at ho; rw [if_neg hq,← ho])
   simp only [zsA,zsZ,zsS];obtain ⟨a1,c1,U1,r1,r2,r3⟩ := cutF_one HMO2.out.2 hS (Nat.le_of_lt hjn) hnf20 HNF.out cf;have hS1 : Below wr.heap.size wr U1 := hS.trans (r3.mono hS.size);obtain ⟨a2,c2,U2,e1,e2,e3⟩ := cutF_two HMO2.out.2 hS1 hjn hnf20 HNF.out r2 r3.size (cf - (j + 1)) oa (by have ho := HOA.out; by_cases hq : cf = j + 1; (left; omega); (right; rw [if_neg hq] at ho; exact ho.symm));have hdrs : wr.drew.heap.size = wr.heap.size := rfl;rw [hdrs] at r2 e2 e3;have hS2 : Below wr.heap.size wr U2 := hS1.trans e3;have HR1 : Hid ((Builtin.append_ #[44,44] 44 #[.slice none 0 0,.slice (some ⟨gf,0,none⟩) j cf]).run Try.prog wr.drew = .ok (.slice a1 j c1) U1) := r1;have HR2 : Hid ((Builtin.append_ #[44,44] 44 #[.slice a1 j c1,.slice (some ⟨gf,oa,none⟩) (nf - (j + 1)) (cf - (j + 1))]).run Try.prog U1 = .ok (.slice a2 (nf - 1) c2) U2) := e1;have HMS2 : Hid (MsIn (U2.setCell ⟨gm,k * 3 + 1,none⟩ (.slice a2 (nf - 1) c2)) (.slice (some ⟨gm,0,none⟩) mn cm) (s.msgs.set k (cutF m j))) := (HMO2.out.1.below hS2).setF HM.out e2;clear r1 r2 r3 e1 e2 e3 hdrs;refine M_run 7 110 (.slice a1 j c1) (U1) rfl rfl (by kernel_rfl) (by rfl) (listed' := bts 19 32767) (by kernel_rfl) (append_run rfl rfl rfl HR1.out) hS1 ?_;simp only [zsA,zsZ,zsS];refine M_run 15 118 (.slice a2 (nf - 1) c2) (U2) rfl rfl (by kernel_rfl) (by rfl) (listed' := bts 19 65535) (by kernel_rfl) (append_run rfl rfl rfl HR2.out) hS2 ?_;simp only [zsA,zsZ,zsS];obtain ⟨g1,g2,g3⟩ := HMW.out _ hS2;refine M_run 16 119 (.pointer (some ⟨gm,k * 3,none⟩)) U2 rfl rfl (by kernel_rfl) (by rfl) (listed' := bts 19 131071) (by kernel_rfl) (by go_simp) hS2 ?_;simp only [zsA,zsZ,zsS];refine M_runA 17 120 (.pointer (some ⟨gm,k * 3 + 1,none⟩)) U2 rfl rfl (by kernel_rfl) (by rfl) (listed' := bts 19 262143) (by kernel_rfl) (by go_simp) (by kernel_rfl) ?_;simp only [zsA,zsZ,zsS];refine M_store 18 (U2.setCell ⟨gm,k * 3 + 1,none⟩ (.slice a2 (nf - 1) c2)) rfl rfl (by kernel_rfl) (by rfl) (listed' := bts 19 524287) (by kernel_rfl) (by go_simp) (by kernel_rfl) ?_;refine M_done (by kernel_rfl) ?_ _
   have hkp : Kp (fun q => q = gm) U2 (U2.setCell ⟨gm,k * 3 + 1,none⟩ (.slice a2 (nf - 1) c2)) := (by
    refine Kp.setCell ?_ (fun _ => by simp) _
    exact Kp.refl _ _ : Kp _ _ _)
   obtain ⟨csm,hBm⟩ : ∃ cs,Blk U2 gm cs 46 := (by
    rcases (HMO2.out.1.below hS2).own.2 with ⟨e,_⟩ | ⟨q,cap',cur,e,_,hq,_⟩
    ·cases e
    ·simp only [Value.slice.injEq,Option.some.injEq,Addr.mk.injEq] at e;obtain ⟨⟨rfl, -⟩, -⟩ := e
     exact ⟨_,hq⟩ : ∃ cs,Blk U2 gm cs 46)
   have hb6 : Below w6.heap.size w6 U2 := HBI.out.trans (hS2.mono HBI.out.size)
   have hEn : EnO (U2.setCell ⟨gm,k * 3 + 1,none⟩ (.slice a2 (nf - 1) c2)) B3 (.slice ae me ce) s.enums pe := (by
    have h1 := HMO.out.2.1.below hb6
    exact ⟨h1.len,own_blk h1.own hBm (by decide) hkp,fun i e p h2 h3 => own_blk (h1.each i e p h2 h3) hBm (by decide) hkp⟩ : EnO _ _ _ _ _)
   have hMt := own_blk (own_below HMO.out.2.2 hb6) hBm (by decide) hkp;have hw9 : Below w.heap.size w (U2.setCell ⟨gm,k * 3 + 1,none⟩ (.slice a2 (nf - 1) c2)) := (HCB.out.2.2.trans (hb6.mono HCB.out.2.2.size)).trans (hkp.toBelow (Nat.le_trans HCB.out.2.2.size hb6.size) fun q e => by rw [e,HBZ.out]; omega)
   have HSI : Hid (ScIn (U2.setCell ⟨gm,k * 3 + 1,none⟩ (.slice a2 (nf - 1) c2)) (.agg #[.string sn,.slice (some ⟨gm,0,none⟩) mn cm,.slice ae me ce,.slice at' mt ct]) (setM s k (cutF m j)) ∧ Blk (U2.setCell ⟨gm,k * 3 + 1,none⟩ (.slice a2 (nf - 1) c2)) b0 #[.string sn,.slice ma mn mc,.slice ea en ec,.slice ta tn tc] 26 ∧ Blk (U2.setCell ⟨gm,k * 3 + 1,none⟩ (.slice a2 (nf - 1) c2)) gc #[.string sn,.slice (some ⟨gm,0,none⟩) mn cm,.slice ae me ce,.slice at' mt ct] 26 ∧ (U2.setCell ⟨gm,k * 3 + 1,none⟩ (.slice a2 (nf - 1) c2)).cell? ⟨gm,k * 3,none⟩ = some (.string mnm) ∧ Below w.heap.size w (U2.setCell ⟨gm,k * 3 + 1,none⟩ (.slice a2 (nf - 1) c2))) := (by
    refine ⟨⟨_,_,_,?_,HMS2.out,hEn.to_in,mt_in hMt⟩,?_,?_,?_,hw9⟩
    ·show Value.agg #[.string sn,.slice (some ⟨gm,0,none⟩) mn cm,.slice ae me ce,.slice at' mt ct] = Value.agg #[.string s.name,_,_,_]
     rw [HSN.out]
    ·exact (HCB.out.1.below hb6).kp hkp (fun e => by omega)
    ·exact (HCB.out.2.1.below hb6).kp hkp (fun e => by omega)
    ·have hkl : k < s.msgs.length := by rw [HMN.out]; exact hkm
     obtain ⟨g',o',vf',vr',e',c0', -⟩ := HMS2.out.get (show (s.msgs.set k (cutF m j))[k]? = some (cutF m j) by rw [List.getElem?_set_self hkl]);simp only [Option.some.injEq,Addr.mk.injEq,and_true] at e';obtain ⟨rfl,rfl⟩ := e';rw [Nat.zero_add] at c0';rw [c0']
     show some (Value.string m.name) = _
     rw [HNM.out] : _ ∧ _ ∧ _ ∧ _ ∧ _)
   clear hkp hBm hb6 hEn hMt hw9 HR1 HR2 g1 g2 g3 hS hS1 hS2 HMS2;generalize (U2.setCell ⟨gm,k * 3 + 1,none⟩ (.slice a2 (nf - 1) c2)) = W9 at *
   have HFT : Hid (∀ W,Below W9.heap.size W9 W → Calls Try.prog 18 #[.agg #[.string sn,.slice ma mn mc,.slice ea en ec,.slice ta tn tc],.string mnm,.slice la L lc] W (FitA s mnm W)) := fun W hW => by
    have hb := HSI.out.2.2.2.2.trans (hW.mono HSI.out.2.2.2.2.size);exact fitAll_any s sn ma ea ta mn mc en ec tn tc (fun m hm => (HFS.out.few.flds m hm).1) (ok_kinds HOK.out) (zs.take L) la lc L W (HSC.out.below hb) (HRL.out.1.below hb) HRL.out.2 (by omega) mnm
   have HCB9 : Hid (∀ W,Below W9.heap.size W9 W → Blk W b0 #[.string sn,.slice ma mn mc,.slice ea en ec,.slice ta tn tc] 26 ∧ Blk W gc #[.string sn,.slice (some ⟨gm,0,none⟩) mn cm,.slice ae me ce,.slice at' mt ct] 26 ∧ W.cell? ⟨gm,k * 3,none⟩ = some (.string mnm) ∧ ScIn W (.agg #[.string sn,.slice (some ⟨gm,0,none⟩) mn cm,.slice ae me ce,.slice at' mt ct]) (setM s k (cutF m j)) ∧ Below w.heap.size w W) := fun W hW => ⟨HSI.out.2.1.below hW,HSI.out.2.2.1.below hW,(hW.cell (World.block_lt_of_cell? _ _ HSI.out.2.2.2.1)).trans HSI.out.2.2.2.1,HSI.out.1.below hW,HSI.out.2.2.2.2.trans (hW.mono HSI.out.2.2.2.2.size)⟩
   clear HMW HMO2
   go_upto_region 19 with fail
   go_cut [16] from 121 to 127 (fun pv wx => ∃ (b : Nat) (t : Tr) (x1 x4 : Option Addr) (x2 x3 x5 x6 : Nat),pv = .pointer (some ⟨b,0,none⟩) ∧ Hid (FitT 6 s mnm t ∧ cntN 6 t ≤ 180) ∧ Hid (Blk wx b #[.int .i64 t.kind,.int .i64 t.n,.string t.s,.slice x1 x2 x3,.slice x4 x5 x6] 30 ∧ (TrIn 6 wx (.agg #[.int .i64 t.kind,.int .i64 t.n,.string t.s,.slice x1 x2 x3,.slice x4 x5 x6]) t ∧ TrW 6 wx (.agg #[.int .i64 t.kind,.int .i64 t.n,.string t.s,.slice x1 x2 x3,.slice x4 x5 x6]) t) ∧ Below W9.heap.size W9 wx))
   case first =>
    refine M_region (T := fun W => Below W9.heap.size W9 W) (m := 8) (by kernel_rfl) ?_;have hS : Below W9.heap.size W9 W9.drew := (Below.refl _ _).drew;refine M_take 0 121 (.agg #[.string sn,.slice ma mn mc,.slice ea en ec,.slice ta tn tc]) _ rfl rfl (by kernel_rfl) (by kernel_rfl) (by kernel_rfl) (by kernel_rfl) (by kernel_rfl) (fun _ _ _ h => h) (by rfl) (fun w' hw' => ?_) hS (listed' := bts 9 1) (by kernel_rfl) rfl ?_
    ·obtain ⟨HB0,HB1,HB2, -⟩ := HCB9.out _ hw'; have f0 := (HB0.cell 0).trans rfl; have f1 := (HB0.cell 1).trans rfl; have f2 := (HB0.cell 2).trans rfl; have f3 := (HB0.cell 3).trans rfl; go_simp
    simp only [zsA,zsZ,zsS];refine M_take 1 122 (.pointer (some ⟨gm,k * 3,none⟩)) _ rfl rfl (by kernel_rfl) (by kernel_rfl) (by kernel_rfl) (by kernel_rfl) (by kernel_rfl) (fun _ _ _ h => h) (by rfl) (fun w' hw' => ?_) hS (listed' := bts 9 3) (by kernel_rfl) rfl ?_
    ·go_simp
    simp only [zsA,zsZ,zsS];refine M_take 2 123 (.pointer (some ⟨gm,k * 3,none⟩)) _ rfl rfl (by kernel_rfl) (by kernel_rfl) (by kernel_rfl) (by kernel_rfl) (by kernel_rfl) (fun _ _ _ h => h) (by rfl) (fun w' hw' => ?_) hS (listed' := bts 9 7) (by kernel_rfl) rfl ?_
    ·go_simp
    simp only [zsA,zsZ,zsS];refine M_take 3 124 (.pointer (some ⟨gm,k * 3,none⟩)) _ rfl rfl (by kernel_rfl) (by kernel_rfl) (by kernel_rfl) (by kernel_rfl) (by kernel_rfl) (fun _ _ _ h => h) (by rfl) (fun w' hw' => ?_) hS (listed' := bts 9 15) (by kernel_rfl) rfl ?_
    ·go_simp
    simp only [zsA,zsZ,zsS];refine M_take 4 125 (.string mnm) _ rfl rfl (by kernel_rfl) (by kernel_rfl) (by kernel_rfl) (by kernel_rfl) (by kernel_rfl) (fun _ _ _ h => h) (by rfl) (fun w' hw' => ?_) hS (listed' := bts 9 31) (by kernel_rfl) rfl ?_
    ·obtain ⟨HB0,HB1,HB2, -⟩ := HCB9.out _ hw'; go_simp
    simp only [zsA,zsZ,zsS];refine M_take 5 126 (.slice la L lc) _ rfl rfl (by kernel_rfl) (by kernel_rfl) (by kernel_rfl) (by kernel_rfl) (by kernel_rfl) (fun _ _ _ h => h) (by rfl) (fun w' hw' => ?_) hS (listed' := bts 9 63) (by kernel_rfl) rfl ?_
    ·go_simp
    simp only [zsA,zsZ,zsS];generalize W9.drew = U0 at *;refine M_fork 6 7 127 16 18 #[.agg #[.string sn,.slice ma mn mc,.slice ea en ec,.slice ta tn tc],.string mnm,.slice la L lc] (.pointer (some ⟨U0.heap.size,0,none⟩)) (U0.alloc (Obj.cells #[.int .i64 0,.int .i64 0,.string ⟨#[]⟩,.slice none 0 0,.slice none 0 0] 30)) rfl rfl rfl rfl (by kernel_rfl) (by rfl) (by rfl) (by go_simp) (by go_simp) ?_ (hS.trans (((Below.refl _ _).alloc (Nat.le_refl _) _).mono hS.size)) ?_
    ·skip
     refine (HFT.out U0 hS).mono ?_;rintro ee V1 ⟨r4,t,bs4,rfl,hO4,hap4,hT4,hc4,hbU⟩;obtain ⟨x1,x2,x3,x4,x5,x6,rfl⟩ := hO4.open;have ht4 : SeeF 6 V1 [.int .i64 t.kind,.int .i64 t.n,.string t.s,.slice x1 x2 x3,.slice x4 x5 x6] t bs4 := fun w' hs => ⟨(hO4.sm hs).trC,(hO4.sm hs).trR⟩
     have HFT4 : Hid (FitT 6 s mnm t ∧ cntN 6 t ≤ 180) := ⟨hT4,hc4⟩;clear hO4 hT4 hc4;have hS0 := hS;have hS : Below W9.heap.size W9 V1 := hS0.trans (hbU.mono hS0.size);clear hS0 hbU;refine ⟨_,rfl,hS,?_⟩;simp only [zsA,zsZ,zsS];refine M_run 7 16 (.pointer (some ⟨V1.heap.size,0,none⟩)) (V1.alloc (Obj.cells #[.int .i64 0,.int .i64 0,.string ⟨#[]⟩,.slice none 0 0,.slice none 0 0] 30)) rfl rfl (by kernel_rfl) (by rfl) (listed' := bts 9 255) (by kernel_rfl) (by go_simp) (hS.trans (((Below.refl _ _).alloc (Nat.le_refl _) _).mono hS.size)) ?_;have hbU : Below V1.heap.size V1 (V1.alloc (Obj.cells #[.int .i64 0,.int .i64 0,.string ⟨#[]⟩,.slice none 0 0,.slice none 0 0] 30)) := (Below.refl _ _).alloc (Nat.le_refl _) _;obtain ⟨bz,hbz⟩ : ∃ z,V1.heap.size = z := ⟨_,rfl⟩
     have BZ : Blk (V1.alloc (Obj.cells #[.int .i64 0,.int .i64 0,.string ⟨#[]⟩,.slice none 0 0,.slice none 0 0] 30)) bz #[.int .i64 0,.int .i64 0,.string ⟨#[]⟩,.slice none 0 0,.slice none 0 0] 30 := by rw [← hbz]; exact Blk.new V1 _ _
     have GZ : W9.heap.size ≤ bz := by rw [← hbz]; exact hS.size
     have hS0 := hS;have hS : Below W9.heap.size W9 (V1.alloc (Obj.cells #[.int .i64 0,.int .i64 0,.string ⟨#[]⟩,.slice none 0 0,.slice none 0 0] 30)) := hS0.trans (hbU.mono hS0.size)
     have hnz : bz ∉ bs4 := fun hc => by have h1 := (hap4.2 _ hc).2; rw [hbz] at h1; omega
     replace ht4 := ht4.sm (Sm.below hbU fun q hq => (hap4.2 q hq).2)
     replace hap4 := hap4.mono hbU.size
     clear hS0 hbU;simp only [zsA,zsZ,zsS]
     try simp only [hbz]
     clear hbz;generalize (V1.alloc (Obj.cells #[.int .i64 0,.int .i64 0,.string ⟨#[]⟩,.slice none 0 0,.slice none 0 0] 30)) = V2 at *;have k0 := (BZ.cell 0).trans rfl;have z0 := BZ.froz 0;have k1 := (BZ.cell 1).trans rfl;have z1 := BZ.froz 1;have k2 := (BZ.cell 2).trans rfl;have z2 := BZ.froz 2;have k3 := (BZ.cell 3).trans rfl;have z3 := BZ.froz 3;have k4 := (BZ.cell 4).trans rfl;have z4 := BZ.froz 4;have hfin := see_store BZ ht4 hnz hS GZ;refine M_store 8 (set5 V2 bz 0 (.int .i64 t.kind) (.int .i64 t.n) (.string t.s) (.slice x1 x2 x3) (.slice x4 x5 x6)) rfl rfl (by kernel_rfl) (by rfl) (listed' := bts 9 511) (by kernel_rfl) (by unfold set5; go_simp) (by kernel_rfl) ?_;clear k0 z0 k1 z1 k2 z2 k3 z3 k4 z4;refine M_done (by kernel_rfl) ?_ _;have HFI : Hid (Blk (set5 V2 bz 0 (.int .i64 t.kind) (.int .i64 t.n) (.string t.s) (.slice x1 x2 x3) (.slice x4 x5 x6)) bz #[.int .i64 t.kind,.int .i64 t.n,.string t.s,.slice x1 x2 x3,.slice x4 x5 x6] 30 ∧ (TrIn 6 (set5 V2 bz 0 (.int .i64 t.kind) (.int .i64 t.n) (.string t.s) (.slice x1 x2 x3) (.slice x4 x5 x6)) (.agg #[.int .i64 t.kind,.int .i64 t.n,.string t.s,.slice x1 x2 x3,.slice x4 x5 x6]) t ∧ TrW 6 (set5 V2 bz 0 (.int .i64 t.kind) (.int .i64 t.n) (.string t.s) (.slice x1 x2 x3) (.slice x4 x5 x6)) (.agg #[.int .i64 t.kind,.int .i64 t.n,.string t.s,.slice x1 x2 x3,.slice x4 x5 x6]) t) ∧ Below W9.heap.size W9 (set5 V2 bz 0 (.int .i64 t.kind) (.int .i64 t.n) (.string t.s) (.slice x1 x2 x3) (.slice x4 x5 x6))) := hfin;clear hfin hS BZ ht4 hap4 hnz GZ;generalize (set5 V2 bz 0 (.int .i64 t.kind) (.int .i64 t.n) (.string t.s) (.slice x1 x2 x3) (.slice x4 x5 x6)) = V9 at *;go_wp2_with fail
     go_meet
     exact ⟨bz,t,x1,x4,x2,x3,x5,x6,rfl,HFT4,HFI⟩
    ·skip
     have hbU : Below U0.heap.size U0 (U0.alloc (Obj.cells #[.int .i64 0,.int .i64 0,.string ⟨#[]⟩,.slice none 0 0,.slice none 0 0] 30)) := (Below.refl _ _).alloc (Nat.le_refl _) _;obtain ⟨bz,hbz⟩ : ∃ z,U0.heap.size = z := ⟨_,rfl⟩
     have BZ : Blk (U0.alloc (Obj.cells #[.int .i64 0,.int .i64 0,.string ⟨#[]⟩,.slice none 0 0,.slice none 0 0] 30)) bz #[.int .i64 0,.int .i64 0,.string ⟨#[]⟩,.slice none 0 0,.slice none 0 0] 30 := by rw [← hbz]; exact Blk.new U0 _ _
     have GZ : W9.heap.size ≤ bz := by rw [← hbz]; exact hS.size
     have hS0 := hS;have hS : Below W9.heap.size W9 (U0.alloc (Obj.cells #[.int .i64 0,.int .i64 0,.string ⟨#[]⟩,.slice none 0 0,.slice none 0 0] 30)) := hS0.trans (hbU.mono hS0.size);clear hS0 hbU;simp only [zsA,zsZ,zsS]
     try simp only [hbz]
     clear hbz;generalize (U0.alloc (Obj.cells #[.int .i64 0,.int .i64 0,.string ⟨#[]⟩,.slice none 0 0,.slice none 0 0] 30)) = V3 at *;refine M_call 6 127 18 #[.agg #[.string sn,.slice ma mn mc,.slice ea en ec,.slice ta tn tc],.string mnm,.slice la L lc] rfl rfl (by kernel_rfl) (by rfl) (listed' := bts 9 255) (by kernel_rfl) (fun W => by go_simp) ?_;refine (HFT.out V3 hS).mono ?_;rintro ee V4 ⟨r4,t,bs4,rfl,hO4,hap4,hT4,hc4,hbU⟩;obtain ⟨x1,x2,x3,x4,x5,x6,rfl⟩ := hO4.open;have ht4 : SeeF 6 V4 [.int .i64 t.kind,.int .i64 t.n,.string t.s,.slice x1 x2 x3,.slice x4 x5 x6] t bs4 := fun w' hs => ⟨(hO4.sm hs).trC,(hO4.sm hs).trR⟩
     have HFT4 : Hid (FitT 6 s mnm t ∧ cntN 6 t ≤ 180) := ⟨hT4,hc4⟩;clear hO4 hT4 hc4
     have hnz : bz ∉ bs4 := fun hc => by have h1 := (hap4.2 _ hc).1; have h2 := BZ.lt; omega
     replace BZ := BZ.below hbU
     have hS0 := hS;have hS : Below W9.heap.size W9 V4 := hS0.trans (hbU.mono hS0.size);clear hS0 hbU;refine ⟨_,rfl,hS,?_⟩;simp only [zsA,zsZ,zsS];have k0 := (BZ.cell 0).trans rfl;have z0 := BZ.froz 0;have k1 := (BZ.cell 1).trans rfl;have z1 := BZ.froz 1;have k2 := (BZ.cell 2).trans rfl;have z2 := BZ.froz 2;have k3 := (BZ.cell 3).trans rfl;have z3 := BZ.froz 3;have k4 := (BZ.cell 4).trans rfl;have z4 := BZ.froz 4;have hfin := see_store BZ ht4 hnz hS GZ;refine M_store 8 (set5 V4 bz 0 (.int .i64 t.kind) (.int .i64 t.n) (.string t.s) (.slice x1 x2 x3) (.slice x4 x5 x6)) rfl rfl (by kernel_rfl) (by rfl) (listed' := bts 9 511) (by kernel_rfl) (by unfold set5; go_simp) (by kernel_rfl) ?_;clear k0 z0 k1 z1 k2 z2 k3 z3 k4 z4;refine M_done (by kernel_rfl) ?_ _;have HFI : Hid (Blk (set5 V4 bz 0 (.int .i64 t.kind) (.int .i64 t.n) (.string t.s) (.slice x1 x2 x3) (.slice x4 x5 x6)) bz #[.int .i64 t.kind,.int .i64 t.n,.string t.s,.slice x1 x2 x3,.slice x4 x5 x6] 30 ∧ (TrIn 6 (set5 V4 bz 0 (.int .i64 t.kind) (.int .i64 t.n) (.string t.s) (.slice x1 x2 x3) (.slice x4 x5 x6)) (.agg #[.int .i64 t.kind,.int .i64 t.n,.string t.s,.slice x1 x2 x3,.slice x4 x5 x6]) t ∧ TrW 6 (set5 V4 bz 0 (.int .i64 t.kind) (.int .i64 t.n) (.string t.s) (.slice x1 x2 x3) (.slice x4 x5 x6)) (.agg #[.int .i64 t.kind,.int .i64 t.n,.string t.s,.slice x1 x2 x3,.slice x4 x5 x6]) t) ∧ Below W9.heap.size W9 (set5 V4 bz 0 (.int .i64 t.kind) (.int .i64 t.n) (.string t.s) (.slice x1 x2 x3) (.slice x4 x5 x6))) := hfin;clear hfin hS BZ ht4 hap4 hnz GZ;generalize (set5 V4 bz 0 (.int .i64 t.kind) (.int .i64 t.n) (.string t.s) (.slice x1 x2 x3) (.slice x4 x5 x6)) = V9 at *;go_wp2_with fail
     go_meet
     exact ⟨bz,t,x1,x4,x2,x3,x5,x6,rfl,HFT4,HFI⟩
   case rest =>
    obtain ⟨bt,t,x1,x4,x2,x3,x5,x6,rfl,HFT6,HFI⟩ := hcut
    have HCB20 : Hid (∀ W,Below wc.heap.size wc W → Blk W gc #[.string sn,.slice (some ⟨gm,0,none⟩) mn cm,.slice ae me ce,.slice at' mt ct] 26 ∧ W.cell? ⟨gm,k * 3,none⟩ = some (.string mnm) ∧ Blk W bt #[.int .i64 t.kind,.int .i64 t.n,.string t.s,.slice x1 x2 x3,.slice x4 x5 x6] 30 ∧ ScIn W (.agg #[.string sn,.slice (some ⟨gm,0,none⟩) mn cm,.slice ae me ce,.slice at' mt ct]) (setM s k (cutF m j)) ∧ Below w.heap.size w W ∧ TrIn 6 W (.agg #[.int .i64 t.kind,.int .i64 t.n,.string t.s,.slice x1 x2 x3,.slice x4 x5 x6]) t) := fun W hW => by
     obtain ⟨-,h2,h3,h4,h5⟩ := HCB9.out W (HFI.out.2.2.trans (hW.mono HFI.out.2.2.size));exact ⟨h2,h3,HFI.out.1.below hW,h4,h5,HFI.out.2.1.1.below hW⟩
    have hos := drop_ok (j := j) HOK.out HM.out;have hms := msgOf_set (j := j) HOK.out HM.out;rw [HNM.out] at hms
    have hpm : prM 6 (setM s k (cutF m j)) mnm t = (⟨3,0,⟨#[]⟩,t.es.filter (fun e => decide (e.1 ≠ GT)),[]⟩ : Tr) := (by
     have h1 := prM_drop HOK.out (ok_kindsJ HOK.out) HM.out HF.out HNX.out (n := 5) (t := t) (by rw [HNM.out]; exact HFT6.out.1);rw [HNM.out,HGT.out] at h1
     exact h1 : _ = _)
    have hpj : projA 6 (setM s k (cutF m j)) mnm t = ((⟨3,0,⟨#[]⟩,t.es.filter (fun e => decide (e.1 ≠ GT)),[]⟩ : Tr),true) := by
     unfold projA;rw [if_pos ⟨(checkA_ok _).2 hos,by rw [hms]; rfl,by rw [HFT6.out.1.form],HFT6.out.1.chk (by omega)⟩,hpm]
    obtain ⟨R,hR⟩ : ∃ R : Tr × Bool,R = ((⟨3,0,⟨#[]⟩,t.es.filter (fun e => decide (e.1 ≠ GT)),[]⟩ : Tr),true) := ⟨_,rfl⟩;have HR12 : Hid (R.1 = (⟨3,0,⟨#[]⟩,t.es.filter (fun e => decide (e.1 ≠ GT)),[]⟩ : Tr) ∧ R.2 = true) := ⟨by rw [hR],by rw [hR]⟩;have HPJ1 : Hid (projA 6 (setM s k (cutF m j)) mnm t = R) := (by rw [hpj,hR] : _ = _);clear hos hms hpm hpj hR HFT HCB9;obtain ⟨K2,hK2⟩ : ∃ z,R.1.kind = z := ⟨_,rfl⟩;obtain ⟨N2,hN2⟩ : ∃ z,R.1.n = z := ⟨_,rfl⟩;obtain ⟨S2,hS2⟩ : ∃ z,R.1.s = z := ⟨_,rfl⟩;have HKS : Hid (R.1.kind = K2 ∧ R.1.n = N2 ∧ R.1.s = S2) := ⟨hK2,hN2,hS2⟩;clear hK2 hN2 hS2;have HBR : Hid (R.2 = true) := HR12.out.2;have HTR : Hid (∀ W,Below wc.heap.size wc W → Calls Try.prog 12 #[.agg #[.int .i64 t.kind,.int .i64 t.n,.string t.s,.slice x1 x2 x3,.slice x4 x5 x6]] W (CopyP 6 t W)) := fun W hW => copy_any 6 t _ W (HCB20.out W hW).2.2.2.2.2 HFT6.out.1.sm
    have HPC : Hid (∀ tv W,Below wc.heap.size wc W → TrW 6 W tv t → Calls Try.prog 10 #[.agg #[.string sn,.slice (some ⟨gm,0,none⟩) mn cm,.slice ae me ce,.slice at' mt ct],.string mnm,tv] W (SeeFP 6 R W)) := fun tv W hW htv => by
     have h1 := HPJ'.out 5 (setM s k (cutF m j)) (.agg #[.string sn,.slice (some ⟨gm,0,none⟩) mn cm,.slice ae me ce,.slice at' mt ct]) mnm tv t W (by omega) (HCB20.out W hW).2.2.2.1 (setM_w HSW.out HM.out) (setM_few HFS.out.few HM.out) htv HFT6.out.1.sm (Nat.le_trans HFT6.out.2 (by omega));rw [HPJ1.out] at h1;exact h1
    go_upto_region 20 with fail
    go_cut [17,18] from 128 to 138 (fun pv bv wx => ∃ (b : Nat) (a1 a2 : Option Addr) (n1 c1 n2 c2 : Nat),pv = .pointer (some ⟨b,0,none⟩) ∧ bv = .bool true ∧ Hid (Blk wx b #[.int .i64 K2,.int .i64 N2,.string S2,.slice a1 n1 c1,.slice a2 n2 c2] 30 ∧ (TrIn 6 wx (.agg #[.int .i64 K2,.int .i64 N2,.string S2,.slice a1 n1 c1,.slice a2 n2 c2]) R.1 ∧ TrW 6 wx (.agg #[.int .i64 K2,.int .i64 N2,.string S2,.slice a1 n1 c1,.slice a2 n2 c2]) R.1) ∧ Below wc.heap.size wc wx))
    case first =>
     refine M_region (T := fun W => Below wc.heap.size wc W) (m := 13) (by kernel_rfl) ?_;have hS : Below wc.heap.size wc wc.drew := (Below.refl _ _).drew;refine M_take 0 129 (.agg #[.string sn,.slice (some ⟨gm,0,none⟩) mn cm,.slice ae me ce,.slice at' mt ct]) _ rfl rfl (by kernel_rfl) (by kernel_rfl) (by kernel_rfl) (by kernel_rfl) (by kernel_rfl) (fun _ _ _ h => h) (by rfl) (fun w' hw' => ?_) hS (listed' := bts 14 1) (by kernel_rfl) rfl ?_
     ·obtain ⟨HB1,HB2,HB3, -⟩ := HCB20.out _ hw'; have f0 := (HB1.cell 0).trans rfl; have f1 := (HB1.cell 1).trans rfl; have f2 := (HB1.cell 2).trans rfl; have f3 := (HB1.cell 3).trans rfl; go_simp
     simp only [zsA,zsZ,zsS];refine M_take 1 130 (.pointer (some ⟨gm,k * 3,none⟩)) _ rfl rfl (by kernel_rfl) (by kernel_rfl) (by kernel_rfl) (by kernel_rfl) (by kernel_rfl) (fun _ _ _ h => h) (by rfl) (fun w' hw' => ?_) hS (listed' := bts 14 3) (by kernel_rfl) rfl ?_
     ·go_simp
     simp only [zsA,zsZ,zsS];refine M_take 2 131 (.pointer (some ⟨gm,k * 3,none⟩)) _ rfl rfl (by kernel_rfl) (by kernel_rfl) (by kernel_rfl) (by kernel_rfl) (by kernel_rfl) (fun _ _ _ h => h) (by rfl) (fun w' hw' => ?_) hS (listed' := bts 14 7) (by kernel_rfl) rfl ?_
     ·go_simp
     simp only [zsA,zsZ,zsS];refine M_take 3 132 (.pointer (some ⟨gm,k * 3,none⟩)) _ rfl rfl (by kernel_rfl) (by kernel_rfl) (by kernel_rfl) (by kernel_rfl) (by kernel_rfl) (fun _ _ _ h => h) (by rfl) (fun w' hw' => ?_) hS (listed' := bts 14 15) (by kernel_rfl) rfl ?_
     ·go_simp
     simp only [zsA,zsZ,zsS];refine M_take 4 133 (.string mnm) _ rfl rfl (by kernel_rfl) (by kernel_rfl) (by kernel_rfl) (by kernel_rfl) (by kernel_rfl) (fun _ _ _ h => h) (by rfl) (fun w' hw' => ?_) hS (listed' := bts 14 31) (by kernel_rfl) rfl ?_
     ·obtain ⟨HB1,HB2,HB3, -⟩ := HCB20.out _ hw'; go_simp
     simp only [zsA,zsZ,zsS];refine M_take 5 134 (.agg #[.int .i64 t.kind,.int .i64 t.n,.string t.s,.slice x1 x2 x3,.slice x4 x5 x6]) _ rfl rfl (by kernel_rfl) (by kernel_rfl) (by kernel_rfl) (by kernel_rfl) (by kernel_rfl) (fun _ _ _ h => h) (by rfl) (fun w' hw' => ?_) hS (listed' := bts 14 63) (by kernel_rfl) rfl ?_
     ·obtain ⟨HB1,HB2,HB3, -⟩ := HCB20.out _ hw'; have f0 := (HB3.cell 0).trans rfl; have f1 := (HB3.cell 1).trans rfl; have f2 := (HB3.cell 2).trans rfl; have f3 := (HB3.cell 3).trans rfl; have f4 := (HB3.cell 4).trans rfl; go_simp
     simp only [zsA,zsZ,zsS];generalize wc.drew = U0 at *;refine M_fork 6 11 135 17 12 #[.agg #[.int .i64 t.kind,.int .i64 t.n,.string t.s,.slice x1 x2 x3,.slice x4 x5 x6]] (.pointer (some ⟨U0.heap.size,0,none⟩)) (U0.alloc (Obj.cells #[.int .i64 0,.int .i64 0,.string ⟨#[]⟩,.slice none 0 0,.slice none 0 0] 30)) rfl rfl rfl rfl (by kernel_rfl) (by rfl) (by rfl) (by go_simp) (by go_simp) ?_ (hS.trans (((Below.refl _ _).alloc (Nat.le_refl _) _).mono hS.size)) ?_
     ·skip
      refine (HTR.out U0 hS).mono ?_;rintro ee V1 ⟨tv,bst,rfl,htv0,hbU⟩;have htv := htv0.trW;clear htv0;have hS0 := hS;have hS : Below wc.heap.size wc V1 := hS0.trans (hbU.mono hS0.size);clear hS0 hbU;refine ⟨_,rfl,hS,?_⟩;simp only [zsA,zsZ,zsS];refine M_fork 7 11 136 17 10 #[.agg #[.string sn,.slice (some ⟨gm,0,none⟩) mn cm,.slice ae me ce,.slice at' mt ct],.string mnm,tv] (.pointer (some ⟨V1.heap.size,0,none⟩)) (V1.alloc (Obj.cells #[.int .i64 0,.int .i64 0,.string ⟨#[]⟩,.slice none 0 0,.slice none 0 0] 30)) rfl rfl rfl rfl (by kernel_rfl) (by rfl) (by rfl) (by go_simp) (by go_simp) ?_ (hS.trans (((Below.refl _ _).alloc (Nat.le_refl _) _).mono hS.size)) ?_
      ·skip
       refine (HPC.out tv V1 hS htv).mono ?_;rintro ee V2 ⟨r4,bs4,rfl,ht4,hap4,hbU⟩
       replace htv := htv.cel (Cel.ofBelow hbU)
       obtain ⟨a1,n1,c1,a2,n2,c2,hr4⟩ := ht4.open;rw [HKS.out.1,HKS.out.2.1,HKS.out.2.2] at hr4;subst hr4;rw [HBR.out];clear htv;have hS0 := hS;have hS : Below wc.heap.size wc V2 := hS0.trans (hbU.mono hS0.size);clear hS0 hbU;refine ⟨_,rfl,hS,?_⟩;simp only [zsA,zsZ,zsS];refine M_take 8 128 (.tuple #[.agg #[.int .i64 K2,.int .i64 N2,.string S2,.slice a1 n1 c1,.slice a2 n2 c2],.bool true]) _ rfl rfl (by kernel_rfl) (by kernel_rfl) (by kernel_rfl) (by kernel_rfl) (by kernel_rfl) (fun _ _ _ h => h) (by rfl) (fun w' hw' => ?_) hS (listed' := bts 14 511) (by kernel_rfl) rfl ?_
       ·go_simp
       simp only [zsA,zsZ,zsS];refine M_take 9 137 (.agg #[.int .i64 K2,.int .i64 N2,.string S2,.slice a1 n1 c1,.slice a2 n2 c2]) _ rfl rfl (by kernel_rfl) (by kernel_rfl) (by kernel_rfl) (by kernel_rfl) (by kernel_rfl) (fun _ _ _ h => h) (by rfl) (fun w' hw' => ?_) hS (listed' := bts 14 1023) (by kernel_rfl) rfl ?_
       ·go_simp
       simp only [zsA,zsZ,zsS];refine M_take 10 138 (.bool true) _ rfl rfl (by kernel_rfl) (by kernel_rfl) (by kernel_rfl) (by kernel_rfl) (by kernel_rfl) (fun _ _ _ h => h) (by rfl) (fun w' hw' => ?_) hS (listed' := bts 14 2047) (by kernel_rfl) rfl ?_
       ·go_simp
       simp only [zsA,zsZ,zsS];refine M_run 11 17 (.pointer (some ⟨V2.heap.size,0,none⟩)) (V2.alloc (Obj.cells #[.int .i64 0,.int .i64 0,.string ⟨#[]⟩,.slice none 0 0,.slice none 0 0] 30)) rfl rfl (by kernel_rfl) (by rfl) (listed' := bts 14 4095) (by kernel_rfl) (by go_simp) (hS.trans (((Below.refl _ _).alloc (Nat.le_refl _) _).mono hS.size)) ?_;have hbU : Below V2.heap.size V2 (V2.alloc (Obj.cells #[.int .i64 0,.int .i64 0,.string ⟨#[]⟩,.slice none 0 0,.slice none 0 0] 30)) := (Below.refl _ _).alloc (Nat.le_refl _) _;obtain ⟨bz,hbz⟩ : ∃ z,V2.heap.size = z := ⟨_,rfl⟩
       have BZ : Blk (V2.alloc (Obj.cells #[.int .i64 0,.int .i64 0,.string ⟨#[]⟩,.slice none 0 0,.slice none 0 0] 30)) bz #[.int .i64 0,.int .i64 0,.string ⟨#[]⟩,.slice none 0 0,.slice none 0 0] 30 := by rw [← hbz]; exact Blk.new V2 _ _
       have GZ : wc.heap.size ≤ bz := by rw [← hbz]; exact hS.size
       have hS0 := hS;have hS : Below wc.heap.size wc (V2.alloc (Obj.cells #[.int .i64 0,.int .i64 0,.string ⟨#[]⟩,.slice none 0 0,.slice none 0 0] 30)) := hS0.trans (hbU.mono hS0.size)
       have hnz : bz ∉ bs4 := fun hc => by have h1 := (hap4.2 _ hc).2; rw [hbz] at h1; omega
       replace ht4 := ht4.sm (Sm.below hbU fun q hq => (hap4.2 q hq).2)
       replace hap4 := hap4.mono hbU.size
       clear hS0 hbU;simp only [zsA,zsZ,zsS]
       try simp only [hbz]
       clear hbz;generalize (V2.alloc (Obj.cells #[.int .i64 0,.int .i64 0,.string ⟨#[]⟩,.slice none 0 0,.slice none 0 0] 30)) = V3 at *;have k0 := (BZ.cell 0).trans rfl;have z0 := BZ.froz 0;have k1 := (BZ.cell 1).trans rfl;have z1 := BZ.froz 1;have k2 := (BZ.cell 2).trans rfl;have z2 := BZ.froz 2;have k3 := (BZ.cell 3).trans rfl;have z3 := BZ.froz 3;have k4 := (BZ.cell 4).trans rfl;have z4 := BZ.froz 4;have hfin := see_store BZ ht4 hnz hS GZ;refine M_storeT 12 (set5 V3 bz 0 (.int .i64 K2) (.int .i64 N2) (.string S2) (.slice a1 n1 c1) (.slice a2 n2 c2)) rfl rfl (by kernel_rfl) (by rfl) (listed' := bts 14 8191) (by kernel_rfl) (by unfold set5; go_simp) hfin.2.2 ?_;clear k0 z0 k1 z1 k2 z2 k3 z3 k4 z4;have HFA : Hid (Blk (set5 V3 bz 0 (.int .i64 K2) (.int .i64 N2) (.string S2) (.slice a1 n1 c1) (.slice a2 n2 c2)) bz #[.int .i64 K2,.int .i64 N2,.string S2,.slice a1 n1 c1,.slice a2 n2 c2] 30 ∧ (TrIn 6 (set5 V3 bz 0 (.int .i64 K2) (.int .i64 N2) (.string S2) (.slice a1 n1 c1) (.slice a2 n2 c2)) (.agg #[.int .i64 K2,.int .i64 N2,.string S2,.slice a1 n1 c1,.slice a2 n2 c2]) R.1 ∧ TrW 6 (set5 V3 bz 0 (.int .i64 K2) (.int .i64 N2) (.string S2) (.slice a1 n1 c1) (.slice a2 n2 c2)) (.agg #[.int .i64 K2,.int .i64 N2,.string S2,.slice a1 n1 c1,.slice a2 n2 c2]) R.1) ∧ Below wc.heap.size wc (set5 V3 bz 0 (.int .i64 K2) (.int .i64 N2) (.string S2) (.slice a1 n1 c1) (.slice a2 n2 c2))) := hfin;clear hfin hS BZ ht4 hap4 hnz GZ;generalize (set5 V3 bz 0 (.int .i64 K2) (.int .i64 N2) (.string S2) (.slice a1 n1 c1) (.slice a2 n2 c2)) = V9 at *;refine M_runA 13 18 (.bool true) V9 rfl rfl (by kernel_rfl) (by rfl) (listed' := bts 14 16383) (by kernel_rfl) (by go_simp) (by kernel_rfl) ?_;simp only [zsA,zsZ,zsS];refine M_done (by kernel_rfl) ?_ _;go_wp2_with fail
       go_meet
       exact ⟨bz,a1,a2,n1,c1,n2,c2,rfl,rfl,HFA⟩
      ·skip
       have hbU : Below V1.heap.size V1 (V1.alloc (Obj.cells #[.int .i64 0,.int .i64 0,.string ⟨#[]⟩,.slice none 0 0,.slice none 0 0] 30)) := (Below.refl _ _).alloc (Nat.le_refl _) _;obtain ⟨bz,hbz⟩ : ∃ z,V1.heap.size = z := ⟨_,rfl⟩
       have BZ : Blk (V1.alloc (Obj.cells #[.int .i64 0,.int .i64 0,.string ⟨#[]⟩,.slice none 0 0,.slice none 0 0] 30)) bz #[.int .i64 0,.int .i64 0,.string ⟨#[]⟩,.slice none 0 0,.slice none 0 0] 30 := by rw [← hbz]; exact Blk.new V1 _ _
       have GZ : wc.heap.size ≤ bz := by rw [← hbz]; exact hS.size
       have hS0 := hS;have hS : Below wc.heap.size wc (V1.alloc (Obj.cells #[.int .i64 0,.int .i64 0,.string ⟨#[]⟩,.slice none 0 0,.slice none 0 0] 30)) := hS0.trans (hbU.mono hS0.size)
       replace htv := htv.cel (Cel.ofBelow hbU)
       clear hS0 hbU;simp only [zsA,zsZ,zsS]
       try simp only [hbz]
       clear hbz;generalize (V1.alloc (Obj.cells #[.int .i64 0,.int .i64 0,.string ⟨#[]⟩,.slice none 0 0,.slice none 0 0] 30)) = V4 at *;refine M_call 7 136 10 #[.agg #[.string sn,.slice (some ⟨gm,0,none⟩) mn cm,.slice ae me ce,.slice at' mt ct],.string mnm,tv] rfl rfl (by kernel_rfl) (by rfl) (listed' := bts 14 2303) (by kernel_rfl) (fun W => by go_simp) ?_;refine (HPC.out tv V4 hS htv).mono ?_;rintro ee V5 ⟨r4,bs4,rfl,ht4,hap4,hbU⟩
       have hnz : bz ∉ bs4 := fun hc => by have h1 := (hap4.2 _ hc).1; have h2 := BZ.lt; omega
       replace BZ := BZ.below hbU
       replace htv := htv.cel (Cel.ofBelow hbU)
       obtain ⟨a1,n1,c1,a2,n2,c2,hr4⟩ := ht4.open;rw [HKS.out.1,HKS.out.2.1,HKS.out.2.2] at hr4;subst hr4;rw [HBR.out];clear htv;have hS0 := hS;have hS : Below wc.heap.size wc V5 := hS0.trans (hbU.mono hS0.size);clear hS0 hbU;refine ⟨_,rfl,hS,?_⟩;simp only [zsA,zsZ,zsS];refine M_take 8 128 (.tuple #[.agg #[.int .i64 K2,.int .i64 N2,.string S2,.slice a1 n1 c1,.slice a2 n2 c2],.bool true]) _ rfl rfl (by kernel_rfl) (by kernel_rfl) (by kernel_rfl) (by kernel_rfl) (by kernel_rfl) (fun _ _ _ h => h) (by rfl) (fun w' hw' => ?_) hS (listed' := bts 14 2559) (by kernel_rfl) rfl ?_
       ·go_simp
       simp only [zsA,zsZ,zsS];refine M_take 9 137 (.agg #[.int .i64 K2,.int .i64 N2,.string S2,.slice a1 n1 c1,.slice a2 n2 c2]) _ rfl rfl (by kernel_rfl) (by kernel_rfl) (by kernel_rfl) (by kernel_rfl) (by kernel_rfl) (fun _ _ _ h => h) (by rfl) (fun w' hw' => ?_) hS (listed' := bts 14 3071) (by kernel_rfl) rfl ?_
       ·go_simp
       simp only [zsA,zsZ,zsS];refine M_take 10 138 (.bool true) _ rfl rfl (by kernel_rfl) (by kernel_rfl) (by kernel_rfl) (by kernel_rfl) (by kernel_rfl) (fun _ _ _ h => h) (by rfl) (fun w' hw' => ?_) hS (listed' := bts 14 4095) (by kernel_rfl) rfl ?_
       ·go_simp
       simp only [zsA,zsZ,zsS];have k0 := (BZ.cell 0).trans rfl;have z0 := BZ.froz 0;have k1 := (BZ.cell 1).trans rfl;have z1 := BZ.froz 1;have k2 := (BZ.cell 2).trans rfl;have z2 := BZ.froz 2;have k3 := (BZ.cell 3).trans rfl;have z3 := BZ.froz 3;have k4 := (BZ.cell 4).trans rfl;have z4 := BZ.froz 4;have hfin := see_store BZ ht4 hnz hS GZ;refine M_storeT 12 (set5 V5 bz 0 (.int .i64 K2) (.int .i64 N2) (.string S2) (.slice a1 n1 c1) (.slice a2 n2 c2)) rfl rfl (by kernel_rfl) (by rfl) (listed' := bts 14 8191) (by kernel_rfl) (by unfold set5; go_simp) hfin.2.2 ?_;clear k0 z0 k1 z1 k2 z2 k3 z3 k4 z4;have HFA : Hid (Blk (set5 V5 bz 0 (.int .i64 K2) (.int .i64 N2) (.string S2) (.slice a1 n1 c1) (.slice a2 n2 c2)) bz #[.int .i64 K2,.int .i64 N2,.string S2,.slice a1 n1 c1,.slice a2 n2 c2] 30 ∧ (TrIn 6 (set5 V5 bz 0 (.int .i64 K2) (.int .i64 N2) (.string S2) (.slice a1 n1 c1) (.slice a2 n2 c2)) (.agg #[.int .i64 K2,.int .i64 N2,.string S2,.slice a1 n1 c1,.slice a2 n2 c2]) R.1 ∧ TrW 6 (set5 V5 bz 0 (.int .i64 K2) (.int .i64 N2) (.string S2) (.slice a1 n1 c1) (.slice a2 n2 c2)) (.agg #[.int .i64 K2,.int .i64 N2,.string S2,.slice a1 n1 c1,.slice a2 n2 c2]) R.1) ∧ Below wc.heap.size wc (set5 V5 bz 0 (.int .i64 K2) (.int .i64 N2) (.string S2) (.slice a1 n1 c1) (.slice a2 n2 c2))) := hfin;clear hfin hS BZ ht4 hap4 hnz GZ;generalize (set5 V5 bz 0 (.int .i64 K2) (.int .i64 N2) (.string S2) (.slice a1 n1 c1) (.slice a2 n2 c2)) = V9 at *;refine M_runA 13 18 (.bool true) V9 rfl rfl (by kernel_rfl) (by rfl) (listed' := bts 14 16383) (by kernel_rfl) (by go_simp) (by kernel_rfl) ?_;simp only [zsA,zsZ,zsS];refine M_done (by kernel_rfl) ?_ _;go_wp2_with fail
       go_meet
       exact ⟨bz,a1,a2,n1,c1,n2,c2,rfl,rfl,HFA⟩
     ·skip
      have hbU : Below U0.heap.size U0 (U0.alloc (Obj.cells #[.int .i64 0,.int .i64 0,.string ⟨#[]⟩,.slice none 0 0,.slice none 0 0] 30)) := (Below.refl _ _).alloc (Nat.le_refl _) _;obtain ⟨bz,hbz⟩ : ∃ z,U0.heap.size = z := ⟨_,rfl⟩
      have BZ : Blk (U0.alloc (Obj.cells #[.int .i64 0,.int .i64 0,.string ⟨#[]⟩,.slice none 0 0,.slice none 0 0] 30)) bz #[.int .i64 0,.int .i64 0,.string ⟨#[]⟩,.slice none 0 0,.slice none 0 0] 30 := by rw [← hbz]; exact Blk.new U0 _ _
      have GZ : wc.heap.size ≤ bz := by rw [← hbz]; exact hS.size
      have hS0 := hS;have hS : Below wc.heap.size wc (U0.alloc (Obj.cells #[.int .i64 0,.int .i64 0,.string ⟨#[]⟩,.slice none 0 0,.slice none 0 0] 30)) := hS0.trans (hbU.mono hS0.size);clear hS0 hbU;simp only [zsA,zsZ,zsS]
      try simp only [hbz]
      clear hbz;generalize (U0.alloc (Obj.cells #[.int .i64 0,.int .i64 0,.string ⟨#[]⟩,.slice none 0 0,.slice none 0 0] 30)) = V6 at *;refine M_call 6 135 12 #[.agg #[.int .i64 t.kind,.int .i64 t.n,.string t.s,.slice x1 x2 x3,.slice x4 x5 x6]] rfl rfl (by kernel_rfl) (by rfl) (listed' := bts 14 2175) (by kernel_rfl) (fun W => by go_simp) ?_;refine (HTR.out V6 hS).mono ?_;rintro ee V7 ⟨tv,bst,rfl,htv0,hbU⟩
      replace BZ := BZ.below hbU
      have htv := htv0.trW;clear htv0;have hS0 := hS;have hS : Below wc.heap.size wc V7 := hS0.trans (hbU.mono hS0.size);clear hS0 hbU;refine ⟨_,rfl,hS,?_⟩;simp only [zsA,zsZ,zsS];refine M_call 7 136 10 #[.agg #[.string sn,.slice (some ⟨gm,0,none⟩) mn cm,.slice ae me ce,.slice at' mt ct],.string mnm,tv] rfl rfl (by kernel_rfl) (by rfl) (listed' := bts 14 2303) (by kernel_rfl) (fun W => by go_simp) ?_;refine (HPC.out tv V7 hS htv).mono ?_;rintro ee V8 ⟨r4,bs4,rfl,ht4,hap4,hbU⟩
      have hnz : bz ∉ bs4 := fun hc => by have h1 := (hap4.2 _ hc).1; have h2 := BZ.lt; omega
      replace BZ := BZ.below hbU
      replace htv := htv.cel (Cel.ofBelow hbU)
      obtain ⟨a1,n1,c1,a2,n2,c2,hr4⟩ := ht4.open;rw [HKS.out.1,HKS.out.2.1,HKS.out.2.2] at hr4;subst hr4;rw [HBR.out];clear htv;have hS0 := hS;have hS : Below wc.heap.size wc V8 := hS0.trans (hbU.mono hS0.size);clear hS0 hbU;refine ⟨_,rfl,hS,?_⟩;simp only [zsA,zsZ,zsS];refine M_take 8 128 (.tuple #[.agg #[.int .i64 K2,.int .i64 N2,.string S2,.slice a1 n1 c1,.slice a2 n2 c2],.bool true]) _ rfl rfl (by kernel_rfl) (by kernel_rfl) (by kernel_rfl) (by kernel_rfl) (by kernel_rfl) (fun _ _ _ h => h) (by rfl) (fun w' hw' => ?_) hS (listed' := bts 14 2559) (by kernel_rfl) rfl ?_
      ·go_simp
      simp only [zsA,zsZ,zsS];refine M_take 9 137 (.agg #[.int .i64 K2,.int .i64 N2,.string S2,.slice a1 n1 c1,.slice a2 n2 c2]) _ rfl rfl (by kernel_rfl) (by kernel_rfl) (by kernel_rfl) (by kernel_rfl) (by kernel_rfl) (fun _ _ _ h => h) (by rfl) (fun w' hw' => ?_) hS (listed' := bts 14 3071) (by kernel_rfl) rfl ?_
      ·go_simp
      simp only [zsA,zsZ,zsS];refine M_take 10 138 (.bool true) _ rfl rfl (by kernel_rfl) (by kernel_rfl) (by kernel_rfl) (by kernel_rfl) (by kernel_rfl) (fun _ _ _ h => h) (by rfl) (fun w' hw' => ?_) hS (listed' := bts 14 4095) (by kernel_rfl) rfl ?_
      ·go_simp
      simp only [zsA,zsZ,zsS];have k0 := (BZ.cell 0).trans rfl;have z0 := BZ.froz 0;have k1 := (BZ.cell 1).trans rfl;have z1 := BZ.froz 1;have k2 := (BZ.cell 2).trans rfl;have z2 := BZ.froz 2;have k3 := (BZ.cell 3).trans rfl;have z3 := BZ.froz 3;have k4 := (BZ.cell 4).trans rfl;have z4 := BZ.froz 4;have hfin := see_store BZ ht4 hnz hS GZ;refine M_storeT 12 (set5 V8 bz 0 (.int .i64 K2) (.int .i64 N2) (.string S2) (.slice a1 n1 c1) (.slice a2 n2 c2)) rfl rfl (by kernel_rfl) (by rfl) (listed' := bts 14 8191) (by kernel_rfl) (by unfold set5; go_simp) hfin.2.2 ?_;clear k0 z0 k1 z1 k2 z2 k3 z3 k4 z4;have HFA : Hid (Blk (set5 V8 bz 0 (.int .i64 K2) (.int .i64 N2) (.string S2) (.slice a1 n1 c1) (.slice a2 n2 c2)) bz #[.int .i64 K2,.int .i64 N2,.string S2,.slice a1 n1 c1,.slice a2 n2 c2] 30 ∧ (TrIn 6 (set5 V8 bz 0 (.int .i64 K2) (.int .i64 N2) (.string S2) (.slice a1 n1 c1) (.slice a2 n2 c2)) (.agg #[.int .i64 K2,.int .i64 N2,.string S2,.slice a1 n1 c1,.slice a2 n2 c2]) R.1 ∧ TrW 6 (set5 V8 bz 0 (.int .i64 K2) (.int .i64 N2) (.string S2) (.slice a1 n1 c1) (.slice a2 n2 c2)) (.agg #[.int .i64 K2,.int .i64 N2,.string S2,.slice a1 n1 c1,.slice a2 n2 c2]) R.1) ∧ Below wc.heap.size wc (set5 V8 bz 0 (.int .i64 K2) (.int .i64 N2) (.string S2) (.slice a1 n1 c1) (.slice a2 n2 c2))) := hfin;clear hfin hS BZ ht4 hap4 hnz GZ;generalize (set5 V8 bz 0 (.int .i64 K2) (.int .i64 N2) (.string S2) (.slice a1 n1 c1) (.slice a2 n2 c2)) = V9 at *;refine M_runA 13 18 (.bool true) V9 rfl rfl (by kernel_rfl) (by rfl) (listed' := bts 14 16383) (by kernel_rfl) (by go_simp) (by kernel_rfl) ?_;simp only [zsA,zsZ,zsS];refine M_done (by kernel_rfl) ?_ _;go_wp2_with fail
      go_meet
      exact ⟨bz,a1,a2,n1,c1,n2,c2,rfl,rfl,HFA⟩
    case rest =>
     obtain ⟨b,a1,a2,n1,c1,n2,c2,rfl,rfl,HFA⟩ := hcut;obtain ⟨-, -,HBt, -,hwc,HTt⟩ := HCB20.out _ HFA.out.2.2
     have HT2 : Hid (EnsIn 5 wc (.slice x1 x2 x3) t.es ∧ t.es.length = x2) := (by
      obtain ⟨r,e,h⟩ := HTt;simp only [Value.agg.injEq] at e;have e' := congrArg Array.toList e;simp only at e';subst e';obtain ⟨ve',vr',e1, -, -, -, -, -,k6⟩ := h;simp only [List.cons.injEq,true_and,and_true] at e1;obtain ⟨rfl, -⟩ := e1;obtain ⟨ae',ce',e2, -⟩ := (show EnsIn 5 wc (.slice x1 x2 x3) t.es from k6).open;simp only [Value.slice.injEq] at e2
      exact ⟨k6,e2.2.1.symm⟩ : _ ∧ _)
     have hx2 : x2 ≤ 500 := by rw [← HT2.out.2]; exact HFT6.out.1.sm.2.2.1
     obtain ⟨bw,hbw0⟩ : ∃ z,wc.heap.size = z := ⟨_,rfl⟩;have HBWZ : Hid (wc.heap.size = bw) := hbw0
     have hbtw : bt < bw := by rw [← hbw0]; exact HBt.lt
     have hbb : b < bw := by rw [← hbw0]; exact HFA.out.1.lt
     have HBTT : Hid (Blk wc bt #[.int .i64 t.kind,.int .i64 t.n,.string t.s,.slice x1 x2 x3,.slice x4 x5 x6] 30 ∧ Below w.heap.size w wc) := ⟨HBt,hwc⟩;have HWN : Hid (WantS 5 bw (.slice none 0 0) ((t.es.take 0).filter (fun e => decide (e.1 ≠ GT))) wc (wc.alloc (Obj.cells #[.int .i64 3,.int .i64 0,.string ⟨#[]⟩,.slice none 0 0,.slice none 0 0] 30)) ∧ ((t.es.take 0).filter (fun e => decide (e.1 ≠ GT))).length = 0) := ⟨WantS.nil (by rw [← HBWZ.out]; exact Blk.new wc _ _),rfl⟩;have HBN : Hid (Below bw wc (wc.alloc (Obj.cells #[.int .i64 3,.int .i64 0,.string ⟨#[]⟩,.slice none 0 0,.slice none 0 0] 30))) := (Below.refl _ _).alloc (by omega) _;clear HBt hwc HTt HTR HPC HCB20;go_wp2_with fail
     try simp only [hbw0]
     generalize (wc.alloc (Obj.cells #[.int .i64 3,.int .i64 0,.string ⟨#[]⟩,.slice none 0 0,.slice none 0 0] 30)) = WN at *;clear hbw0
     go_loopw [20] (fun iv wz => ∃ (i q : Nat) (va : Option Addr) (vc : Nat),iv = .int .i64 (i : Int) ∧ i ≤ x2 ∧ q ≤ i ∧ Hid (WantS 5 bw (.slice va q vc) ((t.es.take i).filter (fun e => decide (e.1 ≠ GT))) wc wz ∧ ((t.es.take i).filter (fun e => decide (e.1 ≠ GT))).length = q) ∧ Hid (Below bw wc wz)) (fun iv _ => x2 - (intOf iv).toNat)
     case atStart => exact ⟨0,0,none,0,rfl,by omega,by omega,HWN,HBN⟩
     case round =>
      clear HWN HBN;obtain ⟨i,q,va,vc,rfl,hi,hq,HWN,HBN⟩ := hrel
      have HBr : Hid (∀ W,Kp (fun z => bw ≤ z) wr W → Blk W bt #[.int .i64 t.kind,.int .i64 t.n,.string t.s,.slice x1 x2 x3,.slice x4 x5 x6] 30 ∧ ∀ p u,wc.cell? p = some u → W.cell? p = some u) := fun W hW => by
       have h1 : Below bw wc W := HBN.out.trans (hW.toBelow (Nat.le_of_lt HWN.out.1.1.lt) (fun z hz => hz))
       have h2 : Below wc.heap.size wc W := by rw [HBWZ.out]; exact h1
       exact ⟨HBTT.out.1.below h2,fun p u h => (h2.cell (World.block_lt_of_cell? _ _ h)).trans h⟩
      have tb3 := ((HBr.out wr (Kp.refl _ _)).1.cell 3).trans rfl
      by_cases hlt : i < x2
      ·obtain ⟨x,hx⟩ : ∃ r,t.es[i]? = some r := ⟨_,List.getElem?_eq_getElem (by rw [HT2.out.2]; exact hlt)⟩;have HX : Hid (t.es[i]? = some x) := hx;obtain ⟨ge,off,rfl,cc⟩ := HT2.out.1.get hx;obtain ⟨vt,p0,p1,p2,p3⟩ := ens_at cc;obtain ⟨pt,ct,hvt, -⟩ := p3.open;have HEN : Hid (EnC (TrC 5 wc) wc [.int .i64 x.1,vt] x) := ⟨vt,rfl,p2,p3⟩;obtain ⟨Kt,hKt⟩ : ∃ K,x.2.length = K := ⟨_,rfl⟩;rw [hKt] at hvt;subst hvt;obtain ⟨xt,hxt⟩ : ∃ z,x.1 = z := ⟨_,rfl⟩;have HXT : Hid (x.1 = xt) := hxt;rw [hxt] at p0 HEN;have HP : Hid (wc.cell? ⟨ge,off + i * 2,none⟩ = some (.int .i64 xt) ∧ wc.cell? ⟨ge,off + i * 2 + 1,none⟩ = some (.slice pt Kt ct)) := ⟨p0,p1⟩;have t0 := (HBr.out wr (Kp.refl _ _)).2 _ _ p0;clear hx cc p0 p1 p2 p3 hKt hxt
       by_cases hg : xt = GT
       ·have dg : (xt != GT) = false := by simp [hg]
        have HTK : Hid (((t.es.take (i + 1)).filter (fun e => decide (e.1 ≠ GT))) = ((t.es.take i).filter (fun e => decide (e.1 ≠ GT)))) := (by
         rw [take_atC HX.out,List.filter_append]
         have h1 : [x].filter (fun e => decide (e.1 ≠ GT)) = [] := by
          simp only [List.filter_cons,List.filter_nil]
          split
          ·rename_i h
           exact absurd (HXT.out.trans hg) (of_decide_eq_true h)
          ·rfl
         rw [h1,List.append_nil] : _ = _)
        have HW2 : Hid (WantS 5 bw (.slice va q vc) ((t.es.take (i + 1)).filter (fun e => decide (e.1 ≠ GT))) wc wr ∧ ((t.es.take (i + 1)).filter (fun e => decide (e.1 ≠ GT))).length = q) := (by rw [HTK.out]; exact HWN.out : _ ∧ _);clear hg;go_wp2_with fail
        go_roundw
        case rel => exact ⟨i + 1,q,va,vc,by go_num,by omega,by omega,HW2,HBN⟩
        case measure => simp [intOf]; omega
       ·have dg : (xt != GT) = true := by simpa using hg
        have HTK : Hid (((t.es.take (i + 1)).filter (fun e => decide (e.1 ≠ GT))) = ((t.es.take i).filter (fun e => decide (e.1 ≠ GT))) ++ [x]) := (by
         rw [take_atC HX.out,List.filter_append]
         have h1 : [x].filter (fun e => decide (e.1 ≠ GT)) = [x] := by
          simp only [List.filter_cons,List.filter_nil]
          split
          ·rfl
          ·rename_i h
           exact absurd (decide_eq_true (p := x.1 ≠ GT) (fun e => hg (HXT.out.symm.trans e))) h
         rw [h1] : _ = _)
        clear hg
        have HCT : Hid (∀ W,Kp (fun z => bw < z) wr W → Blk W bw #[.int .i64 3,.int .i64 0,.string ⟨#[]⟩,.slice va q vc,.slice none 0 0] 30 ∧ W.cell? ⟨bt,3,none⟩ = some (.slice (some ⟨ge,off,none⟩) x2 x3) ∧ W.cell? ⟨ge,off + i * 2,none⟩ = some (.int .i64 xt) ∧ W.cell? ⟨ge,off + i * 2 + 1,none⟩ = some (.slice pt Kt ct)) := fun W hW => by
         obtain ⟨h1,h2⟩ := HBr.out W (hW.weak fun z _ hz => Nat.le_of_lt hz);exact ⟨HWN.out.1.1.kp hW (by omega),(h1.cell 3).trans rfl,h2 _ _ HP.out.1,h2 _ _ HP.out.2⟩
        go_upto_region 26 with fail
        clear tb3 t0;refine M_region (T := fun W => Kp (fun z => bw < z) wr W) (m := 9) (by kernel_rfl) ?_;have hdr : Below wr.heap.size wr wr.drew := (Below.refl _ _).drew;have hS : Kp (fun z => bw < z) wr wr.drew := Kp.ofBelow hdr;refine M_take 0 155 (.pointer (some ⟨bw,3,none⟩)) _ rfl rfl (by kernel_rfl) (by kernel_rfl) (by kernel_rfl) (by kernel_rfl) (by kernel_rfl) (fun _ _ _ h => h) (by rfl) (fun w' hw' => ?_) hS (listed' := bts 11 1) (by kernel_rfl) rfl ?_
        ·go_simp
        simp only [zsA,zsZ,zsS];refine M_take 1 156 (.slice va q vc) _ rfl rfl (by kernel_rfl) (by kernel_rfl) (by kernel_rfl) (by kernel_rfl) (by kernel_rfl) (fun _ _ _ h => h) (by rfl) (fun w' hw' => ?_) hS (listed' := bts 11 3) (by kernel_rfl) rfl ?_
        ·obtain ⟨HB0,z1,z2,z3⟩ := HCT.out _ hw'; have f1 := (HB0.cell 3).trans rfl; go_simp
        simp only [zsA,zsZ,zsS];refine M_take 2 157 (.pointer (some ⟨bt,3,none⟩)) _ rfl rfl (by kernel_rfl) (by kernel_rfl) (by kernel_rfl) (by kernel_rfl) (by kernel_rfl) (fun _ _ _ h => h) (by rfl) (fun w' hw' => ?_) hS (listed' := bts 11 7) (by kernel_rfl) rfl ?_
        ·go_simp
        simp only [zsA,zsZ,zsS];refine M_take 3 158 (.slice (some ⟨ge,off,none⟩) x2 x3) _ rfl rfl (by kernel_rfl) (by kernel_rfl) (by kernel_rfl) (by kernel_rfl) (by kernel_rfl) (fun _ _ _ h => h) (by rfl) (fun w' hw' => ?_) hS (listed' := bts 11 15) (by kernel_rfl) rfl ?_
        ·obtain ⟨HB0,z1,z2,z3⟩ := HCT.out _ hw'; go_simp
        simp only [zsA,zsZ,zsS];refine M_take 4 159 (.int .i64 (i : Int)) _ rfl rfl (by kernel_rfl) (by kernel_rfl) (by kernel_rfl) (by kernel_rfl) (by kernel_rfl) (fun _ _ _ h => h) (by rfl) (fun w' hw' => ?_) hS (listed' := bts 11 31) (by kernel_rfl) rfl ?_
        ·go_simp
        simp only [zsA,zsZ,zsS];refine M_take 5 160 (.pointer (some ⟨ge,off + i * 2,none⟩)) _ rfl rfl (by kernel_rfl) (by kernel_rfl) (by kernel_rfl) (by kernel_rfl) (by kernel_rfl) (fun _ _ _ h => h) (by rfl) (fun w' hw' => ?_) hS (listed' := bts 11 63) (by kernel_rfl) rfl ?_
        ·go_simp
        simp only [zsA,zsZ,zsS];refine M_take 6 161 (.agg #[.int .i64 xt,.slice pt Kt ct]) _ rfl rfl (by kernel_rfl) (by kernel_rfl) (by kernel_rfl) (by kernel_rfl) (by kernel_rfl) (fun _ _ _ h => h) (by rfl) (fun w' hw' => ?_) hS (listed' := bts 11 127) (by kernel_rfl) rfl ?_
        ·obtain ⟨HB0,z1,z2,z3⟩ := HCT.out _ hw'; go_simp
        simp only [zsA,zsZ,zsS];have hd2 : Below wr.heap.size wr (wr.drew.alloc (Obj.cells #[.int .i64 xt,.slice pt Kt ct] 57)) := hdr.alloc (Nat.le_refl _) _;obtain ⟨ba,bc,W',r1,r2,r3,r4,r5⟩ := HWN.out.1.push hd2 HEN.out rfl (Blk.new wr.drew _ _) (by rw [HWN.out.2]; omega);rw [HWN.out.2] at r1 r3 r5;rw [← HTK.out] at r3;have HRUN : Hid ((Builtin.append_ #[27,27] 27 #[.slice va q vc,.slice (some ⟨wr.heap.size,0,none⟩) 1 1]).run Try.prog (wr.drew.alloc (Obj.cells #[.int .i64 xt,.slice pt Kt ct] 57)) = .ok (.slice ba (q + 1) bc) W') := r1;have hS2 : Kp (fun z => bw < z) wr (wr.drew.alloc (Obj.cells #[.int .i64 xt,.slice pt Kt ct] 57)) := Kp.ofBelow hd2;have hS3 : Kp (fun z => bw < z) wr W' := hS2.trans2 r4 fun _ _ hi => hi
        have s1 := (r2.cell 3).trans rfl;have s2 := r2.froz 3;have HW2 : Hid (WantS 5 bw (.slice ba (q + 1) bc) ((t.es.take (i + 1)).filter (fun e => decide (e.1 ≠ GT))) wc (W'.setCell ⟨bw,3,none⟩ (.slice ba (q + 1) bc)) ∧ ((t.es.take (i + 1)).filter (fun e => decide (e.1 ≠ GT))).length = q + 1) := ⟨r3,by rw [HTK.out,List.length_append,HWN.out.2]; rfl⟩;have HB2 : Hid (Below bw wc (W'.setCell ⟨bw,3,none⟩ (.slice ba (q + 1) bc))) := HBN.out.trans (r5.toBelow (Nat.le_of_lt HWN.out.1.1.lt) (fun z hz => hz));clear r1 r2 r3 r4 r5 hd2 hdr;refine M_run 7 162 (.slice (some ⟨wr.heap.size,0,none⟩) 1 1) ((wr.drew.alloc (Obj.cells #[.int .i64 xt,.slice pt Kt ct] 57))) rfl rfl (by kernel_rfl) (by rfl) (listed' := bts 11 255) (by kernel_rfl) (by go_simp) hS2 ?_;simp only [zsA,zsZ,zsS];refine M_run 8 163 (.slice ba (q + 1) bc) (W') rfl rfl (by kernel_rfl) (by rfl) (listed' := bts 11 511) (by kernel_rfl) (append_run rfl rfl rfl HRUN.out) hS3 ?_;simp only [zsA,zsZ,zsS];refine M_runA 9 164 (.pointer (some ⟨bw,3,none⟩)) W' rfl rfl (by kernel_rfl) (by rfl) (listed' := bts 11 1023) (by kernel_rfl) (by go_simp) (by kernel_rfl) ?_;simp only [zsA,zsZ,zsS];refine M_store 10 (W'.setCell ⟨bw,3,none⟩ (.slice ba (q + 1) bc)) rfl rfl (by kernel_rfl) (by rfl) (listed' := bts 11 2047) (by kernel_rfl) (by go_simp) (by kernel_rfl) ?_;refine M_done (by kernel_rfl) ?_ _;clear HRUN s1 s2 hS hS2 hS3;generalize (W'.setCell ⟨bw,3,none⟩ (.slice ba (q + 1) bc)) = W9' at *;go_wp2_with fail
        go_roundw
        case rel => exact ⟨i + 1,q + 1,ba,bc,by go_num,by omega,by omega,HW2,HB2⟩
        case measure => simp [intOf]; omega
      ·obtain rfl : i = x2 := by omega
       have hB : Below wc.heap.size wc wr := by rw [HBWZ.out]; exact HBN.out
       have hbwr : Below w.heap.size w wr := HBTT.out.2.trans (hB.mono HBTT.out.2.size);have BWr := HWN.out.1.1;have BAr := HFA.out.1.below hB
       have HSM : Hid (Calls Try.prog 13 #[.agg #[.int .i64 K2,.int .i64 N2,.string S2,.slice a1 n1 c1,.slice a2 n2 c2],.agg #[.int .i64 3,.int .i64 0,.string ⟨#[]⟩,.slice va q vc,.slice none 0 0]] wr fun e w' => e = .returned (.bool true) ∧ Below wr.heap.size wr w') := (by
        have h1 := HWN.out.1.done hB;rw [List.take_of_length_le (by rw [HT2.out.2]; exact Nat.le_refl _),← HR12.out.1] at h1
        exact rsame_eq (HFA.out.2.1.1.below hB) h1 : Calls Try.prog _ _ _ _)
       have k0 := (BWr.cell 0).trans rfl;have k1 := (BWr.cell 1).trans rfl;have k2 := (BWr.cell 2).trans rfl;have k3 := (BWr.cell 3).trans rfl;have k4 := (BWr.cell 4).trans rfl;have f0 := (BAr.cell 0).trans rfl;have f1 := (BAr.cell 1).trans rfl;have f2 := (BAr.cell 2).trans rfl;have f3 := (BAr.cell 3).trans rfl;have f4 := (BAr.cell 4).trans rfl;clear hB BWr BAr;go_wp2_with fail;refine HSM.out.mono ?_;rintro e w9 ⟨rfl,hb9⟩;have hbw9 : Below w.heap.size w w9 := hbwr.trans (hb9.mono hbwr.size);clear hb9 hbwr HSM f0 f1 f2 f3 f4 k0 k1 k2 k3 k4 tb3;go_wp2_with fail;refine (pjawake_any _).mono ?_;rintro e wz ⟨rfl,hbz⟩;have hbwz : Below w.heap.size w wz := hbw9.trans (hbz.mono hbw9.size);clear hbz;go_wp2_with fail;go_ret;exact ⟨rfl,hbwz⟩
end Go.Proofs.Ytmgbhicogmclgaa

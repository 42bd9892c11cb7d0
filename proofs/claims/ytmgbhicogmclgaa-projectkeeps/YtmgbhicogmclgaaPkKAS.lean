/- Part 19 of what the proof stands on. -/
import Derived.Test.YtmgbhicogmclgaaPkKAR
namespace Go.Proofs.Ytmgbhicogmclgaa
set_option maxHeartbeats 8000000
set_option linter.unusedVariables false
set_option linter.unusedSimpArgs false
set_option maxRecDepth 20000
open Go.ChangeShapes Go.WideShapes Go.ChangeAt Go.RowKit
theorem typeB_kind {mn en : List ByteArray} {k : Int} {t : ByteArray} (h : typeB mn en k t = true) : 1 ≤ k ∧ k ≤ 7 := by
 unfold typeB at h
 by_cases h1 : 1 ≤ k ∧ k ≤ 7
 ·exact h1
 ·exfalso
  revert h
  simp
  intros
  omega
theorem ok_kinds {s : ScS} (h : OkS s) : ∀ m ∈ s.msgs,∀ f ∈ m.fields,1 ≤ f.kind ∧ f.kind ≤ 7 := fun m hm f hf => typeB_kind ((h.msgs m hm).2.2.2.2.1 f hf).1.2.2.2
theorem mtr_lenD (ms : List MtS) : ∀ r ∈ mtRows ms,r.length = 3 := fun r hr => by
 simp only [mtRows,List.mem_map] at hr;obtain ⟨_,_,rfl⟩ := hr
 rfl
theorem schemaD_any {w : World} {v : Value} {s : ScS} (hr : ScIn w v s) (hf : FewL s) : Calls Try.prog 11 #[v] w fun e w' => ∃ r,e = .returned r ∧ ScIn w' r s ∧ Below w.heap.size w w' :=
 (schema_any hr hf).mono fun e w' ⟨vm,ve,vt,pm,pe,h1,h2,h3,h4,h5⟩ => ⟨_,h1,⟨vm,ve,vt,rfl,h2.to_in,h3.to_in,(RowG.own (mtr_lenD _) (by decide) h4).1⟩,h5⟩
theorem row_sliceD {w : World} {v : Value} {size : Nat} {rs : List (List Value)} (h : RowG w v size rs) : ∃ a n c,v = .slice a n c := by
 obtain ⟨a,c,h,_⟩ := h.form;exact ⟨a,_,c,h⟩
theorem projectKeeps_walk (v : Value) (s : ScS) (which : Int) (la : Option Addr) (L lc : Nat) (zs : List Int) (w : World) (hr : ScIn w v s) (hw : ScW s) (g1 : (Lit.int .i64 which).wf = true) (hI : IsRow .i64 w la L lc zs) (hcap : lc * Try.prog.bytesOf 3 ≤ 140737488351232) :
  Calls Try.prog 4 #[v,.int .i64 which,.slice la L lc] w fun e w' => e = .returned (.bool true) ∧ Below w.heap.size w w' := by
 have HPJ : ProjC := project_any;have HPJ' : Hid ProjC := HPJ;clear HPJ;obtain ⟨i1,i2⟩ := bounds_i64 g1;obtain ⟨hRl,hLl⟩ := hI.rowG;have HRL : Hid (RowG w (.slice la L lc) 1 (inRows (zs.take L)) ∧ (zs.take L).length = L) := ⟨hRl,hLl⟩;have hs' := hr;obtain ⟨vm,ve,vt,rfl,hms,hen,hmt⟩ := hr;obtain ⟨ma,mc,rfl,hmc1,hmc2, -⟩ := hms.open;obtain ⟨ea,ec,rfl, -⟩ := hen.open;obtain ⟨ta,tn,tc,rfl⟩ := row_sliceD hmt;obtain ⟨mn,hmn⟩ : ∃ z,s.msgs.length = z := ⟨_,rfl⟩;obtain ⟨en,hen'⟩ : ∃ z,s.enums.length = z := ⟨_,rfl⟩;obtain ⟨sn,hsn⟩ : ∃ z,s.name = z := ⟨_,rfl⟩;rw [hmn,hen',hsn] at hs' ⊢;rw [hmn] at hmc1 hms;unfold maxLen at hmc2;have HMN : Hid (s.msgs.length = mn) := hmn;have HSC : Hid (ScIn w (.agg #[.string sn,.slice ma mn mc,.slice ea en ec,.slice ta tn tc]) s) := hs';have HMS : Hid (MsIn w (.slice ma mn mc) s.msgs) := hms;have HSW : Hid (ScW s) := hw;have al : Below w.heap.size w (w.alloc (Obj.cells #[.string sn,.slice ma mn mc,.slice ea en ec,.slice ta tn tc] 26)) := (Below.refl _ _).alloc (Nat.le_refl _) _;have BS : Blk (w.alloc (Obj.cells #[.string sn,.slice ma mn mc,.slice ea en ec,.slice ta tn tc] 26)) w.heap.size #[.string sn,.slice ma mn mc,.slice ea en ec,.slice ta tn tc] 26 := Blk.new w _ _;have HFW : Hid (Calls Try.prog 7 #[.agg #[.string sn,.slice ma mn mc,.slice ea en ec,.slice ta tn tc]] (w.alloc (Obj.cells #[.string sn,.slice ma mn mc,.slice ea en ec,.slice ta tn tc] 26)) fun e w' => FewP s e ∧ Below (w.alloc (Obj.cells #[.string sn,.slice ma mn mc,.slice ea en ec,.slice ta tn tc] 26)).heap.size (w.alloc (Obj.cells #[.string sn,.slice ma mn mc,.slice ea en ec,.slice ta tn tc] 26)) w') := few_any (hs'.below al) hw;clear hRl hLl hI hcap hs' hms hen hmt hmn hen' hsn hw g1
 go_enter Try.func4,Try.ntmps4
 go_wp2_with fail;refine HFW.out.mono ?_;rintro e w2 ⟨hfw,hb2⟩;have hbw2 : Below w.heap.size w w2 := al.trans (hb2.mono al.size);have BS2 := BS.below hb2;clear hb2 al BS HFW
 rcases hfw with rfl | ⟨rfl,hfs⟩
 ·clear BS2;go_wp2_with fail;refine (pjawake_any _).mono ?_;rintro e wz ⟨rfl,hbz⟩;have hbwz : Below w.heap.size w wz := hbw2.trans (hbz.mono hbw2.size);clear hbz;go_wp2_with fail;go_ret;exact ⟨rfl,hbwz⟩
 have HFS : Hid (FewS s) := hfs;have HRK : Hid (Calls Try.prog 16 #[.agg #[.string sn,.slice ma mn mc,.slice ea en ec,.slice ta tn tc]] w2 fun e w' => e = .returned (.int .i64 (checkA s)) ∧ Below w2.heap.size w2 w') := rcheck_any (HSC.out.below hbw2) hfs;have s0 := (BS2.cell 0).trans rfl;have s1 := (BS2.cell 1).trans rfl;have s2 := (BS2.cell 2).trans rfl;have s3 := (BS2.cell 3).trans rfl;clear hfs;go_wp2_with fail;refine HRK.out.mono ?_;rintro e w3 ⟨rfl,hb3⟩;have hbw3 : Below w.heap.size w w3 := hbw2.trans (hb3.mono hbw2.size);have BS3 := BS2.below hb3;clear hb3 hbw2 BS2 HRK s0 s1 s2 s3;obtain ⟨A,hA⟩ : ∃ z,checkA s = z := ⟨_,rfl⟩;have HA : Hid (checkA s = A) := hA;rw [hA];clear hA
 by_cases hA0 : A = 0
 rotate_left
 ·have d : (A != 0) = true := by simpa using hA0
  clear hA0 BS3;go_wp2_with fail;refine (pjawake_any _).mono ?_;rintro e wz ⟨rfl,hbz⟩;have hbwz : Below w.heap.size w wz := hbw3.trans (hbz.mono hbw3.size);clear hbz;go_wp2_with fail;go_ret;exact ⟨rfl,hbwz⟩
 subst hA0;have HOK : Hid (OkS s) := (checkA_ok s).1 HA.out
 by_cases hL2 : 200 < L
 ·have d : decide (200 < (L : Int)) = true := by simp; omega
  clear BS3;go_wp2_with fail;refine (pjawake_any _).mono ?_;rintro e wz ⟨rfl,hbz⟩;have hbwz : Below w.heap.size w wz := hbw3.trans (hbz.mono hbw3.size);clear hbz;go_wp2_with fail;go_ret;exact ⟨rfl,hbwz⟩
 have d : decide (200 < (L : Int)) = false := by simp; omega
 have hmn1 : 0 < mn := by have := HOK.out.some; rw [HMN.out] at this; exact this
 have hmn2 : mn ≤ 14 := by have := HFS.out.msgs; rw [HMN.out] at this; exact this
 obtain ⟨hp1,hp2⟩ := placeI_in which (mn : Int) (by omega);obtain ⟨k,hk⟩ : ∃ z : Nat,placeI which (mn : Int) = (z : Int) := ⟨(placeI which (mn : Int)).toNat,by omega⟩
 have hkm : k < mn := by omega
 have HPL : Hid (∀ W,Calls Try.prog 17 #[.int .i64 which,.int .i64 (mn : Int)] W fun e w1 => e = .returned (.int .i64 (k : Int)) ∧ w1 = W) := fun W => by
  have h1 := place_is which (mn : Int) i1 i2 (by omega) (by omega) W;rw [hk] at h1;exact h1
 obtain ⟨m,hm⟩ : ∃ x,s.msgs[k]? = some x := ⟨_,List.getElem?_eq_getElem (by rw [HMN.out]; exact hkm)⟩;have HM : Hid (s.msgs[k]? = some m) := hm;obtain ⟨g,off,vf,vr,rfl,c0,c1,c2,hrf,hrr⟩ := HMS.out.get hm;obtain ⟨mnm,hmnm⟩ : ∃ z,m.name = z := ⟨_,rfl⟩;have HNM : Hid (m.name = mnm) := hmnm
 have HMG : Hid ((msgOf s mnm).isSome = true) := (by
  rw [msgOf,List.find?_isSome]
  exact ⟨m,List.mem_of_getElem? hm,by simpa using hmnm⟩ : (msgOf s mnm).isSome = true)
 rw [hmnm] at c0
 have HCE : Hid (∀ W,Below w3.heap.size w3 W → W.cell? ⟨w.heap.size,1,none⟩ = some (.slice (some ⟨g,off,none⟩) mn mc) ∧ W.cell? ⟨g,off + k * 3,none⟩ = some (.string mnm)) := fun W hW => by
  have hb : Below w.heap.size w W := hbw3.trans (hW.mono hbw3.size);exact ⟨((BS3.below hW).cell 1).trans rfl,(hb.cell (World.block_lt_of_cell? _ _ c0)).trans c0⟩
 clear hm hrf hrr hmnm hk c0 c1 c2 hp1 hp2;go_wp2_with fail;obtain ⟨b0,hb0⟩ : ∃ z,w.heap.size = z := ⟨_,rfl⟩;have HBZ : Hid (w.heap.size = b0) := hb0;rw [hb0] at HCE BS3
 try simp only [hb0]
 clear hb0 d;have hS : Below w3.heap.size w3 w3.drew := (Below.refl _ _).drew;refine wp_region_held_drew (S := fun w' => Below w3.heap.size w3 w') (by kernel_rfl) hS (fun hS => ?_);refine rg_take 0 25 (.pointer (some ⟨b0,1,none⟩)) _ rfl rfl (by kernel_rfl) (by kernel_rfl) (by kernel_rfl) (fun _ _ _ h => h) (by rfl) (fun w' hw' => ?_) hS (listed' := bts 11 1) (by kernel_rfl) rfl ?_
 ·go_simp
 simp only [zsA,zsZ,zsS];refine rg_take 1 26 (.slice (some ⟨g,off,none⟩) mn mc) _ rfl rfl (by kernel_rfl) (by kernel_rfl) (by kernel_rfl) (fun _ _ _ h => h) (by rfl) (fun w' hw' => ?_) hS (listed' := bts 11 3) (by kernel_rfl) rfl ?_
 ·have f0 := (HCE.out _ hw').1; go_simp
 simp only [zsA,zsZ,zsS];refine rg_take 2 27 (.int .i64 which) _ rfl rfl (by kernel_rfl) (by kernel_rfl) (by kernel_rfl) (fun _ _ _ h => h) (by rfl) (fun w' hw' => ?_) hS (listed' := bts 11 7) (by kernel_rfl) rfl ?_
 ·go_simp
 simp only [zsA,zsZ,zsS];refine rg_take 3 28 (.pointer (some ⟨b0,1,none⟩)) _ rfl rfl (by kernel_rfl) (by kernel_rfl) (by kernel_rfl) (fun _ _ _ h => h) (by rfl) (fun w' hw' => ?_) hS (listed' := bts 11 15) (by kernel_rfl) rfl ?_
 ·go_simp
 simp only [zsA,zsZ,zsS];refine rg_take 4 29 (.slice (some ⟨g,off,none⟩) mn mc) _ rfl rfl (by kernel_rfl) (by kernel_rfl) (by kernel_rfl) (fun _ _ _ h => h) (by rfl) (fun w' hw' => ?_) hS (listed' := bts 11 31) (by kernel_rfl) rfl ?_
 ·have f0 := (HCE.out _ hw').1; go_simp
 simp only [zsA,zsZ,zsS];refine rg_take 5 30 (.int .i64 (mn : Int)) _ rfl rfl (by kernel_rfl) (by kernel_rfl) (by kernel_rfl) (fun _ _ _ h => h) (by rfl) (fun w' hw' => ?_) hS (listed' := bts 11 63) (by kernel_rfl) rfl ?_
 ·go_simp
 simp only [zsA,zsZ,zsS];refine rg_call 6 31 17 #[.int .i64 which,.int .i64 (mn : Int)] rfl rfl (by kernel_rfl) (by rfl) (listed' := bts 11 127) (by kernel_rfl) (fun W => by go_simp) ?_;refine (HPL.out _).mono ?_;rintro e W1 ⟨rfl,rfl⟩;refine ⟨_,rfl,hS,?_⟩;simp only [zsA,zsZ,zsS];refine rg_take 7 32 (.pointer (some ⟨g,off + k * 3,none⟩)) _ rfl rfl (by kernel_rfl) (by kernel_rfl) (by kernel_rfl) (fun _ _ _ h => h) (by rfl) (fun w' hw' => ?_) hS (listed' := bts 11 255) (by kernel_rfl) rfl ?_
 ·go_simp
 simp only [zsA,zsZ,zsS];refine rg_take 8 33 (.pointer (some ⟨g,off + k * 3,none⟩)) _ rfl rfl (by kernel_rfl) (by kernel_rfl) (by kernel_rfl) (fun _ _ _ h => h) (by rfl) (fun w' hw' => ?_) hS (listed' := bts 11 511) (by kernel_rfl) rfl ?_
 ·go_simp
 simp only [zsA,zsZ,zsS];refine rg_take 9 34 (.string mnm) _ rfl rfl (by kernel_rfl) (by kernel_rfl) (by kernel_rfl) (fun _ _ _ h => h) (by rfl) (fun w' hw' => ?_) hS (listed' := bts 11 1023) (by kernel_rfl) rfl ?_
 ·have f0 := (HCE.out _ hw').2; go_simp
 simp only [zsA,zsZ,zsS];refine rg_take 10 7 (.string mnm) _ rfl rfl (by kernel_rfl) (by kernel_rfl) (by kernel_rfl) (fun _ _ _ h => h) (by rfl) (fun w' hw' => ?_) hS (listed' := bts 11 2047) (by kernel_rfl) rfl ?_
 ·go_simp
 simp only [zsA,zsZ,zsS];refine wpAnyH_done (by kernel_rfl) ?_ _;generalize w3.drew = W1 at *;have hbw5 : Below w.heap.size w W1 := hbw3.trans (hS.mono hbw3.size);have BS5 : Blk W1 b0 #[.string sn,.slice (some ⟨g,off,none⟩) mn mc,.slice ea en ec,.slice ta tn tc] 26 := BS3.below hS;clear hbw3 BS3 HCE HPL hS;have HFT : Hid (Calls Try.prog 18 #[.agg #[.string sn,.slice (some ⟨g,off,none⟩) mn mc,.slice ea en ec,.slice ta tn tc],.string mnm,.slice la L lc] W1 (FitA s mnm W1)) := fitAll_any s sn (some ⟨g,off,none⟩) ea ta mn mc en ec tn tc (fun m hm => (HFS.out.few.flds m hm).1) (ok_kinds HOK.out) (zs.take L) la lc L W1 (HSC.out.below hbw5) (HRL.out.1.below hbw5) HRL.out.2 (by omega) mnm;have s0 := (BS5.cell 0).trans rfl;have s1 := (BS5.cell 1).trans rfl;have s2 := (BS5.cell 2).trans rfl;have s3 := (BS5.cell 3).trans rfl;go_wp2_with fail;refine Calls.mono HFT.out ?_;rintro e w6 ⟨r,t,bs,rfl,hO,hA6,hT,hc6,hb6⟩;have hbw6 : Below w.heap.size w w6 := hbw5.trans (hb6.mono hbw5.size);have BS6 := BS5.below hb6;have HTI6 : Hid (TrIn 6 w6 (.agg r.toArray) t) := hO.trIn;obtain ⟨x1,x2,x3,x4,x5,x6,hr6⟩ := TrO.open hO;subst hr6;have HFT6 : Hid (FitT 6 s mnm t ∧ cntN 6 t ≤ 180) := ⟨hT,hc6⟩;clear hO hA6 hT hc6 hb6 hbw5 BS5 HFT s0 s1 s2 s3;obtain ⟨K,hK⟩ : ∃ z,t.kind = z := ⟨_,rfl⟩;obtain ⟨N,hN⟩ : ∃ z,t.n = z := ⟨_,rfl⟩;obtain ⟨S,hSx⟩ : ∃ z,t.s = z := ⟨_,rfl⟩;rw [hK,hN,hSx] at HTI6 ⊢;clear hK hN hSx;have al7 : Below w6.heap.size w6 (w6.alloc (Obj.cells #[.int .i64 K,.int .i64 N,.string S,.slice x1 x2 x3,.slice x4 x5 x6] 30)) := (Below.refl _ _).alloc (Nat.le_refl _) _;have hbw7 : Below w.heap.size w (w6.alloc (Obj.cells #[.int .i64 K,.int .i64 N,.string S,.slice x1 x2 x3,.slice x4 x5 x6] 30)) := hbw6.trans (al7.mono hbw6.size);have HTI7 : Hid (TrIn 6 (w6.alloc (Obj.cells #[.int .i64 K,.int .i64 N,.string S,.slice x1 x2 x3,.slice x4 x5 x6] 30)) (.agg #[.int .i64 K,.int .i64 N,.string S,.slice x1 x2 x3,.slice x4 x5 x6]) t) := HTI6.out.below al7;have BX7 : Blk (w6.alloc (Obj.cells #[.int .i64 K,.int .i64 N,.string S,.slice x1 x2 x3,.slice x4 x5 x6] 30)) w6.heap.size #[.int .i64 K,.int .i64 N,.string S,.slice x1 x2 x3,.slice x4 x5 x6] 30 := Blk.new w6 _ _;have BS7 := BS6.below al7;have HB7 : Hid (Blk (w6.alloc (Obj.cells #[.int .i64 K,.int .i64 N,.string S,.slice x1 x2 x3,.slice x4 x5 x6] 30)) w6.heap.size #[.int .i64 K,.int .i64 N,.string S,.slice x1 x2 x3,.slice x4 x5 x6] 30 ∧ TrIn 6 (w6.alloc (Obj.cells #[.int .i64 K,.int .i64 N,.string S,.slice x1 x2 x3,.slice x4 x5 x6] 30)) (.agg #[.int .i64 K,.int .i64 N,.string S,.slice x1 x2 x3,.slice x4 x5 x6]) t ∧ Blk (w6.alloc (Obj.cells #[.int .i64 K,.int .i64 N,.string S,.slice x1 x2 x3,.slice x4 x5 x6] 30)) b0 #[.string sn,.slice (some ⟨g,off,none⟩) mn mc,.slice ea en ec,.slice ta tn tc] 26) := ⟨BX7,HTI7.out,BS7⟩;have HW7 : Hid (Below w.heap.size w (w6.alloc (Obj.cells #[.int .i64 K,.int .i64 N,.string S,.slice x1 x2 x3,.slice x4 x5 x6] 30))) := hbw7;clear al7 HTI6 BX7 BS7 HTI7 hbw7 hbw6 BS6;obtain ⟨bx,hbx⟩ : ∃ z,w6.heap.size = z := ⟨_,rfl⟩;rw [hbx] at HB7
 go_upto_region 5 with fail
 try simp only [hbx]
 clear hbx;obtain ⟨W5,hW5⟩ : ∃ z,(w6.alloc (Obj.cells #[.int .i64 K,.int .i64 N,.string S,.slice x1 x2 x3,.slice x4 x5 x6] 30)) = z := ⟨_,rfl⟩;rw [hW5] at HB7 HW7 ⊢;clear hW5;have HPJ1 : Hid (projA 6 s mnm t = (t,true)) := fit_proj HOK.out HMG.out HFT6.out.1 (by omega);obtain ⟨R,hR⟩ : ∃ R : Tr × Bool,R = (t,true) := ⟨_,rfl⟩;have HR12 : Hid (R.1 = t ∧ R.2 = true) := ⟨by rw [hR],by rw [hR]⟩;have HRE : Hid (R = (t,true)) := hR;clear hR;obtain ⟨K2,hK2⟩ : ∃ z,R.1.kind = z := ⟨_,rfl⟩;obtain ⟨N2,hN2⟩ : ∃ z,R.1.n = z := ⟨_,rfl⟩;obtain ⟨S2,hS2⟩ : ∃ z,R.1.s = z := ⟨_,rfl⟩;have HKS : Hid (R.1.kind = K2 ∧ R.1.n = N2 ∧ R.1.s = S2) := ⟨hK2,hN2,hS2⟩;clear hK2 hN2 hS2;have HBR : Hid (R.2 = true) := HR12.out.2;have HCS : Hid (∀ W,Below W5.heap.size W5 W → Calls Try.prog 11 #[.agg #[.string sn,.slice (some ⟨g,off,none⟩) mn mc,.slice ea en ec,.slice ta tn tc]] W fun e w' => ∃ r,e = .returned r ∧ ScIn w' r s ∧ Below W.heap.size W w') := fun W hW => schemaD_any (HSC.out.below (HW7.out.trans (hW.mono HW7.out.size))) HFS.out.few
 have HCT : Hid (∀ W,Below W5.heap.size W5 W → Calls Try.prog 12 #[.agg #[.int .i64 K,.int .i64 N,.string S,.slice x1 x2 x3,.slice x4 x5 x6]] W (CopyP 6 t W)) := fun W hW => copy_any 6 t _ W (HB7.out.2.1.below hW) HFT6.out.1.sm
 have HPC : Hid (∀ sv tv W,ScIn W sv s → TrW 6 W tv t → Calls Try.prog 10 #[sv,.string mnm,tv] W (SeeFP 6 R W)) := fun sv tv W hsv htv => by
  have h1 := HPJ'.out 5 s sv mnm tv t W (by omega) hsv HSW.out HFS.out.few htv HFT6.out.1.sm (Nat.le_trans HFT6.out.2 (by omega));rw [HPJ1.out,← HRE.out] at h1;exact h1
 have HCB : Hid (∀ W,Below W5.heap.size W5 W → Blk W b0 #[.string sn,.slice (some ⟨g,off,none⟩) mn mc,.slice ea en ec,.slice ta tn tc] 26 ∧ Blk W bx #[.int .i64 K,.int .i64 N,.string S,.slice x1 x2 x3,.slice x4 x5 x6] 30) := fun W hW => ⟨HB7.out.2.2.below hW,HB7.out.1.below hW⟩
 go_upto_region 5 with fail
 go_cut [9,10] from 39 to 47 (fun pv bv wx => ∃ (b : Nat) (a1 a2 : Option Addr) (n1 c1 n2 c2 : Nat),pv = .pointer (some ⟨b,0,none⟩) ∧ bv = .bool true ∧ Hid (Blk wx b #[.int .i64 K2,.int .i64 N2,.string S2,.slice a1 n1 c1,.slice a2 n2 c2] 30 ∧ (TrIn 6 wx (.agg #[.int .i64 K2,.int .i64 N2,.string S2,.slice a1 n1 c1,.slice a2 n2 c2]) R.1 ∧ TrW 6 wx (.agg #[.int .i64 K2,.int .i64 N2,.string S2,.slice a1 n1 c1,.slice a2 n2 c2]) R.1) ∧ Below W5.heap.size W5 wx))
 case first =>
  refine M_region (T := fun W => Below W5.heap.size W5 W) (m := 11) (by kernel_rfl) ?_;have hS : Below W5.heap.size W5 W5.drew := (Below.refl _ _).drew;refine M_take 0 40 (.agg #[.string sn,.slice (some ⟨g,off,none⟩) mn mc,.slice ea en ec,.slice ta tn tc]) _ rfl rfl (by kernel_rfl) (by kernel_rfl) (by kernel_rfl) (by kernel_rfl) (by kernel_rfl) (fun _ _ _ h => h) (by rfl) (fun w' hw' => ?_) hS (listed' := bts 12 1) (by kernel_rfl) rfl ?_
  ·obtain ⟨HB0,HB1⟩ := HCB.out _ hw'; have f0 := (HB0.cell 0).trans rfl; have f1 := (HB0.cell 1).trans rfl; have f2 := (HB0.cell 2).trans rfl; have f3 := (HB0.cell 3).trans rfl; go_simp
  simp only [zsA,zsZ,zsS];refine M_take 2 42 (.string mnm) _ rfl rfl (by kernel_rfl) (by kernel_rfl) (by kernel_rfl) (by kernel_rfl) (by kernel_rfl) (fun _ _ _ h => h) (by rfl) (fun w' hw' => ?_) hS (listed' := bts 12 5) (by kernel_rfl) rfl ?_
  ·go_simp
  simp only [zsA,zsZ,zsS];refine M_take 3 43 (.agg #[.int .i64 K,.int .i64 N,.string S,.slice x1 x2 x3,.slice x4 x5 x6]) _ rfl rfl (by kernel_rfl) (by kernel_rfl) (by kernel_rfl) (by kernel_rfl) (by kernel_rfl) (fun _ _ _ h => h) (by rfl) (fun w' hw' => ?_) hS (listed' := bts 12 13) (by kernel_rfl) rfl ?_
  ·obtain ⟨HB0,HB1⟩ := HCB.out _ hw'; have f0 := (HB1.cell 0).trans rfl; have f1 := (HB1.cell 1).trans rfl; have f2 := (HB1.cell 2).trans rfl; have f3 := (HB1.cell 3).trans rfl; have f4 := (HB1.cell 4).trans rfl; go_simp
  simp only [zsA,zsZ,zsS];generalize W5.drew = U0 at *;refine M_fork 1 9 41 9 11 #[.agg #[.string sn,.slice (some ⟨g,off,none⟩) mn mc,.slice ea en ec,.slice ta tn tc]] (.pointer (some ⟨U0.heap.size,0,none⟩)) (U0.alloc (Obj.cells #[.int .i64 0,.int .i64 0,.string ⟨#[]⟩,.slice none 0 0,.slice none 0 0] 30)) rfl rfl rfl rfl (by kernel_rfl) (by rfl) (by rfl) (by go_simp) (by go_simp) ?_ (hS.trans (((Below.refl _ _).alloc (Nat.le_refl _) _).mono hS.size)) ?_
  ·skip
   refine (HCS.out U0 hS).mono ?_;rintro ee V1 ⟨sv,rfl,hsv,hbU⟩;have hS0 := hS;have hS : Below W5.heap.size W5 V1 := hS0.trans (hbU.mono hS0.size);clear hS0 hbU;refine ⟨_,rfl,hS,?_⟩;simp only [zsA,zsZ,zsS];refine M_fork 4 9 44 9 12 #[.agg #[.int .i64 K,.int .i64 N,.string S,.slice x1 x2 x3,.slice x4 x5 x6]] (.pointer (some ⟨V1.heap.size,0,none⟩)) (V1.alloc (Obj.cells #[.int .i64 0,.int .i64 0,.string ⟨#[]⟩,.slice none 0 0,.slice none 0 0] 30)) rfl rfl rfl rfl (by kernel_rfl) (by rfl) (by rfl) (by go_simp) (by go_simp) ?_ (hS.trans (((Below.refl _ _).alloc (Nat.le_refl _) _).mono hS.size)) ?_
   ·skip
    refine (HCT.out V1 hS).mono ?_;rintro ee V2 ⟨tv,bst,rfl,htv0,hbU⟩
    replace hsv := hsv.below hbU
    have htv := htv0.trW;clear htv0;have hS0 := hS;have hS : Below W5.heap.size W5 V2 := hS0.trans (hbU.mono hS0.size);clear hS0 hbU;refine ⟨_,rfl,hS,?_⟩;simp only [zsA,zsZ,zsS];refine M_fork 5 9 45 9 10 #[sv,.string mnm,tv] (.pointer (some ⟨V2.heap.size,0,none⟩)) (V2.alloc (Obj.cells #[.int .i64 0,.int .i64 0,.string ⟨#[]⟩,.slice none 0 0,.slice none 0 0] 30)) rfl rfl rfl rfl (by kernel_rfl) (by rfl) (by rfl) (by go_simp) (by go_simp) ?_ (hS.trans (((Below.refl _ _).alloc (Nat.le_refl _) _).mono hS.size)) ?_
    ·skip
     refine (HPC.out sv tv V2 hsv htv).mono ?_;rintro ee V3 ⟨r4,bs4,rfl,ht4,hap4,hbU⟩
     replace hsv := hsv.below hbU
     replace htv := htv.cel (Cel.ofBelow hbU)
     obtain ⟨a1,n1,c1,a2,n2,c2,hr4⟩ := ht4.open;rw [HKS.out.1,HKS.out.2.1,HKS.out.2.2] at hr4;subst hr4;rw [HBR.out];clear hsv htv;have hS0 := hS;have hS : Below W5.heap.size W5 V3 := hS0.trans (hbU.mono hS0.size);clear hS0 hbU;refine ⟨_,rfl,hS,?_⟩;simp only [zsA,zsZ,zsS];refine M_take 6 39 (.tuple #[.agg #[.int .i64 K2,.int .i64 N2,.string S2,.slice a1 n1 c1,.slice a2 n2 c2],.bool true]) _ rfl rfl (by kernel_rfl) (by kernel_rfl) (by kernel_rfl) (by kernel_rfl) (by kernel_rfl) (fun _ _ _ h => h) (by rfl) (fun w' hw' => ?_) hS (listed' := bts 12 127) (by kernel_rfl) rfl ?_
     ·go_simp
     simp only [zsA,zsZ,zsS];refine M_take 7 46 (.agg #[.int .i64 K2,.int .i64 N2,.string S2,.slice a1 n1 c1,.slice a2 n2 c2]) _ rfl rfl (by kernel_rfl) (by kernel_rfl) (by kernel_rfl) (by kernel_rfl) (by kernel_rfl) (fun _ _ _ h => h) (by rfl) (fun w' hw' => ?_) hS (listed' := bts 12 255) (by kernel_rfl) rfl ?_
     ·go_simp
     simp only [zsA,zsZ,zsS];refine M_take 8 47 (.bool true) _ rfl rfl (by kernel_rfl) (by kernel_rfl) (by kernel_rfl) (by kernel_rfl) (by kernel_rfl) (fun _ _ _ h => h) (by rfl) (fun w' hw' => ?_) hS (listed' := bts 12 511) (by kernel_rfl) rfl ?_
     ·go_simp
     simp only [zsA,zsZ,zsS];refine M_run 9 9 (.pointer (some ⟨V3.heap.size,0,none⟩)) (V3.alloc (Obj.cells #[.int .i64 0,.int .i64 0,.string ⟨#[]⟩,.slice none 0 0,.slice none 0 0] 30)) rfl rfl (by kernel_rfl) (by rfl) (listed' := bts 12 1023) (by kernel_rfl) (by go_simp) (hS.trans (((Below.refl _ _).alloc (Nat.le_refl _) _).mono hS.size)) ?_;have hbU : Below V3.heap.size V3 (V3.alloc (Obj.cells #[.int .i64 0,.int .i64 0,.string ⟨#[]⟩,.slice none 0 0,.slice none 0 0] 30)) := (Below.refl _ _).alloc (Nat.le_refl _) _;obtain ⟨bz,hbz⟩ : ∃ z,V3.heap.size = z := ⟨_,rfl⟩
     have BZ : Blk (V3.alloc (Obj.cells #[.int .i64 0,.int .i64 0,.string ⟨#[]⟩,.slice none 0 0,.slice none 0 0] 30)) bz #[.int .i64 0,.int .i64 0,.string ⟨#[]⟩,.slice none 0 0,.slice none 0 0] 30 := by rw [← hbz]; exact Blk.new V3 _ _
     have GZ : W5.heap.size ≤ bz := by rw [← hbz]; exact hS.size
     have hS0 := hS;have hS : Below W5.heap.size W5 (V3.alloc (Obj.cells #[.int .i64 0,.int .i64 0,.string ⟨#[]⟩,.slice none 0 0,.slice none 0 0] 30)) := hS0.trans (hbU.mono hS0.size)
     have hnz : bz ∉ bs4 := fun hc => by have h1 := (hap4.2 _ hc).2; rw [hbz] at h1; omega
     replace ht4 := ht4.sm (Sm.below hbU fun q hq => (hap4.2 q hq).2)
     replace hap4 := hap4.mono hbU.size
     clear hS0 hbU;simp only [zsA,zsZ,zsS]
     try simp only [hbz]
     clear hbz;generalize (V3.alloc (Obj.cells #[.int .i64 0,.int .i64 0,.string ⟨#[]⟩,.slice none 0 0,.slice none 0 0] 30)) = V4 at *;have k0 := (BZ.cell 0).trans rfl;have z0 := BZ.froz 0;have k1 := (BZ.cell 1).trans rfl;have z1 := BZ.froz 1;have k2 := (BZ.cell 2).trans rfl;have z2 := BZ.froz 2;have k3 := (BZ.cell 3).trans rfl;have z3 := BZ.froz 3;have k4 := (BZ.cell 4).trans rfl;have z4 := BZ.froz 4;have hfin := see_store BZ ht4 hnz hS GZ;refine M_storeT 10 (set5 V4 bz 0 (.int .i64 K2) (.int .i64 N2) (.string S2) (.slice a1 n1 c1) (.slice a2 n2 c2)) rfl rfl (by kernel_rfl) (by rfl) (listed' := bts 12 2047) (by kernel_rfl) (by unfold set5; go_simp) hfin.2.2 ?_;clear k0 z0 k1 z1 k2 z2 k3 z3 k4 z4;have HFI : Hid (Blk (set5 V4 bz 0 (.int .i64 K2) (.int .i64 N2) (.string S2) (.slice a1 n1 c1) (.slice a2 n2 c2)) bz #[.int .i64 K2,.int .i64 N2,.string S2,.slice a1 n1 c1,.slice a2 n2 c2] 30 ∧ (TrIn 6 (set5 V4 bz 0 (.int .i64 K2) (.int .i64 N2) (.string S2) (.slice a1 n1 c1) (.slice a2 n2 c2)) (.agg #[.int .i64 K2,.int .i64 N2,.string S2,.slice a1 n1 c1,.slice a2 n2 c2]) R.1 ∧ TrW 6 (set5 V4 bz 0 (.int .i64 K2) (.int .i64 N2) (.string S2) (.slice a1 n1 c1) (.slice a2 n2 c2)) (.agg #[.int .i64 K2,.int .i64 N2,.string S2,.slice a1 n1 c1,.slice a2 n2 c2]) R.1) ∧ Below W5.heap.size W5 (set5 V4 bz 0 (.int .i64 K2) (.int .i64 N2) (.string S2) (.slice a1 n1 c1) (.slice a2 n2 c2))) := hfin;clear hfin hS BZ ht4 hap4 hnz GZ;generalize (set5 V4 bz 0 (.int .i64 K2) (.int .i64 N2) (.string S2) (.slice a1 n1 c1) (.slice a2 n2 c2)) = V9 at *;refine M_runA 11 10 (.bool true) V9 rfl rfl (by kernel_rfl) (by rfl) (listed' := bts 12 4095) (by kernel_rfl) (by go_simp) (by kernel_rfl) ?_;simp only [zsA,zsZ,zsS];refine M_done (by kernel_rfl) ?_ _;go_wp2_with fail
     go_meet
     exact ⟨bz,a1,a2,n1,c1,n2,c2,rfl,rfl,HFI⟩
    ·skip
     have hbU : Below V2.heap.size V2 (V2.alloc (Obj.cells #[.int .i64 0,.int .i64 0,.string ⟨#[]⟩,.slice none 0 0,.slice none 0 0] 30)) := (Below.refl _ _).alloc (Nat.le_refl _) _;obtain ⟨bz,hbz⟩ : ∃ z,V2.heap.size = z := ⟨_,rfl⟩
     have BZ : Blk (V2.alloc (Obj.cells #[.int .i64 0,.int .i64 0,.string ⟨#[]⟩,.slice none 0 0,.slice none 0 0] 30)) bz #[.int .i64 0,.int .i64 0,.string ⟨#[]⟩,.slice none 0 0,.slice none 0 0] 30 := by rw [← hbz]; exact Blk.new V2 _ _
     have GZ : W5.heap.size ≤ bz := by rw [← hbz]; exact hS.size
     have hS0 := hS;have hS : Below W5.heap.size W5 (V2.alloc (Obj.cells #[.int .i64 0,.int .i64 0,.string ⟨#[]⟩,.slice none 0 0,.slice none 0 0] 30)) := hS0.trans (hbU.mono hS0.size)
     replace hsv := hsv.below hbU
     replace htv := htv.cel (Cel.ofBelow hbU)
     clear hS0 hbU;simp only [zsA,zsZ,zsS]
     try simp only [hbz]
     clear hbz;generalize (V2.alloc (Obj.cells #[.int .i64 0,.int .i64 0,.string ⟨#[]⟩,.slice none 0 0,.slice none 0 0] 30)) = V5 at *;refine M_call 5 45 10 #[sv,.string mnm,tv] rfl rfl (by kernel_rfl) (by rfl) (listed' := bts 12 575) (by kernel_rfl) (fun W => by go_simp) ?_;refine (HPC.out sv tv V5 hsv htv).mono ?_;rintro ee V6 ⟨r4,bs4,rfl,ht4,hap4,hbU⟩
     have hnz : bz ∉ bs4 := fun hc => by have h1 := (hap4.2 _ hc).1; have h2 := BZ.lt; omega
     replace BZ := BZ.below hbU
     replace hsv := hsv.below hbU
     replace htv := htv.cel (Cel.ofBelow hbU)
     obtain ⟨a1,n1,c1,a2,n2,c2,hr4⟩ := ht4.open;rw [HKS.out.1,HKS.out.2.1,HKS.out.2.2] at hr4;subst hr4;rw [HBR.out];clear hsv htv;have hS0 := hS;have hS : Below W5.heap.size W5 V6 := hS0.trans (hbU.mono hS0.size);clear hS0 hbU;refine ⟨_,rfl,hS,?_⟩;simp only [zsA,zsZ,zsS];refine M_take 6 39 (.tuple #[.agg #[.int .i64 K2,.int .i64 N2,.string S2,.slice a1 n1 c1,.slice a2 n2 c2],.bool true]) _ rfl rfl (by kernel_rfl) (by kernel_rfl) (by kernel_rfl) (by kernel_rfl) (by kernel_rfl) (fun _ _ _ h => h) (by rfl) (fun w' hw' => ?_) hS (listed' := bts 12 639) (by kernel_rfl) rfl ?_
     ·go_simp
     simp only [zsA,zsZ,zsS];refine M_take 7 46 (.agg #[.int .i64 K2,.int .i64 N2,.string S2,.slice a1 n1 c1,.slice a2 n2 c2]) _ rfl rfl (by kernel_rfl) (by kernel_rfl) (by kernel_rfl) (by kernel_rfl) (by kernel_rfl) (fun _ _ _ h => h) (by rfl) (fun w' hw' => ?_) hS (listed' := bts 12 767) (by kernel_rfl) rfl ?_
     ·go_simp
     simp only [zsA,zsZ,zsS];refine M_take 8 47 (.bool true) _ rfl rfl (by kernel_rfl) (by kernel_rfl) (by kernel_rfl) (by kernel_rfl) (by kernel_rfl) (fun _ _ _ h => h) (by rfl) (fun w' hw' => ?_) hS (listed' := bts 12 1023) (by kernel_rfl) rfl ?_
     ·go_simp
     simp only [zsA,zsZ,zsS];have k0 := (BZ.cell 0).trans rfl;have z0 := BZ.froz 0;have k1 := (BZ.cell 1).trans rfl;have z1 := BZ.froz 1;have k2 := (BZ.cell 2).trans rfl;have z2 := BZ.froz 2;have k3 := (BZ.cell 3).trans rfl;have z3 := BZ.froz 3;have k4 := (BZ.cell 4).trans rfl;have z4 := BZ.froz 4;have hfin := see_store BZ ht4 hnz hS GZ;refine M_storeT 10 (set5 V6 bz 0 (.int .i64 K2) (.int .i64 N2) (.string S2) (.slice a1 n1 c1) (.slice a2 n2 c2)) rfl rfl (by kernel_rfl) (by rfl) (listed' := bts 12 2047) (by kernel_rfl) (by unfold set5; go_simp) hfin.2.2 ?_;clear k0 z0 k1 z1 k2 z2 k3 z3 k4 z4;have HFI : Hid (Blk (set5 V6 bz 0 (.int .i64 K2) (.int .i64 N2) (.string S2) (.slice a1 n1 c1) (.slice a2 n2 c2)) bz #[.int .i64 K2,.int .i64 N2,.string S2,.slice a1 n1 c1,.slice a2 n2 c2] 30 ∧ (TrIn 6 (set5 V6 bz 0 (.int .i64 K2) (.int .i64 N2) (.string S2) (.slice a1 n1 c1) (.slice a2 n2 c2)) (.agg #[.int .i64 K2,.int .i64 N2,.string S2,.slice a1 n1 c1,.slice a2 n2 c2]) R.1 ∧ TrW 6 (set5 V6 bz 0 (.int .i64 K2) (.int .i64 N2) (.string S2) (.slice a1 n1 c1) (.slice a2 n2 c2)) (.agg #[.int .i64 K2,.int .i64 N2,.string S2,.slice a1 n1 c1,.slice a2 n2 c2]) R.1) ∧ Below W5.heap.size W5 (set5 V6 bz 0 (.int .i64 K2) (.int .i64 N2) (.string S2) (.slice a1 n1 c1) (.slice a2 n2 c2))) := hfin;clear hfin hS BZ ht4 hap4 hnz GZ;generalize (set5 V6 bz 0 (.int .i64 K2) (.int .i64 N2) (.string S2) (.slice a1 n1 c1) (.slice a2 n2 c2)) = V9 at *;refine M_runA 11 10 (.bool true) V9 rfl rfl (by kernel_rfl) (by rfl) (listed' := bts 12 4095) (by kernel_rfl) (by go_simp) (by kernel_rfl) ?_;simp only [zsA,zsZ,zsS];refine M_done (by kernel_rfl) ?_ _;go_wp2_with fail
     go_meet
     exact ⟨bz,a1,a2,n1,c1,n2,c2,rfl,rfl,HFI⟩
   ·skip
    have hbU : Below V1.heap.size V1 (V1.alloc (Obj.cells #[.int .i64 0,.int .i64 0,.string ⟨#[]⟩,.slice none 0 0,.slice none 0 0] 30)) := (Below.refl _ _).alloc (Nat.le_refl _) _;obtain ⟨bz,hbz⟩ : ∃ z,V1.heap.size = z := ⟨_,rfl⟩
    have BZ : Blk (V1.alloc (Obj.cells #[.int .i64 0,.int .i64 0,.string ⟨#[]⟩,.slice none 0 0,.slice none 0 0] 30)) bz #[.int .i64 0,.int .i64 0,.string ⟨#[]⟩,.slice none 0 0,.slice none 0 0] 30 := by rw [← hbz]; exact Blk.new V1 _ _
    have GZ : W5.heap.size ≤ bz := by rw [← hbz]; exact hS.size
    have hS0 := hS;have hS : Below W5.heap.size W5 (V1.alloc (Obj.cells #[.int .i64 0,.int .i64 0,.string ⟨#[]⟩,.slice none 0 0,.slice none 0 0] 30)) := hS0.trans (hbU.mono hS0.size)
    replace hsv := hsv.below hbU
    clear hS0 hbU;simp only [zsA,zsZ,zsS]
    try simp only [hbz]
    clear hbz;generalize (V1.alloc (Obj.cells #[.int .i64 0,.int .i64 0,.string ⟨#[]⟩,.slice none 0 0,.slice none 0 0] 30)) = V7 at *;refine M_call 4 44 12 #[.agg #[.int .i64 K,.int .i64 N,.string S,.slice x1 x2 x3,.slice x4 x5 x6]] rfl rfl (by kernel_rfl) (by rfl) (listed' := bts 12 543) (by kernel_rfl) (fun W => by go_simp) ?_;refine (HCT.out V7 hS).mono ?_;rintro ee V8 ⟨tv,bst,rfl,htv0,hbU⟩
    replace BZ := BZ.below hbU
    replace hsv := hsv.below hbU
    have htv := htv0.trW;clear htv0;have hS0 := hS;have hS : Below W5.heap.size W5 V8 := hS0.trans (hbU.mono hS0.size);clear hS0 hbU;refine ⟨_,rfl,hS,?_⟩;simp only [zsA,zsZ,zsS];refine M_call 5 45 10 #[sv,.string mnm,tv] rfl rfl (by kernel_rfl) (by rfl) (listed' := bts 12 575) (by kernel_rfl) (fun W => by go_simp) ?_;refine (HPC.out sv tv V8 hsv htv).mono ?_;rintro ee V9 ⟨r4,bs4,rfl,ht4,hap4,hbU⟩
    have hnz : bz ∉ bs4 := fun hc => by have h1 := (hap4.2 _ hc).1; have h2 := BZ.lt; omega
    replace BZ := BZ.below hbU
    replace hsv := hsv.below hbU
    replace htv := htv.cel (Cel.ofBelow hbU)
    obtain ⟨a1,n1,c1,a2,n2,c2,hr4⟩ := ht4.open;rw [HKS.out.1,HKS.out.2.1,HKS.out.2.2] at hr4;subst hr4;rw [HBR.out];clear hsv htv;have hS0 := hS;have hS : Below W5.heap.size W5 V9 := hS0.trans (hbU.mono hS0.size);clear hS0 hbU;refine ⟨_,rfl,hS,?_⟩;simp only [zsA,zsZ,zsS];refine M_take 6 39 (.tuple #[.agg #[.int .i64 K2,.int .i64 N2,.string S2,.slice a1 n1 c1,.slice a2 n2 c2],.bool true]) _ rfl rfl (by kernel_rfl) (by kernel_rfl) (by kernel_rfl) (by kernel_rfl) (by kernel_rfl) (fun _ _ _ h => h) (by rfl) (fun w' hw' => ?_) hS (listed' := bts 12 639) (by kernel_rfl) rfl ?_
    ·go_simp
    simp only [zsA,zsZ,zsS];refine M_take 7 46 (.agg #[.int .i64 K2,.int .i64 N2,.string S2,.slice a1 n1 c1,.slice a2 n2 c2]) _ rfl rfl (by kernel_rfl) (by kernel_rfl) (by kernel_rfl) (by kernel_rfl) (by kernel_rfl) (fun _ _ _ h => h) (by rfl) (fun w' hw' => ?_) hS (listed' := bts 12 767) (by kernel_rfl) rfl ?_
    ·go_simp
    simp only [zsA,zsZ,zsS];refine M_take 8 47 (.bool true) _ rfl rfl (by kernel_rfl) (by kernel_rfl) (by kernel_rfl) (by kernel_rfl) (by kernel_rfl) (fun _ _ _ h => h) (by rfl) (fun w' hw' => ?_) hS (listed' := bts 12 1023) (by kernel_rfl) rfl ?_
    ·go_simp
    simp only [zsA,zsZ,zsS];have k0 := (BZ.cell 0).trans rfl;have z0 := BZ.froz 0;have k1 := (BZ.cell 1).trans rfl;have z1 := BZ.froz 1;have k2 := (BZ.cell 2).trans rfl;have z2 := BZ.froz 2;have k3 := (BZ.cell 3).trans rfl;have z3 := BZ.froz 3;have k4 := (BZ.cell 4).trans rfl;have z4 := BZ.froz 4;have hfin := see_store BZ ht4 hnz hS GZ;refine M_storeT 10 (set5 V9 bz 0 (.int .i64 K2) (.int .i64 N2) (.string S2) (.slice a1 n1 c1) (.slice a2 n2 c2)) rfl rfl (by kernel_rfl) (by rfl) (listed' := bts 12 2047) (by kernel_rfl) (by unfold set5; go_simp) hfin.2.2 ?_;clear k0 z0 k1 z1 k2 z2 k3 z3 k4 z4;have HFI : Hid (Blk (set5 V9 bz 0 (.int .i64 K2) (.int .i64 N2) (.string S2) (.slice a1 n1 c1) (.slice a2 n2 c2)) bz #[.int .i64 K2,.int .i64 N2,.string S2,.slice a1 n1 c1,.slice a2 n2 c2] 30 ∧ (TrIn 6 (set5 V9 bz 0 (.int .i64 K2) (.int .i64 N2) (.string S2) (.slice a1 n1 c1) (.slice a2 n2 c2)) (.agg #[.int .i64 K2,.int .i64 N2,.string S2,.slice a1 n1 c1,.slice a2 n2 c2]) R.1 ∧ TrW 6 (set5 V9 bz 0 (.int .i64 K2) (.int .i64 N2) (.string S2) (.slice a1 n1 c1) (.slice a2 n2 c2)) (.agg #[.int .i64 K2,.int .i64 N2,.string S2,.slice a1 n1 c1,.slice a2 n2 c2]) R.1) ∧ Below W5.heap.size W5 (set5 V9 bz 0 (.int .i64 K2) (.int .i64 N2) (.string S2) (.slice a1 n1 c1) (.slice a2 n2 c2))) := hfin;clear hfin hS BZ ht4 hap4 hnz GZ;generalize (set5 V9 bz 0 (.int .i64 K2) (.int .i64 N2) (.string S2) (.slice a1 n1 c1) (.slice a2 n2 c2)) = V9 at *;refine M_runA 11 10 (.bool true) V9 rfl rfl (by kernel_rfl) (by rfl) (listed' := bts 12 4095) (by kernel_rfl) (by go_simp) (by kernel_rfl) ?_;simp only [zsA,zsZ,zsS];refine M_done (by kernel_rfl) ?_ _;go_wp2_with fail
    go_meet
    exact ⟨bz,a1,a2,n1,c1,n2,c2,rfl,rfl,HFI⟩
  ·skip
   have hbU : Below U0.heap.size U0 (U0.alloc (Obj.cells #[.int .i64 0,.int .i64 0,.string ⟨#[]⟩,.slice none 0 0,.slice none 0 0] 30)) := (Below.refl _ _).alloc (Nat.le_refl _) _;obtain ⟨bz,hbz⟩ : ∃ z,U0.heap.size = z := ⟨_,rfl⟩
   have BZ : Blk (U0.alloc (Obj.cells #[.int .i64 0,.int .i64 0,.string ⟨#[]⟩,.slice none 0 0,.slice none 0 0] 30)) bz #[.int .i64 0,.int .i64 0,.string ⟨#[]⟩,.slice none 0 0,.slice none 0 0] 30 := by rw [← hbz]; exact Blk.new U0 _ _
   have GZ : W5.heap.size ≤ bz := by rw [← hbz]; exact hS.size
   have hS0 := hS;have hS : Below W5.heap.size W5 (U0.alloc (Obj.cells #[.int .i64 0,.int .i64 0,.string ⟨#[]⟩,.slice none 0 0,.slice none 0 0] 30)) := hS0.trans (hbU.mono hS0.size);clear hS0 hbU;simp only [zsA,zsZ,zsS]
   try simp only [hbz]
   clear hbz;generalize (U0.alloc (Obj.cells #[.int .i64 0,.int .i64 0,.string ⟨#[]⟩,.slice none 0 0,.slice none 0 0] 30)) = V10 at *;refine M_call 1 41 11 #[.agg #[.string sn,.slice (some ⟨g,off,none⟩) mn mc,.slice ea en ec,.slice ta tn tc]] rfl rfl (by kernel_rfl) (by rfl) (listed' := bts 12 527) (by kernel_rfl) (fun W => by go_simp) ?_;refine (HCS.out V10 hS).mono ?_;rintro ee V11 ⟨sv,rfl,hsv,hbU⟩
   replace BZ := BZ.below hbU
   have hS0 := hS;have hS : Below W5.heap.size W5 V11 := hS0.trans (hbU.mono hS0.size);clear hS0 hbU;refine ⟨_,rfl,hS,?_⟩;simp only [zsA,zsZ,zsS];refine M_call 4 44 12 #[.agg #[.int .i64 K,.int .i64 N,.string S,.slice x1 x2 x3,.slice x4 x5 x6]] rfl rfl (by kernel_rfl) (by rfl) (listed' := bts 12 543) (by kernel_rfl) (fun W => by go_simp) ?_;refine (HCT.out V11 hS).mono ?_;rintro ee V12 ⟨tv,bst,rfl,htv0,hbU⟩
   replace BZ := BZ.below hbU
   replace hsv := hsv.below hbU
   have htv := htv0.trW;clear htv0;have hS0 := hS;have hS : Below W5.heap.size W5 V12 := hS0.trans (hbU.mono hS0.size);clear hS0 hbU;refine ⟨_,rfl,hS,?_⟩;simp only [zsA,zsZ,zsS];refine M_call 5 45 10 #[sv,.string mnm,tv] rfl rfl (by kernel_rfl) (by rfl) (listed' := bts 12 575) (by kernel_rfl) (fun W => by go_simp) ?_;refine (HPC.out sv tv V12 hsv htv).mono ?_;rintro ee V13 ⟨r4,bs4,rfl,ht4,hap4,hbU⟩
   have hnz : bz ∉ bs4 := fun hc => by have h1 := (hap4.2 _ hc).1; have h2 := BZ.lt; omega
   replace BZ := BZ.below hbU
   replace hsv := hsv.below hbU
   replace htv := htv.cel (Cel.ofBelow hbU)
   obtain ⟨a1,n1,c1,a2,n2,c2,hr4⟩ := ht4.open;rw [HKS.out.1,HKS.out.2.1,HKS.out.2.2] at hr4;subst hr4;rw [HBR.out];clear hsv htv;have hS0 := hS;have hS : Below W5.heap.size W5 V13 := hS0.trans (hbU.mono hS0.size);clear hS0 hbU;refine ⟨_,rfl,hS,?_⟩;simp only [zsA,zsZ,zsS];refine M_take 6 39 (.tuple #[.agg #[.int .i64 K2,.int .i64 N2,.string S2,.slice a1 n1 c1,.slice a2 n2 c2],.bool true]) _ rfl rfl (by kernel_rfl) (by kernel_rfl) (by kernel_rfl) (by kernel_rfl) (by kernel_rfl) (fun _ _ _ h => h) (by rfl) (fun w' hw' => ?_) hS (listed' := bts 12 639) (by kernel_rfl) rfl ?_
   ·go_simp
   simp only [zsA,zsZ,zsS];refine M_take 7 46 (.agg #[.int .i64 K2,.int .i64 N2,.string S2,.slice a1 n1 c1,.slice a2 n2 c2]) _ rfl rfl (by kernel_rfl) (by kernel_rfl) (by kernel_rfl) (by kernel_rfl) (by kernel_rfl) (fun _ _ _ h => h) (by rfl) (fun w' hw' => ?_) hS (listed' := bts 12 767) (by kernel_rfl) rfl ?_
   ·go_simp
   simp only [zsA,zsZ,zsS];refine M_take 8 47 (.bool true) _ rfl rfl (by kernel_rfl) (by kernel_rfl) (by kernel_rfl) (by kernel_rfl) (by kernel_rfl) (fun _ _ _ h => h) (by rfl) (fun w' hw' => ?_) hS (listed' := bts 12 1023) (by kernel_rfl) rfl ?_
   ·go_simp
   simp only [zsA,zsZ,zsS];have k0 := (BZ.cell 0).trans rfl;have z0 := BZ.froz 0;have k1 := (BZ.cell 1).trans rfl;have z1 := BZ.froz 1;have k2 := (BZ.cell 2).trans rfl;have z2 := BZ.froz 2;have k3 := (BZ.cell 3).trans rfl;have z3 := BZ.froz 3;have k4 := (BZ.cell 4).trans rfl;have z4 := BZ.froz 4;have hfin := see_store BZ ht4 hnz hS GZ;refine M_storeT 10 (set5 V13 bz 0 (.int .i64 K2) (.int .i64 N2) (.string S2) (.slice a1 n1 c1) (.slice a2 n2 c2)) rfl rfl (by kernel_rfl) (by rfl) (listed' := bts 12 2047) (by kernel_rfl) (by unfold set5; go_simp) hfin.2.2 ?_;clear k0 z0 k1 z1 k2 z2 k3 z3 k4 z4;have HFI : Hid (Blk (set5 V13 bz 0 (.int .i64 K2) (.int .i64 N2) (.string S2) (.slice a1 n1 c1) (.slice a2 n2 c2)) bz #[.int .i64 K2,.int .i64 N2,.string S2,.slice a1 n1 c1,.slice a2 n2 c2] 30 ∧ (TrIn 6 (set5 V13 bz 0 (.int .i64 K2) (.int .i64 N2) (.string S2) (.slice a1 n1 c1) (.slice a2 n2 c2)) (.agg #[.int .i64 K2,.int .i64 N2,.string S2,.slice a1 n1 c1,.slice a2 n2 c2]) R.1 ∧ TrW 6 (set5 V13 bz 0 (.int .i64 K2) (.int .i64 N2) (.string S2) (.slice a1 n1 c1) (.slice a2 n2 c2)) (.agg #[.int .i64 K2,.int .i64 N2,.string S2,.slice a1 n1 c1,.slice a2 n2 c2]) R.1) ∧ Below W5.heap.size W5 (set5 V13 bz 0 (.int .i64 K2) (.int .i64 N2) (.string S2) (.slice a1 n1 c1) (.slice a2 n2 c2))) := hfin;clear hfin hS BZ ht4 hap4 hnz GZ;generalize (set5 V13 bz 0 (.int .i64 K2) (.int .i64 N2) (.string S2) (.slice a1 n1 c1) (.slice a2 n2 c2)) = V9 at *;refine M_runA 11 10 (.bool true) V9 rfl rfl (by kernel_rfl) (by rfl) (listed' := bts 12 4095) (by kernel_rfl) (by go_simp) (by kernel_rfl) ?_;simp only [zsA,zsZ,zsS];refine M_done (by kernel_rfl) ?_ _;go_wp2_with fail
   go_meet
   exact ⟨bz,a1,a2,n1,c1,n2,c2,rfl,rfl,HFI⟩
 case rest =>
  obtain ⟨b,a1,a2,n1,c1,n2,c2,rfl,rfl,HFI⟩ := hcut;have hbwc : Below w.heap.size w wc := HW7.out.trans (HFI.out.2.2.mono HW7.out.size);have BTc := HFI.out.1;have BXc := (HCB.out _ HFI.out.2.2).2;have HSM2 : Hid (Calls Try.prog 13 #[.agg #[.int .i64 K2,.int .i64 N2,.string S2,.slice a1 n1 c1,.slice a2 n2 c2],.agg #[.int .i64 K,.int .i64 N,.string S,.slice x1 x2 x3,.slice x4 x5 x6]] wc fun e w' => e = .returned (.bool true) ∧ Below wc.heap.size wc w') := rsame_eq (by have := HFI.out.2.1.1; rw [HR12.out.1] at this; exact this) (HB7.out.2.1.below HFI.out.2.2);have f0 := (BTc.cell 0).trans rfl;have f1 := (BTc.cell 1).trans rfl;have f2 := (BTc.cell 2).trans rfl;have f3 := (BTc.cell 3).trans rfl;have f4 := (BTc.cell 4).trans rfl;have k0 := (BXc.cell 0).trans rfl;have k1 := (BXc.cell 1).trans rfl;have k2 := (BXc.cell 2).trans rfl;have k3 := (BXc.cell 3).trans rfl;have k4 := (BXc.cell 4).trans rfl;clear HCS HCT HPC HCB HPJ' BTc BXc;go_wp2_with fail;refine HSM2.out.mono ?_;rintro e w9 ⟨rfl,hb9⟩;have hbw9 : Below w.heap.size w w9 := hbwc.trans (hb9.mono hbwc.size);clear hb9 hbwc HSM2 f0 f1 f2 f3 f4 k0 k1 k2 k3 k4;go_wp2_with fail;refine (pjawake_any _).mono ?_;rintro e wz ⟨rfl,hbz⟩;have hbwz : Below w.heap.size w wz := hbw9.trans (hbz.mono hbw9.size);clear hbz;go_wp2_with fail;go_ret;exact ⟨rfl,hbwz⟩
end Go.Proofs.Ytmgbhicogmclgaa

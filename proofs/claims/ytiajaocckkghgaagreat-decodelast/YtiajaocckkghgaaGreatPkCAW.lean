/- Part 23 of what the proof stands on. -/
import Derived.Test.YtiajaocckkghgaaGreatPkCAV
namespace Go.Proofs.YtiajaocckkghgaaGreat
set_option maxHeartbeats 8000000
set_option linter.unusedVariables false
set_option linter.unusedSimpArgs false
set_option maxRecDepth 20000
open Go.ChangeShapes Go.WideShapes Go.ChangeAt Go.RowKit
theorem typeB_kind {mn en : List ByteArray} {k : Int} {t : ByteArray} (h : typeB mn en k t = true) : 1 ≤ k ∧ k ≤ 7 := by
 unfold typeB at h
 by_cases h1 : 1 ≤ k ∧ k ≤ 7
 ·exact h1
 ·exfalso
  revert h
  simp
  intros
  omega
theorem ok_kinds {s : ScS} (h : OkS s) : ∀ m ∈ s.msgs,∀ f ∈ m.fields,1 ≤ f.kind ∧ f.kind ≤ 7 := fun m hm f hf => typeB_kind ((h.msgs m hm).2.2.2.2.1 f hf).1.2.2.2
theorem encA_le (n : Nat) (t : Tr) : (encA n t).1.length ≤ 4096 := by
 unfold encA ofR
 split
 ·simp
 ·unfold putL
  split
  ·split
   ·assumption
   ·simp
  ·simp
theorem decodeLast_walk (v : Value) (s : ScS) (which : Int) (la : Option Addr) (L lc : Nat) (zs : List Int) (lb : Option Addr) (Lb ld : Nat) (zt : List Int) (w : World) (hr : ScIn w v s) (hw : ScW s) (g1 : (Lit.int .i64 which).wf = true) (hI : IsRow .i64 w la L lc zs) (hcap : lc * Tryz.prog.bytesOf 3 ≤ 140737488351232) (hI2 : IsRow .i64 w lb Lb ld zt) (hcap2 : ld * Tryz.prog.bytesOf 3 ≤ 140737488351232) :
  Calls Tryz.prog 7 #[v,.int .i64 which,.slice la L lc,.slice lb Lb ld] w fun e w' => e = .returned (.bool true) ∧ Below w.heap.size w w' := by
 obtain ⟨i1,i2⟩ := bounds_i64 g1;obtain ⟨hRl,hLl⟩ := hI.rowG;have HRM : Hid (RowG w (.slice lb Lb ld) 1 (inRows (zt.take Lb)) ∧ (zt.take Lb).length = Lb) := hI2.rowG;clear hI2 hcap2;have HRL : Hid (RowG w (.slice la L lc) 1 (inRows (zs.take L)) ∧ (zs.take L).length = L) := ⟨hRl,hLl⟩;have hs' := hr;obtain ⟨vm,ve,vt,rfl,hms,hen,hmt⟩ := hr;obtain ⟨ma,mc,rfl,hmc1,hmc2, -⟩ := hms.open;obtain ⟨ea,ec,rfl, -⟩ := hen.open;obtain ⟨ta,tn,tc,rfl⟩ := row_sliceD hmt;obtain ⟨mn,hmn⟩ : ∃ z,s.msgs.length = z := ⟨_,rfl⟩;obtain ⟨en,hen'⟩ : ∃ z,s.enums.length = z := ⟨_,rfl⟩;obtain ⟨sn,hsn⟩ : ∃ z,s.name = z := ⟨_,rfl⟩;rw [hmn,hen',hsn] at hs' ⊢;rw [hmn] at hmc1 hms;unfold maxLen at hmc2;have HMN : Hid (s.msgs.length = mn) := hmn;have HSC : Hid (ScIn w (.agg #[.string sn,.slice ma mn mc,.slice ea en ec,.slice ta tn tc]) s) := hs';have HMS : Hid (MsIn w (.slice ma mn mc) s.msgs) := hms;have HSW : Hid (ScW s) := hw;have al : Below w.heap.size w (w.alloc (Obj.cells #[.string sn,.slice ma mn mc,.slice ea en ec,.slice ta tn tc] 26)) := (Below.refl _ _).alloc (Nat.le_refl _) _;have BS : Blk (w.alloc (Obj.cells #[.string sn,.slice ma mn mc,.slice ea en ec,.slice ta tn tc] 26)) w.heap.size #[.string sn,.slice ma mn mc,.slice ea en ec,.slice ta tn tc] 26 := Blk.new w _ _;have HFW : Hid (Calls Tryz.prog 9 #[.agg #[.string sn,.slice ma mn mc,.slice ea en ec,.slice ta tn tc]] (w.alloc (Obj.cells #[.string sn,.slice ma mn mc,.slice ea en ec,.slice ta tn tc] 26)) fun e w' => FewP s e ∧ Below (w.alloc (Obj.cells #[.string sn,.slice ma mn mc,.slice ea en ec,.slice ta tn tc] 26)).heap.size (w.alloc (Obj.cells #[.string sn,.slice ma mn mc,.slice ea en ec,.slice ta tn tc] 26)) w') := few_any (hs'.below al) hw;clear hRl hLl hI hcap hs' hms hen hmt hmn hen' hsn hw g1
 go_enter Tryz.func7,Tryz.ntmps7
 go_wp2_with fail;refine HFW.out.mono ?_;rintro e w2 ⟨hfw,hb2⟩;have hbw2 : Below w.heap.size w w2 := al.trans (hb2.mono al.size);have BS2 := BS.below hb2;clear hb2 al BS HFW
 rcases hfw with rfl | ⟨rfl,hfs⟩
 ·clear BS2;go_wp2_with fail;refine (dcawake_any _).mono ?_;rintro e wz ⟨rfl,hbz⟩;have hbwz : Below w.heap.size w wz := hbw2.trans (hbz.mono hbw2.size);clear hbz;go_wp2_with fail;go_ret;exact ⟨rfl,hbwz⟩
 have HFS : Hid (FewS s) := hfs;have HRK : Hid (Calls Tryz.prog 21 #[.agg #[.string sn,.slice ma mn mc,.slice ea en ec,.slice ta tn tc]] w2 fun e w' => e = .returned (.int .i64 (checkA s)) ∧ Below w2.heap.size w2 w') := rcheck_any (HSC.out.below hbw2) hfs;have s0 := (BS2.cell 0).trans rfl;have s1 := (BS2.cell 1).trans rfl;have s2 := (BS2.cell 2).trans rfl;have s3 := (BS2.cell 3).trans rfl;clear hfs;go_wp2_with fail;refine HRK.out.mono ?_;rintro e w3 ⟨rfl,hb3⟩;have hbw3 : Below w.heap.size w w3 := hbw2.trans (hb3.mono hbw2.size);have BS3 := BS2.below hb3;clear hb3 hbw2 BS2 HRK s0 s1 s2 s3;obtain ⟨A,hA⟩ : ∃ z,checkA s = z := ⟨_,rfl⟩;have HA : Hid (checkA s = A) := hA;rw [hA];clear hA
 by_cases hA0 : A = 0
 rotate_left
 ·have d : (A != 0) = true := by simpa using hA0
  clear hA0 BS3;go_wp2_with fail;refine (dcawake_any _).mono ?_;rintro e wz ⟨rfl,hbz⟩;have hbwz : Below w.heap.size w wz := hbw3.trans (hbz.mono hbw3.size);clear hbz;go_wp2_with fail;go_ret;exact ⟨rfl,hbwz⟩
 subst hA0;have HOK : Hid (OkS s) := (checkA_ok s).1 HA.out
 by_cases hL2 : 100 < L
 ·have d : decide (100 < (L : Int)) = true := by simp; omega
  clear BS3;go_wp2_with fail;refine (dcawake_any _).mono ?_;rintro e wz ⟨rfl,hbz⟩;have hbwz : Below w.heap.size w wz := hbw3.trans (hbz.mono hbw3.size);clear hbz;go_wp2_with fail;go_ret;exact ⟨rfl,hbwz⟩
 have d : decide (100 < (L : Int)) = false := by simp; omega
 by_cases hM2 : 100 < Lb
 ·have d' : decide (100 < (Lb : Int)) = true := by simp; omega
  clear BS3;go_wp2_with fail;refine (dcawake_any _).mono ?_;rintro e wz ⟨rfl,hbz⟩;have hbwz : Below w.heap.size w wz := hbw3.trans (hbz.mono hbw3.size);clear hbz;go_wp2_with fail;go_ret;exact ⟨rfl,hbwz⟩
 have d' : decide (100 < (Lb : Int)) = false := by simp; omega
 have hmn1 : 0 < mn := by have := HOK.out.some; rw [HMN.out] at this; exact this
 have hmn2 : mn ≤ 14 := by have := HFS.out.msgs; rw [HMN.out] at this; exact this
 obtain ⟨hp1,hp2⟩ := placeI_in which (mn : Int) (by omega);obtain ⟨k,hk⟩ : ∃ z : Nat,placeI which (mn : Int) = (z : Int) := ⟨(placeI which (mn : Int)).toNat,by omega⟩
 have hkm : k < mn := by omega
 have HPL : Hid (∀ W,Calls Tryz.prog 22 #[.int .i64 which,.int .i64 (mn : Int)] W fun e w1 => e = .returned (.int .i64 (k : Int)) ∧ w1 = W) := fun W => by
  have h1 := place_is which (mn : Int) i1 i2 (by omega) (by omega) W;rw [hk] at h1;exact h1
 obtain ⟨m,hm⟩ : ∃ x,s.msgs[k]? = some x := ⟨_,List.getElem?_eq_getElem (by rw [HMN.out]; exact hkm)⟩;have HM : Hid (s.msgs[k]? = some m) := hm;obtain ⟨g,off,vf,vr,rfl,c0,c1,c2,hrf,hrr⟩ := HMS.out.get hm;have HRF : Hid (RowG w vf 5 (flRows m.fields)) := hrf;obtain ⟨fa,fl,fc,rfl⟩ := row_sliceD hrf;obtain ⟨ra,rl,rc,rfl⟩ := row_sliceD hrr;obtain ⟨mnm,hmnm⟩ : ∃ z,m.name = z := ⟨_,rfl⟩;have HNM : Hid (m.name = mnm) := hmnm
 have HMF : Hid (∃ m',msgOf s mnm = some m' ∧ m' = m) := (by
  have h1 : msgOf s m.name = some m := ok_findM HOK.out hm;rw [← hmnm]
  exact ⟨m,h1,rfl⟩ : ∃ m',msgOf s mnm = some m' ∧ m' = m)
 rw [hmnm] at c0
 have HCE : Hid (∀ W,Below w3.heap.size w3 W → W.cell? ⟨w.heap.size,1,none⟩ = some (.slice (some ⟨g,off,none⟩) mn mc) ∧ W.cell? ⟨g,off + k * 3,none⟩ = some (.string mnm) ∧ W.cell? ⟨g,off + k * 3 + 1,none⟩ = some (.slice fa fl fc) ∧ W.cell? ⟨g,off + k * 3 + 2,none⟩ = some (.slice ra rl rc)) := fun W hW => by
  have hb : Below w.heap.size w W := hbw3.trans (hW.mono hbw3.size);exact ⟨((BS3.below hW).cell 1).trans rfl,(hb.cell (World.block_lt_of_cell? _ _ c0)).trans c0,(hb.cell (World.block_lt_of_cell? _ _ c1)).trans c1,(hb.cell (World.block_lt_of_cell? _ _ c2)).trans c2⟩
 clear hm hrf hrr hmnm hk c0 c1 c2 hp1 hp2;go_wp2_with fail;obtain ⟨b0,hb0⟩ : ∃ z,w.heap.size = z := ⟨_,rfl⟩;have HBZ : Hid (w.heap.size = b0) := hb0;rw [hb0] at HCE BS3
 try simp only [hb0]
 clear hb0 d d';refine M_region (T := fun W => W.cell? ⟨b0,1,none⟩ = some (.slice (some ⟨g,off,none⟩) mn mc) ∧ W.cell? ⟨g,off + k * 3,none⟩ = some (.string mnm) ∧ W.cell? ⟨g,off + k * 3 + 1,none⟩ = some (.slice fa fl fc) ∧ W.cell? ⟨g,off + k * 3 + 2,none⟩ = some (.slice ra rl rc)) (m := 10) (by kernel_rfl) ?_;have hd : Below w3.heap.size w3 w3.drew := (Below.refl _ _).drew;have hdz : w3.drew.heap.size = w3.heap.size := rfl;have hS := HCE.out _ hd;refine M_take 0 38 (.pointer (some ⟨b0,1,none⟩)) _ rfl rfl (by kernel_rfl) (by kernel_rfl) (by kernel_rfl) (by kernel_rfl) (by kernel_rfl) (fun _ _ _ h => h) (by rfl) (fun w' hw' => ?_) hS (listed' := bts 11 1) (by kernel_rfl) rfl ?_
 ·go_simp
 simp only [zsA,zsZ,zsS];refine M_take 1 39 (.slice (some ⟨g,off,none⟩) mn mc) _ rfl rfl (by kernel_rfl) (by kernel_rfl) (by kernel_rfl) (by kernel_rfl) (by kernel_rfl) (fun _ _ _ h => h) (by rfl) (fun w' hw' => ?_) hS (listed' := bts 11 3) (by kernel_rfl) rfl ?_
 ·obtain ⟨f0,f1,f2,f3⟩ := hw'; go_simp
 simp only [zsA,zsZ,zsS];refine M_take 2 40 (.int .i64 which) _ rfl rfl (by kernel_rfl) (by kernel_rfl) (by kernel_rfl) (by kernel_rfl) (by kernel_rfl) (fun _ _ _ h => h) (by rfl) (fun w' hw' => ?_) hS (listed' := bts 11 7) (by kernel_rfl) rfl ?_
 ·go_simp
 simp only [zsA,zsZ,zsS];refine M_take 3 41 (.pointer (some ⟨b0,1,none⟩)) _ rfl rfl (by kernel_rfl) (by kernel_rfl) (by kernel_rfl) (by kernel_rfl) (by kernel_rfl) (fun _ _ _ h => h) (by rfl) (fun w' hw' => ?_) hS (listed' := bts 11 15) (by kernel_rfl) rfl ?_
 ·go_simp
 simp only [zsA,zsZ,zsS];refine M_take 4 42 (.slice (some ⟨g,off,none⟩) mn mc) _ rfl rfl (by kernel_rfl) (by kernel_rfl) (by kernel_rfl) (by kernel_rfl) (by kernel_rfl) (fun _ _ _ h => h) (by rfl) (fun w' hw' => ?_) hS (listed' := bts 11 31) (by kernel_rfl) rfl ?_
 ·obtain ⟨f0,f1,f2,f3⟩ := hw'; go_simp
 simp only [zsA,zsZ,zsS];refine M_take 5 43 (.int .i64 (mn : Int)) _ rfl rfl (by kernel_rfl) (by kernel_rfl) (by kernel_rfl) (by kernel_rfl) (by kernel_rfl) (fun _ _ _ h => h) (by rfl) (fun w' hw' => ?_) hS (listed' := bts 11 63) (by kernel_rfl) rfl ?_
 ·go_simp
 simp only [zsA,zsZ,zsS];have hal4 : Below w3.heap.size w3 (w3.drew.alloc (Obj.cells #[.string ⟨#[]⟩,.slice none 0 0,.slice none 0 0] 50)) := hd.trans (((Below.refl _ _).alloc (Nat.le_refl _) _).mono hd.size)
 refine M_cabl 6 9 7 8 44 9 45 46 22 #[.int .i64 which,.int .i64 (mn : Int)] (.int .i64 (k : Int)) (.pointer (some ⟨g,off + k * 3,none⟩)) (.agg #[.string mnm,.slice fa fl fc,.slice ra rl rc]) (fun W => .pointer (some ⟨W.heap.size,0,none⟩)) (fun W => W.alloc (Obj.cells #[.string ⟨#[]⟩,.slice none 0 0,.slice none 0 0] 50))
  rfl rfl rfl rfl rfl rfl rfl rfl (by decide) (by decide) (by decide) (by decide) (by decide) (by decide) (by kernel_rfl) (by kernel_rfl) (by kernel_rfl) (by kernel_rfl) (by kernel_rfl) (by kernel_rfl) (by kernel_rfl) (fun _ => rfl) (fun _ => rfl) (fun _ => rfl) (fun _ => rfl) (by kernel_rfl) (by kernel_rfl) (by kernel_rfl) (by kernel_rfl) (by kernel_rfl) (by kernel_rfl) (by kernel_rfl) (fun _ _ _ _ h => h) (fun _ _ _ _ h => h) ?x1 ?x1' ?x2 HPL.out ?xk ?xk' ?xl ?xl' hS (HCE.out _ hal4) ?_
 case x1 => intro W'; go_simp
 case x1' => intro u W'; go_simp
 case x2 => intro a' W'; go_simp
 case xk => intro W'; go_simp
 case xk' => intro u W'; go_simp
 case xl => rintro W' ⟨f0,f1,f2,f3⟩; go_simp
 case xl' => rintro u W' ⟨f0,f1,f2,f3⟩; go_simp
 simp only [zsA,zsZ,zsS];have B4 : Blk (w3.drew.alloc (Obj.cells #[.string ⟨#[]⟩,.slice none 0 0,.slice none 0 0] 50)) w3.heap.size #[.string ⟨#[]⟩,.slice none 0 0,.slice none 0 0] 50 := Blk.new w3.drew _ _;rw [hdz];obtain ⟨b4,hb4⟩ : ∃ z,w3.heap.size = z := ⟨_,rfl⟩;have HB4 : Hid (w3.heap.size = b4) := hb4;rw [hb4] at B4;simp only [hb4];have h40 := (B4.cell 0).trans rfl;have h41 := (B4.cell 1).trans rfl;have h42 := (B4.cell 2).trans rfl;have z40 := B4.froz 0;have z41 := B4.froz 1;have z42 := B4.froz 2;have HBL4 : Hid (Below w3.heap.size w3 (w3.drew.alloc (Obj.cells #[.string ⟨#[]⟩,.slice none 0 0,.slice none 0 0] 50))) := hal4;clear hb4 hal4 hd hdz hS;generalize (w3.drew.alloc (Obj.cells #[.string ⟨#[]⟩,.slice none 0 0,.slice none 0 0] 50)) = W4 at *;refine M_store 10 ((((W4.setCell ⟨b4,0,none⟩ (.string mnm)).setCell ⟨b4,1,none⟩ (.slice fa fl fc)).setCell ⟨b4,2,none⟩ (.slice ra rl rc))) rfl rfl (by kernel_rfl) (by rfl) (listed' := bts 11 2047) (by kernel_rfl) (by go_simp) (by kernel_rfl) ?_;refine M_done (by kernel_rfl) ?_ _
 have KS : Kp (fun q => q = b4) W4 ((((W4.setCell ⟨b4,0,none⟩ (.string mnm)).setCell ⟨b4,1,none⟩ (.slice fa fl fc)).setCell ⟨b4,2,none⟩ (.slice ra rl rc))) := by
  refine Kp.setCell ?_ (fun _ => by simp) _;refine Kp.setCell ?_ (fun _ => by simp) _;refine Kp.setCell ?_ (fun _ => by simp) _;exact Kp.refl _ _
 have B4a : Blk (W4.setCell ⟨b4,0,none⟩ (.string mnm)) b4 #[.string mnm,.slice none 0 0,.slice none 0 0] 50 := B4.set 0 _ rfl;have B4b : Blk ((W4.setCell ⟨b4,0,none⟩ (.string mnm)).setCell ⟨b4,1,none⟩ (.slice fa fl fc)) b4 #[.string mnm,.slice fa fl fc,.slice none 0 0] 50 := B4a.set 1 _ rfl;have B5 : Blk ((((W4.setCell ⟨b4,0,none⟩ (.string mnm)).setCell ⟨b4,1,none⟩ (.slice fa fl fc)).setCell ⟨b4,2,none⟩ (.slice ra rl rc))) b4 #[.string mnm,.slice fa fl fc,.slice ra rl rc] 50 := B4b.set 2 _ rfl;have hb35 : Below w3.heap.size w3 ((((W4.setCell ⟨b4,0,none⟩ (.string mnm)).setCell ⟨b4,1,none⟩ (.slice fa fl fc)).setCell ⟨b4,2,none⟩ (.slice ra rl rc))) := HBL4.out.trans (KS.toBelow HBL4.out.size (fun q e => by rw [e]; exact Nat.le_of_eq HB4.out));have hbw5 : Below w.heap.size w ((((W4.setCell ⟨b4,0,none⟩ (.string mnm)).setCell ⟨b4,1,none⟩ (.slice fa fl fc)).setCell ⟨b4,2,none⟩ (.slice ra rl rc))) := hbw3.trans (hb35.mono hbw3.size);have BS5 : Blk ((((W4.setCell ⟨b4,0,none⟩ (.string mnm)).setCell ⟨b4,1,none⟩ (.slice fa fl fc)).setCell ⟨b4,2,none⟩ (.slice ra rl rc))) b0 #[.string sn,.slice (some ⟨g,off,none⟩) mn mc,.slice ea en ec,.slice ta tn tc] 26 := BS3.below hb35;clear h40 h41 h42 z40 z41 z42 KS B4 B4a B4b hb35 hbw3 BS3 HBL4 HCE HPL;generalize ((((W4.setCell ⟨b4,0,none⟩ (.string mnm)).setCell ⟨b4,1,none⟩ (.slice fa fl fc)).setCell ⟨b4,2,none⟩ (.slice ra rl rc))) = W5 at *;have HB5 : Hid (Blk W5 b4 #[.string mnm,.slice fa fl fc,.slice ra rl rc] 50 ∧ Blk W5 b0 #[.string sn,.slice (some ⟨g,off,none⟩) mn mc,.slice ea en ec,.slice ta tn tc] 26) := ⟨B5,BS5⟩;have HRF5 : Hid (RowG W5 (.slice fa fl fc) 5 (flRows m.fields)) := HRF.out.below hbw5
 have HFL5 : Hid (m.fields.length = fl) := (by
  obtain ⟨a',c',e1,_⟩ := HRF.out.form2;simp only [Value.slice.injEq,flRows,List.length_map] at e1
  exact e1.2.1.symm : m.fields.length = fl)
 have hfl20 : fl ≤ 20 := by
  have h1 := (HFS.out.few.flds m (List.mem_of_getElem? HM.out)).1;rw [HFL5.out] at h1; exact h1
 have m1 := (B5.cell 1).trans rfl;clear B5 BS5;go_wp2_with fail
 go_loopw [10] (fun iv wr => ∃ (i : Nat),iv = .int .i64 (i : Int) ∧ i ≤ fl ∧ Hid (∀ f ∈ m.fields.take i,f.label ≠ 3) ∧ wr = W5) (fun iv _ => fl - (intOf iv).toNat)
 case atStart => exact ⟨0,rfl,by omega,(fun f hf => by simp at hf),rfl⟩
 case round =>
  obtain ⟨i,rfl,hi,HLB,rfl⟩ := hrel
  by_cases hlt : i < fl
  ·obtain ⟨f,hx⟩ : ∃ f,m.fields[i]? = some f := ⟨_,List.getElem?_eq_getElem (by rw [HFL5.out]; exact hlt)⟩;obtain ⟨gf,of,rfl,cf⟩ := HRF5.out.get (i := i) (c := [.string f.name,.int .i64 f.tag,.int .i64 f.label,.int .i64 f.kind,.string f.tname]) (by rw [flRows,List.getElem?_map,hx]; rfl);have p2 : wr.cell? ⟨gf,of + i * 5 + 2,none⟩ = some (.int .i64 f.label) := cf 2 _ rfl
   have HSN : Hid (m.fields.take (i + 1) = m.fields.take i ++ [f]) := (by
    obtain ⟨h1,h2⟩ := List.getElem?_eq_some_iff.1 hx
    rw [List.take_succ_eq_append_getElem h1,h2] : _ = _)
   clear cf hx
   by_cases hl3 : f.label = 3
   ·have d : (f.label == 3) = true := by simpa using hl3
    generalize f.label = FL at *;clear hl3;go_wp2_with fail;refine (dcawake_any _).mono ?_;rintro e wz ⟨rfl,hbz⟩;have hbwz : Below w.heap.size w wz := hbw5.trans (hbz.mono hbw5.size);clear hbz;go_wp2_with fail;go_ret;exact ⟨rfl,hbwz⟩
   ·have d : (f.label == 3) = false := by simpa using hl3
    have HL1 : Hid (∀ x ∈ m.fields.take (i + 1),x.label ≠ 3) := fun x hx => by
     rw [HSN.out] at hx
     rcases List.mem_append.1 hx with hx | hx
     ·exact HLB.out x hx
     ·obtain rfl : x = f := by simpa using hx
      exact hl3
    clear HSN hl3;generalize f.label = FL at *;go_wp2_with fail
    go_roundw
    case rel => exact ⟨i + 1,by go_num,by omega,HL1,by first | rfl | trivial⟩
    case measure => simp [intOf]; omega
  ·obtain rfl : i = fl := by omega
   have HNR : Hid (∀ f ∈ m.fields,f.label ≠ 3) := fun f hf => HLB.out f (by rw [List.take_of_length_le (by rw [HFL5.out]; exact Nat.le_refl _)]; exact hf)
   have BS5 := HB5.out.2;have B5 := HB5.out.1;have m0 := (B5.cell 0).trans rfl;have s0 := (BS5.cell 0).trans rfl;have s1 := (BS5.cell 1).trans rfl;have s2 := (BS5.cell 2).trans rfl;have s3 := (BS5.cell 3).trans rfl
   have HFT : ∀ (W : World) (xa : Option Addr) (xl xc : Nat) (xs : List Int),Below wr.heap.size wr W → RowG w (.slice xa xl xc) 1 (inRows (xs.take xl)) → (xs.take xl).length = xl → xl ≤ 100 → Calls Tryz.prog 23 #[.agg #[.string sn,.slice (some ⟨g,off,none⟩) mn mc,.slice ea en ec,.slice ta tn tc],.string mnm,.slice xa xl xc] W (FitA s mnm W) := fun W xa xl xc xs hW hr hl hle =>
    fitAll_any s sn (some ⟨g,off,none⟩) ea ta mn mc en ec tn tc (fun m hm => (HFS.out.few.flds m hm).1) (ok_kinds HOK.out) (xs.take xl) xa xc xl W (HSC.out.below (hbw5.trans (hW.mono hbw5.size))) (hr.below (hbw5.trans (hW.mono hbw5.size))) hl (by omega) mnm
   have HF1 : Hid (Calls Tryz.prog 23 #[.agg #[.string sn,.slice (some ⟨g,off,none⟩) mn mc,.slice ea en ec,.slice ta tn tc],.string mnm,.slice la L lc] wr (FitA s mnm wr)) := HFT wr la L lc zs (Below.refl _ _) HRL.out.1 HRL.out.2 (by omega);have HF2 : Hid (∀ W,Below wr.heap.size wr W → Calls Tryz.prog 23 #[.agg #[.string sn,.slice (some ⟨g,off,none⟩) mn mc,.slice ea en ec,.slice ta tn tc],.string mnm,.slice lb Lb ld] W (FitA s mnm W)) := fun W hW => HFT W lb Lb ld zt hW HRM.out.1 HRM.out.2 (by omega)
   clear HFT HLB;go_wp2_with fail;refine Calls.mono HF1.out ?_;rintro e w6 ⟨r1,t1,bs1,rfl,hO1,hA1,hT1,hc1,hbx⟩;have hrw6 : Below wr.heap.size wr w6 := hbx;have hzw6 : Below wr.heap.size wr w6 := hbx;have HT1 : Hid (FitT 6 s mnm t1 ∧ cntN 6 t1 ≤ 180 ∧ N64 6 t1) := ⟨hT1,hc1,hO1.trC.n64⟩;have hV1 : TrV 6 wr.heap.size w6 (.agg r1.toArray) t1 bs1 := ⟨r1,rfl,hO1,hA1⟩;have HE1 : Hid (Calls Tryz.prog 19 #[.agg r1.toArray] w6 (EncP (encA 6 t1) w6)) := encode_any hV1.trW (by decide) (by omega) hT1.sm;obtain ⟨q1,q2,q3,q4,q5,q6,hrq⟩ := TrO.open hO1;clear hV1 hO1 hA1 hT1 hc1 hbx;generalize (Value.agg r1.toArray) = xv1 at *;clear hrq;go_wp2_with fail;refine Calls.mono HE1.out ?_;rintro e w7 ⟨rv1,rfl,hoq,hbq⟩;have hrw7 : Below wr.heap.size wr w7 := hrw6.trans (hbq.mono hrw6.size);have hbwrw7 : Below wr.heap.size wr w7 := hzw6.trans (hbq.mono hzw6.size);obtain ⟨xa,xc,rfl, -,hdj,hcl,hcm,hch⟩ := own_open hoq
   have HD1 : Hid (xa = none → (encA 6 t1).1 = [] ∧ xc = 0) := fun e => by
    rcases hdj with h | ⟨g,h,_⟩
    ·exact ⟨h.2.1,h.2.2⟩
    ·rw [e] at h; cases h
   have HH1 : Hid (Holds w7 xa (encA 6 t1).1 ∧ w7.ownsRow w6.heap.size 5 1 (.slice xa (encA 6 t1).1.length xc) (encA 6 t1).1.length (byteCells (encA 6 t1).1)) := ⟨hch,hoq⟩;have HW1 : Hid ((encA 6 t1).1.length ≤ 4096 ∧ ∀ k ∈ (encA 6 t1).1,k < 256) := ⟨encA_le 6 t1,encA_bytes 6 t1⟩;obtain ⟨X,hX⟩ : ∃ z,encA 6 t1 = z := ⟨_,rfl⟩;have HQ1 : Hid (encA 6 t1 = X) := hX;rw [hX] at HD1 HH1 HW1 ⊢;clear hX HE1 hoq hbq hdj hch hcl hcm;obtain ⟨Xn,Xe⟩ := X;simp only at HD1 HH1 HW1 ⊢;obtain ⟨XL,hXL⟩ : ∃ z,Xn.length = z := ⟨_,rfl⟩;have HL1 : Hid (Xn.length = XL) := hXL
   have hX4 : XL ≤ 4096 := by rw [← hXL]; exact HW1.out.1
   rw [hXL] at HH1 ⊢;clear hXL;clear m0 s0 s1 s2 s3;have s0 := ((HB5.out.2.below hrw7).cell 0).trans rfl;have s1 := ((HB5.out.2.below hrw7).cell 1).trans rfl;have s2 := ((HB5.out.2.below hrw7).cell 2).trans rfl;have s3 := ((HB5.out.2.below hrw7).cell 3).trans rfl;have m0 := ((HB5.out.1.below hrw7).cell 0).trans rfl;go_wp2_with fail;refine Calls.mono (HF2.out w7 hrw7) ?_;rintro e w8 ⟨r2,t2,bs2,rfl,hO2,hA2,hT2,hc2,hbx⟩;have hrw8 : Below wr.heap.size wr w8 := hrw7.trans (hbx.mono hrw7.size);have hzw8 : Below w7.heap.size w7 w8 := hbx;have HT2 : Hid (FitT 6 s mnm t2 ∧ cntN 6 t2 ≤ 180 ∧ N64 6 t2) := ⟨hT2,hc2,hO2.trC.n64⟩;have hV2 : TrV 6 w7.heap.size w8 (.agg r2.toArray) t2 bs2 := ⟨r2,rfl,hO2,hA2⟩;have HE2 : Hid (Calls Tryz.prog 19 #[.agg r2.toArray] w8 (EncP (encA 6 t2) w8)) := encode_any hV2.trW (by decide) (by omega) hT2.sm;obtain ⟨q1,q2,q3,q4,q5,q6,hrq⟩ := TrO.open hO2;clear hV2 hO2 hA2 hT2 hc2 hbx;generalize (Value.agg r2.toArray) = xv2 at *;clear hrq;go_wp2_with fail;refine Calls.mono HE2.out ?_;rintro e w9 ⟨rv2,rfl,hoq,hbq⟩;have hrw9 : Below wr.heap.size wr w9 := hrw8.trans (hbq.mono hrw8.size);have hbw7w9 : Below w7.heap.size w7 w9 := hzw8.trans (hbq.mono hzw8.size);obtain ⟨ya,yc,rfl, -,hdj,hcl,hcm,hch⟩ := own_open hoq
   have HD2 : Hid (ya = none → (encA 6 t2).1 = [] ∧ yc = 0) := fun e => by
    rcases hdj with h | ⟨g,h,_⟩
    ·exact ⟨h.2.1,h.2.2⟩
    ·rw [e] at h; cases h
   have HH2 : Hid (Holds w9 ya (encA 6 t2).1 ∧ w9.ownsRow w8.heap.size 5 1 (.slice ya (encA 6 t2).1.length yc) (encA 6 t2).1.length (byteCells (encA 6 t2).1)) := ⟨hch,hoq⟩;have HW2 : Hid ((encA 6 t2).1.length ≤ 4096 ∧ ∀ k ∈ (encA 6 t2).1,k < 256) := ⟨encA_le 6 t2,encA_bytes 6 t2⟩;obtain ⟨Y,hY⟩ : ∃ z,encA 6 t2 = z := ⟨_,rfl⟩;have HQ2 : Hid (encA 6 t2 = Y) := hY;rw [hY] at HD2 HH2 HW2 ⊢;clear hY HE2 hoq hbq hdj hch hcl hcm;obtain ⟨Yn,Ye⟩ := Y;simp only at HD2 HH2 HW2 ⊢;obtain ⟨YL,hYL⟩ : ∃ z,Yn.length = z := ⟨_,rfl⟩;have HL2 : Hid (Yn.length = YL) := hYL
   have hY4 : YL ≤ 4096 := by rw [← hYL]; exact HW2.out.1
   rw [hYL] at HH2 ⊢;clear hYL;clear m0 s0 s1 s2 s3;have hbw9 : Below w.heap.size w w9 := hbw5.trans (hrw9.mono hbw5.size)
   by_cases hXe : Xe = 0
   rotate_left
   ·have d1 : ((Xe : Int) != 0) = true := by simp; omega
    clear hXe;go_wp2_with fail;refine (dcawake_any _).mono ?_;rintro e wz ⟨rfl,hbz⟩;have hbwz : Below w.heap.size w wz := hbw9.trans (hbz.mono hbw9.size);clear hbz;go_wp2_with fail;go_ret;exact ⟨rfl,hbwz⟩
   subst hXe;simp only [show ((0 : Nat) : Int) = 0 from rfl]
   by_cases hYe : Ye = 0
   rotate_left
   ·have d1 : ((Ye : Int) != 0) = true := by simp; omega
    clear hYe;go_wp2_with fail;refine (dcawake_any _).mono ?_;rintro e wz ⟨rfl,hbz⟩;have hbwz : Below w.heap.size w wz := hbw9.trans (hbz.mono hbw9.size);clear hbz;go_wp2_with fail;go_ret;exact ⟨rfl,hbwz⟩
   subst hYe;simp only [show ((0 : Nat) : Int) = 0 from rfl]
   by_cases hbig : 4096 < XL + 2 * YL
   ·have d1 : decide ((4096 : Int) < (XL : Int) + 2 * (YL : Int)) = true := by simp; omega
    clear hbig;go_wp2_with fail;refine (dcawake_any _).mono ?_;rintro e wz ⟨rfl,hbz⟩;have hbwz : Below w.heap.size w wz := hbw9.trans (hbz.mono hbw9.size);clear hbz;go_wp2_with fail;go_ret;exact ⟨rfl,hbwz⟩
   have d1 : decide ((4096 : Int) < (XL : Int) + 2 * (YL : Int)) = false := by simp; omega
   obtain ⟨m',hm',rfl⟩ := HMF.out;obtain ⟨T,hT1,hT2⟩ := last_facts HOK.out hm' HNR.out HT1.out.1 HT2.out.1 HT1.out.2.2 HT2.out.2.2 (by rw [HQ1.out]) (by rw [HQ2.out]) (by rw [HQ1.out,HQ2.out,HL1.out,HL2.out]; omega);rw [HQ1.out,HQ2.out] at hT1 hT2;have HTT : Hid (decA s mnm (Yn ++ Xn ++ Yn) = (T,0) ∧ decA s mnm (Xn ++ Yn) = (T,0)) := ⟨hT1,hT2⟩;obtain ⟨KT,hKT⟩ : ∃ z,T.kind = z := ⟨_,rfl⟩;obtain ⟨NT,hNT⟩ : ∃ z,T.n = z := ⟨_,rfl⟩;obtain ⟨ST',hST⟩ : ∃ z,T.s = z := ⟨_,rfl⟩;have HKT : Hid (T.kind = KT ∧ T.n = NT ∧ T.s = ST') := ⟨hKT,hNT,hST⟩;have HX9 : Hid (Holds w9 xa Xn ∧ w9.ownsRow w6.heap.size 5 1 (.slice xa XL xc) XL (byteCells Xn)) := ⟨HH1.out.1.below hbw7w9,own_below HH1.out.2 hbw7w9⟩;have HDC : Hid (∀ W,Below wr.heap.size wr W → ∀ (v : Value) (l : List Nat),ByS W v l → Calls Tryz.prog 11 #[.agg #[.string sn,.slice (some ⟨g,off,none⟩) mn mc,.slice ea en ec,.slice ta tn tc],.string mnm,v] W (DtrP 11 (decA s mnm l) W)) := fun W hW v l hv => decode_any (HSC.out.below (hbw5.trans (hW.mono hbw5.size))) HSW.out HFS.out.few hv
   have HBX : Hid (∀ W,Below w9.heap.size w9 W → Calls Tryz.prog 13 #[.slice xa XL xc] W fun e w' => ∃ r,e = .returned r ∧ w'.ownsRow W.heap.size 5 1 r XL (byteCells Xn) ∧ Below W.heap.size W w') := fun W hW => bytes_any xa Xn xc XL W HL1.out (by omega) HD1.out (HX9.out.1.below hW)
   have HBY : Hid (∀ W,Below w9.heap.size w9 W → Calls Tryz.prog 13 #[.slice ya YL yc] W fun e w' => ∃ r,e = .returned r ∧ w'.ownsRow W.heap.size 5 1 r YL (byteCells Yn) ∧ Below W.heap.size W w') := fun W hW => bytes_any ya Yn yc YL W HL2.out (by omega) HD2.out (HH2.out.1.below hW)
   have HBK : Hid (Blk w9 b4 #[.string mnm,.slice fa i fc,.slice ra rl rc] 50 ∧ Blk w9 b0 #[.string sn,.slice (some ⟨g,off,none⟩) mn mc,.slice ea en ec,.slice ta tn tc] 26) := ⟨HB5.out.1.below hrw9,HB5.out.2.below hrw9⟩;have HR9 : Hid (Below wr.heap.size wr w9) := hrw9;have HB9 : Hid (Below w.heap.size w w9) := hbw9;have HOX : Hid (w9.ownsRow w6.heap.size 5 1 (.slice xa XL xc) Xn.length (byteCells Xn)) := (by rw [HL1.out]; exact HX9.out.2 : World.ownsRow _ _ _ _ _ _ _);have HOY : Hid (w9.ownsRow w8.heap.size 5 1 (.slice ya YL yc) Yn.length (byteCells Yn)) := (by rw [HL2.out]; exact HH2.out.2 : World.ownsRow _ _ _ _ _ _ _);clear hT1 hT2 hKT hNT hST hm' HX9 HF1 HF2
   go_upto_region 13 with fail
   go_cut [15,16] from 96 to 108 (fun pv ev wx => ∃ (b : Nat) (a1 a2 : Option Addr) (n1 c1 n2 c2 : Nat),pv = .pointer (some ⟨b,0,none⟩) ∧ ev = .int .i64 0 ∧ Hid (Blk wx b #[.int .i64 KT,.int .i64 NT,.string ST',.slice a1 n1 c1,.slice a2 n2 c2] 33 ∧ TrIn 11 wx (.agg #[.int .i64 KT,.int .i64 NT,.string ST',.slice a1 n1 c1,.slice a2 n2 c2]) T ∧ Below w9.heap.size w9 wx))
   case first =>
    refine M_region (T := fun W => Below w9.heap.size w9 W) (m := 15) (by kernel_rfl) ?_;have hS : Below w9.heap.size w9 w9.drew := (Below.refl _ _).drew;refine M_take 0 97 (.agg #[.string sn,.slice (some ⟨g,off,none⟩) mn mc,.slice ea en ec,.slice ta tn tc]) _ rfl rfl (by kernel_rfl) (by kernel_rfl) (by kernel_rfl) (by kernel_rfl) (by kernel_rfl) (fun _ _ _ h => h) (by rfl) (fun w' hw' => ?_) hS (listed' := bts 16 1) (by kernel_rfl) rfl ?_
    ·have HB := HBK.out.2.below hw'; have f0 := (HB.cell 0).trans rfl; have f1 := (HB.cell 1).trans rfl; have f2 := (HB.cell 2).trans rfl; have f3 := (HB.cell 3).trans rfl; go_simp
    simp only [zsA,zsZ,zsS];refine M_take 1 98 (.pointer (some ⟨b4,0,none⟩)) _ rfl rfl (by kernel_rfl) (by kernel_rfl) (by kernel_rfl) (by kernel_rfl) (by kernel_rfl) (fun _ _ _ h => h) (by rfl) (fun w' hw' => ?_) hS (listed' := bts 16 3) (by kernel_rfl) rfl ?_
    ·go_simp
    simp only [zsA,zsZ,zsS];refine M_take 2 99 (.string mnm) _ rfl rfl (by kernel_rfl) (by kernel_rfl) (by kernel_rfl) (by kernel_rfl) (by kernel_rfl) (fun _ _ _ h => h) (by rfl) (fun w' hw' => ?_) hS (listed' := bts 16 7) (by kernel_rfl) rfl ?_
    ·have HB := HBK.out.1.below hw'; have f0 := (HB.cell 0).trans rfl; go_simp
    simp only [zsA,zsZ,zsS];refine M_take 3 100 (.slice ya YL yc) _ rfl rfl (by kernel_rfl) (by kernel_rfl) (by kernel_rfl) (by kernel_rfl) (by kernel_rfl) (fun _ _ _ h => h) (by rfl) (fun w' hw' => ?_) hS (listed' := bts 16 15) (by kernel_rfl) rfl ?_
    ·go_simp
    simp only [zsA,zsZ,zsS];refine M_take 5 102 (.slice xa XL xc) _ rfl rfl (by kernel_rfl) (by kernel_rfl) (by kernel_rfl) (by kernel_rfl) (by kernel_rfl) (fun _ _ _ h => h) (by rfl) (fun w' hw' => ?_) hS (listed' := bts 16 47) (by kernel_rfl) rfl ?_
    ·go_simp
    simp only [zsA,zsZ,zsS];refine M_take 7 104 (.slice ya YL yc) _ rfl rfl (by kernel_rfl) (by kernel_rfl) (by kernel_rfl) (by kernel_rfl) (by kernel_rfl) (fun _ _ _ h => h) (by rfl) (fun w' hw' => ?_) hS (listed' := bts 16 175) (by kernel_rfl) rfl ?_
    ·go_simp
    simp only [zsA,zsZ,zsS];generalize w9.drew = U0 at *;refine M_fork 4 13 101 15 13 #[.slice ya YL yc] (.pointer (some ⟨U0.heap.size,0,none⟩)) (U0.alloc (Obj.cells #[.int .i64 0,.int .i64 0,.string ⟨#[]⟩,.slice none 0 0,.slice none 0 0] 33)) rfl rfl rfl rfl (by kernel_rfl) (by rfl) (by rfl) (by go_simp) (by go_simp) ?_ (hS.trans (((Below.refl _ _).alloc (Nat.le_refl _) _).mono hS.size)) ?_
    ·skip
     refine (HBY.out _ hS).mono ?_;rintro ee U1 ⟨v1,rfl,ho,hbU⟩;obtain ⟨D1,hD1⟩ : ∃ z,U0.heap.size = z := ⟨_,rfl⟩;rw [hD1] at ho
     have hDU : D1 ≤ U1.heap.size := by rw [← hD1]; exact hbU.size
     have hkD : w9.heap.size ≤ D1 := by rw [← hD1]; exact hS.size
     have hS0 := hS;have hS : Below w9.heap.size w9 U1 := hS0.trans (hbU.mono hS0.size);rw [show YL = Yn.length from HL2.out.symm] at ho;clear hS0 hbU hD1;refine ⟨_,rfl,hS,?_⟩;simp only [zsA,zsZ,zsS]
     have hlk : (Yn).length + Xn.length ≤ 100000 := by
      have := HW1.out.1;have := HW2.out.1
      try simp only [List.length_append]
      omega
     obtain ⟨v2,W2,g1,g2,g3⟩ := pushBytes ho (own_below HOX.out hS) hDU hlk;have HG1 : Hid ((Builtin.append_ #[27,27] 27 #[v1,.slice xa XL xc]).run Tryz.prog U1 = .ok v2 W2) := g1;have hSn : Below w9.heap.size w9 W2 := hS.trans (g3.toBelow hS.size fun q hq => Nat.le_trans hkD (own_lt ho (mem_blkOf.1 hq)).1);clear g1 hlk;refine M_forkAA 6 13 103 15 v2 (.pointer (some ⟨U1.heap.size,0,none⟩)) W2 (U1.alloc (Obj.cells #[.int .i64 0,.int .i64 0,.string ⟨#[]⟩,.slice none 0 0,.slice none 0 0] 33)) rfl rfl rfl rfl (by kernel_rfl) (by rfl) (by rfl) (append_run rfl rfl rfl HG1.out) (by go_simp) hSn ?_ (hS.trans (((Below.refl _ _).alloc (Nat.le_refl _) _).mono hS.size)) ?_
     ·skip
      replace hDU := Nat.le_trans hDU g3.size
      replace ho := g2
      have hS := hSn;clear g2 g3 hSn HG1;simp only [zsA,zsZ,zsS]
      have hlk : (Yn ++ Xn).length + Yn.length ≤ 100000 := by
       have := HW1.out.1;have := HW2.out.1
       try simp only [List.length_append]
       omega
      obtain ⟨v3,W3,g1,g2,g3⟩ := pushBytes ho (own_below HOY.out hS) hDU hlk;have HG2 : Hid ((Builtin.append_ #[27,27] 27 #[v2,.slice ya YL yc]).run Tryz.prog W2 = .ok v3 W3) := g1;have hSn : Below w9.heap.size w9 W3 := hS.trans (g3.toBelow hS.size fun q hq => Nat.le_trans hkD (own_lt ho (mem_blkOf.1 hq)).1);clear g1 hlk;refine M_forkAA 8 13 105 15 v3 (.pointer (some ⟨W2.heap.size,0,none⟩)) W3 (W2.alloc (Obj.cells #[.int .i64 0,.int .i64 0,.string ⟨#[]⟩,.slice none 0 0,.slice none 0 0] 33)) rfl rfl rfl rfl (by kernel_rfl) (by rfl) (by rfl) (append_run rfl rfl rfl HG2.out) (by go_simp) hSn ?_ (hS.trans (((Below.refl _ _).alloc (Nat.le_refl _) _).mono hS.size)) ?_
      ·skip
       replace hDU := Nat.le_trans hDU g3.size
       replace ho := g2
       have hS := hSn;clear g2 g3 hSn HG2;simp only [zsA,zsZ,zsS];refine M_fork 9 13 106 15 11 #[.agg #[.string sn,.slice (some ⟨g,off,none⟩) mn mc,.slice ea en ec,.slice ta tn tc],.string mnm,v3] (.pointer (some ⟨W3.heap.size,0,none⟩)) (W3.alloc (Obj.cells #[.int .i64 0,.int .i64 0,.string ⟨#[]⟩,.slice none 0 0,.slice none 0 0] 33)) rfl rfl rfl rfl (by kernel_rfl) (by rfl) (by rfl) (by go_simp) (by go_simp) ?_ (hS.trans (((Below.refl _ _).alloc (Nat.le_refl _) _).mono hS.size)) ?_
       ·skip
        refine ((HDC.out _ (HR9.out.trans (hS.mono HR9.out.size)) _ _ (ByS.own ho (by intro q hq; simp only [List.mem_append] at hq; rcases hq with hq | hq <;> first | exact HW1.out.2 q hq | exact HW2.out.2 q hq | (rcases hq with hq | hq <;> first | exact HW1.out.2 q hq | exact HW2.out.2 q hq)))).mono ?_);rw [HTT.out.1];rintro ee U2 ⟨r4,bs4,rfl,ht4,hap4,hbU⟩;simp only at ht4;obtain ⟨a1,n1,c1,a2,n2,c2,hr4⟩ := ht4.open;rw [HKT.out.1,HKT.out.2.1,HKT.out.2.2] at hr4;subst hr4;have hbU' : Below W3.heap.size W3 U2 := hbU;have hSx := hS.trans (hbU.mono hS.size);clear hbU;obtain ⟨D4,hD4⟩ : ∃ z,W3.heap.size = z := ⟨_,rfl⟩;rw [hD4] at ht4 hap4;have hS0 := hS;have hS : Below w9.heap.size w9 U2 := hS0.trans (hbU'.mono hS0.size);clear hS0 hbU' hSx hD4 ho hDU hkD;refine ⟨_,rfl,hS,?_⟩;simp only [zsA,zsZ,zsS];refine M_take 10 96 (.tuple #[.agg #[.int .i64 KT,.int .i64 NT,.string ST',.slice a1 n1 c1,.slice a2 n2 c2],.int .i64 0]) _ rfl rfl (by kernel_rfl) (by kernel_rfl) (by kernel_rfl) (by kernel_rfl) (by kernel_rfl) (fun _ _ _ h => h) (by rfl) (fun w' hw' => ?_) hS (listed' := bts 16 2047) (by kernel_rfl) rfl ?_
        ·go_simp
        simp only [zsA,zsZ,zsS];refine M_take 11 107 (.agg #[.int .i64 KT,.int .i64 NT,.string ST',.slice a1 n1 c1,.slice a2 n2 c2]) _ rfl rfl (by kernel_rfl) (by kernel_rfl) (by kernel_rfl) (by kernel_rfl) (by kernel_rfl) (fun _ _ _ h => h) (by rfl) (fun w' hw' => ?_) hS (listed' := bts 16 4095) (by kernel_rfl) rfl ?_
        ·go_simp
        simp only [zsA,zsZ,zsS];refine M_take 12 108 (.int .i64 0) _ rfl rfl (by kernel_rfl) (by kernel_rfl) (by kernel_rfl) (by kernel_rfl) (by kernel_rfl) (fun _ _ _ h => h) (by rfl) (fun w' hw' => ?_) hS (listed' := bts 16 8191) (by kernel_rfl) rfl ?_
        ·go_simp
        simp only [zsA,zsZ,zsS];refine M_run 13 15 (.pointer (some ⟨U2.heap.size,0,none⟩)) (U2.alloc (Obj.cells #[.int .i64 0,.int .i64 0,.string ⟨#[]⟩,.slice none 0 0,.slice none 0 0] 33)) rfl rfl (by kernel_rfl) (by rfl) (listed' := bts 16 16383) (by kernel_rfl) (by go_simp) (hS.trans (((Below.refl _ _).alloc (Nat.le_refl _) _).mono hS.size)) ?_;have hbU : Below U2.heap.size U2 (U2.alloc (Obj.cells #[.int .i64 0,.int .i64 0,.string ⟨#[]⟩,.slice none 0 0,.slice none 0 0] 33)) := (Below.refl _ _).alloc (Nat.le_refl _) _;obtain ⟨bz,hbz⟩ : ∃ z,U2.heap.size = z := ⟨_,rfl⟩
        have BZ : Blk (U2.alloc (Obj.cells #[.int .i64 0,.int .i64 0,.string ⟨#[]⟩,.slice none 0 0,.slice none 0 0] 33)) bz #[.int .i64 0,.int .i64 0,.string ⟨#[]⟩,.slice none 0 0,.slice none 0 0] 33 := by rw [← hbz]; exact Blk.new U2 _ _
        have GZ : w9.heap.size ≤ bz := by rw [← hbz]; exact hS.size
        have hS0 := hS;have hS : Below w9.heap.size w9 (U2.alloc (Obj.cells #[.int .i64 0,.int .i64 0,.string ⟨#[]⟩,.slice none 0 0,.slice none 0 0] 33)) := hS0.trans (hbU.mono hS0.size)
        have hnz : bz ∉ bs4 := fun hc => by have h1 := (hap4.2 _ hc).2; rw [hbz] at h1; omega
        replace ht4 := ht4.sm (Sm.below hbU fun q hq => (hap4.2 q hq).2)
        replace hap4 := hap4.mono hbU.size
        clear hS0 hbU;simp only [zsA,zsZ,zsS]
        try simp only [hbz]
        clear hbz;generalize (U2.alloc (Obj.cells #[.int .i64 0,.int .i64 0,.string ⟨#[]⟩,.slice none 0 0,.slice none 0 0] 33)) = U3 at *;have k0 := (BZ.cell 0).trans rfl;have z0 := BZ.froz 0;have k1 := (BZ.cell 1).trans rfl;have z1 := BZ.froz 1;have k2 := (BZ.cell 2).trans rfl;have z2 := BZ.froz 2;have k3 := (BZ.cell 3).trans rfl;have z3 := BZ.froz 3;have k4 := (BZ.cell 4).trans rfl;have z4 := BZ.froz 4;have hfin := dcd_store BZ rfl rfl ht4 hap4 hnz hS GZ;refine M_storeT 14 (set5 U3 bz 0 (.int .i64 KT) (.int .i64 NT) (.string ST') (.slice a1 n1 c1) (.slice a2 n2 c2)) rfl rfl (by kernel_rfl) (by rfl) (listed' := bts 16 32767) (by kernel_rfl) (by unfold set5; go_simp) hfin.2.2 ?_;clear k0 z0 k1 z1 k2 z2 k3 z3 k4 z4;have HFI : Hid (Blk (set5 U3 bz 0 (.int .i64 KT) (.int .i64 NT) (.string ST') (.slice a1 n1 c1) (.slice a2 n2 c2)) bz #[.int .i64 KT,.int .i64 NT,.string ST',.slice a1 n1 c1,.slice a2 n2 c2] 33 ∧ TrIn 11 (set5 U3 bz 0 (.int .i64 KT) (.int .i64 NT) (.string ST') (.slice a1 n1 c1) (.slice a2 n2 c2)) (.agg #[.int .i64 KT,.int .i64 NT,.string ST',.slice a1 n1 c1,.slice a2 n2 c2]) T ∧ Below w9.heap.size w9 (set5 U3 bz 0 (.int .i64 KT) (.int .i64 NT) (.string ST') (.slice a1 n1 c1) (.slice a2 n2 c2))) := hfin;clear hfin hS BZ ht4 hap4 hnz GZ;generalize (set5 U3 bz 0 (.int .i64 KT) (.int .i64 NT) (.string ST') (.slice a1 n1 c1) (.slice a2 n2 c2)) = V6 at *;refine M_runA 15 16 (.int .i64 0) V6 rfl rfl (by kernel_rfl) (by rfl) (listed' := bts 16 65535) (by kernel_rfl) (by go_simp) (by kernel_rfl) ?_;simp only [zsA,zsZ,zsS];refine M_done (by kernel_rfl) ?_ _;go_wp2_with fail
        go_meet
        exact ⟨bz,a1,a2,n1,c1,n2,c2,rfl,rfl,HFI⟩
       ·skip
        have hbU : Below W3.heap.size W3 (W3.alloc (Obj.cells #[.int .i64 0,.int .i64 0,.string ⟨#[]⟩,.slice none 0 0,.slice none 0 0] 33)) := (Below.refl _ _).alloc (Nat.le_refl _) _;obtain ⟨bz,hbz⟩ : ∃ z,W3.heap.size = z := ⟨_,rfl⟩
        have BZ : Blk (W3.alloc (Obj.cells #[.int .i64 0,.int .i64 0,.string ⟨#[]⟩,.slice none 0 0,.slice none 0 0] 33)) bz #[.int .i64 0,.int .i64 0,.string ⟨#[]⟩,.slice none 0 0,.slice none 0 0] 33 := by rw [← hbz]; exact Blk.new W3 _ _
        have GZ : w9.heap.size ≤ bz := by rw [← hbz]; exact hS.size
        have hS0 := hS;have hS : Below w9.heap.size w9 (W3.alloc (Obj.cells #[.int .i64 0,.int .i64 0,.string ⟨#[]⟩,.slice none 0 0,.slice none 0 0] 33)) := hS0.trans (hbU.mono hS0.size)
        replace ho := own_below ho hbU
        replace hDU := Nat.le_trans hDU hbU.size
        clear hS0 hbU;simp only [zsA,zsZ,zsS]
        try simp only [hbz]
        clear hbz;generalize (W3.alloc (Obj.cells #[.int .i64 0,.int .i64 0,.string ⟨#[]⟩,.slice none 0 0,.slice none 0 0] 33)) = U4 at *;refine M_call 9 106 11 #[.agg #[.string sn,.slice (some ⟨g,off,none⟩) mn mc,.slice ea en ec,.slice ta tn tc],.string mnm,v3] rfl rfl (by kernel_rfl) (by rfl) (listed' := bts 16 9215) (by kernel_rfl) (fun W => by go_simp) ?_;refine ((HDC.out _ (HR9.out.trans (hS.mono HR9.out.size)) _ _ (ByS.own ho (by intro q hq; simp only [List.mem_append] at hq; rcases hq with hq | hq <;> first | exact HW1.out.2 q hq | exact HW2.out.2 q hq | (rcases hq with hq | hq <;> first | exact HW1.out.2 q hq | exact HW2.out.2 q hq)))).mono ?_);rw [HTT.out.1];rintro ee U5 ⟨r4,bs4,rfl,ht4,hap4,hbU⟩
        have hnz : bz ∉ bs4 := fun hc => by have h1 := (hap4.2 _ hc).1; have h2 := BZ.lt; omega
        replace BZ := BZ.below hbU
        simp only at ht4;obtain ⟨a1,n1,c1,a2,n2,c2,hr4⟩ := ht4.open;rw [HKT.out.1,HKT.out.2.1,HKT.out.2.2] at hr4;subst hr4;have hbU' : Below U4.heap.size U4 U5 := hbU;have hSx := hS.trans (hbU.mono hS.size);clear hbU;obtain ⟨D4,hD4⟩ : ∃ z,U4.heap.size = z := ⟨_,rfl⟩;rw [hD4] at ht4 hap4;have hS0 := hS;have hS : Below w9.heap.size w9 U5 := hS0.trans (hbU'.mono hS0.size);clear hS0 hbU' hSx hD4 ho hDU hkD;refine ⟨_,rfl,hS,?_⟩;simp only [zsA,zsZ,zsS];refine M_take 10 96 (.tuple #[.agg #[.int .i64 KT,.int .i64 NT,.string ST',.slice a1 n1 c1,.slice a2 n2 c2],.int .i64 0]) _ rfl rfl (by kernel_rfl) (by kernel_rfl) (by kernel_rfl) (by kernel_rfl) (by kernel_rfl) (fun _ _ _ h => h) (by rfl) (fun w' hw' => ?_) hS (listed' := bts 16 10239) (by kernel_rfl) rfl ?_
        ·go_simp
        simp only [zsA,zsZ,zsS];refine M_take 11 107 (.agg #[.int .i64 KT,.int .i64 NT,.string ST',.slice a1 n1 c1,.slice a2 n2 c2]) _ rfl rfl (by kernel_rfl) (by kernel_rfl) (by kernel_rfl) (by kernel_rfl) (by kernel_rfl) (fun _ _ _ h => h) (by rfl) (fun w' hw' => ?_) hS (listed' := bts 16 12287) (by kernel_rfl) rfl ?_
        ·go_simp
        simp only [zsA,zsZ,zsS];refine M_take 12 108 (.int .i64 0) _ rfl rfl (by kernel_rfl) (by kernel_rfl) (by kernel_rfl) (by kernel_rfl) (by kernel_rfl) (fun _ _ _ h => h) (by rfl) (fun w' hw' => ?_) hS (listed' := bts 16 16383) (by kernel_rfl) rfl ?_
        ·go_simp
        simp only [zsA,zsZ,zsS];have k0 := (BZ.cell 0).trans rfl;have z0 := BZ.froz 0;have k1 := (BZ.cell 1).trans rfl;have z1 := BZ.froz 1;have k2 := (BZ.cell 2).trans rfl;have z2 := BZ.froz 2;have k3 := (BZ.cell 3).trans rfl;have z3 := BZ.froz 3;have k4 := (BZ.cell 4).trans rfl;have z4 := BZ.froz 4;have hfin := dcd_store BZ rfl rfl ht4 hap4 hnz hS GZ;refine M_storeT 14 (set5 U5 bz 0 (.int .i64 KT) (.int .i64 NT) (.string ST') (.slice a1 n1 c1) (.slice a2 n2 c2)) rfl rfl (by kernel_rfl) (by rfl) (listed' := bts 16 32767) (by kernel_rfl) (by unfold set5; go_simp) hfin.2.2 ?_;clear k0 z0 k1 z1 k2 z2 k3 z3 k4 z4;have HFI : Hid (Blk (set5 U5 bz 0 (.int .i64 KT) (.int .i64 NT) (.string ST') (.slice a1 n1 c1) (.slice a2 n2 c2)) bz #[.int .i64 KT,.int .i64 NT,.string ST',.slice a1 n1 c1,.slice a2 n2 c2] 33 ∧ TrIn 11 (set5 U5 bz 0 (.int .i64 KT) (.int .i64 NT) (.string ST') (.slice a1 n1 c1) (.slice a2 n2 c2)) (.agg #[.int .i64 KT,.int .i64 NT,.string ST',.slice a1 n1 c1,.slice a2 n2 c2]) T ∧ Below w9.heap.size w9 (set5 U5 bz 0 (.int .i64 KT) (.int .i64 NT) (.string ST') (.slice a1 n1 c1) (.slice a2 n2 c2))) := hfin;clear hfin hS BZ ht4 hap4 hnz GZ;generalize (set5 U5 bz 0 (.int .i64 KT) (.int .i64 NT) (.string ST') (.slice a1 n1 c1) (.slice a2 n2 c2)) = V6 at *;refine M_runA 15 16 (.int .i64 0) V6 rfl rfl (by kernel_rfl) (by rfl) (listed' := bts 16 65535) (by kernel_rfl) (by go_simp) (by kernel_rfl) ?_;simp only [zsA,zsZ,zsS];refine M_done (by kernel_rfl) ?_ _;go_wp2_with fail
        go_meet
        exact ⟨bz,a1,a2,n1,c1,n2,c2,rfl,rfl,HFI⟩
      ·skip
       clear g2 g3 hSn HG2;have hbU : Below W2.heap.size W2 (W2.alloc (Obj.cells #[.int .i64 0,.int .i64 0,.string ⟨#[]⟩,.slice none 0 0,.slice none 0 0] 33)) := (Below.refl _ _).alloc (Nat.le_refl _) _;obtain ⟨bz,hbz⟩ : ∃ z,W2.heap.size = z := ⟨_,rfl⟩
       have BZ : Blk (W2.alloc (Obj.cells #[.int .i64 0,.int .i64 0,.string ⟨#[]⟩,.slice none 0 0,.slice none 0 0] 33)) bz #[.int .i64 0,.int .i64 0,.string ⟨#[]⟩,.slice none 0 0,.slice none 0 0] 33 := by rw [← hbz]; exact Blk.new W2 _ _
       have GZ : w9.heap.size ≤ bz := by rw [← hbz]; exact hS.size
       have hS0 := hS;have hS : Below w9.heap.size w9 (W2.alloc (Obj.cells #[.int .i64 0,.int .i64 0,.string ⟨#[]⟩,.slice none 0 0,.slice none 0 0] 33)) := hS0.trans (hbU.mono hS0.size)
       replace ho := own_below ho hbU
       replace hDU := Nat.le_trans hDU hbU.size
       clear hS0 hbU;simp only [zsA,zsZ,zsS]
       try simp only [hbz]
       clear hbz;generalize (W2.alloc (Obj.cells #[.int .i64 0,.int .i64 0,.string ⟨#[]⟩,.slice none 0 0,.slice none 0 0] 33)) = U6 at *
       have hlk : (Yn ++ Xn).length + Yn.length ≤ 100000 := by
        have := HW1.out.1;have := HW2.out.1
        try simp only [List.length_append]
        omega
       obtain ⟨v3,W3,g1,g2,g3⟩ := pushBytes ho (own_below HOY.out hS) hDU hlk;have HG2 : Hid ((Builtin.append_ #[27,27] 27 #[v2,.slice ya YL yc]).run Tryz.prog U6 = .ok v3 W3) := g1;have hSn : Below w9.heap.size w9 W3 := hS.trans (g3.toBelow hS.size fun q hq => Nat.le_trans hkD (own_lt ho (mem_blkOf.1 hq)).1);clear g1 hlk;refine M_run 8 105 v3 W3 rfl rfl (by kernel_rfl) (by rfl) (listed' := bts 16 8703) (by kernel_rfl) (append_run rfl rfl rfl HG2.out) hSn ?_
       replace BZ := BZ.kp g3 (own_neB ho BZ)
       replace hDU := Nat.le_trans hDU g3.size
       replace ho := g2
       have hS := hSn;clear g2 g3 hSn HG2;simp only [zsA,zsZ,zsS];refine M_call 9 106 11 #[.agg #[.string sn,.slice (some ⟨g,off,none⟩) mn mc,.slice ea en ec,.slice ta tn tc],.string mnm,v3] rfl rfl (by kernel_rfl) (by rfl) (listed' := bts 16 9215) (by kernel_rfl) (fun W => by go_simp) ?_;refine ((HDC.out _ (HR9.out.trans (hS.mono HR9.out.size)) _ _ (ByS.own ho (by intro q hq; simp only [List.mem_append] at hq; rcases hq with hq | hq <;> first | exact HW1.out.2 q hq | exact HW2.out.2 q hq | (rcases hq with hq | hq <;> first | exact HW1.out.2 q hq | exact HW2.out.2 q hq)))).mono ?_);rw [HTT.out.1];rintro ee U7 ⟨r4,bs4,rfl,ht4,hap4,hbU⟩
       have hnz : bz ∉ bs4 := fun hc => by have h1 := (hap4.2 _ hc).1; have h2 := BZ.lt; omega
       replace BZ := BZ.below hbU
       simp only at ht4;obtain ⟨a1,n1,c1,a2,n2,c2,hr4⟩ := ht4.open;rw [HKT.out.1,HKT.out.2.1,HKT.out.2.2] at hr4;subst hr4;have hbU' : Below W3.heap.size W3 U7 := hbU;have hSx := hS.trans (hbU.mono hS.size);clear hbU;obtain ⟨D4,hD4⟩ : ∃ z,W3.heap.size = z := ⟨_,rfl⟩;rw [hD4] at ht4 hap4;have hS0 := hS;have hS : Below w9.heap.size w9 U7 := hS0.trans (hbU'.mono hS0.size);clear hS0 hbU' hSx hD4 ho hDU hkD;refine ⟨_,rfl,hS,?_⟩;simp only [zsA,zsZ,zsS];refine M_take 10 96 (.tuple #[.agg #[.int .i64 KT,.int .i64 NT,.string ST',.slice a1 n1 c1,.slice a2 n2 c2],.int .i64 0]) _ rfl rfl (by kernel_rfl) (by kernel_rfl) (by kernel_rfl) (by kernel_rfl) (by kernel_rfl) (fun _ _ _ h => h) (by rfl) (fun w' hw' => ?_) hS (listed' := bts 16 10239) (by kernel_rfl) rfl ?_
       ·go_simp
       simp only [zsA,zsZ,zsS];refine M_take 11 107 (.agg #[.int .i64 KT,.int .i64 NT,.string ST',.slice a1 n1 c1,.slice a2 n2 c2]) _ rfl rfl (by kernel_rfl) (by kernel_rfl) (by kernel_rfl) (by kernel_rfl) (by kernel_rfl) (fun _ _ _ h => h) (by rfl) (fun w' hw' => ?_) hS (listed' := bts 16 12287) (by kernel_rfl) rfl ?_
       ·go_simp
       simp only [zsA,zsZ,zsS];refine M_take 12 108 (.int .i64 0) _ rfl rfl (by kernel_rfl) (by kernel_rfl) (by kernel_rfl) (by kernel_rfl) (by kernel_rfl) (fun _ _ _ h => h) (by rfl) (fun w' hw' => ?_) hS (listed' := bts 16 16383) (by kernel_rfl) rfl ?_
       ·go_simp
       simp only [zsA,zsZ,zsS];have k0 := (BZ.cell 0).trans rfl;have z0 := BZ.froz 0;have k1 := (BZ.cell 1).trans rfl;have z1 := BZ.froz 1;have k2 := (BZ.cell 2).trans rfl;have z2 := BZ.froz 2;have k3 := (BZ.cell 3).trans rfl;have z3 := BZ.froz 3;have k4 := (BZ.cell 4).trans rfl;have z4 := BZ.froz 4;have hfin := dcd_store BZ rfl rfl ht4 hap4 hnz hS GZ;refine M_storeT 14 (set5 U7 bz 0 (.int .i64 KT) (.int .i64 NT) (.string ST') (.slice a1 n1 c1) (.slice a2 n2 c2)) rfl rfl (by kernel_rfl) (by rfl) (listed' := bts 16 32767) (by kernel_rfl) (by unfold set5; go_simp) hfin.2.2 ?_;clear k0 z0 k1 z1 k2 z2 k3 z3 k4 z4;have HFI : Hid (Blk (set5 U7 bz 0 (.int .i64 KT) (.int .i64 NT) (.string ST') (.slice a1 n1 c1) (.slice a2 n2 c2)) bz #[.int .i64 KT,.int .i64 NT,.string ST',.slice a1 n1 c1,.slice a2 n2 c2] 33 ∧ TrIn 11 (set5 U7 bz 0 (.int .i64 KT) (.int .i64 NT) (.string ST') (.slice a1 n1 c1) (.slice a2 n2 c2)) (.agg #[.int .i64 KT,.int .i64 NT,.string ST',.slice a1 n1 c1,.slice a2 n2 c2]) T ∧ Below w9.heap.size w9 (set5 U7 bz 0 (.int .i64 KT) (.int .i64 NT) (.string ST') (.slice a1 n1 c1) (.slice a2 n2 c2))) := hfin;clear hfin hS BZ ht4 hap4 hnz GZ;generalize (set5 U7 bz 0 (.int .i64 KT) (.int .i64 NT) (.string ST') (.slice a1 n1 c1) (.slice a2 n2 c2)) = V6 at *;refine M_runA 15 16 (.int .i64 0) V6 rfl rfl (by kernel_rfl) (by rfl) (listed' := bts 16 65535) (by kernel_rfl) (by go_simp) (by kernel_rfl) ?_;simp only [zsA,zsZ,zsS];refine M_done (by kernel_rfl) ?_ _;go_wp2_with fail
       go_meet
       exact ⟨bz,a1,a2,n1,c1,n2,c2,rfl,rfl,HFI⟩
     ·skip
      clear g2 g3 hSn HG1;have hbU : Below U1.heap.size U1 (U1.alloc (Obj.cells #[.int .i64 0,.int .i64 0,.string ⟨#[]⟩,.slice none 0 0,.slice none 0 0] 33)) := (Below.refl _ _).alloc (Nat.le_refl _) _;obtain ⟨bz,hbz⟩ : ∃ z,U1.heap.size = z := ⟨_,rfl⟩
      have BZ : Blk (U1.alloc (Obj.cells #[.int .i64 0,.int .i64 0,.string ⟨#[]⟩,.slice none 0 0,.slice none 0 0] 33)) bz #[.int .i64 0,.int .i64 0,.string ⟨#[]⟩,.slice none 0 0,.slice none 0 0] 33 := by rw [← hbz]; exact Blk.new U1 _ _
      have GZ : w9.heap.size ≤ bz := by rw [← hbz]; exact hS.size
      have hS0 := hS;have hS : Below w9.heap.size w9 (U1.alloc (Obj.cells #[.int .i64 0,.int .i64 0,.string ⟨#[]⟩,.slice none 0 0,.slice none 0 0] 33)) := hS0.trans (hbU.mono hS0.size)
      replace ho := own_below ho hbU
      replace hDU := Nat.le_trans hDU hbU.size
      clear hS0 hbU;simp only [zsA,zsZ,zsS]
      try simp only [hbz]
      clear hbz;generalize (U1.alloc (Obj.cells #[.int .i64 0,.int .i64 0,.string ⟨#[]⟩,.slice none 0 0,.slice none 0 0] 33)) = U8 at *
      have hlk : (Yn).length + Xn.length ≤ 100000 := by
       have := HW1.out.1;have := HW2.out.1
       try simp only [List.length_append]
       omega
      obtain ⟨v2,W2,g1,g2,g3⟩ := pushBytes ho (own_below HOX.out hS) hDU hlk;have HG1 : Hid ((Builtin.append_ #[27,27] 27 #[v1,.slice xa XL xc]).run Tryz.prog U8 = .ok v2 W2) := g1;have hSn : Below w9.heap.size w9 W2 := hS.trans (g3.toBelow hS.size fun q hq => Nat.le_trans hkD (own_lt ho (mem_blkOf.1 hq)).1);clear g1 hlk;refine M_run 6 103 v2 W2 rfl rfl (by kernel_rfl) (by rfl) (listed' := bts 16 8447) (by kernel_rfl) (append_run rfl rfl rfl HG1.out) hSn ?_
      replace BZ := BZ.kp g3 (own_neB ho BZ)
      replace hDU := Nat.le_trans hDU g3.size
      replace ho := g2
      have hS := hSn;clear g2 g3 hSn HG1;simp only [zsA,zsZ,zsS]
      have hlk : (Yn ++ Xn).length + Yn.length ≤ 100000 := by
       have := HW1.out.1;have := HW2.out.1
       try simp only [List.length_append]
       omega
      obtain ⟨v3,W3,g1,g2,g3⟩ := pushBytes ho (own_below HOY.out hS) hDU hlk;have HG2 : Hid ((Builtin.append_ #[27,27] 27 #[v2,.slice ya YL yc]).run Tryz.prog W2 = .ok v3 W3) := g1;have hSn : Below w9.heap.size w9 W3 := hS.trans (g3.toBelow hS.size fun q hq => Nat.le_trans hkD (own_lt ho (mem_blkOf.1 hq)).1);clear g1 hlk;refine M_run 8 105 v3 W3 rfl rfl (by kernel_rfl) (by rfl) (listed' := bts 16 8703) (by kernel_rfl) (append_run rfl rfl rfl HG2.out) hSn ?_
      replace BZ := BZ.kp g3 (own_neB ho BZ)
      replace hDU := Nat.le_trans hDU g3.size
      replace ho := g2
      have hS := hSn;clear g2 g3 hSn HG2;simp only [zsA,zsZ,zsS];refine M_call 9 106 11 #[.agg #[.string sn,.slice (some ⟨g,off,none⟩) mn mc,.slice ea en ec,.slice ta tn tc],.string mnm,v3] rfl rfl (by kernel_rfl) (by rfl) (listed' := bts 16 9215) (by kernel_rfl) (fun W => by go_simp) ?_;refine ((HDC.out _ (HR9.out.trans (hS.mono HR9.out.size)) _ _ (ByS.own ho (by intro q hq; simp only [List.mem_append] at hq; rcases hq with hq | hq <;> first | exact HW1.out.2 q hq | exact HW2.out.2 q hq | (rcases hq with hq | hq <;> first | exact HW1.out.2 q hq | exact HW2.out.2 q hq)))).mono ?_);rw [HTT.out.1];rintro ee U9 ⟨r4,bs4,rfl,ht4,hap4,hbU⟩
      have hnz : bz ∉ bs4 := fun hc => by have h1 := (hap4.2 _ hc).1; have h2 := BZ.lt; omega
      replace BZ := BZ.below hbU
      simp only at ht4;obtain ⟨a1,n1,c1,a2,n2,c2,hr4⟩ := ht4.open;rw [HKT.out.1,HKT.out.2.1,HKT.out.2.2] at hr4;subst hr4;have hbU' : Below W3.heap.size W3 U9 := hbU;have hSx := hS.trans (hbU.mono hS.size);clear hbU;obtain ⟨D4,hD4⟩ : ∃ z,W3.heap.size = z := ⟨_,rfl⟩;rw [hD4] at ht4 hap4;have hS0 := hS;have hS : Below w9.heap.size w9 U9 := hS0.trans (hbU'.mono hS0.size);clear hS0 hbU' hSx hD4 ho hDU hkD;refine ⟨_,rfl,hS,?_⟩;simp only [zsA,zsZ,zsS];refine M_take 10 96 (.tuple #[.agg #[.int .i64 KT,.int .i64 NT,.string ST',.slice a1 n1 c1,.slice a2 n2 c2],.int .i64 0]) _ rfl rfl (by kernel_rfl) (by kernel_rfl) (by kernel_rfl) (by kernel_rfl) (by kernel_rfl) (fun _ _ _ h => h) (by rfl) (fun w' hw' => ?_) hS (listed' := bts 16 10239) (by kernel_rfl) rfl ?_
      ·go_simp
      simp only [zsA,zsZ,zsS];refine M_take 11 107 (.agg #[.int .i64 KT,.int .i64 NT,.string ST',.slice a1 n1 c1,.slice a2 n2 c2]) _ rfl rfl (by kernel_rfl) (by kernel_rfl) (by kernel_rfl) (by kernel_rfl) (by kernel_rfl) (fun _ _ _ h => h) (by rfl) (fun w' hw' => ?_) hS (listed' := bts 16 12287) (by kernel_rfl) rfl ?_
      ·go_simp
      simp only [zsA,zsZ,zsS];refine M_take 12 108 (.int .i64 0) _ rfl rfl (by kernel_rfl) (by kernel_rfl) (by kernel_rfl) (by kernel_rfl) (by kernel_rfl) (fun _ _ _ h => h) (by rfl) (fun w' hw' => ?_) hS (listed' := bts 16 16383) (by kernel_rfl) rfl ?_
      ·go_simp
      simp only [zsA,zsZ,zsS];have k0 := (BZ.cell 0).trans rfl;have z0 := BZ.froz 0;have k1 := (BZ.cell 1).trans rfl;have z1 := BZ.froz 1;have k2 := (BZ.cell 2).trans rfl;have z2 := BZ.froz 2;have k3 := (BZ.cell 3).trans rfl;have z3 := BZ.froz 3;have k4 := (BZ.cell 4).trans rfl;have z4 := BZ.froz 4;have hfin := dcd_store BZ rfl rfl ht4 hap4 hnz hS GZ;refine M_storeT 14 (set5 U9 bz 0 (.int .i64 KT) (.int .i64 NT) (.string ST') (.slice a1 n1 c1) (.slice a2 n2 c2)) rfl rfl (by kernel_rfl) (by rfl) (listed' := bts 16 32767) (by kernel_rfl) (by unfold set5; go_simp) hfin.2.2 ?_;clear k0 z0 k1 z1 k2 z2 k3 z3 k4 z4;have HFI : Hid (Blk (set5 U9 bz 0 (.int .i64 KT) (.int .i64 NT) (.string ST') (.slice a1 n1 c1) (.slice a2 n2 c2)) bz #[.int .i64 KT,.int .i64 NT,.string ST',.slice a1 n1 c1,.slice a2 n2 c2] 33 ∧ TrIn 11 (set5 U9 bz 0 (.int .i64 KT) (.int .i64 NT) (.string ST') (.slice a1 n1 c1) (.slice a2 n2 c2)) (.agg #[.int .i64 KT,.int .i64 NT,.string ST',.slice a1 n1 c1,.slice a2 n2 c2]) T ∧ Below w9.heap.size w9 (set5 U9 bz 0 (.int .i64 KT) (.int .i64 NT) (.string ST') (.slice a1 n1 c1) (.slice a2 n2 c2))) := hfin;clear hfin hS BZ ht4 hap4 hnz GZ;generalize (set5 U9 bz 0 (.int .i64 KT) (.int .i64 NT) (.string ST') (.slice a1 n1 c1) (.slice a2 n2 c2)) = V6 at *;refine M_runA 15 16 (.int .i64 0) V6 rfl rfl (by kernel_rfl) (by rfl) (listed' := bts 16 65535) (by kernel_rfl) (by go_simp) (by kernel_rfl) ?_;simp only [zsA,zsZ,zsS];refine M_done (by kernel_rfl) ?_ _;go_wp2_with fail
      go_meet
      exact ⟨bz,a1,a2,n1,c1,n2,c2,rfl,rfl,HFI⟩
    ·skip
     have hbU : Below U0.heap.size U0 (U0.alloc (Obj.cells #[.int .i64 0,.int .i64 0,.string ⟨#[]⟩,.slice none 0 0,.slice none 0 0] 33)) := (Below.refl _ _).alloc (Nat.le_refl _) _;obtain ⟨bz,hbz⟩ : ∃ z,U0.heap.size = z := ⟨_,rfl⟩
     have BZ : Blk (U0.alloc (Obj.cells #[.int .i64 0,.int .i64 0,.string ⟨#[]⟩,.slice none 0 0,.slice none 0 0] 33)) bz #[.int .i64 0,.int .i64 0,.string ⟨#[]⟩,.slice none 0 0,.slice none 0 0] 33 := by rw [← hbz]; exact Blk.new U0 _ _
     have GZ : w9.heap.size ≤ bz := by rw [← hbz]; exact hS.size
     have hS0 := hS;have hS : Below w9.heap.size w9 (U0.alloc (Obj.cells #[.int .i64 0,.int .i64 0,.string ⟨#[]⟩,.slice none 0 0,.slice none 0 0] 33)) := hS0.trans (hbU.mono hS0.size);clear hS0 hbU;simp only [zsA,zsZ,zsS]
     try simp only [hbz]
     clear hbz;generalize (U0.alloc (Obj.cells #[.int .i64 0,.int .i64 0,.string ⟨#[]⟩,.slice none 0 0,.slice none 0 0] 33)) = U10 at *;refine M_call 4 101 13 #[.slice ya YL yc] rfl rfl (by kernel_rfl) (by rfl) (listed' := bts 16 8383) (by kernel_rfl) (fun W => by go_simp) ?_;refine (HBY.out _ hS).mono ?_;rintro ee U11 ⟨v1,rfl,ho,hbU⟩;obtain ⟨D1,hD1⟩ : ∃ z,U10.heap.size = z := ⟨_,rfl⟩;rw [hD1] at ho
     have hDU : D1 ≤ U11.heap.size := by rw [← hD1]; exact hbU.size
     have hkD : w9.heap.size ≤ D1 := by rw [← hD1]; exact hS.size
     replace BZ := BZ.below hbU
     have hS0 := hS;have hS : Below w9.heap.size w9 U11 := hS0.trans (hbU.mono hS0.size);rw [show YL = Yn.length from HL2.out.symm] at ho;clear hS0 hbU hD1;refine ⟨_,rfl,hS,?_⟩;simp only [zsA,zsZ,zsS]
     have hlk : (Yn).length + Xn.length ≤ 100000 := by
      have := HW1.out.1;have := HW2.out.1
      try simp only [List.length_append]
      omega
     obtain ⟨v2,W2,g1,g2,g3⟩ := pushBytes ho (own_below HOX.out hS) hDU hlk;have HG1 : Hid ((Builtin.append_ #[27,27] 27 #[v1,.slice xa XL xc]).run Tryz.prog U11 = .ok v2 W2) := g1;have hSn : Below w9.heap.size w9 W2 := hS.trans (g3.toBelow hS.size fun q hq => Nat.le_trans hkD (own_lt ho (mem_blkOf.1 hq)).1);clear g1 hlk;refine M_run 6 103 v2 W2 rfl rfl (by kernel_rfl) (by rfl) (listed' := bts 16 8447) (by kernel_rfl) (append_run rfl rfl rfl HG1.out) hSn ?_
     replace BZ := BZ.kp g3 (own_neB ho BZ)
     replace hDU := Nat.le_trans hDU g3.size
     replace ho := g2
     have hS := hSn;clear g2 g3 hSn HG1;simp only [zsA,zsZ,zsS]
     have hlk : (Yn ++ Xn).length + Yn.length ≤ 100000 := by
      have := HW1.out.1;have := HW2.out.1
      try simp only [List.length_append]
      omega
     obtain ⟨v3,W3,g1,g2,g3⟩ := pushBytes ho (own_below HOY.out hS) hDU hlk;have HG2 : Hid ((Builtin.append_ #[27,27] 27 #[v2,.slice ya YL yc]).run Tryz.prog W2 = .ok v3 W3) := g1;have hSn : Below w9.heap.size w9 W3 := hS.trans (g3.toBelow hS.size fun q hq => Nat.le_trans hkD (own_lt ho (mem_blkOf.1 hq)).1);clear g1 hlk;refine M_run 8 105 v3 W3 rfl rfl (by kernel_rfl) (by rfl) (listed' := bts 16 8703) (by kernel_rfl) (append_run rfl rfl rfl HG2.out) hSn ?_
     replace BZ := BZ.kp g3 (own_neB ho BZ)
     replace hDU := Nat.le_trans hDU g3.size
     replace ho := g2
     have hS := hSn;clear g2 g3 hSn HG2;simp only [zsA,zsZ,zsS];refine M_call 9 106 11 #[.agg #[.string sn,.slice (some ⟨g,off,none⟩) mn mc,.slice ea en ec,.slice ta tn tc],.string mnm,v3] rfl rfl (by kernel_rfl) (by rfl) (listed' := bts 16 9215) (by kernel_rfl) (fun W => by go_simp) ?_;refine ((HDC.out _ (HR9.out.trans (hS.mono HR9.out.size)) _ _ (ByS.own ho (by intro q hq; simp only [List.mem_append] at hq; rcases hq with hq | hq <;> first | exact HW1.out.2 q hq | exact HW2.out.2 q hq | (rcases hq with hq | hq <;> first | exact HW1.out.2 q hq | exact HW2.out.2 q hq)))).mono ?_);rw [HTT.out.1];rintro ee U12 ⟨r4,bs4,rfl,ht4,hap4,hbU⟩
     have hnz : bz ∉ bs4 := fun hc => by have h1 := (hap4.2 _ hc).1; have h2 := BZ.lt; omega
     replace BZ := BZ.below hbU
     simp only at ht4;obtain ⟨a1,n1,c1,a2,n2,c2,hr4⟩ := ht4.open;rw [HKT.out.1,HKT.out.2.1,HKT.out.2.2] at hr4;subst hr4;have hbU' : Below W3.heap.size W3 U12 := hbU;have hSx := hS.trans (hbU.mono hS.size);clear hbU;obtain ⟨D4,hD4⟩ : ∃ z,W3.heap.size = z := ⟨_,rfl⟩;rw [hD4] at ht4 hap4;have hS0 := hS;have hS : Below w9.heap.size w9 U12 := hS0.trans (hbU'.mono hS0.size);clear hS0 hbU' hSx hD4 ho hDU hkD;refine ⟨_,rfl,hS,?_⟩;simp only [zsA,zsZ,zsS];refine M_take 10 96 (.tuple #[.agg #[.int .i64 KT,.int .i64 NT,.string ST',.slice a1 n1 c1,.slice a2 n2 c2],.int .i64 0]) _ rfl rfl (by kernel_rfl) (by kernel_rfl) (by kernel_rfl) (by kernel_rfl) (by kernel_rfl) (fun _ _ _ h => h) (by rfl) (fun w' hw' => ?_) hS (listed' := bts 16 10239) (by kernel_rfl) rfl ?_
     ·go_simp
     simp only [zsA,zsZ,zsS];refine M_take 11 107 (.agg #[.int .i64 KT,.int .i64 NT,.string ST',.slice a1 n1 c1,.slice a2 n2 c2]) _ rfl rfl (by kernel_rfl) (by kernel_rfl) (by kernel_rfl) (by kernel_rfl) (by kernel_rfl) (fun _ _ _ h => h) (by rfl) (fun w' hw' => ?_) hS (listed' := bts 16 12287) (by kernel_rfl) rfl ?_
     ·go_simp
     simp only [zsA,zsZ,zsS];refine M_take 12 108 (.int .i64 0) _ rfl rfl (by kernel_rfl) (by kernel_rfl) (by kernel_rfl) (by kernel_rfl) (by kernel_rfl) (fun _ _ _ h => h) (by rfl) (fun w' hw' => ?_) hS (listed' := bts 16 16383) (by kernel_rfl) rfl ?_
     ·go_simp
     simp only [zsA,zsZ,zsS];have k0 := (BZ.cell 0).trans rfl;have z0 := BZ.froz 0;have k1 := (BZ.cell 1).trans rfl;have z1 := BZ.froz 1;have k2 := (BZ.cell 2).trans rfl;have z2 := BZ.froz 2;have k3 := (BZ.cell 3).trans rfl;have z3 := BZ.froz 3;have k4 := (BZ.cell 4).trans rfl;have z4 := BZ.froz 4;have hfin := dcd_store BZ rfl rfl ht4 hap4 hnz hS GZ;refine M_storeT 14 (set5 U12 bz 0 (.int .i64 KT) (.int .i64 NT) (.string ST') (.slice a1 n1 c1) (.slice a2 n2 c2)) rfl rfl (by kernel_rfl) (by rfl) (listed' := bts 16 32767) (by kernel_rfl) (by unfold set5; go_simp) hfin.2.2 ?_;clear k0 z0 k1 z1 k2 z2 k3 z3 k4 z4;have HFI : Hid (Blk (set5 U12 bz 0 (.int .i64 KT) (.int .i64 NT) (.string ST') (.slice a1 n1 c1) (.slice a2 n2 c2)) bz #[.int .i64 KT,.int .i64 NT,.string ST',.slice a1 n1 c1,.slice a2 n2 c2] 33 ∧ TrIn 11 (set5 U12 bz 0 (.int .i64 KT) (.int .i64 NT) (.string ST') (.slice a1 n1 c1) (.slice a2 n2 c2)) (.agg #[.int .i64 KT,.int .i64 NT,.string ST',.slice a1 n1 c1,.slice a2 n2 c2]) T ∧ Below w9.heap.size w9 (set5 U12 bz 0 (.int .i64 KT) (.int .i64 NT) (.string ST') (.slice a1 n1 c1) (.slice a2 n2 c2))) := hfin;clear hfin hS BZ ht4 hap4 hnz GZ;generalize (set5 U12 bz 0 (.int .i64 KT) (.int .i64 NT) (.string ST') (.slice a1 n1 c1) (.slice a2 n2 c2)) = V6 at *;refine M_runA 15 16 (.int .i64 0) V6 rfl rfl (by kernel_rfl) (by rfl) (listed' := bts 16 65535) (by kernel_rfl) (by go_simp) (by kernel_rfl) ?_;simp only [zsA,zsZ,zsS];refine M_done (by kernel_rfl) ?_ _;go_wp2_with fail
     go_meet
     exact ⟨bz,a1,a2,n1,c1,n2,c2,rfl,rfl,HFI⟩
   case rest =>
    obtain ⟨bA,pA,pB,lA,cA,lB,cB,rfl,rfl,HRA⟩ := hcut;have hcw : Below w9.heap.size w9 wc := HRA.out.2.2;generalize wc = w10 at *
    go_upto_region 14 with fail
    go_cut [17,18] from 109 to 119 (fun pv ev wx => ∃ (b : Nat) (a1 a2 : Option Addr) (n1 c1 n2 c2 : Nat),pv = .pointer (some ⟨b,0,none⟩) ∧ ev = .int .i64 0 ∧ Hid (Blk wx b #[.int .i64 KT,.int .i64 NT,.string ST',.slice a1 n1 c1,.slice a2 n2 c2] 33 ∧ TrIn 11 wx (.agg #[.int .i64 KT,.int .i64 NT,.string ST',.slice a1 n1 c1,.slice a2 n2 c2]) T ∧ Below w10.heap.size w10 wx))
    case first =>
     refine M_region (T := fun W => Below w10.heap.size w10 W) (m := 13) (by kernel_rfl) ?_;have hS : Below w10.heap.size w10 w10.drew := (Below.refl _ _).drew;refine M_take 0 110 (.agg #[.string sn,.slice (some ⟨g,off,none⟩) mn mc,.slice ea en ec,.slice ta tn tc]) _ rfl rfl (by kernel_rfl) (by kernel_rfl) (by kernel_rfl) (by kernel_rfl) (by kernel_rfl) (fun _ _ _ h => h) (by rfl) (fun w' hw' => ?_) hS (listed' := bts 14 1) (by kernel_rfl) rfl ?_
     ·have HB := HBK.out.2.below (hcw.trans (hw'.mono hcw.size)); have f0 := (HB.cell 0).trans rfl; have f1 := (HB.cell 1).trans rfl; have f2 := (HB.cell 2).trans rfl; have f3 := (HB.cell 3).trans rfl; go_simp
     simp only [zsA,zsZ,zsS];refine M_take 1 111 (.pointer (some ⟨b4,0,none⟩)) _ rfl rfl (by kernel_rfl) (by kernel_rfl) (by kernel_rfl) (by kernel_rfl) (by kernel_rfl) (fun _ _ _ h => h) (by rfl) (fun w' hw' => ?_) hS (listed' := bts 14 3) (by kernel_rfl) rfl ?_
     ·go_simp
     simp only [zsA,zsZ,zsS];refine M_take 2 112 (.string mnm) _ rfl rfl (by kernel_rfl) (by kernel_rfl) (by kernel_rfl) (by kernel_rfl) (by kernel_rfl) (fun _ _ _ h => h) (by rfl) (fun w' hw' => ?_) hS (listed' := bts 14 7) (by kernel_rfl) rfl ?_
     ·have HB := HBK.out.1.below (hcw.trans (hw'.mono hcw.size)); have f0 := (HB.cell 0).trans rfl; go_simp
     simp only [zsA,zsZ,zsS];refine M_take 3 113 (.slice xa XL xc) _ rfl rfl (by kernel_rfl) (by kernel_rfl) (by kernel_rfl) (by kernel_rfl) (by kernel_rfl) (fun _ _ _ h => h) (by rfl) (fun w' hw' => ?_) hS (listed' := bts 14 15) (by kernel_rfl) rfl ?_
     ·go_simp
     simp only [zsA,zsZ,zsS];refine M_take 5 115 (.slice ya YL yc) _ rfl rfl (by kernel_rfl) (by kernel_rfl) (by kernel_rfl) (by kernel_rfl) (by kernel_rfl) (fun _ _ _ h => h) (by rfl) (fun w' hw' => ?_) hS (listed' := bts 14 47) (by kernel_rfl) rfl ?_
     ·go_simp
     simp only [zsA,zsZ,zsS];generalize w10.drew = U0 at *;refine M_fork 4 11 114 17 13 #[.slice xa XL xc] (.pointer (some ⟨U0.heap.size,0,none⟩)) (U0.alloc (Obj.cells #[.int .i64 0,.int .i64 0,.string ⟨#[]⟩,.slice none 0 0,.slice none 0 0] 33)) rfl rfl rfl rfl (by kernel_rfl) (by rfl) (by rfl) (by go_simp) (by go_simp) ?_ (hS.trans (((Below.refl _ _).alloc (Nat.le_refl _) _).mono hS.size)) ?_
     ·skip
      refine (HBX.out _ (hcw.trans (hS.mono hcw.size))).mono ?_;rintro ee U13 ⟨v1,rfl,ho,hbU⟩;obtain ⟨D1,hD1⟩ : ∃ z,U0.heap.size = z := ⟨_,rfl⟩;rw [hD1] at ho
      have hDU : D1 ≤ U13.heap.size := by rw [← hD1]; exact hbU.size
      have hkD : w10.heap.size ≤ D1 := by rw [← hD1]; exact hS.size
      have hS0 := hS;have hS : Below w10.heap.size w10 U13 := hS0.trans (hbU.mono hS0.size);rw [show XL = Xn.length from HL1.out.symm] at ho;clear hS0 hbU hD1;refine ⟨_,rfl,hS,?_⟩;simp only [zsA,zsZ,zsS]
      have hlk : (Xn).length + Yn.length ≤ 100000 := by
       have := HW1.out.1;have := HW2.out.1
       try simp only [List.length_append]
       omega
      obtain ⟨v2,W2,g1,g2,g3⟩ := pushBytes ho (own_below HOY.out (hcw.trans (hS.mono hcw.size))) hDU hlk;have HG1 : Hid ((Builtin.append_ #[27,27] 27 #[v1,.slice ya YL yc]).run Tryz.prog U13 = .ok v2 W2) := g1;have hSn : Below w10.heap.size w10 W2 := hS.trans (g3.toBelow hS.size fun q hq => Nat.le_trans hkD (own_lt ho (mem_blkOf.1 hq)).1);clear g1 hlk;refine M_forkAA 6 11 116 17 v2 (.pointer (some ⟨U13.heap.size,0,none⟩)) W2 (U13.alloc (Obj.cells #[.int .i64 0,.int .i64 0,.string ⟨#[]⟩,.slice none 0 0,.slice none 0 0] 33)) rfl rfl rfl rfl (by kernel_rfl) (by rfl) (by rfl) (append_run rfl rfl rfl HG1.out) (by go_simp) hSn ?_ (hS.trans (((Below.refl _ _).alloc (Nat.le_refl _) _).mono hS.size)) ?_
      ·skip
       replace hDU := Nat.le_trans hDU g3.size
       replace ho := g2
       have hS := hSn;clear g2 g3 hSn HG1;simp only [zsA,zsZ,zsS];refine M_fork 7 11 117 17 11 #[.agg #[.string sn,.slice (some ⟨g,off,none⟩) mn mc,.slice ea en ec,.slice ta tn tc],.string mnm,v2] (.pointer (some ⟨W2.heap.size,0,none⟩)) (W2.alloc (Obj.cells #[.int .i64 0,.int .i64 0,.string ⟨#[]⟩,.slice none 0 0,.slice none 0 0] 33)) rfl rfl rfl rfl (by kernel_rfl) (by rfl) (by rfl) (by go_simp) (by go_simp) ?_ (hS.trans (((Below.refl _ _).alloc (Nat.le_refl _) _).mono hS.size)) ?_
       ·skip
        refine ((HDC.out _ (HR9.out.trans ((hcw.trans (hS.mono hcw.size)).mono HR9.out.size)) _ _ (ByS.own ho (by intro q hq; simp only [List.mem_append] at hq; rcases hq with hq | hq <;> first | exact HW1.out.2 q hq | exact HW2.out.2 q hq | (rcases hq with hq | hq <;> first | exact HW1.out.2 q hq | exact HW2.out.2 q hq)))).mono ?_);rw [HTT.out.2];rintro ee U14 ⟨r4,bs4,rfl,ht4,hap4,hbU⟩;simp only at ht4;obtain ⟨a1,n1,c1,a2,n2,c2,hr4⟩ := ht4.open;rw [HKT.out.1,HKT.out.2.1,HKT.out.2.2] at hr4;subst hr4;have hbU' : Below W2.heap.size W2 U14 := hbU;have hSx := hS.trans (hbU.mono hS.size);clear hbU;obtain ⟨D4,hD4⟩ : ∃ z,W2.heap.size = z := ⟨_,rfl⟩;rw [hD4] at ht4 hap4;have hS0 := hS;have hS : Below w10.heap.size w10 U14 := hS0.trans (hbU'.mono hS0.size);clear hS0 hbU' hSx hD4 ho hDU hkD;refine ⟨_,rfl,hS,?_⟩;simp only [zsA,zsZ,zsS];refine M_take 8 109 (.tuple #[.agg #[.int .i64 KT,.int .i64 NT,.string ST',.slice a1 n1 c1,.slice a2 n2 c2],.int .i64 0]) _ rfl rfl (by kernel_rfl) (by kernel_rfl) (by kernel_rfl) (by kernel_rfl) (by kernel_rfl) (fun _ _ _ h => h) (by rfl) (fun w' hw' => ?_) hS (listed' := bts 14 511) (by kernel_rfl) rfl ?_
        ·go_simp
        simp only [zsA,zsZ,zsS];refine M_take 9 118 (.agg #[.int .i64 KT,.int .i64 NT,.string ST',.slice a1 n1 c1,.slice a2 n2 c2]) _ rfl rfl (by kernel_rfl) (by kernel_rfl) (by kernel_rfl) (by kernel_rfl) (by kernel_rfl) (fun _ _ _ h => h) (by rfl) (fun w' hw' => ?_) hS (listed' := bts 14 1023) (by kernel_rfl) rfl ?_
        ·go_simp
        simp only [zsA,zsZ,zsS];refine M_take 10 119 (.int .i64 0) _ rfl rfl (by kernel_rfl) (by kernel_rfl) (by kernel_rfl) (by kernel_rfl) (by kernel_rfl) (fun _ _ _ h => h) (by rfl) (fun w' hw' => ?_) hS (listed' := bts 14 2047) (by kernel_rfl) rfl ?_
        ·go_simp
        simp only [zsA,zsZ,zsS];refine M_run 11 17 (.pointer (some ⟨U14.heap.size,0,none⟩)) (U14.alloc (Obj.cells #[.int .i64 0,.int .i64 0,.string ⟨#[]⟩,.slice none 0 0,.slice none 0 0] 33)) rfl rfl (by kernel_rfl) (by rfl) (listed' := bts 14 4095) (by kernel_rfl) (by go_simp) (hS.trans (((Below.refl _ _).alloc (Nat.le_refl _) _).mono hS.size)) ?_;have hbU : Below U14.heap.size U14 (U14.alloc (Obj.cells #[.int .i64 0,.int .i64 0,.string ⟨#[]⟩,.slice none 0 0,.slice none 0 0] 33)) := (Below.refl _ _).alloc (Nat.le_refl _) _;obtain ⟨bz,hbz⟩ : ∃ z,U14.heap.size = z := ⟨_,rfl⟩
        have BZ : Blk (U14.alloc (Obj.cells #[.int .i64 0,.int .i64 0,.string ⟨#[]⟩,.slice none 0 0,.slice none 0 0] 33)) bz #[.int .i64 0,.int .i64 0,.string ⟨#[]⟩,.slice none 0 0,.slice none 0 0] 33 := by rw [← hbz]; exact Blk.new U14 _ _
        have GZ : w10.heap.size ≤ bz := by rw [← hbz]; exact hS.size
        have hS0 := hS;have hS : Below w10.heap.size w10 (U14.alloc (Obj.cells #[.int .i64 0,.int .i64 0,.string ⟨#[]⟩,.slice none 0 0,.slice none 0 0] 33)) := hS0.trans (hbU.mono hS0.size)
        have hnz : bz ∉ bs4 := fun hc => by have h1 := (hap4.2 _ hc).2; rw [hbz] at h1; omega
        replace ht4 := ht4.sm (Sm.below hbU fun q hq => (hap4.2 q hq).2)
        replace hap4 := hap4.mono hbU.size
        clear hS0 hbU;simp only [zsA,zsZ,zsS]
        try simp only [hbz]
        clear hbz;generalize (U14.alloc (Obj.cells #[.int .i64 0,.int .i64 0,.string ⟨#[]⟩,.slice none 0 0,.slice none 0 0] 33)) = U15 at *;have k0 := (BZ.cell 0).trans rfl;have z0 := BZ.froz 0;have k1 := (BZ.cell 1).trans rfl;have z1 := BZ.froz 1;have k2 := (BZ.cell 2).trans rfl;have z2 := BZ.froz 2;have k3 := (BZ.cell 3).trans rfl;have z3 := BZ.froz 3;have k4 := (BZ.cell 4).trans rfl;have z4 := BZ.froz 4;have hfin := dcd_store BZ rfl rfl ht4 hap4 hnz hS GZ;refine M_storeT 12 (set5 U15 bz 0 (.int .i64 KT) (.int .i64 NT) (.string ST') (.slice a1 n1 c1) (.slice a2 n2 c2)) rfl rfl (by kernel_rfl) (by rfl) (listed' := bts 14 8191) (by kernel_rfl) (by unfold set5; go_simp) hfin.2.2 ?_;clear k0 z0 k1 z1 k2 z2 k3 z3 k4 z4;have HFI : Hid (Blk (set5 U15 bz 0 (.int .i64 KT) (.int .i64 NT) (.string ST') (.slice a1 n1 c1) (.slice a2 n2 c2)) bz #[.int .i64 KT,.int .i64 NT,.string ST',.slice a1 n1 c1,.slice a2 n2 c2] 33 ∧ TrIn 11 (set5 U15 bz 0 (.int .i64 KT) (.int .i64 NT) (.string ST') (.slice a1 n1 c1) (.slice a2 n2 c2)) (.agg #[.int .i64 KT,.int .i64 NT,.string ST',.slice a1 n1 c1,.slice a2 n2 c2]) T ∧ Below w10.heap.size w10 (set5 U15 bz 0 (.int .i64 KT) (.int .i64 NT) (.string ST') (.slice a1 n1 c1) (.slice a2 n2 c2))) := hfin;clear hfin hS BZ ht4 hap4 hnz GZ;generalize (set5 U15 bz 0 (.int .i64 KT) (.int .i64 NT) (.string ST') (.slice a1 n1 c1) (.slice a2 n2 c2)) = V6 at *;refine M_runA 13 18 (.int .i64 0) V6 rfl rfl (by kernel_rfl) (by rfl) (listed' := bts 14 16383) (by kernel_rfl) (by go_simp) (by kernel_rfl) ?_;simp only [zsA,zsZ,zsS];refine M_done (by kernel_rfl) ?_ _;go_wp2_with fail
        go_meet
        exact ⟨bz,a1,a2,n1,c1,n2,c2,rfl,rfl,HFI⟩
       ·skip
        have hbU : Below W2.heap.size W2 (W2.alloc (Obj.cells #[.int .i64 0,.int .i64 0,.string ⟨#[]⟩,.slice none 0 0,.slice none 0 0] 33)) := (Below.refl _ _).alloc (Nat.le_refl _) _;obtain ⟨bz,hbz⟩ : ∃ z,W2.heap.size = z := ⟨_,rfl⟩
        have BZ : Blk (W2.alloc (Obj.cells #[.int .i64 0,.int .i64 0,.string ⟨#[]⟩,.slice none 0 0,.slice none 0 0] 33)) bz #[.int .i64 0,.int .i64 0,.string ⟨#[]⟩,.slice none 0 0,.slice none 0 0] 33 := by rw [← hbz]; exact Blk.new W2 _ _
        have GZ : w10.heap.size ≤ bz := by rw [← hbz]; exact hS.size
        have hS0 := hS;have hS : Below w10.heap.size w10 (W2.alloc (Obj.cells #[.int .i64 0,.int .i64 0,.string ⟨#[]⟩,.slice none 0 0,.slice none 0 0] 33)) := hS0.trans (hbU.mono hS0.size)
        replace ho := own_below ho hbU
        replace hDU := Nat.le_trans hDU hbU.size
        clear hS0 hbU;simp only [zsA,zsZ,zsS]
        try simp only [hbz]
        clear hbz;generalize (W2.alloc (Obj.cells #[.int .i64 0,.int .i64 0,.string ⟨#[]⟩,.slice none 0 0,.slice none 0 0] 33)) = U16 at *;refine M_call 7 117 11 #[.agg #[.string sn,.slice (some ⟨g,off,none⟩) mn mc,.slice ea en ec,.slice ta tn tc],.string mnm,v2] rfl rfl (by kernel_rfl) (by rfl) (listed' := bts 14 2303) (by kernel_rfl) (fun W => by go_simp) ?_;refine ((HDC.out _ (HR9.out.trans ((hcw.trans (hS.mono hcw.size)).mono HR9.out.size)) _ _ (ByS.own ho (by intro q hq; simp only [List.mem_append] at hq; rcases hq with hq | hq <;> first | exact HW1.out.2 q hq | exact HW2.out.2 q hq | (rcases hq with hq | hq <;> first | exact HW1.out.2 q hq | exact HW2.out.2 q hq)))).mono ?_);rw [HTT.out.2];rintro ee U17 ⟨r4,bs4,rfl,ht4,hap4,hbU⟩
        have hnz : bz ∉ bs4 := fun hc => by have h1 := (hap4.2 _ hc).1; have h2 := BZ.lt; omega
        replace BZ := BZ.below hbU
        simp only at ht4;obtain ⟨a1,n1,c1,a2,n2,c2,hr4⟩ := ht4.open;rw [HKT.out.1,HKT.out.2.1,HKT.out.2.2] at hr4;subst hr4;have hbU' : Below U16.heap.size U16 U17 := hbU;have hSx := hS.trans (hbU.mono hS.size);clear hbU;obtain ⟨D4,hD4⟩ : ∃ z,U16.heap.size = z := ⟨_,rfl⟩;rw [hD4] at ht4 hap4;have hS0 := hS;have hS : Below w10.heap.size w10 U17 := hS0.trans (hbU'.mono hS0.size);clear hS0 hbU' hSx hD4 ho hDU hkD;refine ⟨_,rfl,hS,?_⟩;simp only [zsA,zsZ,zsS];refine M_take 8 109 (.tuple #[.agg #[.int .i64 KT,.int .i64 NT,.string ST',.slice a1 n1 c1,.slice a2 n2 c2],.int .i64 0]) _ rfl rfl (by kernel_rfl) (by kernel_rfl) (by kernel_rfl) (by kernel_rfl) (by kernel_rfl) (fun _ _ _ h => h) (by rfl) (fun w' hw' => ?_) hS (listed' := bts 14 2559) (by kernel_rfl) rfl ?_
        ·go_simp
        simp only [zsA,zsZ,zsS];refine M_take 9 118 (.agg #[.int .i64 KT,.int .i64 NT,.string ST',.slice a1 n1 c1,.slice a2 n2 c2]) _ rfl rfl (by kernel_rfl) (by kernel_rfl) (by kernel_rfl) (by kernel_rfl) (by kernel_rfl) (fun _ _ _ h => h) (by rfl) (fun w' hw' => ?_) hS (listed' := bts 14 3071) (by kernel_rfl) rfl ?_
        ·go_simp
        simp only [zsA,zsZ,zsS];refine M_take 10 119 (.int .i64 0) _ rfl rfl (by kernel_rfl) (by kernel_rfl) (by kernel_rfl) (by kernel_rfl) (by kernel_rfl) (fun _ _ _ h => h) (by rfl) (fun w' hw' => ?_) hS (listed' := bts 14 4095) (by kernel_rfl) rfl ?_
        ·go_simp
        simp only [zsA,zsZ,zsS];have k0 := (BZ.cell 0).trans rfl;have z0 := BZ.froz 0;have k1 := (BZ.cell 1).trans rfl;have z1 := BZ.froz 1;have k2 := (BZ.cell 2).trans rfl;have z2 := BZ.froz 2;have k3 := (BZ.cell 3).trans rfl;have z3 := BZ.froz 3;have k4 := (BZ.cell 4).trans rfl;have z4 := BZ.froz 4;have hfin := dcd_store BZ rfl rfl ht4 hap4 hnz hS GZ;refine M_storeT 12 (set5 U17 bz 0 (.int .i64 KT) (.int .i64 NT) (.string ST') (.slice a1 n1 c1) (.slice a2 n2 c2)) rfl rfl (by kernel_rfl) (by rfl) (listed' := bts 14 8191) (by kernel_rfl) (by unfold set5; go_simp) hfin.2.2 ?_;clear k0 z0 k1 z1 k2 z2 k3 z3 k4 z4;have HFI : Hid (Blk (set5 U17 bz 0 (.int .i64 KT) (.int .i64 NT) (.string ST') (.slice a1 n1 c1) (.slice a2 n2 c2)) bz #[.int .i64 KT,.int .i64 NT,.string ST',.slice a1 n1 c1,.slice a2 n2 c2] 33 ∧ TrIn 11 (set5 U17 bz 0 (.int .i64 KT) (.int .i64 NT) (.string ST') (.slice a1 n1 c1) (.slice a2 n2 c2)) (.agg #[.int .i64 KT,.int .i64 NT,.string ST',.slice a1 n1 c1,.slice a2 n2 c2]) T ∧ Below w10.heap.size w10 (set5 U17 bz 0 (.int .i64 KT) (.int .i64 NT) (.string ST') (.slice a1 n1 c1) (.slice a2 n2 c2))) := hfin;clear hfin hS BZ ht4 hap4 hnz GZ;generalize (set5 U17 bz 0 (.int .i64 KT) (.int .i64 NT) (.string ST') (.slice a1 n1 c1) (.slice a2 n2 c2)) = V6 at *;refine M_runA 13 18 (.int .i64 0) V6 rfl rfl (by kernel_rfl) (by rfl) (listed' := bts 14 16383) (by kernel_rfl) (by go_simp) (by kernel_rfl) ?_;simp only [zsA,zsZ,zsS];refine M_done (by kernel_rfl) ?_ _;go_wp2_with fail
        go_meet
        exact ⟨bz,a1,a2,n1,c1,n2,c2,rfl,rfl,HFI⟩
      ·skip
       clear g2 g3 hSn HG1;have hbU : Below U13.heap.size U13 (U13.alloc (Obj.cells #[.int .i64 0,.int .i64 0,.string ⟨#[]⟩,.slice none 0 0,.slice none 0 0] 33)) := (Below.refl _ _).alloc (Nat.le_refl _) _;obtain ⟨bz,hbz⟩ : ∃ z,U13.heap.size = z := ⟨_,rfl⟩
       have BZ : Blk (U13.alloc (Obj.cells #[.int .i64 0,.int .i64 0,.string ⟨#[]⟩,.slice none 0 0,.slice none 0 0] 33)) bz #[.int .i64 0,.int .i64 0,.string ⟨#[]⟩,.slice none 0 0,.slice none 0 0] 33 := by rw [← hbz]; exact Blk.new U13 _ _
       have GZ : w10.heap.size ≤ bz := by rw [← hbz]; exact hS.size
       have hS0 := hS;have hS : Below w10.heap.size w10 (U13.alloc (Obj.cells #[.int .i64 0,.int .i64 0,.string ⟨#[]⟩,.slice none 0 0,.slice none 0 0] 33)) := hS0.trans (hbU.mono hS0.size)
       replace ho := own_below ho hbU
       replace hDU := Nat.le_trans hDU hbU.size
       clear hS0 hbU;simp only [zsA,zsZ,zsS]
       try simp only [hbz]
       clear hbz;generalize (U13.alloc (Obj.cells #[.int .i64 0,.int .i64 0,.string ⟨#[]⟩,.slice none 0 0,.slice none 0 0] 33)) = U18 at *
       have hlk : (Xn).length + Yn.length ≤ 100000 := by
        have := HW1.out.1;have := HW2.out.1
        try simp only [List.length_append]
        omega
       obtain ⟨v2,W2,g1,g2,g3⟩ := pushBytes ho (own_below HOY.out (hcw.trans (hS.mono hcw.size))) hDU hlk;have HG1 : Hid ((Builtin.append_ #[27,27] 27 #[v1,.slice ya YL yc]).run Tryz.prog U18 = .ok v2 W2) := g1;have hSn : Below w10.heap.size w10 W2 := hS.trans (g3.toBelow hS.size fun q hq => Nat.le_trans hkD (own_lt ho (mem_blkOf.1 hq)).1);clear g1 hlk;refine M_run 6 116 v2 W2 rfl rfl (by kernel_rfl) (by rfl) (listed' := bts 14 2175) (by kernel_rfl) (append_run rfl rfl rfl HG1.out) hSn ?_
       replace BZ := BZ.kp g3 (own_neB ho BZ)
       replace hDU := Nat.le_trans hDU g3.size
       replace ho := g2
       have hS := hSn;clear g2 g3 hSn HG1;simp only [zsA,zsZ,zsS];refine M_call 7 117 11 #[.agg #[.string sn,.slice (some ⟨g,off,none⟩) mn mc,.slice ea en ec,.slice ta tn tc],.string mnm,v2] rfl rfl (by kernel_rfl) (by rfl) (listed' := bts 14 2303) (by kernel_rfl) (fun W => by go_simp) ?_;refine ((HDC.out _ (HR9.out.trans ((hcw.trans (hS.mono hcw.size)).mono HR9.out.size)) _ _ (ByS.own ho (by intro q hq; simp only [List.mem_append] at hq; rcases hq with hq | hq <;> first | exact HW1.out.2 q hq | exact HW2.out.2 q hq | (rcases hq with hq | hq <;> first | exact HW1.out.2 q hq | exact HW2.out.2 q hq)))).mono ?_);rw [HTT.out.2];rintro ee U19 ⟨r4,bs4,rfl,ht4,hap4,hbU⟩
       have hnz : bz ∉ bs4 := fun hc => by have h1 := (hap4.2 _ hc).1; have h2 := BZ.lt; omega
       replace BZ := BZ.below hbU
       simp only at ht4;obtain ⟨a1,n1,c1,a2,n2,c2,hr4⟩ := ht4.open;rw [HKT.out.1,HKT.out.2.1,HKT.out.2.2] at hr4;subst hr4;have hbU' : Below W2.heap.size W2 U19 := hbU;have hSx := hS.trans (hbU.mono hS.size);clear hbU;obtain ⟨D4,hD4⟩ : ∃ z,W2.heap.size = z := ⟨_,rfl⟩;rw [hD4] at ht4 hap4;have hS0 := hS;have hS : Below w10.heap.size w10 U19 := hS0.trans (hbU'.mono hS0.size);clear hS0 hbU' hSx hD4 ho hDU hkD;refine ⟨_,rfl,hS,?_⟩;simp only [zsA,zsZ,zsS];refine M_take 8 109 (.tuple #[.agg #[.int .i64 KT,.int .i64 NT,.string ST',.slice a1 n1 c1,.slice a2 n2 c2],.int .i64 0]) _ rfl rfl (by kernel_rfl) (by kernel_rfl) (by kernel_rfl) (by kernel_rfl) (by kernel_rfl) (fun _ _ _ h => h) (by rfl) (fun w' hw' => ?_) hS (listed' := bts 14 2559) (by kernel_rfl) rfl ?_
       ·go_simp
       simp only [zsA,zsZ,zsS];refine M_take 9 118 (.agg #[.int .i64 KT,.int .i64 NT,.string ST',.slice a1 n1 c1,.slice a2 n2 c2]) _ rfl rfl (by kernel_rfl) (by kernel_rfl) (by kernel_rfl) (by kernel_rfl) (by kernel_rfl) (fun _ _ _ h => h) (by rfl) (fun w' hw' => ?_) hS (listed' := bts 14 3071) (by kernel_rfl) rfl ?_
       ·go_simp
       simp only [zsA,zsZ,zsS];refine M_take 10 119 (.int .i64 0) _ rfl rfl (by kernel_rfl) (by kernel_rfl) (by kernel_rfl) (by kernel_rfl) (by kernel_rfl) (fun _ _ _ h => h) (by rfl) (fun w' hw' => ?_) hS (listed' := bts 14 4095) (by kernel_rfl) rfl ?_
       ·go_simp
       simp only [zsA,zsZ,zsS];have k0 := (BZ.cell 0).trans rfl;have z0 := BZ.froz 0;have k1 := (BZ.cell 1).trans rfl;have z1 := BZ.froz 1;have k2 := (BZ.cell 2).trans rfl;have z2 := BZ.froz 2;have k3 := (BZ.cell 3).trans rfl;have z3 := BZ.froz 3;have k4 := (BZ.cell 4).trans rfl;have z4 := BZ.froz 4;have hfin := dcd_store BZ rfl rfl ht4 hap4 hnz hS GZ;refine M_storeT 12 (set5 U19 bz 0 (.int .i64 KT) (.int .i64 NT) (.string ST') (.slice a1 n1 c1) (.slice a2 n2 c2)) rfl rfl (by kernel_rfl) (by rfl) (listed' := bts 14 8191) (by kernel_rfl) (by unfold set5; go_simp) hfin.2.2 ?_;clear k0 z0 k1 z1 k2 z2 k3 z3 k4 z4;have HFI : Hid (Blk (set5 U19 bz 0 (.int .i64 KT) (.int .i64 NT) (.string ST') (.slice a1 n1 c1) (.slice a2 n2 c2)) bz #[.int .i64 KT,.int .i64 NT,.string ST',.slice a1 n1 c1,.slice a2 n2 c2] 33 ∧ TrIn 11 (set5 U19 bz 0 (.int .i64 KT) (.int .i64 NT) (.string ST') (.slice a1 n1 c1) (.slice a2 n2 c2)) (.agg #[.int .i64 KT,.int .i64 NT,.string ST',.slice a1 n1 c1,.slice a2 n2 c2]) T ∧ Below w10.heap.size w10 (set5 U19 bz 0 (.int .i64 KT) (.int .i64 NT) (.string ST') (.slice a1 n1 c1) (.slice a2 n2 c2))) := hfin;clear hfin hS BZ ht4 hap4 hnz GZ;generalize (set5 U19 bz 0 (.int .i64 KT) (.int .i64 NT) (.string ST') (.slice a1 n1 c1) (.slice a2 n2 c2)) = V6 at *;refine M_runA 13 18 (.int .i64 0) V6 rfl rfl (by kernel_rfl) (by rfl) (listed' := bts 14 16383) (by kernel_rfl) (by go_simp) (by kernel_rfl) ?_;simp only [zsA,zsZ,zsS];refine M_done (by kernel_rfl) ?_ _;go_wp2_with fail
       go_meet
       exact ⟨bz,a1,a2,n1,c1,n2,c2,rfl,rfl,HFI⟩
     ·skip
      have hbU : Below U0.heap.size U0 (U0.alloc (Obj.cells #[.int .i64 0,.int .i64 0,.string ⟨#[]⟩,.slice none 0 0,.slice none 0 0] 33)) := (Below.refl _ _).alloc (Nat.le_refl _) _;obtain ⟨bz,hbz⟩ : ∃ z,U0.heap.size = z := ⟨_,rfl⟩
      have BZ : Blk (U0.alloc (Obj.cells #[.int .i64 0,.int .i64 0,.string ⟨#[]⟩,.slice none 0 0,.slice none 0 0] 33)) bz #[.int .i64 0,.int .i64 0,.string ⟨#[]⟩,.slice none 0 0,.slice none 0 0] 33 := by rw [← hbz]; exact Blk.new U0 _ _
      have GZ : w10.heap.size ≤ bz := by rw [← hbz]; exact hS.size
      have hS0 := hS;have hS : Below w10.heap.size w10 (U0.alloc (Obj.cells #[.int .i64 0,.int .i64 0,.string ⟨#[]⟩,.slice none 0 0,.slice none 0 0] 33)) := hS0.trans (hbU.mono hS0.size);clear hS0 hbU;simp only [zsA,zsZ,zsS]
      try simp only [hbz]
      clear hbz;generalize (U0.alloc (Obj.cells #[.int .i64 0,.int .i64 0,.string ⟨#[]⟩,.slice none 0 0,.slice none 0 0] 33)) = U20 at *;refine M_call 4 114 13 #[.slice xa XL xc] rfl rfl (by kernel_rfl) (by rfl) (listed' := bts 14 2111) (by kernel_rfl) (fun W => by go_simp) ?_;refine (HBX.out _ (hcw.trans (hS.mono hcw.size))).mono ?_;rintro ee U21 ⟨v1,rfl,ho,hbU⟩;obtain ⟨D1,hD1⟩ : ∃ z,U20.heap.size = z := ⟨_,rfl⟩;rw [hD1] at ho
      have hDU : D1 ≤ U21.heap.size := by rw [← hD1]; exact hbU.size
      have hkD : w10.heap.size ≤ D1 := by rw [← hD1]; exact hS.size
      replace BZ := BZ.below hbU
      have hS0 := hS;have hS : Below w10.heap.size w10 U21 := hS0.trans (hbU.mono hS0.size);rw [show XL = Xn.length from HL1.out.symm] at ho;clear hS0 hbU hD1;refine ⟨_,rfl,hS,?_⟩;simp only [zsA,zsZ,zsS]
      have hlk : (Xn).length + Yn.length ≤ 100000 := by
       have := HW1.out.1;have := HW2.out.1
       try simp only [List.length_append]
       omega
      obtain ⟨v2,W2,g1,g2,g3⟩ := pushBytes ho (own_below HOY.out (hcw.trans (hS.mono hcw.size))) hDU hlk;have HG1 : Hid ((Builtin.append_ #[27,27] 27 #[v1,.slice ya YL yc]).run Tryz.prog U21 = .ok v2 W2) := g1;have hSn : Below w10.heap.size w10 W2 := hS.trans (g3.toBelow hS.size fun q hq => Nat.le_trans hkD (own_lt ho (mem_blkOf.1 hq)).1);clear g1 hlk;refine M_run 6 116 v2 W2 rfl rfl (by kernel_rfl) (by rfl) (listed' := bts 14 2175) (by kernel_rfl) (append_run rfl rfl rfl HG1.out) hSn ?_
      replace BZ := BZ.kp g3 (own_neB ho BZ)
      replace hDU := Nat.le_trans hDU g3.size
      replace ho := g2
      have hS := hSn;clear g2 g3 hSn HG1;simp only [zsA,zsZ,zsS];refine M_call 7 117 11 #[.agg #[.string sn,.slice (some ⟨g,off,none⟩) mn mc,.slice ea en ec,.slice ta tn tc],.string mnm,v2] rfl rfl (by kernel_rfl) (by rfl) (listed' := bts 14 2303) (by kernel_rfl) (fun W => by go_simp) ?_;refine ((HDC.out _ (HR9.out.trans ((hcw.trans (hS.mono hcw.size)).mono HR9.out.size)) _ _ (ByS.own ho (by intro q hq; simp only [List.mem_append] at hq; rcases hq with hq | hq <;> first | exact HW1.out.2 q hq | exact HW2.out.2 q hq | (rcases hq with hq | hq <;> first | exact HW1.out.2 q hq | exact HW2.out.2 q hq)))).mono ?_);rw [HTT.out.2];rintro ee U22 ⟨r4,bs4,rfl,ht4,hap4,hbU⟩
      have hnz : bz ∉ bs4 := fun hc => by have h1 := (hap4.2 _ hc).1; have h2 := BZ.lt; omega
      replace BZ := BZ.below hbU
      simp only at ht4;obtain ⟨a1,n1,c1,a2,n2,c2,hr4⟩ := ht4.open;rw [HKT.out.1,HKT.out.2.1,HKT.out.2.2] at hr4;subst hr4;have hbU' : Below W2.heap.size W2 U22 := hbU;have hSx := hS.trans (hbU.mono hS.size);clear hbU;obtain ⟨D4,hD4⟩ : ∃ z,W2.heap.size = z := ⟨_,rfl⟩;rw [hD4] at ht4 hap4;have hS0 := hS;have hS : Below w10.heap.size w10 U22 := hS0.trans (hbU'.mono hS0.size);clear hS0 hbU' hSx hD4 ho hDU hkD;refine ⟨_,rfl,hS,?_⟩;simp only [zsA,zsZ,zsS];refine M_take 8 109 (.tuple #[.agg #[.int .i64 KT,.int .i64 NT,.string ST',.slice a1 n1 c1,.slice a2 n2 c2],.int .i64 0]) _ rfl rfl (by kernel_rfl) (by kernel_rfl) (by kernel_rfl) (by kernel_rfl) (by kernel_rfl) (fun _ _ _ h => h) (by rfl) (fun w' hw' => ?_) hS (listed' := bts 14 2559) (by kernel_rfl) rfl ?_
      ·go_simp
      simp only [zsA,zsZ,zsS];refine M_take 9 118 (.agg #[.int .i64 KT,.int .i64 NT,.string ST',.slice a1 n1 c1,.slice a2 n2 c2]) _ rfl rfl (by kernel_rfl) (by kernel_rfl) (by kernel_rfl) (by kernel_rfl) (by kernel_rfl) (fun _ _ _ h => h) (by rfl) (fun w' hw' => ?_) hS (listed' := bts 14 3071) (by kernel_rfl) rfl ?_
      ·go_simp
      simp only [zsA,zsZ,zsS];refine M_take 10 119 (.int .i64 0) _ rfl rfl (by kernel_rfl) (by kernel_rfl) (by kernel_rfl) (by kernel_rfl) (by kernel_rfl) (fun _ _ _ h => h) (by rfl) (fun w' hw' => ?_) hS (listed' := bts 14 4095) (by kernel_rfl) rfl ?_
      ·go_simp
      simp only [zsA,zsZ,zsS];have k0 := (BZ.cell 0).trans rfl;have z0 := BZ.froz 0;have k1 := (BZ.cell 1).trans rfl;have z1 := BZ.froz 1;have k2 := (BZ.cell 2).trans rfl;have z2 := BZ.froz 2;have k3 := (BZ.cell 3).trans rfl;have z3 := BZ.froz 3;have k4 := (BZ.cell 4).trans rfl;have z4 := BZ.froz 4;have hfin := dcd_store BZ rfl rfl ht4 hap4 hnz hS GZ;refine M_storeT 12 (set5 U22 bz 0 (.int .i64 KT) (.int .i64 NT) (.string ST') (.slice a1 n1 c1) (.slice a2 n2 c2)) rfl rfl (by kernel_rfl) (by rfl) (listed' := bts 14 8191) (by kernel_rfl) (by unfold set5; go_simp) hfin.2.2 ?_;clear k0 z0 k1 z1 k2 z2 k3 z3 k4 z4;have HFI : Hid (Blk (set5 U22 bz 0 (.int .i64 KT) (.int .i64 NT) (.string ST') (.slice a1 n1 c1) (.slice a2 n2 c2)) bz #[.int .i64 KT,.int .i64 NT,.string ST',.slice a1 n1 c1,.slice a2 n2 c2] 33 ∧ TrIn 11 (set5 U22 bz 0 (.int .i64 KT) (.int .i64 NT) (.string ST') (.slice a1 n1 c1) (.slice a2 n2 c2)) (.agg #[.int .i64 KT,.int .i64 NT,.string ST',.slice a1 n1 c1,.slice a2 n2 c2]) T ∧ Below w10.heap.size w10 (set5 U22 bz 0 (.int .i64 KT) (.int .i64 NT) (.string ST') (.slice a1 n1 c1) (.slice a2 n2 c2))) := hfin;clear hfin hS BZ ht4 hap4 hnz GZ;generalize (set5 U22 bz 0 (.int .i64 KT) (.int .i64 NT) (.string ST') (.slice a1 n1 c1) (.slice a2 n2 c2)) = V6 at *;refine M_runA 13 18 (.int .i64 0) V6 rfl rfl (by kernel_rfl) (by rfl) (listed' := bts 14 16383) (by kernel_rfl) (by go_simp) (by kernel_rfl) ?_;simp only [zsA,zsZ,zsS];refine M_done (by kernel_rfl) ?_ _;go_wp2_with fail
      go_meet
      exact ⟨bz,a1,a2,n1,c1,n2,c2,rfl,rfl,HFI⟩
    case rest =>
     obtain ⟨bB,a1,a2,n1,c1,n2,c2,rfl,rfl,HRB⟩ := hcut;have hcx : Below w10.heap.size w10 wc := HRB.out.2.2;generalize wc = w11 at *;have hbw11 : Below w.heap.size w w11 := HB9.out.trans ((hcw.trans (hcx.mono hcw.size)).mono HB9.out.size);have BA := HRA.out.1.below hcx;have BB := HRB.out.1;have HSE : Hid (Calls Tryz.prog 15 #[.agg #[.int .i64 KT,.int .i64 NT,.string ST',.slice pA lA cA,.slice pB lB cB],.agg #[.int .i64 KT,.int .i64 NT,.string ST',.slice a1 n1 c1,.slice a2 n2 c2]] w11 fun e w' => e = .returned (.bool true) ∧ Below w11.heap.size w11 w') := rsame_eq (HRA.out.2.1.below hcx) HRB.out.2.1;have q0 := (BA.cell 0).trans rfl;have q1 := (BA.cell 1).trans rfl;have q2 := (BA.cell 2).trans rfl;have q3 := (BA.cell 3).trans rfl;have q4 := (BA.cell 4).trans rfl;have p0 := (BB.cell 0).trans rfl;have p1 := (BB.cell 1).trans rfl;have p2 := (BB.cell 2).trans rfl;have p3 := (BB.cell 3).trans rfl;have p4 := (BB.cell 4).trans rfl;clear BA BB;go_wp2_with fail;refine HSE.out.mono ?_;rintro e w12 ⟨rfl,hb12⟩;have hbw12 : Below w.heap.size w w12 := hbw11.trans (hb12.mono hbw11.size);clear HSE hb12 q0 q1 q2 q3 q4 p0 p1 p2 p3 p4;go_wp2_with fail;refine (dcawake_any _).mono ?_;rintro e wz ⟨rfl,hbz⟩;have hbwz : Below w.heap.size w wz := hbw12.trans (hbz.mono hbw12.size);clear hbz;go_wp2_with fail;go_ret;exact ⟨rfl,hbwz⟩
end Go.Proofs.YtiajaocckkghgaaGreat

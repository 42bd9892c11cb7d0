/- Part 24 of what the proof stands on. -/
import Derived.Test.YtiajaocckkghgaaGreatPkBAW
namespace Go.Proofs.YtiajaocckkghgaaGreat
set_option linter.unusedVariables false
set_option linter.unusedSimpArgs false
open Go.ChangeShapes Go.WideShapes Go.ChangeAt Go.RowKit
set_option maxRecDepth 20000
theorem typeB_kind {mn en : List ByteArray} {k : Int} {t : ByteArray} (h : typeB mn en k t = true) : 1 ≤ k ∧ k ≤ 7 := by
 unfold typeB at h
 by_cases h1 : 1 ≤ k ∧ k ≤ 7
 ·exact h1
 ·exfalso
  revert h
  simp
  intros
  omega
theorem ok_kinds {s : ScS} (h : OkS s) : ∀ m ∈ s.msgs,∀ f ∈ m.fields,1 ≤ f.kind ∧ f.kind ≤ 7 := fun m hm f hf => typeB_kind ((h.msgs m hm).2.2.2.2.1 f hf).1.2.2.2
theorem encA_le (n : Nat) (t : Tr) : (encA n t).1.length ≤ 4096 := by
 unfold encA ofR
 split
 ·simp
 ·unfold putL
  split
  ·split
   ·assumption
   ·simp
  ·simp
theorem mtr_lenD (ms : List MtS) : ∀ r ∈ mtRows ms,r.length = 3 := fun r hr => by
 simp only [mtRows,List.mem_map] at hr
 obtain ⟨_,_,rfl⟩ := hr
 rfl
theorem schemaD_any {w : World} {v : Value} {s : ScS} (hr : ScIn w v s) (hf : FewL s) : Calls Tryz.prog 12 #[v] w fun e w' => ∃ r,e = .returned r ∧ ScIn w' r s ∧ Below w.heap.size w w' :=
 (schema_any hr hf).mono fun e w' ⟨vm,ve,vt,pm,pe,h1,h2,h3,h4,h5⟩ => ⟨_,h1,⟨vm,ve,vt,rfl,h2.to_in,h3.to_in,(RowG.own (mtr_lenD _) (by decide) h4).1⟩,h5⟩
set_option maxHeartbeats 8000000 in
theorem decodeBack_walk (v : Value) (s : ScS) (which : Int) (la : Option Addr) (L lc : Nat) (zs : List Int) (w : World) (hr : ScIn w v s) (hw : ScW s) (g1 : (Lit.int .i64 which).wf = true) (hI : IsRow .i64 w la L lc zs) (hcap : lc * Tryz.prog.bytesOf 3 ≤ 140737488351232) :
  Calls Tryz.prog 5 #[v,.int .i64 which,.slice la L lc] w fun e w' => e = .returned (.bool true) ∧ Below w.heap.size w w' := by
 obtain ⟨i1,i2⟩ := bounds_i64 g1
 obtain ⟨hRl,hLl⟩ := hI.rowG
 have HRL : Hid (RowG w (.slice la L lc) 1 (inRows (zs.take L)) ∧ (zs.take L).length = L) := ⟨hRl,hLl⟩
 have hs' := hr
 obtain ⟨vm,ve,vt,rfl,hms,hen,hmt⟩ := hr
 obtain ⟨ma,mc,rfl,hmc1,hmc2, -⟩ := hms.open
 obtain ⟨ea,ec,rfl, -⟩ := hen.open
 obtain ⟨ta,tn,tc,rfl⟩ := row_sliceD hmt
 obtain ⟨mn,hmn⟩ : ∃ z,s.msgs.length = z := ⟨_,rfl⟩
 obtain ⟨en,hen'⟩ : ∃ z,s.enums.length = z := ⟨_,rfl⟩
 obtain ⟨sn,hsn⟩ : ∃ z,s.name = z := ⟨_,rfl⟩
 rw [hmn,hen',hsn] at hs' ⊢
 rw [hmn] at hmc1 hms
 unfold maxLen at hmc2
 have HMN : Hid (s.msgs.length = mn) := hmn
 have HSC : Hid (ScIn w (.agg #[.string sn,.slice ma mn mc,.slice ea en ec,.slice ta tn tc]) s) := hs'
 have HMS : Hid (MsIn w (.slice ma mn mc) s.msgs) := hms
 have HSW : Hid (ScW s) := hw
 have al : Below w.heap.size w (w.alloc (Obj.cells #[.string sn,.slice ma mn mc,.slice ea en ec,.slice ta tn tc] 26)) := (Below.refl _ _).alloc (Nat.le_refl _) _
 have BS : Blk (w.alloc (Obj.cells #[.string sn,.slice ma mn mc,.slice ea en ec,.slice ta tn tc] 26)) w.heap.size #[.string sn,.slice ma mn mc,.slice ea en ec,.slice ta tn tc] 26 := Blk.new w _ _
 have HFW : Hid (Calls Tryz.prog 9 #[.agg #[.string sn,.slice ma mn mc,.slice ea en ec,.slice ta tn tc]] (w.alloc (Obj.cells #[.string sn,.slice ma mn mc,.slice ea en ec,.slice ta tn tc] 26)) fun e w' => FewP s e ∧ Below (w.alloc (Obj.cells #[.string sn,.slice ma mn mc,.slice ea en ec,.slice ta tn tc] 26)).heap.size (w.alloc (Obj.cells #[.string sn,.slice ma mn mc,.slice ea en ec,.slice ta tn tc] 26)) w') := few_any (hs'.below al) hw
 clear hRl hLl hI hcap hs' hms hen hmt hmn hen' hsn hw g1
 go_enter Tryz.func5,Tryz.ntmps5
 go_wp2_with fail
 refine HFW.out.mono ?_
 rintro e w2 ⟨hfw,hb2⟩
 have hbw2 : Below w.heap.size w w2 := al.trans (hb2.mono al.size)
 have BS2 := BS.below hb2
 clear hb2 al BS HFW
 rcases hfw with rfl | ⟨rfl,hfs⟩
 ·clear BS2
  go_wp2_with fail
  refine (dcawake_any _).mono ?_
  rintro e wz ⟨rfl,hbz⟩
  have hbwz : Below w.heap.size w wz := hbw2.trans (hbz.mono hbw2.size)
  clear hbz
  go_wp2_with fail
  go_ret
  exact ⟨rfl,hbwz⟩
 have HFS : Hid (FewS s) := hfs
 have HRK : Hid (Calls Tryz.prog 21 #[.agg #[.string sn,.slice ma mn mc,.slice ea en ec,.slice ta tn tc]] w2 fun e w' => e = .returned (.int .i64 (checkA s)) ∧ Below w2.heap.size w2 w') := rcheck_any (HSC.out.below hbw2) hfs
 have s0 := (BS2.cell 0).trans rfl
 have s1 := (BS2.cell 1).trans rfl
 have s2 := (BS2.cell 2).trans rfl
 have s3 := (BS2.cell 3).trans rfl
 clear hfs
 go_wp2_with fail
 refine HRK.out.mono ?_
 rintro e w3 ⟨rfl,hb3⟩
 have hbw3 : Below w.heap.size w w3 := hbw2.trans (hb3.mono hbw2.size)
 have BS3 := BS2.below hb3
 clear hb3 hbw2 BS2 HRK s0 s1 s2 s3
 obtain ⟨A,hA⟩ : ∃ z,checkA s = z := ⟨_,rfl⟩
 have HA : Hid (checkA s = A) := hA
 rw [hA]
 clear hA
 by_cases hA0 : A = 0
 rotate_left
 ·have d : (A != 0) = true := by simpa using hA0
  clear hA0 BS3
  go_wp2_with fail
  refine (dcawake_any _).mono ?_
  rintro e wz ⟨rfl,hbz⟩
  have hbwz : Below w.heap.size w wz := hbw3.trans (hbz.mono hbw3.size)
  clear hbz
  go_wp2_with fail
  go_ret
  exact ⟨rfl,hbwz⟩
 subst hA0
 have HOK : Hid (OkS s) := (checkA_ok s).1 HA.out
 by_cases hL2 : 200 < L
 ·have d : decide (200 < (L : Int)) = true := by simp; omega
  clear BS3
  go_wp2_with fail
  refine (dcawake_any _).mono ?_
  rintro e wz ⟨rfl,hbz⟩
  have hbwz : Below w.heap.size w wz := hbw3.trans (hbz.mono hbw3.size)
  clear hbz
  go_wp2_with fail
  go_ret
  exact ⟨rfl,hbwz⟩
 have d : decide (200 < (L : Int)) = false := by simp; omega
 have hmn1 : 0 < mn := by have := HOK.out.some; rw [HMN.out] at this; exact this
 have hmn2 : mn ≤ 14 := by have := HFS.out.msgs; rw [HMN.out] at this; exact this
 obtain ⟨hp1,hp2⟩ := placeI_in which (mn : Int) (by omega)
 obtain ⟨k,hk⟩ : ∃ z : Nat,placeI which (mn : Int) = (z : Int) := ⟨(placeI which (mn : Int)).toNat,by omega⟩
 have hkm : k < mn := by omega
 have HPL : Hid (∀ W,Calls Tryz.prog 22 #[.int .i64 which,.int .i64 (mn : Int)] W fun e w1 => e = .returned (.int .i64 (k : Int)) ∧ w1 = W) := fun W => by
  have h1 := place_is which (mn : Int) i1 i2 (by omega) (by omega) W
  rw [hk] at h1
  exact h1
 obtain ⟨m,hm⟩ : ∃ x,s.msgs[k]? = some x := ⟨_,List.getElem?_eq_getElem (by rw [HMN.out]; exact hkm)⟩
 have HM : Hid (s.msgs[k]? = some m) := hm
 obtain ⟨g,off,vf,vr,rfl,c0,c1,c2,hrf,hrr⟩ := HMS.out.get hm
 obtain ⟨mnm,hmnm⟩ : ∃ z,m.name = z := ⟨_,rfl⟩
 have HNM : Hid (m.name = mnm) := hmnm
 have HMG : Hid ((msgOf s mnm).isSome = true) := (by
  rw [msgOf,List.find?_isSome]
  exact ⟨m,List.mem_of_getElem? hm,by simpa using hmnm⟩ : (msgOf s mnm).isSome = true)
 rw [hmnm] at c0
 have HCE : Hid (∀ W,Below w3.heap.size w3 W → W.cell? ⟨w.heap.size,1,none⟩ = some (.slice (some ⟨g,off,none⟩) mn mc) ∧ W.cell? ⟨g,off + k * 3,none⟩ = some (.string mnm)) := fun W hW => by
  have hb : Below w.heap.size w W := hbw3.trans (hW.mono hbw3.size)
  exact ⟨((BS3.below hW).cell 1).trans rfl,(hb.cell (World.block_lt_of_cell? _ _ c0)).trans c0⟩
 clear hm hrf hrr hmnm hk c0 c1 c2 hp1 hp2
 go_wp2_with fail
 obtain ⟨b0,hb0⟩ : ∃ z,w.heap.size = z := ⟨_,rfl⟩
 have HBZ : Hid (w.heap.size = b0) := hb0
 rw [hb0] at HCE BS3
 try simp only [hb0]
 clear hb0 d
 have hS : Below w3.heap.size w3 w3.drew := (Below.refl _ _).drew
 refine wp_region_held_drew (S := fun w' => Below w3.heap.size w3 w') (by kernel_rfl) hS (fun hS => ?_)
 refine rg_take 0 27 (.pointer (some ⟨b0,1,none⟩)) _ rfl rfl (by kernel_rfl) (by kernel_rfl) (by kernel_rfl) (fun _ _ _ h => h) (by rfl) (fun w' hw' => ?_) hS (listed' := bts 11 1) (by kernel_rfl) rfl ?_
 ·go_simp
 simp only [zsA,zsZ,zsS]
 refine rg_take 1 28 (.slice (some ⟨g,off,none⟩) mn mc) _ rfl rfl (by kernel_rfl) (by kernel_rfl) (by kernel_rfl) (fun _ _ _ h => h) (by rfl) (fun w' hw' => ?_) hS (listed' := bts 11 3) (by kernel_rfl) rfl ?_
 ·have f0 := (HCE.out _ hw').1; go_simp
 simp only [zsA,zsZ,zsS]
 refine rg_take 2 29 (.int .i64 which) _ rfl rfl (by kernel_rfl) (by kernel_rfl) (by kernel_rfl) (fun _ _ _ h => h) (by rfl) (fun w' hw' => ?_) hS (listed' := bts 11 7) (by kernel_rfl) rfl ?_
 ·go_simp
 simp only [zsA,zsZ,zsS]
 refine rg_take 3 30 (.pointer (some ⟨b0,1,none⟩)) _ rfl rfl (by kernel_rfl) (by kernel_rfl) (by kernel_rfl) (fun _ _ _ h => h) (by rfl) (fun w' hw' => ?_) hS (listed' := bts 11 15) (by kernel_rfl) rfl ?_
 ·go_simp
 simp only [zsA,zsZ,zsS]
 refine rg_take 4 31 (.slice (some ⟨g,off,none⟩) mn mc) _ rfl rfl (by kernel_rfl) (by kernel_rfl) (by kernel_rfl) (fun _ _ _ h => h) (by rfl) (fun w' hw' => ?_) hS (listed' := bts 11 31) (by kernel_rfl) rfl ?_
 ·have f0 := (HCE.out _ hw').1; go_simp
 simp only [zsA,zsZ,zsS]
 refine rg_take 5 32 (.int .i64 (mn : Int)) _ rfl rfl (by kernel_rfl) (by kernel_rfl) (by kernel_rfl) (fun _ _ _ h => h) (by rfl) (fun w' hw' => ?_) hS (listed' := bts 11 63) (by kernel_rfl) rfl ?_
 ·go_simp
 simp only [zsA,zsZ,zsS]
 refine rg_call 6 33 22 #[.int .i64 which,.int .i64 (mn : Int)] rfl rfl (by kernel_rfl) (by rfl) (listed' := bts 11 127) (by kernel_rfl) (fun W => by go_simp) ?_
 refine (HPL.out _).mono ?_
 rintro e W1 ⟨rfl,rfl⟩
 refine ⟨_,rfl,hS,?_⟩
 simp only [zsA,zsZ,zsS]
 refine rg_take 7 34 (.pointer (some ⟨g,off + k * 3,none⟩)) _ rfl rfl (by kernel_rfl) (by kernel_rfl) (by kernel_rfl) (fun _ _ _ h => h) (by rfl) (fun w' hw' => ?_) hS (listed' := bts 11 255) (by kernel_rfl) rfl ?_
 ·go_simp
 simp only [zsA,zsZ,zsS]
 refine rg_take 8 35 (.pointer (some ⟨g,off + k * 3,none⟩)) _ rfl rfl (by kernel_rfl) (by kernel_rfl) (by kernel_rfl) (fun _ _ _ h => h) (by rfl) (fun w' hw' => ?_) hS (listed' := bts 11 511) (by kernel_rfl) rfl ?_
 ·go_simp
 simp only [zsA,zsZ,zsS]
 refine rg_take 9 36 (.string mnm) _ rfl rfl (by kernel_rfl) (by kernel_rfl) (by kernel_rfl) (fun _ _ _ h => h) (by rfl) (fun w' hw' => ?_) hS (listed' := bts 11 1023) (by kernel_rfl) rfl ?_
 ·have f0 := (HCE.out _ hw').2; go_simp
 simp only [zsA,zsZ,zsS]
 refine rg_take 10 7 (.string mnm) _ rfl rfl (by kernel_rfl) (by kernel_rfl) (by kernel_rfl) (fun _ _ _ h => h) (by rfl) (fun w' hw' => ?_) hS (listed' := bts 11 2047) (by kernel_rfl) rfl ?_
 ·go_simp
 simp only [zsA,zsZ,zsS]
 refine wpAnyH_done (by kernel_rfl) ?_ _
 generalize w3.drew = W1 at *
 have hbw5 : Below w.heap.size w W1 := hbw3.trans (hS.mono hbw3.size)
 have BS5 : Blk W1 b0 #[.string sn,.slice (some ⟨g,off,none⟩) mn mc,.slice ea en ec,.slice ta tn tc] 26 := BS3.below hS
 clear hbw3 BS3 HCE HPL hS
 have HFT : Hid (Calls Tryz.prog 23 #[.agg #[.string sn,.slice (some ⟨g,off,none⟩) mn mc,.slice ea en ec,.slice ta tn tc],.string mnm,.slice la L lc] W1 (FitA s mnm W1)) := fitAll_any s sn (some ⟨g,off,none⟩) ea ta mn mc en ec tn tc (fun m hm => (HFS.out.few.flds m hm).1) (ok_kinds HOK.out) (zs.take L) la lc L W1 (HSC.out.below hbw5) (HRL.out.1.below hbw5) HRL.out.2 (by omega) mnm
 have s0 := (BS5.cell 0).trans rfl
 have s1 := (BS5.cell 1).trans rfl
 have s2 := (BS5.cell 2).trans rfl
 have s3 := (BS5.cell 3).trans rfl
 go_wp2_with fail
 refine Calls.mono HFT.out ?_
 rintro e w6 ⟨r,t,bs,rfl,hO,hA6,hT,hc6,hb6⟩
 have hbw6 : Below w.heap.size w w6 := hbw5.trans (hb6.mono hbw5.size)
 have BS6 := BS5.below hb6
 have HTI6 : Hid (TrIn 6 w6 (.agg r.toArray) t) := hO.trIn
 have H64 : Hid (N64 6 t) := hO.trC.n64
 obtain ⟨x1,x2,x3,x4,x5,x6,hr6⟩ := TrO.open hO
 subst hr6
 have HFT6 : Hid (FitT 6 s mnm t ∧ cntN 6 t ≤ 180) := ⟨hT,hc6⟩
 have HBK : Hid (((encA 6 t).2 = 0 ∨ (encA 6 t).2 = 4) ∧ ((encA 6 t).2 = 0 → decA s mnm (encA 6 t).1 = (t,0) ∧ canA s mnm (encA 6 t).1 = true)) := fit_back HOK.out HMG.out hT H64.out
 clear hO hA6 hT hc6 hb6 hbw5 BS5 HFT s0 s1 s2 s3
 obtain ⟨K,hK⟩ : ∃ z,t.kind = z := ⟨_,rfl⟩
 obtain ⟨N,hN⟩ : ∃ z,t.n = z := ⟨_,rfl⟩
 obtain ⟨S,hSx⟩ : ∃ z,t.s = z := ⟨_,rfl⟩
 rw [hK,hN,hSx] at HTI6 ⊢
 clear hK hN hSx
 have al7 : Below w6.heap.size w6 (w6.alloc (Obj.cells #[.int .i64 K,.int .i64 N,.string S,.slice x1 x2 x3,.slice x4 x5 x6] 33)) := (Below.refl _ _).alloc (Nat.le_refl _) _
 have hbw7 : Below w.heap.size w (w6.alloc (Obj.cells #[.int .i64 K,.int .i64 N,.string S,.slice x1 x2 x3,.slice x4 x5 x6] 33)) := hbw6.trans (al7.mono hbw6.size)
 have HTI7 : Hid (TrIn 6 (w6.alloc (Obj.cells #[.int .i64 K,.int .i64 N,.string S,.slice x1 x2 x3,.slice x4 x5 x6] 33)) (.agg #[.int .i64 K,.int .i64 N,.string S,.slice x1 x2 x3,.slice x4 x5 x6]) t) := HTI6.out.below al7
 have BX7 : Blk (w6.alloc (Obj.cells #[.int .i64 K,.int .i64 N,.string S,.slice x1 x2 x3,.slice x4 x5 x6] 33)) w6.heap.size #[.int .i64 K,.int .i64 N,.string S,.slice x1 x2 x3,.slice x4 x5 x6] 33 := Blk.new w6 _ _
 have BS7 := BS6.below al7
 have HCP : Hid (Calls Tryz.prog 20 #[.agg #[.int .i64 K,.int .i64 N,.string S,.slice x1 x2 x3,.slice x4 x5 x6]] (w6.alloc (Obj.cells #[.int .i64 K,.int .i64 N,.string S,.slice x1 x2 x3,.slice x4 x5 x6] 33)) (CopyP 6 t (w6.alloc (Obj.cells #[.int .i64 K,.int .i64 N,.string S,.slice x1 x2 x3,.slice x4 x5 x6] 33)))) := copy_any 6 t _ (w6.alloc (Obj.cells #[.int .i64 K,.int .i64 N,.string S,.slice x1 x2 x3,.slice x4 x5 x6] 33)) HTI7.out HFT6.out.1.sm
 clear al7 HTI6
 go_wp2_with fail
 obtain ⟨b6,hb6⟩ : ∃ z,w6.heap.size = z := ⟨_,rfl⟩
 rw [hb6] at BX7
 try simp only [hb6]
 clear hb6
 generalize (w6.alloc (Obj.cells #[.int .i64 K,.int .i64 N,.string S,.slice x1 x2 x3,.slice x4 x5 x6] 33)) = W7 at *
 have q0 := (BX7.cell 0).trans rfl
 have q1 := (BX7.cell 1).trans rfl
 have q2 := (BX7.cell 2).trans rfl
 have q3 := (BX7.cell 3).trans rfl
 have q4 := (BX7.cell 4).trans rfl
 try go_wp2_with fail
 refine HCP.out.mono ?_
 rintro e w8 ⟨xv,bs8,rfl,hX,hb8⟩
 have hbw8 : Below w.heap.size w w8 := hbw7.trans (hb8.mono hbw7.size)
 have HEN : Hid (Calls Tryz.prog 19 #[xv] w8 (EncP (encA 6 t) w8)) := encode_any hX.trW (by decide) (by have := HFT6.out.2; omega) HFT6.out.1.sm
 have BX8 := BX7.below hb8
 have BS8 := BS7.below hb8
 have HT8 : Hid (TrIn 6 w8 (.agg #[.int .i64 K,.int .i64 N,.string S,.slice x1 x2 x3,.slice x4 x5 x6]) t) := HTI7.out.below hb8
 clear HCP hX hb8 q0 q1 q2 q3 q4 BX7 BS7 HTI7 hbw7 hbw6 BS6
 go_wp2_with fail
 refine Calls.mono HEN.out ?_
 rintro e w9 ⟨ro,rfl,ho,hb9⟩
 have hbw9 : Below w.heap.size w w9 := hbw8.trans (hb9.mono hbw8.size)
 have BX9 := BX8.below hb9
 have BS9 := BS8.below hb9
 have HT9 : Hid (TrIn 6 w9 (.agg #[.int .i64 K,.int .i64 N,.string S,.slice x1 x2 x3,.slice x4 x5 x6]) t) := HT8.out.below hb9
 have HBY : Hid (ByS w9 ro (encA 6 t).1) := ByS.own ho (encA_bytes 6 t)
 have HLE : Hid ((encA 6 t).1.length ≤ 4096 ∧ ∀ k ∈ (encA 6 t).1,k < 256) := ⟨encA_le 6 t,encA_bytes 6 t⟩
 obtain ⟨ya,yc,hro, -,hyb,hyc,hym,hyh⟩ := own_open ho
 have HOW : Hid (((ya = none ∧ (encA 6 t).1 = [] ∧ yc = 0) ∨ ∃ g,ya = some ⟨g,0,none⟩ ∧ w8.heap.size ≤ g ∧ g < w9.heap.size) ∧ Holds w9 ya (encA 6 t).1) := ⟨hyb,hyh⟩
 clear HEN hb9 BX8 BS8 HT8 hbw8 ho hyb hyh
 obtain ⟨Y,hY⟩ : ∃ Y,encA 6 t = Y := ⟨_,rfl⟩
 rw [hY] at HBK HBY HLE HOW hro hyc ⊢
 clear hY
 obtain ⟨Yn,Ye⟩ := Y
 simp only at HBK HBY HLE HOW hro hyc ⊢
 obtain ⟨YL,hYL⟩ : ∃ z,Yn.length = z := ⟨_,rfl⟩
 have HYL : Hid (Yn.length = YL) := hYL
 rw [hYL] at hro hyc
 subst hro
 clear hYL
 by_cases hYe : Ye = 0
 rotate_left
 ·have h4 : Ye = 4 := HBK.out.1.resolve_left hYe
  subst h4
  simp only [show ((4 : Nat) : Int) = 4 from rfl]
  clear hYe BX9 BS9
  go_wp2_with fail
  refine (dcawake_any _).mono ?_
  rintro e wz ⟨rfl,hbz⟩
  have hbwz : Below w.heap.size w wz := hbw9.trans (hbz.mono hbw9.size)
  clear hbz
  go_wp2_with fail
  go_ret
  exact ⟨rfl,hbwz⟩
 subst hYe
 simp only [show ((0 : Nat) : Int) = 0 from rfl]
 have HDC : Hid (decA s mnm Yn = (t,0) ∧ canA s mnm Yn = true) := HBK.out.2 rfl
 have HCS : Hid (Calls Tryz.prog 12 #[.agg #[.string sn,.slice (some ⟨g,off,none⟩) mn mc,.slice ea en ec,.slice ta tn tc]] w9 fun e w' => ∃ r,e = .returned r ∧ ScIn w' r s ∧ Below w9.heap.size w9 w') := schemaD_any (HSC.out.below hbw9) HFS.out.few
 have s0 := (BS9.cell 0).trans rfl
 have s1 := (BS9.cell 1).trans rfl
 have s2 := (BS9.cell 2).trans rfl
 have s3 := (BS9.cell 3).trans rfl
 go_wp2_with fail
 refine HCS.out.mono ?_
 rintro e w10 ⟨sv,rfl,hsv,hb10⟩
 have hbw10 : Below w.heap.size w w10 := hbw9.trans (hb10.mono hbw9.size)
 have HBB : Hid (Calls Tryz.prog 13 #[.slice ya YL yc] w10 fun e w' => ∃ r,e = .returned r ∧ w'.ownsRow w10.heap.size 5 1 r YL (byteCells Yn) ∧ Below w10.heap.size w10 w') := bytes_any ya Yn yc YL w10 HYL.out (by have := HLE.out.1; have := HYL.out; omega) (fun e => by
  rcases HOW.out.1 with h | ⟨g,h,_⟩
  ·exact ⟨h.2.1,h.2.2⟩
  ·rw [e] at h; cases h) (HOW.out.2.below hb10)
 have BS10 := BS9.below hb10
 have BX10 := BX9.below hb10
 have HT10 : Hid (TrIn 6 w10 (.agg #[.int .i64 K,.int .i64 N,.string S,.slice x1 x2 x3,.slice x4 x5 x6]) t) := HT9.out.below hb10
 have HY10 : Hid (ByS w10 (.slice ya YL yc) Yn) := HBY.out.below hb10
 have HSV : Hid (ScIn w10 sv s) := hsv
 clear HCS hsv hb10 BS9 BX9 HT9 HBY hbw9 s0 s1 s2 s3
 go_wp2_with fail
 refine HBB.out.mono ?_
 rintro e w11 ⟨rb,rfl,hob,hb11⟩
 have hbw11 : Below w.heap.size w w11 := hbw10.trans (hb11.mono hbw10.size)
 have HDE : Hid (Calls Tryz.prog 11 #[sv,.string mnm,rb] w11 (DtrP 11 (t,0) w11)) := (by
  have h1 := decode_any (HSV.out.below hb11) HSW.out HFS.out.few (ByS.own hob HLE.out.2) (nm := mnm)
  rw [HDC.out.1] at h1
  exact h1 : Calls Tryz.prog _ _ _ _)
 have BS11 := BS10.below hb11
 have BX11 := BX10.below hb11
 have HT11 : Hid (TrIn 6 w11 (.agg #[.int .i64 K,.int .i64 N,.string S,.slice x1 x2 x3,.slice x4 x5 x6]) t) := HT10.out.below hb11
 have HY11 : Hid (ByS w11 (.slice ya YL yc) Yn) := HY10.out.below hb11
 clear HBB hob hb11 BS10 BX10 HT10 HY10 HSV hbw10
 go_wp2_with fail
 refine HDE.out.mono ?_
 rintro e w12 ⟨r12,bs12,rfl,ht12,hap12,hb12⟩
 have hbw12 : Below w.heap.size w w12 := hbw11.trans (hb12.mono hbw11.size)
 have hTI12 := ht12.trIn
 obtain ⟨a1,n1,c1,a2,n2,c2,rfl⟩ := ht12.open
 have BS12 := BS11.below hb12
 have BX12 := BX11.below hb12
 have HT12 : Hid (TrIn 6 w12 (.agg #[.int .i64 K,.int .i64 N,.string S,.slice x1 x2 x3,.slice x4 x5 x6]) t) := HT11.out.below hb12
 have HY12 : Hid (ByS w12 (.slice ya YL yc) Yn) := HY11.out.below hb12
 clear HDE ht12 hap12 hb12 BS11 BX11 HT11 HY11 hbw11
 simp only at hTI12 ⊢
 generalize t.kind = K2 at *
 generalize t.n = N2 at *
 generalize t.s = S2 at *
 have al13 : Below w12.heap.size w12 (w12.alloc (Obj.cells #[.int .i64 K2,.int .i64 N2,.string S2,.slice a1 n1 c1,.slice a2 n2 c2] 33)) := (Below.refl _ _).alloc (Nat.le_refl _) _
 have hbw13 : Below w.heap.size w (w12.alloc (Obj.cells #[.int .i64 K2,.int .i64 N2,.string S2,.slice a1 n1 c1,.slice a2 n2 c2] 33)) := hbw12.trans (al13.mono hbw12.size)
 have BN13 : Blk (w12.alloc (Obj.cells #[.int .i64 K2,.int .i64 N2,.string S2,.slice a1 n1 c1,.slice a2 n2 c2] 33)) w12.heap.size #[.int .i64 K2,.int .i64 N2,.string S2,.slice a1 n1 c1,.slice a2 n2 c2] 33 := Blk.new w12 _ _
 have BS13 := BS12.below al13
 have HSM : Hid (Calls Tryz.prog 15 #[.agg #[.int .i64 K2,.int .i64 N2,.string S2,.slice a1 n1 c1,.slice a2 n2 c2],.agg #[.int .i64 K,.int .i64 N,.string S,.slice x1 x2 x3,.slice x4 x5 x6]] (w12.alloc (Obj.cells #[.int .i64 K2,.int .i64 N2,.string S2,.slice a1 n1 c1,.slice a2 n2 c2] 33)) fun e w' => e = .returned (.bool true) ∧ Below (w12.alloc (Obj.cells #[.int .i64 K2,.int .i64 N2,.string S2,.slice a1 n1 c1,.slice a2 n2 c2] 33)).heap.size (w12.alloc (Obj.cells #[.int .i64 K2,.int .i64 N2,.string S2,.slice a1 n1 c1,.slice a2 n2 c2] 33)) w') := rsame_eq (hTI12.below al13) (HT12.out.below al13)
 have HY13 : Hid (ByS (w12.alloc (Obj.cells #[.int .i64 K2,.int .i64 N2,.string S2,.slice a1 n1 c1,.slice a2 n2 c2] 33)) (.slice ya YL yc) Yn) := HY12.out.below al13
 have ltX := BX12.lt
 have q0 := (BX12.cell 0).trans rfl
 have q1 := (BX12.cell 1).trans rfl
 have q2 := (BX12.cell 2).trans rfl
 have q3 := (BX12.cell 3).trans rfl
 have q4 := (BX12.cell 4).trans rfl
 clear hTI12 al13 HT12 HY12 BS12 BX12 hbw12
 go_wp2_with fail
 refine HSM.out.mono ?_
 rintro e w14 ⟨rfl,hb14⟩
 have hbw14 : Below w.heap.size w w14 := hbw13.trans (hb14.mono hbw13.size)
 have BS14 := BS13.below hb14
 have HCA : Hid (Calls Tryz.prog 16 #[.agg #[.string sn,.slice (some ⟨g,off,none⟩) mn mc,.slice ea en ec,.slice ta tn tc],.string mnm,.slice ya YL yc] w14 fun e w' => e = .returned (.bool true) ∧ Below w14.heap.size w14 w') := (by
  have h1 := canonical_any (HSC.out.below hbw14) HSW.out HFS.out.few (HY13.out.below hb14) (nm := mnm)
  rw [HDC.out.2] at h1
  exact h1 : Calls Tryz.prog _ _ _ _)
 clear HSM hb14 q0 q1 q2 q3 q4 ltX BN13 BS13 HY13 hbw13
 have s0 := (BS14.cell 0).trans rfl
 have s1 := (BS14.cell 1).trans rfl
 have s2 := (BS14.cell 2).trans rfl
 have s3 := (BS14.cell 3).trans rfl
 go_wp2_with fail
 refine HCA.out.mono ?_
 rintro e w15 ⟨rfl,hb15⟩
 have hbw15 : Below w.heap.size w w15 := hbw14.trans (hb15.mono hbw14.size)
 clear HCA hb15 s0 s1 s2 s3 BS14
 go_wp2_with fail
 refine (dcawake_any _).mono ?_
 rintro e wz ⟨rfl,hbz⟩
 have hbwz : Below w.heap.size w wz := hbw15.trans (hbz.mono hbw15.size)
 clear hbz
 go_wp2_with fail
 go_ret
 exact ⟨rfl,hbwz⟩
end Go.Proofs.YtiajaocckkghgaaGreat

/- Part 14 of what the proof stands on. -/
import Derived.Test.YtfnjbbaphmmjlaaGreatPkAM
namespace Go.Proofs.YtfnjbbaphmmjlaaGreat
set_option linter.unusedVariables false
set_option linter.unusedSimpArgs false
section
open Go.ChangeShapes Go.WideShapes Go.ChangeAt Go.RowKit
set_option maxRecDepth 20000
section
variable {M : ByteArray → Tr → Int} {f : FlS} {x : Tr}
theorem row_sliceV {w : World} {v : Value} {size : Nat} {rs : List (List Value)} (h : RowG w v size rs) : ∃ a n c,v = .slice a n c := by
 obtain ⟨a,c,h,_⟩ := h.form
 exact ⟨a,_,c,h⟩
theorem oneV_type (h : x.kind ≠ kindT f.kind) : oneV M f x = 8 := by
 have h1 : treeV M f.kind f.tname x = 8 := by rw [treeV,if_pos h]
 rw [oneV,h1,if_pos (by decide)]
theorem oneV_range (h : x.kind = kindT f.kind) (h2 : x.kind = 1) (h3 : nmrB f.kind x.n = false) : oneV M f x = 11 := by
 have h1 : treeV M f.kind f.tname x = 11 := by rw [treeV,if_neg (by simp [h]),if_pos ⟨h2,h3⟩]
 rw [oneV,h1,if_pos (by decide)]
theorem oneV_text (h : x.kind = kindT f.kind) (h2 : ¬ (x.kind = 1 ∧ nmrB f.kind x.n = false)) (h3 : f.kind = 4) (h4 : validB x.s.data.toList = false) : oneV M f x = 9 := by
 have h1 : treeV M f.kind f.tname x = 9 := by rw [treeV,if_neg (by simp [h]),if_neg h2,if_pos ⟨h3,h4⟩]
 rw [oneV,h1,if_pos (by decide)]
theorem treeV_last (h : x.kind = kindT f.kind) (h2 : ¬ (x.kind = 1 ∧ nmrB f.kind x.n = false)) (h3 : ¬ (f.kind = 4 ∧ validB x.s.data.toList = false)) : treeV M f.kind f.tname x = if x.kind = 3 then M f.tname x else 0 := by
 rw [treeV,if_neg (by simp [h]),if_neg h2,if_neg h3]
theorem oneV_bad (h : treeV M f.kind f.tname x ≠ 0) : oneV M f x = treeV M f.kind f.tname x := by rw [oneV,if_pos h]
theorem oneV_fin (h : treeV M f.kind f.tname x = 0) : oneV M f x = if f.label = 1 ∧ zroB x = true then 12 else 0 := by rw [oneV,if_neg (by simp [h])]
end
set_option maxHeartbeats 8000000 in
theorem rone_step (n : Nat) {s : ScS} (sn : ByteArray) (ma ea ta : Option Addr) (mn mc en ec tn tc : Nat) (x : Tr) (K N : Int) (S : ByteArray) (a1 a2 : Option Addr) (n1 c1 n2 c2 : Nat) (y1 : ByteArray) (y2 y3 y4 : Int) (y5 : ByteArray) (w0 w : World) (hw0 : Below w0.heap.size w0 w) (hms : MsIn w0 (.slice ma mn mc) s.msgs)
  (hxk : x.kind = K ∧ x.n = N ∧ x.s = S ∧ x.es.length = n1 ∧ x.rest.length = n2) (hS : S.size ≤ 5000) (hk : 1 ≤ y4 ∧ y4 ≤ 7)
  (IM : x.kind = 3 → ∀ (W : World) (qn : ByteArray) (vf vr : Value),Below w0.heap.size w0 W → RowG w0 vf 5 (flRows ((msgOf s y5).getD zMs).fields) → RowG w0 vr 1 (inRows ((msgOf s y5).getD zMs).reserved) → Calls Tryz.prog 38 #[.agg #[.string sn,.slice ma mn mc,.slice ea en ec,.slice ta tn tc],.agg #[.string qn,vf,vr],.agg #[.int .i64 K,.int .i64 N,.string S,.slice a1 n1 c1,.slice a2 n2 c2]] W fun e w' => e = .returned (.int .i64 (msgV n s y5 x)) ∧ Below W.heap.size W w') :
  Calls Tryz.prog 68 #[.agg #[.string sn,.slice ma mn mc,.slice ea en ec,.slice ta tn tc],.agg #[.string y1,.int .i64 y2,.int .i64 y3,.int .i64 y4,.string y5],.agg #[.int .i64 K,.int .i64 N,.string S,.slice a1 n1 c1,.slice a2 n2 c2]] w fun e w' => e = .returned (.int .i64 (oneV (msgV n s) (⟨y1,y2,y3,y4,y5⟩ : FlS) x)) ∧ Below w.heap.size w w' := by
 have HX : Hid (x.kind = K ∧ x.n = N ∧ x.s = S ∧ x.es.length = n1 ∧ x.rest.length = n2) := hxk
 have HIM : Hid (x.kind = 3 → ∀ (W : World) (qn : ByteArray) (vf vr : Value),Below w0.heap.size w0 W → RowG w0 vf 5 (flRows ((msgOf s y5).getD zMs).fields) → RowG w0 vr 1 (inRows ((msgOf s y5).getD zMs).reserved) → Calls Tryz.prog 38 #[.agg #[.string sn,.slice ma mn mc,.slice ea en ec,.slice ta tn tc],.agg #[.string qn,vf,vr],.agg #[.int .i64 K,.int .i64 N,.string S,.slice a1 n1 c1,.slice a2 n2 c2]] W fun e w' => e = .returned (.int .i64 (msgV n s y5 x)) ∧ Below W.heap.size W w') := IM
 have HMS : Hid (MsIn w0 (.slice ma mn mc) s.msgs ∧ Below w0.heap.size w0 w) := ⟨hms,hw0⟩
 have HS : Hid (S.size ≤ 5000) := hS
 have al1 : Below w.heap.size w (w.alloc (Obj.cells #[.string sn,.slice ma mn mc,.slice ea en ec,.slice ta tn tc] 26)) := (Below.refl _ _).alloc (Nat.le_refl _) _
 have hZb : Below w.heap.size w (((w.alloc (Obj.cells #[.string sn,.slice ma mn mc,.slice ea en ec,.slice ta tn tc] 26)).alloc (Obj.cells #[.string y1,.int .i64 y2,.int .i64 y3,.int .i64 y4,.string y5] 54)).alloc (Obj.cells #[.int .i64 K,.int .i64 N,.string S,.slice a1 n1 c1,.slice a2 n2 c2] 30)) := (al1.alloc (by simp) _).alloc (by simp; omega) _
 have BS : Blk (((w.alloc (Obj.cells #[.string sn,.slice ma mn mc,.slice ea en ec,.slice ta tn tc] 26)).alloc (Obj.cells #[.string y1,.int .i64 y2,.int .i64 y3,.int .i64 y4,.string y5] 54)).alloc (Obj.cells #[.int .i64 K,.int .i64 N,.string S,.slice a1 n1 c1,.slice a2 n2 c2] 30)) w.heap.size #[.string sn,.slice ma mn mc,.slice ea en ec,.slice ta tn tc] 26 := ((Blk.new w _ _).below ((Below.refl _ _).alloc (Nat.le_refl _) _)).below ((Below.refl _ _).alloc (Nat.le_refl _) _)
 have BF : Blk (((w.alloc (Obj.cells #[.string sn,.slice ma mn mc,.slice ea en ec,.slice ta tn tc] 26)).alloc (Obj.cells #[.string y1,.int .i64 y2,.int .i64 y3,.int .i64 y4,.string y5] 54)).alloc (Obj.cells #[.int .i64 K,.int .i64 N,.string S,.slice a1 n1 c1,.slice a2 n2 c2] 30)) (w.heap.size + 1) #[.string y1,.int .i64 y2,.int .i64 y3,.int .i64 y4,.string y5] 54 := by
  have := Blk.new (w.alloc (Obj.cells #[.string sn,.slice ma mn mc,.slice ea en ec,.slice ta tn tc] 26)) #[.string y1,.int .i64 y2,.int .i64 y3,.int .i64 y4,.string y5] 54
  rw [show (w.alloc (Obj.cells #[.string sn,.slice ma mn mc,.slice ea en ec,.slice ta tn tc] 26)).heap.size = w.heap.size + 1 from by simp] at this
  exact this.below ((Below.refl _ _).alloc (Nat.le_refl _) _)
 have BT : Blk (((w.alloc (Obj.cells #[.string sn,.slice ma mn mc,.slice ea en ec,.slice ta tn tc] 26)).alloc (Obj.cells #[.string y1,.int .i64 y2,.int .i64 y3,.int .i64 y4,.string y5] 54)).alloc (Obj.cells #[.int .i64 K,.int .i64 N,.string S,.slice a1 n1 c1,.slice a2 n2 c2] 30)) (w.heap.size + 1 + 1) #[.int .i64 K,.int .i64 N,.string S,.slice a1 n1 c1,.slice a2 n2 c2] 30 := by
  have := Blk.new ((w.alloc (Obj.cells #[.string sn,.slice ma mn mc,.slice ea en ec,.slice ta tn tc] 26)).alloc (Obj.cells #[.string y1,.int .i64 y2,.int .i64 y3,.int .i64 y4,.string y5] 54)) #[.int .i64 K,.int .i64 N,.string S,.slice a1 n1 c1,.slice a2 n2 c2] 30
  rwa [show ((w.alloc (Obj.cells #[.string sn,.slice ma mn mc,.slice ea en ec,.slice ta tn tc] 26)).alloc (Obj.cells #[.string y1,.int .i64 y2,.int .i64 y3,.int .i64 y4,.string y5] 54)).heap.size = w.heap.size + 1 + 1 from by simp] at this
 obtain ⟨KT,hKT⟩ : ∃ z,kindT y4 = z := ⟨_,rfl⟩
 have HKT : Hid (kindT y4 = KT) := hKT
 have HKC : Hid (∀ W,Calls Tryz.prog 49 #[.agg #[.int .i64 y4,.string y5]] W fun e w' => e = .returned (.int .i64 KT) ∧ Below W.heap.size W w') := fun W => by
  have := rkind_any y4 y5 W hk
  rw [hKT] at this
  exact this
 have HK7 : Hid (1 ≤ y4 ∧ y4 ≤ 7) := hk
 clear hxk hms hw0 IM hS hk hKT al1
 go_enter Tryz.func68,Tryz.ntmps68
 go_upto_region 1 with fail
 generalize (((w.alloc (Obj.cells #[.string sn,.slice ma mn mc,.slice ea en ec,.slice ta tn tc] 26)).alloc (Obj.cells #[.string y1,.int .i64 y2,.int .i64 y3,.int .i64 y4,.string y5] 54)).alloc (Obj.cells #[.int .i64 K,.int .i64 N,.string S,.slice a1 n1 c1,.slice a2 n2 c2] 30)) = Z at *
 obtain ⟨q,hq⟩ : ∃ z,w.heap.size = z := ⟨_,rfl⟩
 have HQ : Hid (w.heap.size = q) := hq
 rw [hq] at BS BF BT
 simp only [hq]
 clear hq
 have hS : Below Z.heap.size Z Z.drew := (Below.refl _ _).drew
 by_cases hKK : K = KT
 rotate_left
 ·have dK : (K != KT) = true := by simpa using hKK
  have HV : Hid (oneV (msgV n s) (⟨y1,y2,y3,y4,y5⟩ : FlS) x = 8) := oneV_type (by rw [HX.out.1]; show K ≠ kindT y4; rw [HKT.out]; exact hKK)
  clear hKK
  refine wp_region_held_drew (S := fun w' => Below Z.heap.size Z w') (by kernel_rfl) hS (fun hS => ?_)
  refine rg_take 0 11 (.pointer (some ⟨q + 1 + 1,0,none⟩)) _ rfl rfl (by kernel_rfl) (by kernel_rfl) (by kernel_rfl) (fun _ _ _ h => h) (by rfl) (fun w' hw' => ?_) hS (listed' := bts 7 1) (by kernel_rfl) rfl ?_
  ·go_simp
  simp only [zsA,zsZ,zsS]
  refine rg_take 1 12 (.int .i64 K) _ rfl rfl (by kernel_rfl) (by kernel_rfl) (by kernel_rfl) (fun _ _ _ h => h) (by rfl) (fun w' hw' => ?_) hS (listed' := bts 7 3) (by kernel_rfl) rfl ?_
  ·have f0 := ((BT.below hw').cell 0).trans rfl; go_simp
  simp only [zsA,zsZ,zsS]
  refine rg_take 2 13 (.pointer (some ⟨q + 1,3,none⟩)) _ rfl rfl (by kernel_rfl) (by kernel_rfl) (by kernel_rfl) (fun _ _ _ h => h) (by rfl) (fun w' hw' => ?_) hS (listed' := bts 7 7) (by kernel_rfl) rfl ?_
  ·go_simp
  simp only [zsA,zsZ,zsS]
  refine rg_take 3 14 (.agg #[.int .i64 y4,.string y5]) _ rfl rfl (by kernel_rfl) (by kernel_rfl) (by kernel_rfl) (fun _ _ _ h => h) (by rfl) (fun w' hw' => ?_) hS (listed' := bts 7 15) (by kernel_rfl) rfl ?_
  ·have f3 := ((BF.below hw').cell 3).trans rfl; have f4 := ((BF.below hw').cell 4).trans rfl; go_simp
  simp only [zsA,zsZ,zsS]
  refine rg_call 4 15 49 #[.agg #[.int .i64 y4,.string y5]] rfl rfl (by kernel_rfl) (by rfl) (listed' := bts 7 31) (by kernel_rfl) (fun W => by go_simp) ?_
  refine (HKC.out _).mono ?_
  rintro ee W1 ⟨rfl,hbW1⟩
  have hS0 := hS
  have hS : Below Z.heap.size Z W1 := hS0.trans (hbW1.mono hS0.size)
  clear hS0 hbW1
  refine ⟨_,rfl,hS,?_⟩
  simp only [zsA,zsZ,zsS]
  refine rg_take 5 16 (.bool true) _ rfl rfl (by kernel_rfl) (by kernel_rfl) (by kernel_rfl) (fun _ _ _ h => h) (by rfl) (fun w' hw' => ?_) hS (listed' := bts 7 63) (by kernel_rfl) rfl ?_
  ·go_simp
  simp only [zsA,zsZ,zsS]
  refine rg_take 6 10 (.bool true) _ rfl rfl (by kernel_rfl) (by kernel_rfl) (by kernel_rfl) (fun _ _ _ h => h) (by rfl) (fun w' hw' => ?_) hS (listed' := bts 7 127) (by kernel_rfl) rfl ?_
  ·go_simp
  simp only [zsA,zsZ,zsS]
  refine wpAnyH_done (by kernel_rfl) ?_ _
  have hbw1 : Below w.heap.size w W1 := hZb.trans (hS.mono hZb.size)
  have BS1 := BS.below hS
  have BF1 := BF.below hS
  have BT1 := BT.below hS
  clear hS BS BF BT hZb HKC
  clear dK BS1 BF1 BT1
  go_wp2_with fail
  go_ret
  exact ⟨congrArg (fun z : Int => Ending.returned (Value.int .i64 z)) HV.out.symm,hbw1⟩
 ·subst hKK
  have dK : (K != K) = false := by simp
  refine wp_region_held_drew (S := fun w' => Below Z.heap.size Z w') (by kernel_rfl) hS (fun hS => ?_)
  refine rg_take 0 11 (.pointer (some ⟨q + 1 + 1,0,none⟩)) _ rfl rfl (by kernel_rfl) (by kernel_rfl) (by kernel_rfl) (fun _ _ _ h => h) (by rfl) (fun w' hw' => ?_) hS (listed' := bts 7 1) (by kernel_rfl) rfl ?_
  ·go_simp
  simp only [zsA,zsZ,zsS]
  refine rg_take 1 12 (.int .i64 K) _ rfl rfl (by kernel_rfl) (by kernel_rfl) (by kernel_rfl) (fun _ _ _ h => h) (by rfl) (fun w' hw' => ?_) hS (listed' := bts 7 3) (by kernel_rfl) rfl ?_
  ·have f0 := ((BT.below hw').cell 0).trans rfl; go_simp
  simp only [zsA,zsZ,zsS]
  refine rg_take 2 13 (.pointer (some ⟨q + 1,3,none⟩)) _ rfl rfl (by kernel_rfl) (by kernel_rfl) (by kernel_rfl) (fun _ _ _ h => h) (by rfl) (fun w' hw' => ?_) hS (listed' := bts 7 7) (by kernel_rfl) rfl ?_
  ·go_simp
  simp only [zsA,zsZ,zsS]
  refine rg_take 3 14 (.agg #[.int .i64 y4,.string y5]) _ rfl rfl (by kernel_rfl) (by kernel_rfl) (by kernel_rfl) (fun _ _ _ h => h) (by rfl) (fun w' hw' => ?_) hS (listed' := bts 7 15) (by kernel_rfl) rfl ?_
  ·have f3 := ((BF.below hw').cell 3).trans rfl; have f4 := ((BF.below hw').cell 4).trans rfl; go_simp
  simp only [zsA,zsZ,zsS]
  refine rg_call 4 15 49 #[.agg #[.int .i64 y4,.string y5]] rfl rfl (by kernel_rfl) (by rfl) (listed' := bts 7 31) (by kernel_rfl) (fun W => by go_simp) ?_
  refine (HKC.out _).mono ?_
  rintro ee W1 ⟨rfl,hbW1⟩
  have hS0 := hS
  have hS : Below Z.heap.size Z W1 := hS0.trans (hbW1.mono hS0.size)
  clear hS0 hbW1
  refine ⟨_,rfl,hS,?_⟩
  simp only [zsA,zsZ,zsS]
  refine rg_take 5 16 (.bool false) _ rfl rfl (by kernel_rfl) (by kernel_rfl) (by kernel_rfl) (fun _ _ _ h => h) (by rfl) (fun w' hw' => ?_) hS (listed' := bts 7 63) (by kernel_rfl) rfl ?_
  ·go_simp
  simp only [zsA,zsZ,zsS]
  refine rg_take 6 10 (.bool false) _ rfl rfl (by kernel_rfl) (by kernel_rfl) (by kernel_rfl) (fun _ _ _ h => h) (by rfl) (fun w' hw' => ?_) hS (listed' := bts 7 127) (by kernel_rfl) rfl ?_
  ·go_simp
  simp only [zsA,zsZ,zsS]
  refine wpAnyH_done (by kernel_rfl) ?_ _
  have hbw1 : Below w.heap.size w W1 := hZb.trans (hS.mono hZb.size)
  have BS1 := BS.below hS
  have BF1 := BF.below hS
  have BT1 := BT.below hS
  clear hS BS BF BT hZb HKC
  clear dK
  obtain ⟨hk1,hk2⟩ := HK7.out
  have hc : y4 = 1 ∨ y4 = 2 ∨ y4 = 3 ∨ y4 = 6 ∨ y4 = 4 ∨ y4 = 5 ∨ y4 = 7 := by omega
  clear hk1 hk2 HK7
  have HZC : Hid (∀ W,Calls Tryz.prog 17 #[.agg #[.int .i64 K,.int .i64 N,.string S,.slice a1 n1 c1,.slice a2 n2 c2]] W fun e w' => e = .returned (.bool (zroB x)) ∧ Below W.heap.size W w') := fun W => by
   obtain ⟨e1,e2,e3,e4,e5⟩ := HX.out
   have := rzero_any x a1 a2 n1 c1 n2 c2 W e4.symm e5.symm
   rw [e1,e2,e3] at this
   exact this
  obtain ⟨ZB,hZB⟩ : ∃ z,zroB x = z := ⟨_,rfl⟩
  have HZB : Hid (zroB x = ZB) := hZB
  rw [hZB] at HZC
  clear hZB
  rcases hc with rfl | rfl | rfl | rfl | rfl | rfl | rfl
  ·have hK1 : (1 : Int) = K := HKT.out
   subst hK1
   have HNC : Hid (∀ W,Calls Tryz.prog 15 #[.agg #[.int .i64 1,.string y5],.int .i64 N] W fun e w' => e = .returned (.bool (nmrB 1 N)) ∧ Below W.heap.size W w') := fun W => rnumber_any 1 N y5 W
   obtain ⟨NB,hNB⟩ : ∃ z,nmrB 1 N = z := ⟨_,rfl⟩
   have HNB : Hid (nmrB 1 N = NB) := hNB
   rw [hNB] at HNC
   clear hNB
   have fa3 := (BF1.cell 3).trans rfl
   have fa4 := (BF1.cell 4).trans rfl
   have ta0 := (BT1.cell 0).trans rfl
   have ta1 := (BT1.cell 1).trans rfl
   go_wp2_with fail
   refine (HNC.out _).mono ?_
   rintro ee W2 ⟨rfl,hb2⟩
   have hbw2 : Below w.heap.size w W2 := hbw1.trans (hb2.mono hbw1.size)
   have BF2 := BF1.below hb2
   have BT2 := BT1.below hb2
   clear hb2 hbw1 BF1 BT1 BS1 fa3 fa4 ta0 ta1 HNC
   cases NB with
   | false =>
    have HV : Hid (oneV (msgV n s) (⟨y1,y2,y3,1,y5⟩ : FlS) x = 11) := oneV_range (by rw [HX.out.1]; rfl) HX.out.1 (by rw [HX.out.2.1]; exact HNB.out)
    go_wp2_with fail
    go_ret
    exact ⟨congrArg (fun z : Int => Ending.returned (Value.int .i64 z)) HV.out.symm,hbw2⟩
   | true =>
    have HTZ : ∀ z : Int,Hid (treeV (msgV n s) (⟨y1,y2,z,1,y5⟩ : FlS).kind (⟨y1,y2,z,1,y5⟩ : FlS).tname x = 0) := fun z => (by
     rw [treeV_last (f := ⟨y1,y2,z,1,y5⟩) (by rw [HX.out.1]; rfl) (fun h => by rw [HX.out.2.1,HNB.out] at h; cases h.2) (fun h => by have := h.1; simp at this),if_neg (by rw [HX.out.1]; decide)] : treeV (msgV n s) (⟨y1,y2,z,1,y5⟩ : FlS).kind (⟨y1,y2,z,1,y5⟩ : FlS).tname x = 0)
    have fb2 := (BF2.cell 2).trans rfl
    have fb3 := (BF2.cell 3).trans rfl
    have fb4 := (BF2.cell 4).trans rfl
    have tb0 := (BT2.cell 0).trans rfl
    have tb1 := (BT2.cell 1).trans rfl
    have tb2 := (BT2.cell 2).trans rfl
    have tb3 := (BT2.cell 3).trans rfl
    have tb4 := (BT2.cell 4).trans rfl
    by_cases hl : y3 = 1
    ·subst hl
     have HV : Hid (oneV (msgV n s) (⟨y1,y2,1,1,y5⟩ : FlS) x = if ZB = true then 12 else 0) := (by
      rw [oneV_fin (HTZ _).out,HZB.out]
      simp : oneV (msgV n s) (⟨y1,y2,1,1,y5⟩ : FlS) x = if ZB = true then 12 else 0)
     go_wp2_with fail
     refine (HZC.out _).mono ?_
     rintro ee Wz ⟨rfl,hbz⟩
     have hbwz : Below w.heap.size w Wz := hbw2.trans (hbz.mono hbw2.size)
     clear hbz fb2 fb3 fb4 tb0 tb1 tb2 tb3 tb4
     cases ZB with
     | true =>
      go_wp2_with fail
      go_ret
      exact ⟨congrArg (fun z : Int => Ending.returned (Value.int .i64 z)) HV.out.symm,hbwz⟩
     | false =>
      go_wp2_with fail
      go_ret
      exact ⟨congrArg (fun z : Int => Ending.returned (Value.int .i64 z)) HV.out.symm,hbwz⟩
    ·have dl : (y3 == 1) = false := by simpa using hl
     have HV : Hid (oneV (msgV n s) (⟨y1,y2,y3,1,y5⟩ : FlS) x = 0) := (by
      rw [oneV_fin (HTZ _).out,if_neg (fun h => hl h.1)] : oneV (msgV n s) (⟨y1,y2,y3,1,y5⟩ : FlS) x = 0)
     clear hl
     go_wp2_with fail
     go_ret
     exact ⟨congrArg (fun z : Int => Ending.returned (Value.int .i64 z)) HV.out.symm,hbw2⟩
  ·have hK1 : (1 : Int) = K := HKT.out
   subst hK1
   have HNC : Hid (∀ W,Calls Tryz.prog 15 #[.agg #[.int .i64 2,.string y5],.int .i64 N] W fun e w' => e = .returned (.bool (nmrB 2 N)) ∧ Below W.heap.size W w') := fun W => rnumber_any 2 N y5 W
   obtain ⟨NB,hNB⟩ : ∃ z,nmrB 2 N = z := ⟨_,rfl⟩
   have HNB : Hid (nmrB 2 N = NB) := hNB
   rw [hNB] at HNC
   clear hNB
   have fa3 := (BF1.cell 3).trans rfl
   have fa4 := (BF1.cell 4).trans rfl
   have ta0 := (BT1.cell 0).trans rfl
   have ta1 := (BT1.cell 1).trans rfl
   go_wp2_with fail
   refine (HNC.out _).mono ?_
   rintro ee W2 ⟨rfl,hb2⟩
   have hbw2 : Below w.heap.size w W2 := hbw1.trans (hb2.mono hbw1.size)
   have BF2 := BF1.below hb2
   have BT2 := BT1.below hb2
   clear hb2 hbw1 BF1 BT1 BS1 fa3 fa4 ta0 ta1 HNC
   cases NB with
   | false =>
    have HV : Hid (oneV (msgV n s) (⟨y1,y2,y3,2,y5⟩ : FlS) x = 11) := oneV_range (by rw [HX.out.1]; rfl) HX.out.1 (by rw [HX.out.2.1]; exact HNB.out)
    go_wp2_with fail
    go_ret
    exact ⟨congrArg (fun z : Int => Ending.returned (Value.int .i64 z)) HV.out.symm,hbw2⟩
   | true =>
    have HTZ : ∀ z : Int,Hid (treeV (msgV n s) (⟨y1,y2,z,2,y5⟩ : FlS).kind (⟨y1,y2,z,2,y5⟩ : FlS).tname x = 0) := fun z => (by
     rw [treeV_last (f := ⟨y1,y2,z,2,y5⟩) (by rw [HX.out.1]; rfl) (fun h => by rw [HX.out.2.1,HNB.out] at h; cases h.2) (fun h => by have := h.1; simp at this),if_neg (by rw [HX.out.1]; decide)] : treeV (msgV n s) (⟨y1,y2,z,2,y5⟩ : FlS).kind (⟨y1,y2,z,2,y5⟩ : FlS).tname x = 0)
    have fb2 := (BF2.cell 2).trans rfl
    have fb3 := (BF2.cell 3).trans rfl
    have fb4 := (BF2.cell 4).trans rfl
    have tb0 := (BT2.cell 0).trans rfl
    have tb1 := (BT2.cell 1).trans rfl
    have tb2 := (BT2.cell 2).trans rfl
    have tb3 := (BT2.cell 3).trans rfl
    have tb4 := (BT2.cell 4).trans rfl
    by_cases hl : y3 = 1
    ·subst hl
     have HV : Hid (oneV (msgV n s) (⟨y1,y2,1,2,y5⟩ : FlS) x = if ZB = true then 12 else 0) := (by
      rw [oneV_fin (HTZ _).out,HZB.out]
      simp : oneV (msgV n s) (⟨y1,y2,1,2,y5⟩ : FlS) x = if ZB = true then 12 else 0)
     go_wp2_with fail
     refine (HZC.out _).mono ?_
     rintro ee Wz ⟨rfl,hbz⟩
     have hbwz : Below w.heap.size w Wz := hbw2.trans (hbz.mono hbw2.size)
     clear hbz fb2 fb3 fb4 tb0 tb1 tb2 tb3 tb4
     cases ZB with
     | true =>
      go_wp2_with fail
      go_ret
      exact ⟨congrArg (fun z : Int => Ending.returned (Value.int .i64 z)) HV.out.symm,hbwz⟩
     | false =>
      go_wp2_with fail
      go_ret
      exact ⟨congrArg (fun z : Int => Ending.returned (Value.int .i64 z)) HV.out.symm,hbwz⟩
    ·have dl : (y3 == 1) = false := by simpa using hl
     have HV : Hid (oneV (msgV n s) (⟨y1,y2,y3,2,y5⟩ : FlS) x = 0) := (by
      rw [oneV_fin (HTZ _).out,if_neg (fun h => hl h.1)] : oneV (msgV n s) (⟨y1,y2,y3,2,y5⟩ : FlS) x = 0)
     clear hl
     go_wp2_with fail
     go_ret
     exact ⟨congrArg (fun z : Int => Ending.returned (Value.int .i64 z)) HV.out.symm,hbw2⟩
  ·have hK1 : (1 : Int) = K := HKT.out
   subst hK1
   have HNC : Hid (∀ W,Calls Tryz.prog 15 #[.agg #[.int .i64 3,.string y5],.int .i64 N] W fun e w' => e = .returned (.bool (nmrB 3 N)) ∧ Below W.heap.size W w') := fun W => rnumber_any 3 N y5 W
   obtain ⟨NB,hNB⟩ : ∃ z,nmrB 3 N = z := ⟨_,rfl⟩
   have HNB : Hid (nmrB 3 N = NB) := hNB
   rw [hNB] at HNC
   clear hNB
   have fa3 := (BF1.cell 3).trans rfl
   have fa4 := (BF1.cell 4).trans rfl
   have ta0 := (BT1.cell 0).trans rfl
   have ta1 := (BT1.cell 1).trans rfl
   go_wp2_with fail
   refine (HNC.out _).mono ?_
   rintro ee W2 ⟨rfl,hb2⟩
   have hbw2 : Below w.heap.size w W2 := hbw1.trans (hb2.mono hbw1.size)
   have BF2 := BF1.below hb2
   have BT2 := BT1.below hb2
   clear hb2 hbw1 BF1 BT1 BS1 fa3 fa4 ta0 ta1 HNC
   cases NB with
   | false =>
    have HV : Hid (oneV (msgV n s) (⟨y1,y2,y3,3,y5⟩ : FlS) x = 11) := oneV_range (by rw [HX.out.1]; rfl) HX.out.1 (by rw [HX.out.2.1]; exact HNB.out)
    go_wp2_with fail
    go_ret
    exact ⟨congrArg (fun z : Int => Ending.returned (Value.int .i64 z)) HV.out.symm,hbw2⟩
   | true =>
    have HTZ : ∀ z : Int,Hid (treeV (msgV n s) (⟨y1,y2,z,3,y5⟩ : FlS).kind (⟨y1,y2,z,3,y5⟩ : FlS).tname x = 0) := fun z => (by
     rw [treeV_last (f := ⟨y1,y2,z,3,y5⟩) (by rw [HX.out.1]; rfl) (fun h => by rw [HX.out.2.1,HNB.out] at h; cases h.2) (fun h => by have := h.1; simp at this),if_neg (by rw [HX.out.1]; decide)] : treeV (msgV n s) (⟨y1,y2,z,3,y5⟩ : FlS).kind (⟨y1,y2,z,3,y5⟩ : FlS).tname x = 0)
    have fb2 := (BF2.cell 2).trans rfl
    have fb3 := (BF2.cell 3).trans rfl
    have fb4 := (BF2.cell 4).trans rfl
    have tb0 := (BT2.cell 0).trans rfl
    have tb1 := (BT2.cell 1).trans rfl
    have tb2 := (BT2.cell 2).trans rfl
    have tb3 := (BT2.cell 3).trans rfl
    have tb4 := (BT2.cell 4).trans rfl
    by_cases hl : y3 = 1
    ·subst hl
     have HV : Hid (oneV (msgV n s) (⟨y1,y2,1,3,y5⟩ : FlS) x = if ZB = true then 12 else 0) := (by
      rw [oneV_fin (HTZ _).out,HZB.out]
      simp : oneV (msgV n s) (⟨y1,y2,1,3,y5⟩ : FlS) x = if ZB = true then 12 else 0)
     go_wp2_with fail
     refine (HZC.out _).mono ?_
     rintro ee Wz ⟨rfl,hbz⟩
     have hbwz : Below w.heap.size w Wz := hbw2.trans (hbz.mono hbw2.size)
     clear hbz fb2 fb3 fb4 tb0 tb1 tb2 tb3 tb4
     cases ZB with
     | true =>
      go_wp2_with fail
      go_ret
      exact ⟨congrArg (fun z : Int => Ending.returned (Value.int .i64 z)) HV.out.symm,hbwz⟩
     | false =>
      go_wp2_with fail
      go_ret
      exact ⟨congrArg (fun z : Int => Ending.returned (Value.int .i64 z)) HV.out.symm,hbwz⟩
    ·have dl : (y3 == 1) = false := by simpa using hl
     have HV : Hid (oneV (msgV n s) (⟨y1,y2,y3,3,y5⟩ : FlS) x = 0) := (by
      rw [oneV_fin (HTZ _).out,if_neg (fun h => hl h.1)] : oneV (msgV n s) (⟨y1,y2,y3,3,y5⟩ : FlS) x = 0)
     clear hl
     go_wp2_with fail
     go_ret
     exact ⟨congrArg (fun z : Int => Ending.returned (Value.int .i64 z)) HV.out.symm,hbw2⟩
  ·have hK1 : (1 : Int) = K := HKT.out
   subst hK1
   have HNC : Hid (∀ W,Calls Tryz.prog 15 #[.agg #[.int .i64 6,.string y5],.int .i64 N] W fun e w' => e = .returned (.bool (nmrB 6 N)) ∧ Below W.heap.size W w') := fun W => rnumber_any 6 N y5 W
   obtain ⟨NB,hNB⟩ : ∃ z,nmrB 6 N = z := ⟨_,rfl⟩
   have HNB : Hid (nmrB 6 N = NB) := hNB
   rw [hNB] at HNC
   clear hNB
   have fa3 := (BF1.cell 3).trans rfl
   have fa4 := (BF1.cell 4).trans rfl
   have ta0 := (BT1.cell 0).trans rfl
   have ta1 := (BT1.cell 1).trans rfl
   go_wp2_with fail
   refine (HNC.out _).mono ?_
   rintro ee W2 ⟨rfl,hb2⟩
   have hbw2 : Below w.heap.size w W2 := hbw1.trans (hb2.mono hbw1.size)
   have BF2 := BF1.below hb2
   have BT2 := BT1.below hb2
   clear hb2 hbw1 BF1 BT1 BS1 fa3 fa4 ta0 ta1 HNC
   cases NB with
   | false =>
    have HV : Hid (oneV (msgV n s) (⟨y1,y2,y3,6,y5⟩ : FlS) x = 11) := oneV_range (by rw [HX.out.1]; rfl) HX.out.1 (by rw [HX.out.2.1]; exact HNB.out)
    go_wp2_with fail
    go_ret
    exact ⟨congrArg (fun z : Int => Ending.returned (Value.int .i64 z)) HV.out.symm,hbw2⟩
   | true =>
    have HTZ : ∀ z : Int,Hid (treeV (msgV n s) (⟨y1,y2,z,6,y5⟩ : FlS).kind (⟨y1,y2,z,6,y5⟩ : FlS).tname x = 0) := fun z => (by
     rw [treeV_last (f := ⟨y1,y2,z,6,y5⟩) (by rw [HX.out.1]; rfl) (fun h => by rw [HX.out.2.1,HNB.out] at h; cases h.2) (fun h => by have := h.1; simp at this),if_neg (by rw [HX.out.1]; decide)] : treeV (msgV n s) (⟨y1,y2,z,6,y5⟩ : FlS).kind (⟨y1,y2,z,6,y5⟩ : FlS).tname x = 0)
    have fb2 := (BF2.cell 2).trans rfl
    have fb3 := (BF2.cell 3).trans rfl
    have fb4 := (BF2.cell 4).trans rfl
    have tb0 := (BT2.cell 0).trans rfl
    have tb1 := (BT2.cell 1).trans rfl
    have tb2 := (BT2.cell 2).trans rfl
    have tb3 := (BT2.cell 3).trans rfl
    have tb4 := (BT2.cell 4).trans rfl
    by_cases hl : y3 = 1
    ·subst hl
     have HV : Hid (oneV (msgV n s) (⟨y1,y2,1,6,y5⟩ : FlS) x = if ZB = true then 12 else 0) := (by
      rw [oneV_fin (HTZ _).out,HZB.out]
      simp : oneV (msgV n s) (⟨y1,y2,1,6,y5⟩ : FlS) x = if ZB = true then 12 else 0)
     go_wp2_with fail
     refine (HZC.out _).mono ?_
     rintro ee Wz ⟨rfl,hbz⟩
     have hbwz : Below w.heap.size w Wz := hbw2.trans (hbz.mono hbw2.size)
     clear hbz fb2 fb3 fb4 tb0 tb1 tb2 tb3 tb4
     cases ZB with
     | true =>
      go_wp2_with fail
      go_ret
      exact ⟨congrArg (fun z : Int => Ending.returned (Value.int .i64 z)) HV.out.symm,hbwz⟩
     | false =>
      go_wp2_with fail
      go_ret
      exact ⟨congrArg (fun z : Int => Ending.returned (Value.int .i64 z)) HV.out.symm,hbwz⟩
    ·have dl : (y3 == 1) = false := by simpa using hl
     have HV : Hid (oneV (msgV n s) (⟨y1,y2,y3,6,y5⟩ : FlS) x = 0) := (by
      rw [oneV_fin (HTZ _).out,if_neg (fun h => hl h.1)] : oneV (msgV n s) (⟨y1,y2,y3,6,y5⟩ : FlS) x = 0)
     clear hl
     go_wp2_with fail
     go_ret
     exact ⟨congrArg (fun z : Int => Ending.returned (Value.int .i64 z)) HV.out.symm,hbw2⟩
  ·have hK1 : (2 : Int) = K := HKT.out
   subst hK1
   have HVC : Hid (∀ W,Calls Tryz.prog 101 #[.string S] W fun e w' => e = .returned (.bool (validB S.data.toList)) ∧ Below W.heap.size W w') := fun W => rvalidB_any S W (by have := HS.out; omega)
   obtain ⟨VB,hVB⟩ : ∃ z,validB S.data.toList = z := ⟨_,rfl⟩
   have HVB : Hid (validB S.data.toList = VB) := hVB
   rw [hVB] at HVC
   clear hVB
   have fa3 := (BF1.cell 3).trans rfl
   have fa4 := (BF1.cell 4).trans rfl
   have ta0 := (BT1.cell 0).trans rfl
   have ta1 := (BT1.cell 1).trans rfl
   have ta2 := (BT1.cell 2).trans rfl
   go_wp2_with fail
   refine (HVC.out _).mono ?_
   rintro ee W2 ⟨rfl,hb2⟩
   have hbw2 : Below w.heap.size w W2 := hbw1.trans (hb2.mono hbw1.size)
   have BF2 := BF1.below hb2
   have BT2 := BT1.below hb2
   clear hb2 hbw1 BF1 BT1 BS1 fa3 fa4 ta0 ta1 ta2 HVC
   cases VB with
   | false =>
    have HV : Hid (oneV (msgV n s) (⟨y1,y2,y3,4,y5⟩ : FlS) x = 9) := oneV_text (by rw [HX.out.1]; rfl) (fun h => by rw [HX.out.1] at h; exact absurd h.1 (by decide)) rfl (by rw [HX.out.2.2.1]; exact HVB.out)
    go_wp2_with fail
    go_ret
    exact ⟨congrArg (fun z : Int => Ending.returned (Value.int .i64 z)) HV.out.symm,hbw2⟩
   | true =>
    have HTZ : ∀ z : Int,Hid (treeV (msgV n s) (⟨y1,y2,z,4,y5⟩ : FlS).kind (⟨y1,y2,z,4,y5⟩ : FlS).tname x = 0) := fun z => (by
     rw [treeV_last (f := ⟨y1,y2,z,4,y5⟩) (by rw [HX.out.1]; rfl) (fun h => by rw [HX.out.1] at h; exact absurd h.1 (by decide)) (fun h => by rw [HX.out.2.2.1,HVB.out] at h; cases h.2),if_neg (by rw [HX.out.1]; decide)] : treeV (msgV n s) (⟨y1,y2,z,4,y5⟩ : FlS).kind (⟨y1,y2,z,4,y5⟩ : FlS).tname x = 0)
    have fb2 := (BF2.cell 2).trans rfl
    have fb3 := (BF2.cell 3).trans rfl
    have fb4 := (BF2.cell 4).trans rfl
    have tb0 := (BT2.cell 0).trans rfl
    have tb1 := (BT2.cell 1).trans rfl
    have tb2 := (BT2.cell 2).trans rfl
    have tb3 := (BT2.cell 3).trans rfl
    have tb4 := (BT2.cell 4).trans rfl
    by_cases hl : y3 = 1
    ·subst hl
     have HV : Hid (oneV (msgV n s) (⟨y1,y2,1,4,y5⟩ : FlS) x = if ZB = true then 12 else 0) := (by
      rw [oneV_fin (HTZ _).out,HZB.out]
      simp : oneV (msgV n s) (⟨y1,y2,1,4,y5⟩ : FlS) x = if ZB = true then 12 else 0)
     go_wp2_with fail
     refine (HZC.out _).mono ?_
     rintro ee Wz ⟨rfl,hbz⟩
     have hbwz : Below w.heap.size w Wz := hbw2.trans (hbz.mono hbw2.size)
     clear hbz fb2 fb3 fb4 tb0 tb1 tb2 tb3 tb4
     cases ZB with
     | true =>
      go_wp2_with fail
      go_ret
      exact ⟨congrArg (fun z : Int => Ending.returned (Value.int .i64 z)) HV.out.symm,hbwz⟩
     | false =>
      go_wp2_with fail
      go_ret
      exact ⟨congrArg (fun z : Int => Ending.returned (Value.int .i64 z)) HV.out.symm,hbwz⟩
    ·have dl : (y3 == 1) = false := by simpa using hl
     have HV : Hid (oneV (msgV n s) (⟨y1,y2,y3,4,y5⟩ : FlS) x = 0) := (by
      rw [oneV_fin (HTZ _).out,if_neg (fun h => hl h.1)] : oneV (msgV n s) (⟨y1,y2,y3,4,y5⟩ : FlS) x = 0)
     clear hl
     go_wp2_with fail
     go_ret
     exact ⟨congrArg (fun z : Int => Ending.returned (Value.int .i64 z)) HV.out.symm,hbw2⟩
  ·have hK1 : (2 : Int) = K := HKT.out
   subst hK1
   have HTZ : ∀ z : Int,Hid (treeV (msgV n s) (⟨y1,y2,z,5,y5⟩ : FlS).kind (⟨y1,y2,z,5,y5⟩ : FlS).tname x = 0) := fun z => (by
    rw [treeV_last (f := ⟨y1,y2,z,5,y5⟩) (by rw [HX.out.1]; rfl) (fun h => by rw [HX.out.1] at h; exact absurd h.1 (by decide)) (fun h => by have := h.1; simp at this),if_neg (by rw [HX.out.1]; decide)] : treeV (msgV n s) (⟨y1,y2,z,5,y5⟩ : FlS).kind (⟨y1,y2,z,5,y5⟩ : FlS).tname x = 0)
   have fb2 := (BF1.cell 2).trans rfl
   have fb3 := (BF1.cell 3).trans rfl
   have fb4 := (BF1.cell 4).trans rfl
   have tb0 := (BT1.cell 0).trans rfl
   have tb1 := (BT1.cell 1).trans rfl
   have tb2 := (BT1.cell 2).trans rfl
   have tb3 := (BT1.cell 3).trans rfl
   have tb4 := (BT1.cell 4).trans rfl
   by_cases hl : y3 = 1
   ·subst hl
    have HV : Hid (oneV (msgV n s) (⟨y1,y2,1,5,y5⟩ : FlS) x = if ZB = true then 12 else 0) := (by
     rw [oneV_fin (HTZ _).out,HZB.out]
     simp : oneV (msgV n s) (⟨y1,y2,1,5,y5⟩ : FlS) x = if ZB = true then 12 else 0)
    go_wp2_with fail
    refine (HZC.out _).mono ?_
    rintro ee Wz ⟨rfl,hbz⟩
    have hbwz : Below w.heap.size w Wz := hbw1.trans (hbz.mono hbw1.size)
    clear hbz fb2 fb3 fb4 tb0 tb1 tb2 tb3 tb4
    cases ZB with
    | true =>
     go_wp2_with fail
     go_ret
     exact ⟨congrArg (fun z : Int => Ending.returned (Value.int .i64 z)) HV.out.symm,hbwz⟩
    | false =>
     go_wp2_with fail
     go_ret
     exact ⟨congrArg (fun z : Int => Ending.returned (Value.int .i64 z)) HV.out.symm,hbwz⟩
   ·have dl : (y3 == 1) = false := by simpa using hl
    have HV : Hid (oneV (msgV n s) (⟨y1,y2,y3,5,y5⟩ : FlS) x = 0) := (by
     rw [oneV_fin (HTZ _).out,if_neg (fun h => hl h.1)] : oneV (msgV n s) (⟨y1,y2,y3,5,y5⟩ : FlS) x = 0)
    clear hl
    go_wp2_with fail
    go_ret
    exact ⟨congrArg (fun z : Int => Ending.returned (Value.int .i64 z)) HV.out.symm,hbw1⟩
  ·have hK1 : (3 : Int) = K := HKT.out
   subst hK1
   have HMC : Hid (∀ W,Below w.heap.size w W → Calls Tryz.prog 37 #[.agg #[.string sn,.slice ma mn mc,.slice ea en ec,.slice ta tn tc],.string y5] W fun e w' => ∃ vf vr,e = .returned (.tuple #[.agg #[.string ((msgOf s y5).getD zMs).name,vf,vr],.bool (msgOf s y5).isSome]) ∧ RowG w0 vf 5 (flRows ((msgOf s y5).getD zMs).fields) ∧ RowG w0 vr 1 (inRows ((msgOf s y5).getD zMs).reserved) ∧ Below W.heap.size W w') := fun W hW => r7messageW_any (w0 := w0) (HMS.out.2.trans (hW.mono HMS.out.2.size)) HMS.out.1
   have fa3 := (BF1.cell 3).trans rfl
   have fa4 := (BF1.cell 4).trans rfl
   have ta0 := (BT1.cell 0).trans rfl
   have ta1 := (BT1.cell 1).trans rfl
   have ta2 := (BT1.cell 2).trans rfl
   have ta3 := (BT1.cell 3).trans rfl
   have ta4 := (BT1.cell 4).trans rfl
   have sa0 := (BS1.cell 0).trans rfl
   have sa1 := (BS1.cell 1).trans rfl
   have sa2 := (BS1.cell 2).trans rfl
   have sa3 := (BS1.cell 3).trans rfl
   go_wp2_with fail
   refine Calls.mono (HMC.out _ hbw1) ?_
   rintro ee W2 ⟨vf,vr,rfl,hvf,hvr,hb2⟩
   obtain ⟨fa,fn,fc,rfl⟩ := row_sliceV hvf
   obtain ⟨ra,rn,rc,rfl⟩ := row_sliceV hvr
   have hbw2 : Below w.heap.size w W2 := hbw1.trans (hb2.mono hbw1.size)
   obtain ⟨QN,hQN⟩ : ∃ z,((msgOf s y5).getD zMs).name = z := ⟨_,rfl⟩
   rw [hQN]
   obtain ⟨OK,hOK⟩ : ∃ z,(msgOf s y5).isSome = z := ⟨_,rfl⟩
   rw [hOK]
   have al3 : Below W2.heap.size W2 (W2.alloc (Obj.cells #[.string QN,.slice fa fn fc,.slice ra rn rc] 50)) := (Below.refl _ _).alloc (Nat.le_refl _) _
   have hbw3 : Below w.heap.size w (W2.alloc (Obj.cells #[.string QN,.slice fa fn fc,.slice ra rn rc] 50)) := hbw2.trans (al3.mono hbw2.size)
   have BM3 : Blk (W2.alloc (Obj.cells #[.string QN,.slice fa fn fc,.slice ra rn rc] 50)) W2.heap.size #[.string QN,.slice fa fn fc,.slice ra rn rc] 50 := Blk.new W2 _ _
   have BS3 := (BS1.below hb2).below al3
   have BF3 := (BF1.below hb2).below al3
   have BT3 := (BT1.below hb2).below al3
   obtain ⟨E,hE⟩ : ∃ z,msgV n s y5 x = z := ⟨_,rfl⟩
   have HE : Hid (msgV n s y5 x = E) := hE
   have HCC : Hid (Calls Tryz.prog 38 #[.agg #[.string sn,.slice ma mn mc,.slice ea en ec,.slice ta tn tc],.agg #[.string QN,.slice fa fn fc,.slice ra rn rc],.agg #[.int .i64 3,.int .i64 N,.string S,.slice a1 n1 c1,.slice a2 n2 c2]] (W2.alloc (Obj.cells #[.string QN,.slice fa fn fc,.slice ra rn rc] 50)) fun e w' => e = .returned (.int .i64 E) ∧ Below (W2.alloc (Obj.cells #[.string QN,.slice fa fn fc,.slice ra rn rc] 50)).heap.size (W2.alloc (Obj.cells #[.string QN,.slice fa fn fc,.slice ra rn rc] 50)) w') := (by
    have := HIM.out HX.out.1 (W2.alloc (Obj.cells #[.string QN,.slice fa fn fc,.slice ra rn rc] 50)) QN _ _ (HMS.out.2.trans (hbw3.mono HMS.out.2.size)) hvf hvr
    rw [hE] at this
    exact this : Calls Tryz.prog 38 #[.agg #[.string sn,.slice ma mn mc,.slice ea en ec,.slice ta tn tc],.agg #[.string QN,.slice fa fn fc,.slice ra rn rc],.agg #[.int .i64 3,.int .i64 N,.string S,.slice a1 n1 c1,.slice a2 n2 c2]] (W2.alloc (Obj.cells #[.string QN,.slice fa fn fc,.slice ra rn rc] 50)) fun e w' => e = .returned (.int .i64 E) ∧ Below (W2.alloc (Obj.cells #[.string QN,.slice fa fn fc,.slice ra rn rc] 50)).heap.size (W2.alloc (Obj.cells #[.string QN,.slice fa fn fc,.slice ra rn rc] 50)) w')
   clear hvf hvr hb2 hbw1 hbw2 al3 BS1 BF1 BT1 fa3 fa4 ta0 ta1 ta2 ta3 ta4 sa0 sa1 sa2 sa3 hQN hOK hE HMC
   have sc0 := (BS3.cell 0).trans rfl
   have sc1 := (BS3.cell 1).trans rfl
   have sc2 := (BS3.cell 2).trans rfl
   have sc3 := (BS3.cell 3).trans rfl
   have mc0 := (BM3.cell 0).trans rfl
   have mc1 := (BM3.cell 1).trans rfl
   have mc2 := (BM3.cell 2).trans rfl
   have tc0 := (BT3.cell 0).trans rfl
   have tc1 := (BT3.cell 1).trans rfl
   have tc2 := (BT3.cell 2).trans rfl
   have tc3 := (BT3.cell 3).trans rfl
   have tc4 := (BT3.cell 4).trans rfl
   go_wp2_with fail
   refine HCC.out.mono ?_
   generalize (W2.alloc (Obj.cells #[.string QN,.slice fa fn fc,.slice ra rn rc] 50)) = W3 at *
   rintro ee W4 ⟨rfl,hb4⟩
   have hbw4 : Below w.heap.size w W4 := hbw3.trans (hb4.mono hbw3.size)
   have BF4 := BF3.below hb4
   have BT4 := BT3.below hb4
   have HTV : ∀ z : Int,Hid (treeV (msgV n s) (⟨y1,y2,z,7,y5⟩ : FlS).kind (⟨y1,y2,z,7,y5⟩ : FlS).tname x = E) := fun z => (by
    rw [treeV_last (f := ⟨y1,y2,z,7,y5⟩) (by rw [HX.out.1]; rfl) (fun h => by rw [HX.out.1] at h; exact absurd h.1 (by decide)) (fun h => by have := h.1; simp at this),if_pos HX.out.1]
    exact HE.out : treeV (msgV n s) (⟨y1,y2,z,7,y5⟩ : FlS).kind (⟨y1,y2,z,7,y5⟩ : FlS).tname x = E)
   clear hb4 hbw3 BS3 BF3 BT3 BM3 HCC sc0 sc1 sc2 sc3 mc0 mc1 mc2 tc0 tc1 tc2 tc3 tc4
   by_cases hE0 : E = 0
   rotate_left
   ·have dE : (E != 0) = true := by simpa using hE0
    have HV : Hid (oneV (msgV n s) (⟨y1,y2,y3,7,y5⟩ : FlS) x = E) := (by rw [oneV_bad (by rw [(HTV y3).out]; exact hE0),(HTV y3).out] : oneV (msgV n s) (⟨y1,y2,y3,7,y5⟩ : FlS) x = E)
    clear hE0
    go_wp2_with fail
    go_ret
    exact ⟨congrArg (fun z : Int => Ending.returned (Value.int .i64 z)) HV.out.symm,hbw4⟩
   ·subst hE0
    have HTZ := HTV
    have fb2 := (BF4.cell 2).trans rfl
    have fb3 := (BF4.cell 3).trans rfl
    have fb4 := (BF4.cell 4).trans rfl
    have tb0 := (BT4.cell 0).trans rfl
    have tb1 := (BT4.cell 1).trans rfl
    have tb2 := (BT4.cell 2).trans rfl
    have tb3 := (BT4.cell 3).trans rfl
    have tb4 := (BT4.cell 4).trans rfl
    by_cases hl : y3 = 1
    ·subst hl
     have HV : Hid (oneV (msgV n s) (⟨y1,y2,1,7,y5⟩ : FlS) x = if ZB = true then 12 else 0) := (by
      rw [oneV_fin (HTZ _).out,HZB.out]
      simp : oneV (msgV n s) (⟨y1,y2,1,7,y5⟩ : FlS) x = if ZB = true then 12 else 0)
     go_wp2_with fail
     refine (HZC.out _).mono ?_
     rintro ee Wz ⟨rfl,hbz⟩
     have hbwz : Below w.heap.size w Wz := hbw4.trans (hbz.mono hbw4.size)
     clear hbz fb2 fb3 fb4 tb0 tb1 tb2 tb3 tb4
     cases ZB with
     | true =>
      go_wp2_with fail
      go_ret
      exact ⟨congrArg (fun z : Int => Ending.returned (Value.int .i64 z)) HV.out.symm,hbwz⟩
     | false =>
      go_wp2_with fail
      go_ret
      exact ⟨congrArg (fun z : Int => Ending.returned (Value.int .i64 z)) HV.out.symm,hbwz⟩
    ·have dl : (y3 == 1) = false := by simpa using hl
     have HV : Hid (oneV (msgV n s) (⟨y1,y2,y3,7,y5⟩ : FlS) x = 0) := (by
      rw [oneV_fin (HTZ _).out,if_neg (fun h => hl h.1)] : oneV (msgV n s) (⟨y1,y2,y3,7,y5⟩ : FlS) x = 0)
     clear hl
     go_wp2_with fail
     go_ret
     exact ⟨congrArg (fun z : Int => Ending.returned (Value.int .i64 z)) HV.out.symm,hbw4⟩
end
section
open Go.ChangeShapes Go.WideShapes Go.ChangeAt Go.RowKit Go.Maps
set_option maxRecDepth 20000
set_option maxHeartbeats 2000000 in
theorem r7field_any {w : World} {snm : ByteArray} {nm : Int} {am : Option Addr} {M cm : Nat} {vt : Value} {ts : List FlS} (hr : RowG w vt 5 (flRows ts)) :
  Calls Tryz.prog 27 #[.agg #[.string snm,vt,.slice am M cm],.int .i64 nm] w fun e w' => e = .returned (.tuple #[flV ((ts.find? fun m => decide (m.tag = nm)).getD zeroF),.bool (ts.find? fun m => decide (m.tag = nm)).isSome]) ∧ Below w.heap.size w w' := by
 obtain ⟨a,c,rfl,q1,q2⟩ := hr.form2
 have hN : (flRows ts).length = ts.length := by simp [flRows]
 rw [hN] at hr q1 ⊢
 clear hN
 obtain ⟨N,hN⟩ : ∃ N,ts.length = N := ⟨_,rfl⟩
 rw [hN] at hr q1 ⊢
 have HN : Hid (ts.length = N) := hN
 have HR : Hid (RowG w (.slice a N c) 5 (flRows ts)) := hr
 clear hN hr
 obtain ⟨A,hA⟩ : ∃ A,(ts.find? fun m => decide (m.tag = nm)) = A := ⟨_,rfl⟩
 rw [hA]
 have HA : Hid (A = ((ts.drop 0).find? fun m => decide (m.tag = nm))) := hA.symm
 clear hA
 have BX0 : Blk ((w.alloc (.cells #[.string snm,.slice a N c,.slice am M cm] 50)).alloc (.cells #[.string ⟨#[]⟩,.int .i64 0,.int .i64 0,.int .i64 0,.string ⟨#[]⟩] 54)) w.heap.size #[.string snm,.slice a N c,.slice am M cm] 50 := (Blk.new w _ _).below ((Below.refl _ _).alloc (Nat.le_refl _) _)
 have BR0 : Blk ((w.alloc (.cells #[.string snm,.slice a N c,.slice am M cm] 50)).alloc (.cells #[.string ⟨#[]⟩,.int .i64 0,.int .i64 0,.int .i64 0,.string ⟨#[]⟩] 54)) (w.heap.size + 1) #[.string ⟨#[]⟩,.int .i64 0,.int .i64 0,.int .i64 0,.string ⟨#[]⟩] 54 := by
  have := Blk.new (w.alloc (.cells #[.string snm,.slice a N c,.slice am M cm] 50)) #[.string ⟨#[]⟩,.int .i64 0,.int .i64 0,.int .i64 0,.string ⟨#[]⟩] 54
  rwa [show (w.alloc (.cells #[.string snm,.slice a N c,.slice am M cm] 50)).heap.size = w.heap.size + 1 by simp] at this
 have hb0 : Below w.heap.size w ((w.alloc (.cells #[.string snm,.slice a N c,.slice am M cm] 50)).alloc (.cells #[.string ⟨#[]⟩,.int .i64 0,.int .i64 0,.int .i64 0,.string ⟨#[]⟩] 54)) := ((Below.refl _ _).alloc (Nat.le_refl _) _).alloc (by simp) _
 go_enter Tryz.func27,Tryz.ntmps27
 go_wp2_with fail
 go_loopw [6] (fun iv wr => ∃ k : Nat,iv = .int .i64 (k : Int) ∧ k ≤ N ∧ Hid (A = ((ts.drop k).find? fun m => decide (m.tag = nm))) ∧ Below w.heap.size w wr ∧ Blk wr (w.heap.size + 1) #[.string ⟨#[]⟩,.int .i64 0,.int .i64 0,.int .i64 0,.string ⟨#[]⟩] 54 ∧ Blk wr w.heap.size #[.string snm,.slice a N c,.slice am M cm] 50) (fun iv _ => N - (intOf iv).toNat)
 case atStart => exact ⟨0,rfl,by omega,HA,hb0,BR0,BX0⟩
 case round =>
  obtain ⟨k,rfl,hk,HAk,hbel,BR,BX⟩ := hrel
  clear BX0 BR0 hb0
  have hlt2 : w.heap.size + 1 < wr.heap.size := BR.lt
  have r0 := (BR.cell 0).trans rfl
  have z0 := BR.froz 0
  have r1 := (BR.cell 1).trans rfl
  have z1 := BR.froz 1
  have r2 := (BR.cell 2).trans rfl
  have z2 := BR.froz 2
  have r3 := (BR.cell 3).trans rfl
  have z3 := BR.froz 3
  have r4 := (BR.cell 4).trans rfl
  have z4 := BR.froz 4
  have x1 : wr.cell? ⟨w.heap.size,1,none⟩ = some (.slice a N c) := BX.cell 1
  by_cases hlt : k < N
  ·obtain ⟨f,hf⟩ : ∃ n,ts[k]? = some n := ⟨_,List.getElem?_eq_getElem (by rw [HN.out]; exact hlt)⟩
   have hrr : (flRows ts)[k]? = some f.cells := by simp [flRows,hf]
   obtain ⟨g,off,rfl,c1⟩ := (HR.out.below hbel).get hrr
   obtain ⟨f0,f1,f2,f3,f4⟩ := f
   have HA2 : Hid (A = if decide (f1 = nm) = true then some ⟨f0,f1,f2,f3,f4⟩ else ((ts.drop (k + 1)).find? fun m => decide (m.tag = nm))) := by
    show _ = _
    rw [HAk.out,drop_at hf,List.find?_cons]
    cases decide (f1 = nm) <;> rfl
   have p0 := c1 0 _ rfl
   have p1 := c1 1 _ rfl
   have p2 := c1 2 _ rfl
   have p3 := c1 3 _ rfl
   have p4 := c1 4 _ rfl
   simp only [Nat.add_zero] at p0 p1 p2 p3 p4
   clear c1 hrr hf HAk
   by_cases he : f1 = nm
   ·subst he
    go_wp2_with fail
    refine bodyPost_ret (results_two rfl _ _ _ ⟨w.heap.size + 1,0,none⟩ (.agg #[.string f0,.int .i64 f1,.int .i64 f2,.int .i64 f3,.string f4]) (by go_simp) (by go_simp)) rfl ?_
    exact ⟨ret_two (by rw [HA2.out,if_pos (by simp)]; rfl) (by rw [HA2.out,if_pos (by simp)]; rfl),(Below.setCell (Below.setCell (Below.setCell (Below.setCell (Below.setCell hbel (by simp) _) (by simp) _) (by simp) _) (by simp) _) (by simp) _)⟩
   ·have hq : (f1 == nm) = false := by simpa using he
    have HA3 : Hid (A = ((ts.drop (k + 1)).find? fun m => decide (m.tag = nm))) := by show _ = _; rw [HA2.out,if_neg (by simpa using he)]
    go_wp2_with fail
    go_roundw
    case rel => exact ⟨k + 1,by go_num,by omega,HA3,hbel,BR,BX⟩
    case measure => simp [intOf]; omega
  ·have HA2 : Hid (A = none) := by show _ = _; rw [HAk.out,drop_end (by rw [HN.out]; omega)]; rfl
   go_wp2_with fail
   refine bodyPost_ret (results_two rfl _ _ _ ⟨w.heap.size + 1,0,none⟩ (.agg #[.string ⟨#[]⟩,.int .i64 0,.int .i64 0,.int .i64 0,.string ⟨#[]⟩]) (by go_simp) (by go_simp)) rfl ?_
   exact ⟨ret_two (by rw [HA2.out]; rfl) (by rw [HA2.out]; rfl),(Below.setCell (Below.setCell (Below.setCell (Below.setCell (Below.setCell hbel (by simp) _) (by simp) _) (by simp) _) (by simp) _) (by simp) _)⟩
end
section
section
variable {P : Program} {md : Region.Mode} {ops : Array Oper} {Q : Exit → Act → World → Prop} {T : World → Prop} {m : Nat}
theorem M_fork {o1 o2 : Oper} {fuel : Nat} {listed : Array Bool} {a : Act} {w : World} (i j d1 d2 f : Nat) (vals : Array Value) (v2 : Value) (w2 : World) (h1 : ops[i]? = some o1) (h2 : ops[j]? = some o2) (hd1 : o1.dst = some d1) (hd2 : o2.dst = some d2)
  (hr : Region.ready md ops listed = [i,j]) (hw1 : Region.wanted o1 (yielded ops a.tmps) = true) (hw2 : Region.wanted o2 (yielded ops a.tmps) = true)
  (hx1 : (execOp a.eval o1).run P w = .ok (.enter f vals) w) (hx2 : (execOp a.eval o2).run P w = .ok (.value v2) w2)
  (hA : Calls P f vals w fun e w' => ∃ v,e = .returned v ∧ T w' ∧ wpAnyM P md ops Q T m fuel (listed.setIfInBounds i true) { a with tmps := a.tmps.setIfInBounds d1 v } w')
  (hT : T w2) (hB : wpAnyM P md ops Q T m fuel (listed.setIfInBounds j true) { a with tmps := a.tmps.setIfInBounds d2 v2 } w2) : wpAnyM P md ops Q T m (fuel + 1) listed a w := by
 refine ⟨fun h0 => (by rw [hr] at h0; cases h0),fun k hk => ?_⟩
 rw [hr] at hk
 simp only [List.mem_cons,List.not_mem_nil,or_false] at hk
 rcases hk with rfl | rfl
 ·unfold wpOp
  simp only [h1]
  rw [if_pos hw1]
  refine .inl ?_
  unfold Oper.wp
  rw [hx1]
  refine Calls.mono hA ?_
  rintro e w' ⟨v,rfl,hT',h'⟩
  rw [hd1]
  exact ⟨fun _ => hT',h'⟩
 ·unfold wpOp
  simp only [h2]
  rw [if_pos hw2]
  refine .inl ?_
  unfold Oper.wp
  rw [hx2,Oper.upon_value,hd2]
  exact ⟨fun _ => hT,hB⟩
end
end
end Go.Proofs.YtfnjbbaphmmjlaaGreat

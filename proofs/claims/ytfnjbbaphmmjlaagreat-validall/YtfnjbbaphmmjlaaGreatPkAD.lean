/- Part 4 of what the proof stands on. -/
import Derived.Test.YtfnjbbaphmmjlaaGreatPkAC
import Derived.Laws.AppendOwnNone
import Derived.OwnWalk
import Derived.Maps.AppendAt
namespace Go.Proofs.YtfnjbbaphmmjlaaGreat
set_option linter.unusedVariables false
set_option linter.unusedSimpArgs false
section
open Go.ChangeShapes Go.WideShapes Go.ChangeAt Go.RowKit
set_option maxRecDepth 20000
set_option maxHeartbeats 8000000 in
theorem entry_step (s : ScS) (sn : ByteArray) (ma ea ta : Option Addr) (mn mc en ec tn tc b : Nat) (n : Nat) (IH : ∀ t nm v w,TrW n w v t → KnS s w b → ScIn w (.agg #[.string sn,.slice ma mn mc,.slice ea en ec,.slice ta tn tc]) s → Calls Tryz.prog 36 #[.agg #[.string sn,.slice ma mn mc,.slice ea en ec,.slice ta tn tc,.map (some b)],.string nm,v] w (MesP s (msgV n s nm t) b w))
  (e : Int × List Tr) (fs : List FlS) (mnm : ByteArray) (fa ra xa : Option Addr) (fl fc rl rc xc : Nat) (w : World) (hx : TrsR n w (.slice xa e.2.length xc) e.2) (hxc : e.2.length ≤ xc) (hxm : xc ≤ maxLen) (hf : RowG w (.slice fa fl fc) 5 (flRows fs)) (hk : KnS s w b) (hs : ScIn w (.agg #[.string sn,.slice ma mn mc,.slice ea en ec,.slice ta tn tc]) s) :
  Calls Tryz.prog 64 #[.agg #[.string sn,.slice ma mn mc,.slice ea en ec,.slice ta tn tc,.map (some b)],.agg #[.string mnm,.slice fa fl fc,.slice ra rl rc],.agg #[.int .i64 e.1,.slice xa e.2.length xc]] w (MesP s (entV (msgV n s) fs e) b w) := by
 obtain ⟨Xl,hXl⟩ : ∃ z,e.2.length = z := ⟨_,rfl⟩
 obtain ⟨e1,he1⟩ : ∃ z,e.1 = z := ⟨_,rfl⟩
 rw [hXl] at hxc hx ⊢
 rw [he1]
 unfold maxLen at hxm
 have HXL : Hid (e.2.length = Xl) := hXl
 have HE1 : Hid (e.1 = e1) := he1
 clear hXl he1
 have BF := blk3a w #[.string sn,.slice ma mn mc,.slice ea en ec,.slice ta tn tc,.map (some b)] #[.string mnm,.slice fa fl fc,.slice ra rl rc] #[.int .i64 e1,.slice xa Xl xc] 81 50 58
 have BE := blk3c w #[.string sn,.slice ma mn mc,.slice ea en ec,.slice ta tn tc,.map (some b)] #[.string mnm,.slice fa fl fc,.slice ra rl rc] #[.int .i64 e1,.slice xa Xl xc] 81 50 58
 have hbw := blk3w w #[.string sn,.slice ma mn mc,.slice ea en ec,.slice ta tn tc,.map (some b)] #[.string mnm,.slice fa fl fc,.slice ra rl rc] #[.int .i64 e1,.slice xa Xl xc] 81 50 58
 obtain ⟨X,hX⟩ : ∃ X,entV (msgV n s) fs e = X := ⟨_,rfl⟩
 have HV : Hid (entV (msgV n s) fs e = X) := hX
 rw [hX]
 clear hX
 have HK : Hid (KnS s w b) := hk
 have HX : Hid (TrsR n w (.slice xa Xl xc) e.2) := hx
 have HS : Hid (ScIn w (.agg #[.string sn,.slice ma mn mc,.slice ea en ec,.slice ta tn tc]) s) := hs
 have HFC : Hid (Calls Tryz.prog 80 #[.agg #[.string mnm,.slice fa fl fc,.slice ra rl rc],.int .i64 e1] (((w.alloc (Obj.cells #[.string sn,.slice ma mn mc,.slice ea en ec,.slice ta tn tc,.map (some b)] 81)).alloc (Obj.cells #[.string mnm,.slice fa fl fc,.slice ra rl rc] 50)).alloc (Obj.cells #[.int .i64 e1,.slice xa Xl xc] 58)) fun e' w' => e' = .returned (.tuple #[flV ((fldOf fs e1).getD zeroF),.bool (fldOf fs e1).isSome]) ∧ Below (((w.alloc (Obj.cells #[.string sn,.slice ma mn mc,.slice ea en ec,.slice ta tn tc,.map (some b)] 81)).alloc (Obj.cells #[.string mnm,.slice fa fl fc,.slice ra rl rc] 50)).alloc (Obj.cells #[.int .i64 e1,.slice xa Xl xc] 58)).heap.size (((w.alloc (Obj.cells #[.string sn,.slice ma mn mc,.slice ea en ec,.slice ta tn tc,.map (some b)] 81)).alloc (Obj.cells #[.string mnm,.slice fa fl fc,.slice ra rl rc] 50)).alloc (Obj.cells #[.int .i64 e1,.slice xa Xl xc] 58)) w') := cfield_any (hf.below hbw)
 clear hk hx hs hf
 cases hfo : fldOf fs e1 with
 | none =>
  have HX7 : Hid (7 = X) := (by rw [← HV.out,entV,HE1.out,hfo] : 7 = X)
  rw [hfo] at HFC
  simp only [flV,zeroF,Option.getD_none,Option.isSome_none] at HFC
  clear hfo BF BE
  go_enter Tryz.func64,Tryz.ntmps64
  go_wp2_with fail
  refine HFC.out.mono ?_
  rintro ee w1 ⟨rfl,hb1⟩
  have hbw1 : Below w.heap.size w w1 := hbw.trans (hb1.mono hbw.size)
  have hbw2 : Below w.heap.size w (w1.alloc (Obj.cells #[.string ⟨#[]⟩,.int .i64 0,.int .i64 0,.int .i64 0,.string ⟨#[]⟩] 54)) := hbw1.alloc hbw1.size _
  clear HFC hb1 hbw hbw1
  go_wp2_with fail
  go_ret
  exact MesP.of HX7.out (Kp.ofBelow hbw2) (HK.out.below hbw2)
 | some f =>
  have HFO : Hid (fldOf fs e.1 = some f) := (by rw [HE1.out]; exact hfo : fldOf fs e.1 = some f)
  rw [hfo] at HFC
  simp only [flV,Option.getD_some,Option.isSome_some] at HFC
  clear hfo
  obtain ⟨f1,f2,lb,fk,ft⟩ := f
  simp only at HFC
  obtain ⟨b0,hb0⟩ : ∃ z,w.heap.size = z := ⟨_,rfl⟩
  have HBZ : Hid (w.heap.size = b0) := hb0
  go_enter Tryz.func64,Tryz.ntmps64
  go_wp2_with fail
  refine HFC.out.mono ?_
  rintro ee w1 ⟨rfl,hb1⟩
  have hbw1 : Below w.heap.size w w1 := hbw.trans (hb1.mono hbw.size)
  have al2 : Below w1.heap.size w1 (w1.alloc (Obj.cells #[.string f1,.int .i64 f2,.int .i64 lb,.int .i64 fk,.string ft] 54)) := (Below.refl _ _).alloc (Nat.le_refl _) _
  have hbw2 : Below w.heap.size w (w1.alloc (Obj.cells #[.string f1,.int .i64 f2,.int .i64 lb,.int .i64 fk,.string ft] 54)) := hbw1.trans (al2.mono hbw1.size)
  have BF2 : Blk (w1.alloc (Obj.cells #[.string f1,.int .i64 f2,.int .i64 lb,.int .i64 fk,.string ft] 54)) w.heap.size #[.string sn,.slice ma mn mc,.slice ea en ec,.slice ta tn tc,.map (some b)] 81 := (BF.below hb1).below al2
  have BE2 : Blk (w1.alloc (Obj.cells #[.string f1,.int .i64 f2,.int .i64 lb,.int .i64 fk,.string ft] 54)) (w.heap.size + 2) #[.int .i64 e1,.slice xa Xl xc] 58 := (BE.below hb1).below al2
  have BL2 : Blk (w1.alloc (Obj.cells #[.string f1,.int .i64 f2,.int .i64 lb,.int .i64 fk,.string ft] 54)) w1.heap.size #[.string f1,.int .i64 f2,.int .i64 lb,.int .i64 fk,.string ft] 54 := Blk.new w1 _ _
  have HK2 : Hid (KnS s (w1.alloc (Obj.cells #[.string f1,.int .i64 f2,.int .i64 lb,.int .i64 fk,.string ft] 54)) b) := HK.out.below hbw2
  have HX2 : Hid (TrsR n (w1.alloc (Obj.cells #[.string f1,.int .i64 f2,.int .i64 lb,.int .i64 fk,.string ft] 54)) (.slice xa Xl xc) e.2) := HX.out.celT (Cel.ofBelow hbw2)
  have HS2 : Hid (ScIn (w1.alloc (Obj.cells #[.string f1,.int .i64 f2,.int .i64 lb,.int .i64 fk,.string ft] 54)) (.agg #[.string sn,.slice ma mn mc,.slice ea en ec,.slice ta tn tc]) s) := HS.out.below hbw2
  have HKW : Hid (Kp (fun q => q = b) w (w1.alloc (Obj.cells #[.string f1,.int .i64 f2,.int .i64 lb,.int .i64 fk,.string ft] 54))) := Kp.ofBelow hbw2
  have q1 := (BE2.cell 1).trans rfl
  have r2 := (BL2.cell 2).trans rfl
  clear HFC hb1 hbw hbw1 al2 BF BE HK HX HS
  simp only [hb0] at BF2 BE2 q1 ⊢
  clear hb0
  by_cases h4 : lb ≠ 3 ∧ 1 < Xl
  ·have d1 : (lb != 3) = true := by simpa using h4.1
   have d2 : decide (1 < (Xl : Int)) = true := by simp; omega
   have HX4 : Hid (4 = X) := (by rw [← HV.out,entV,HFO.out]; simp only [HXL.out]; rw [if_pos h4] : 4 = X)
   clear h4
   go_wp2_with fail
   go_ret
   exact MesP.of HX4.out HKW.out HK2.out
  ·have HXE : Hid (X = errF (e.2.map (oneV (msgV n s) ⟨f1,f2,lb,fk,ft⟩))) := (by rw [← HV.out,entV,HFO.out]; simp only [HXL.out]; rw [if_neg h4] : X = errF (e.2.map (oneV (msgV n s) ⟨f1,f2,lb,fk,ft⟩)))
   rcases Decidable.em (lb = 3) with h3 | h3
   ·have d1 : (lb != 3) = false := by simpa using h3
    clear h3 h4
    go_wp2_with fail
    generalize (w1.alloc (Obj.cells #[.string f1,.int .i64 f2,.int .i64 lb,.int .i64 fk,.string ft] 54)) = W2 at *
    obtain ⟨bL,hbL⟩ : ∃ z,w1.heap.size = z := ⟨_,rfl⟩
    rw [hbL] at BL2
    simp only [hbL]
    clear hbL d1
    clear q1 r2
    go_loopw [33] (fun iv wr => ∃ i : Nat,iv = .int .i64 (i : Int) ∧ i ≤ Xl ∧ Hid (errF ((e.2.take i).map (oneV (msgV n s) ⟨f1,f2,lb,fk,ft⟩)) = 0) ∧ Kp (fun q => q = b) W2 wr ∧ Hid (KnS s wr b)) (fun iv _ => Xl - (intOf iv).toNat)
    case atStart => exact ⟨0,rfl,by omega,(by simp [errF] : errF ((e.2.take 0).map (oneV (msgV n s) ⟨f1,f2,lb,fk,ft⟩)) = 0),Kp.refl _ _,HK2⟩
    case round =>
     obtain ⟨i,rfl,hi,HI,hkp,HKR⟩ := hrel
     have hcel : Cel W2 wr := HK2.out.cel hkp
     have BFr := BF2.cel hcel
     have BLr := BL2.cel hcel
     by_cases hlt : i < Xl
     ·obtain ⟨x,hx⟩ : ∃ r,e.2[i]? = some r := ⟨_,List.getElem?_eq_getElem (by rw [HXL.out]; exact hlt)⟩
      obtain ⟨gx,ox,a1,n1,c1,a2,n2,c2,rfl,x0,x1,x2,x3,x4,hxw⟩ := trsR_get (HX2.out.celT hcel) hx
      obtain ⟨K,hK⟩ : ∃ z,x.kind = z := ⟨_,rfl⟩
      obtain ⟨N,hN⟩ : ∃ z,x.n = z := ⟨_,rfl⟩
      obtain ⟨S,hS⟩ : ∃ z,x.s = z := ⟨_,rfl⟩
      rw [hK] at x0
      rw [hN] at x1
      rw [hS] at x2
      rw [hK,hN,hS] at hxw
      have al : Below wr.heap.size wr (wr.alloc (Obj.cells #[.int .i64 K,.int .i64 N,.string S,.slice a1 n1 c1,.slice a2 n2 c2] 30)) := (Below.refl _ _).alloc (Nat.le_refl _) _
      have HPT : Hid (x.kind = K ∧ x.n = N ∧ x.s = S ∧ x.es.length = n1 ∧ x.rest.length = n2) := hxw.parts
      obtain ⟨Y,hY⟩ : ∃ z,treeV (msgV n s) fk ft x = z := ⟨_,rfl⟩
      have HY : Hid (treeV (msgV n s) fk ft x = Y) := hY
      have HTC : Hid (Calls Tryz.prog 99 #[.agg #[.string sn,.slice ma mn mc,.slice ea en ec,.slice ta tn tc,.map (some b)],.agg #[.int .i64 fk,.string ft],.agg #[.int .i64 K,.int .i64 N,.string S,.slice a1 n1 c1,.slice a2 n2 c2]] (wr.alloc (Obj.cells #[.int .i64 K,.int .i64 N,.string S,.slice a1 n1 c1,.slice a2 n2 c2] 30)) (MesP s Y b (wr.alloc (Obj.cells #[.int .i64 K,.int .i64 N,.string S,.slice a1 n1 c1,.slice a2 n2 c2] 30)))) := (by
       have h1 := tree_step s sn ma ea ta mn mc en ec tn tc b n IH x fk ft _ (wr.alloc (Obj.cells #[.int .i64 K,.int .i64 N,.string S,.slice a1 n1 c1,.slice a2 n2 c2] 30)) (hxw.cel (Cel.ofBelow al)) (HKR.out.below al) ((HS2.out.cel hcel).below al)
       rw [hY] at h1
       exact h1 : Calls Tryz.prog _ _ (wr.alloc (Obj.cells #[.int .i64 K,.int .i64 N,.string S,.slice a1 n1 c1,.slice a2 n2 c2] 30)) _)
      have HIX : Hid (e.2[i]? = some x) := hx
      have BX : Blk (wr.alloc (Obj.cells #[.int .i64 K,.int .i64 N,.string S,.slice a1 n1 c1,.slice a2 n2 c2] 30)) wr.heap.size #[.int .i64 K,.int .i64 N,.string S,.slice a1 n1 c1,.slice a2 n2 c2] 30 := Blk.new wr _ _
      have BFx := BFr.below al
      have BLx := BLr.below al
      have g0 := (BFx.cell 0).trans rfl
      have g1 := (BFx.cell 1).trans rfl
      have g2 := (BFx.cell 2).trans rfl
      have g3 := (BFx.cell 3).trans rfl
      have g4 := (BFx.cell 4).trans rfl
      have l3 := (BLx.cell 3).trans rfl
      have l4 := (BLx.cell 4).trans rfl
      clear hK hN hS hY hx hxw
      go_wp2_with fail
      refine Calls.mono HTC.out ?_
      rintro ee W4 ⟨rfl,hk4,hn4⟩
      have hcx : Cel (wr.alloc (Obj.cells #[.int .i64 K,.int .i64 N,.string S,.slice a1 n1 c1,.slice a2 n2 c2] 30)) W4 := (HKR.out.below al).cel hk4
      have BX4 := BX.cel hcx
      have BL4 := BLx.cel hcx
      have hkp4 : Kp (fun q => q = b) W2 W4 := (hkp.trans (Kp.ofBelow al)).trans hk4
      have HN4 : Hid (KnS s W4 b) := hn4
      have HKW4 : Hid (Kp (fun q => q = b) w W4) := HKW.out.trans hkp4
      clear HTC hk4 hn4 hcx BX BFx BLx g0 g1 g2 g3 g4 l3 l4 x0 x1 x2 x3 x4 al BFr BLr hkp HKR
      obtain ⟨bx,hbx⟩ : ∃ z,wr.heap.size = z := ⟨_,rfl⟩
      rw [hbx] at BX4
      simp only [hbx]
      clear hbx
      have j0 := (BX4.cell 0).trans rfl
      have j1 := (BX4.cell 1).trans rfl
      have j2 := (BX4.cell 2).trans rfl
      have j3 := (BX4.cell 3).trans rfl
      have j4 := (BX4.cell 4).trans rfl
      have l2 := (BL4.cell 2).trans rfl
      by_cases hY0 : Y = 0
      ·subst hY0
       by_cases hl1 : lb = 1
       ·have d5 : (lb == 1) = true := by simpa using hl1
        cases hZ : zroB x with
        | true =>
         have HZ : Hid (Calls Tryz.prog 16 #[.agg #[.int .i64 K,.int .i64 N,.string S,.slice a1 n1 c1,.slice a2 n2 c2]] W4 fun e w' => e = .returned (.bool true) ∧ Below W4.heap.size W4 w') := (by
          obtain ⟨p1,p2,p3,p4,p5⟩ := HPT.out
          have h1 := zero_any x a1 a2 n1 c1 n2 c2 W4 p4.symm p5.symm
          rw [p1,p2,p3,hZ] at h1
          exact h1 : Calls Tryz.prog _ _ W4 _)
         have HX12 : Hid (12 = X) := (by
          have h1 : oneV (msgV n s) ⟨f1,f2,lb,fk,ft⟩ x = 12 := by
           rw [oneV,if_neg (by simp [HY.out]),if_pos ⟨hl1,hZ⟩]
          rw [HXE.out,errF_hit HIX.out HI.out (by rw [h1]; decide),h1] : 12 = X)
         clear hZ hl1
         go_wp2_with fail
         refine HZ.out.mono ?_
         rintro ee W5 ⟨rfl,hb5⟩
         have HF : Hid (MesP s X b w (.returned (.int .i64 12)) W5) := MesP.of HX12.out (HKW4.out.trans (Kp.ofBelow hb5)) (HN4.out.below hb5)
         clear HZ hb5 j0 j1 j2 j3 j4 l2
         go_wp2_with fail
         go_ret
         exact HF.out
        | false =>
         have HZ : Hid (Calls Tryz.prog 16 #[.agg #[.int .i64 K,.int .i64 N,.string S,.slice a1 n1 c1,.slice a2 n2 c2]] W4 fun e w' => e = .returned (.bool false) ∧ Below W4.heap.size W4 w') := (by
          obtain ⟨p1,p2,p3,p4,p5⟩ := HPT.out
          have h1 := zero_any x a1 a2 n1 c1 n2 c2 W4 p4.symm p5.symm
          rw [p1,p2,p3,hZ] at h1
          exact h1 : Calls Tryz.prog _ _ W4 _)
         have HI2 : Hid (errF ((e.2.take (i + 1)).map (oneV (msgV n s) ⟨f1,f2,lb,fk,ft⟩)) = 0) := errF_on HIX.out HI.out (by rw [oneV,if_neg (by simp [HY.out]),if_neg (by rw [hZ]; simp)])
         clear hZ hl1
         go_wp2_with fail
         refine HZ.out.mono ?_
         rintro ee W5 ⟨rfl,hb5⟩
         have HN5 : Hid (KnS s W5 b) := HN4.out.below hb5
         have hkp5 : Kp (fun q => q = b) W2 W5 := hkp4.trans (Kp.ofBelow hb5)
         clear HZ hb5 j0 j1 j2 j3 j4 l2 HI HN4 hkp4 HKW4
         go_wp2_with fail
         go_roundw
         case rel => exact ⟨i + 1,by go_num,by omega,HI2,hkp5,HN5⟩
         case measure => simp [intOf]; omega
       ·have d5 : (lb == 1) = false := by simpa using hl1
        have HI2 : Hid (errF ((e.2.take (i + 1)).map (oneV (msgV n s) ⟨f1,f2,lb,fk,ft⟩)) = 0) := errF_on HIX.out HI.out (by rw [oneV,if_neg (by simp [HY.out]),if_neg (by simp [hl1])])
        clear hl1
        go_wp2_with fail
        clear j0 j1 j2 j3 j4 l2 HI d5
        go_roundw
        case rel => exact ⟨i + 1,by go_num,by omega,HI2,hkp4,HN4⟩
        case measure => simp [intOf]; omega
      ·have d4 : (Y != 0) = true := by simpa using hY0
       have HXY : Hid (Y = X) := (by
        have h1 : oneV (msgV n s) ⟨f1,f2,lb,fk,ft⟩ x = Y := by
         rw [oneV,if_pos (by simpa [HY.out] using hY0)]
         exact HY.out
        rw [HXE.out,errF_hit HIX.out HI.out (by rw [h1]; exact hY0),h1] : Y = X)
       clear hY0
       go_wp2_with fail
       go_ret
       exact MesP.of HXY.out HKW4.out HN4.out
     ·have HX0 : Hid (0 = X) := (by
       have h1 := HI.out
       rw [List.take_of_length_le (by rw [HXL.out]; omega)] at h1
       rw [HXE.out,h1] : 0 = X)
      clear BFr BLr HI
      go_wp2_with fail
      go_ret
      exact MesP.of HX0.out (HKW.out.trans hkp) HKR.out
   ·have d1 : (lb != 3) = true := by simpa using h3
    have d2 : decide (1 < (Xl : Int)) = false := by simp; have := fun h => h4 ⟨h3,h⟩; omega
    clear h3 h4
    go_wp2_with fail
    generalize (w1.alloc (Obj.cells #[.string f1,.int .i64 f2,.int .i64 lb,.int .i64 fk,.string ft] 54)) = W2 at *
    obtain ⟨bL,hbL⟩ : ∃ z,w1.heap.size = z := ⟨_,rfl⟩
    rw [hbL] at BL2
    simp only [hbL]
    clear hbL d1
    clear d2
    clear q1 r2
    go_loopw [33] (fun iv wr => ∃ i : Nat,iv = .int .i64 (i : Int) ∧ i ≤ Xl ∧ Hid (errF ((e.2.take i).map (oneV (msgV n s) ⟨f1,f2,lb,fk,ft⟩)) = 0) ∧ Kp (fun q => q = b) W2 wr ∧ Hid (KnS s wr b)) (fun iv _ => Xl - (intOf iv).toNat)
    case atStart => exact ⟨0,rfl,by omega,(by simp [errF] : errF ((e.2.take 0).map (oneV (msgV n s) ⟨f1,f2,lb,fk,ft⟩)) = 0),Kp.refl _ _,HK2⟩
    case round =>
     obtain ⟨i,rfl,hi,HI,hkp,HKR⟩ := hrel
     have hcel : Cel W2 wr := HK2.out.cel hkp
     have BFr := BF2.cel hcel
     have BLr := BL2.cel hcel
     by_cases hlt : i < Xl
     ·obtain ⟨x,hx⟩ : ∃ r,e.2[i]? = some r := ⟨_,List.getElem?_eq_getElem (by rw [HXL.out]; exact hlt)⟩
      obtain ⟨gx,ox,a1,n1,c1,a2,n2,c2,rfl,x0,x1,x2,x3,x4,hxw⟩ := trsR_get (HX2.out.celT hcel) hx
      obtain ⟨K,hK⟩ : ∃ z,x.kind = z := ⟨_,rfl⟩
      obtain ⟨N,hN⟩ : ∃ z,x.n = z := ⟨_,rfl⟩
      obtain ⟨S,hS⟩ : ∃ z,x.s = z := ⟨_,rfl⟩
      rw [hK] at x0
      rw [hN] at x1
      rw [hS] at x2
      rw [hK,hN,hS] at hxw
      have al : Below wr.heap.size wr (wr.alloc (Obj.cells #[.int .i64 K,.int .i64 N,.string S,.slice a1 n1 c1,.slice a2 n2 c2] 30)) := (Below.refl _ _).alloc (Nat.le_refl _) _
      have HPT : Hid (x.kind = K ∧ x.n = N ∧ x.s = S ∧ x.es.length = n1 ∧ x.rest.length = n2) := hxw.parts
      obtain ⟨Y,hY⟩ : ∃ z,treeV (msgV n s) fk ft x = z := ⟨_,rfl⟩
      have HY : Hid (treeV (msgV n s) fk ft x = Y) := hY
      have HTC : Hid (Calls Tryz.prog 99 #[.agg #[.string sn,.slice ma mn mc,.slice ea en ec,.slice ta tn tc,.map (some b)],.agg #[.int .i64 fk,.string ft],.agg #[.int .i64 K,.int .i64 N,.string S,.slice a1 n1 c1,.slice a2 n2 c2]] (wr.alloc (Obj.cells #[.int .i64 K,.int .i64 N,.string S,.slice a1 n1 c1,.slice a2 n2 c2] 30)) (MesP s Y b (wr.alloc (Obj.cells #[.int .i64 K,.int .i64 N,.string S,.slice a1 n1 c1,.slice a2 n2 c2] 30)))) := (by
       have h1 := tree_step s sn ma ea ta mn mc en ec tn tc b n IH x fk ft _ (wr.alloc (Obj.cells #[.int .i64 K,.int .i64 N,.string S,.slice a1 n1 c1,.slice a2 n2 c2] 30)) (hxw.cel (Cel.ofBelow al)) (HKR.out.below al) ((HS2.out.cel hcel).below al)
       rw [hY] at h1
       exact h1 : Calls Tryz.prog _ _ (wr.alloc (Obj.cells #[.int .i64 K,.int .i64 N,.string S,.slice a1 n1 c1,.slice a2 n2 c2] 30)) _)
      have HIX : Hid (e.2[i]? = some x) := hx
      have BX : Blk (wr.alloc (Obj.cells #[.int .i64 K,.int .i64 N,.string S,.slice a1 n1 c1,.slice a2 n2 c2] 30)) wr.heap.size #[.int .i64 K,.int .i64 N,.string S,.slice a1 n1 c1,.slice a2 n2 c2] 30 := Blk.new wr _ _
      have BFx := BFr.below al
      have BLx := BLr.below al
      have g0 := (BFx.cell 0).trans rfl
      have g1 := (BFx.cell 1).trans rfl
      have g2 := (BFx.cell 2).trans rfl
      have g3 := (BFx.cell 3).trans rfl
      have g4 := (BFx.cell 4).trans rfl
      have l3 := (BLx.cell 3).trans rfl
      have l4 := (BLx.cell 4).trans rfl
      clear hK hN hS hY hx hxw
      go_wp2_with fail
      refine Calls.mono HTC.out ?_
      rintro ee W4 ⟨rfl,hk4,hn4⟩
      have hcx : Cel (wr.alloc (Obj.cells #[.int .i64 K,.int .i64 N,.string S,.slice a1 n1 c1,.slice a2 n2 c2] 30)) W4 := (HKR.out.below al).cel hk4
      have BX4 := BX.cel hcx
      have BL4 := BLx.cel hcx
      have hkp4 : Kp (fun q => q = b) W2 W4 := (hkp.trans (Kp.ofBelow al)).trans hk4
      have HN4 : Hid (KnS s W4 b) := hn4
      have HKW4 : Hid (Kp (fun q => q = b) w W4) := HKW.out.trans hkp4
      clear HTC hk4 hn4 hcx BX BFx BLx g0 g1 g2 g3 g4 l3 l4 x0 x1 x2 x3 x4 al BFr BLr hkp HKR
      obtain ⟨bx,hbx⟩ : ∃ z,wr.heap.size = z := ⟨_,rfl⟩
      rw [hbx] at BX4
      simp only [hbx]
      clear hbx
      have j0 := (BX4.cell 0).trans rfl
      have j1 := (BX4.cell 1).trans rfl
      have j2 := (BX4.cell 2).trans rfl
      have j3 := (BX4.cell 3).trans rfl
      have j4 := (BX4.cell 4).trans rfl
      have l2 := (BL4.cell 2).trans rfl
      by_cases hY0 : Y = 0
      ·subst hY0
       by_cases hl1 : lb = 1
       ·have d5 : (lb == 1) = true := by simpa using hl1
        cases hZ : zroB x with
        | true =>
         have HZ : Hid (Calls Tryz.prog 16 #[.agg #[.int .i64 K,.int .i64 N,.string S,.slice a1 n1 c1,.slice a2 n2 c2]] W4 fun e w' => e = .returned (.bool true) ∧ Below W4.heap.size W4 w') := (by
          obtain ⟨p1,p2,p3,p4,p5⟩ := HPT.out
          have h1 := zero_any x a1 a2 n1 c1 n2 c2 W4 p4.symm p5.symm
          rw [p1,p2,p3,hZ] at h1
          exact h1 : Calls Tryz.prog _ _ W4 _)
         have HX12 : Hid (12 = X) := (by
          have h1 : oneV (msgV n s) ⟨f1,f2,lb,fk,ft⟩ x = 12 := by
           rw [oneV,if_neg (by simp [HY.out]),if_pos ⟨hl1,hZ⟩]
          rw [HXE.out,errF_hit HIX.out HI.out (by rw [h1]; decide),h1] : 12 = X)
         clear hZ hl1
         go_wp2_with fail
         refine HZ.out.mono ?_
         rintro ee W5 ⟨rfl,hb5⟩
         have HF : Hid (MesP s X b w (.returned (.int .i64 12)) W5) := MesP.of HX12.out (HKW4.out.trans (Kp.ofBelow hb5)) (HN4.out.below hb5)
         clear HZ hb5 j0 j1 j2 j3 j4 l2
         go_wp2_with fail
         go_ret
         exact HF.out
        | false =>
         have HZ : Hid (Calls Tryz.prog 16 #[.agg #[.int .i64 K,.int .i64 N,.string S,.slice a1 n1 c1,.slice a2 n2 c2]] W4 fun e w' => e = .returned (.bool false) ∧ Below W4.heap.size W4 w') := (by
          obtain ⟨p1,p2,p3,p4,p5⟩ := HPT.out
          have h1 := zero_any x a1 a2 n1 c1 n2 c2 W4 p4.symm p5.symm
          rw [p1,p2,p3,hZ] at h1
          exact h1 : Calls Tryz.prog _ _ W4 _)
         have HI2 : Hid (errF ((e.2.take (i + 1)).map (oneV (msgV n s) ⟨f1,f2,lb,fk,ft⟩)) = 0) := errF_on HIX.out HI.out (by rw [oneV,if_neg (by simp [HY.out]),if_neg (by rw [hZ]; simp)])
         clear hZ hl1
         go_wp2_with fail
         refine HZ.out.mono ?_
         rintro ee W5 ⟨rfl,hb5⟩
         have HN5 : Hid (KnS s W5 b) := HN4.out.below hb5
         have hkp5 : Kp (fun q => q = b) W2 W5 := hkp4.trans (Kp.ofBelow hb5)
         clear HZ hb5 j0 j1 j2 j3 j4 l2 HI HN4 hkp4 HKW4
         go_wp2_with fail
         go_roundw
         case rel => exact ⟨i + 1,by go_num,by omega,HI2,hkp5,HN5⟩
         case measure => simp [intOf]; omega
       ·have d5 : (lb == 1) = false := by simpa using hl1
        have HI2 : Hid (errF ((e.2.take (i + 1)).map (oneV (msgV n s) ⟨f1,f2,lb,fk,ft⟩)) = 0) := errF_on HIX.out HI.out (by rw [oneV,if_neg (by simp [HY.out]),if_neg (by simp [hl1])])
        clear hl1
        go_wp2_with fail
        clear j0 j1 j2 j3 j4 l2 HI d5
        go_roundw
        case rel => exact ⟨i + 1,by go_num,by omega,HI2,hkp4,HN4⟩
        case measure => simp [intOf]; omega
      ·have d4 : (Y != 0) = true := by simpa using hY0
       have HXY : Hid (Y = X) := (by
        have h1 : oneV (msgV n s) ⟨f1,f2,lb,fk,ft⟩ x = Y := by
         rw [oneV,if_pos (by simpa [HY.out] using hY0)]
         exact HY.out
        rw [HXE.out,errF_hit HIX.out HI.out (by rw [h1]; exact hY0),h1] : Y = X)
       clear hY0
       go_wp2_with fail
       go_ret
       exact MesP.of HXY.out HKW4.out HN4.out
     ·have HX0 : Hid (0 = X) := (by
       have h1 := HI.out
       rw [List.take_of_length_le (by rw [HXL.out]; omega)] at h1
       rw [HXE.out,h1] : 0 = X)
      clear BFr BLr HI
      go_wp2_with fail
      go_ret
      exact MesP.of HX0.out (HKW.out.trans hkp) HKR.out
theorem flat_inv {size : Nat} : ∀ (rs : List (List Value)),(∀ r ∈ rs,r.length = size) → ∀ (j : Nat) (u : Value),rs.flatten[j]? = some u → ∃ i c k,rs[i]? = some c ∧ c[k]? = some u ∧ j = i * size + k
 | [],_,j,u,h => by simp at h
 | x :: l,hl,j,u,h => by
  have hx := hl x (List.mem_cons_self ..)
  by_cases hj : j < x.length
  ·rw [List.flatten_cons,List.getElem?_append_left hj] at h
   exact ⟨0,x,j,rfl,h,by simp⟩
  ·rw [List.flatten_cons,List.getElem?_append_right (by omega)] at h
   obtain ⟨i,c,k,h1,h2,h3⟩ := flat_inv l (fun r hr => hl r (List.mem_cons_of_mem _ hr)) _ u h
   exact ⟨i + 1,c,k,by simpa using h1,h2,by rw [Nat.add_mul]; omega⟩
theorem run_joinG {w : World} (t ty e : TypeId) (size bytes : Nat) (z : Value) (ht : Tryz.prog.underlying t = some (.slice e)) (hinfo : (Tryz.prog.info? e).map (fun i => (i.zero,i.size,i.bytes)) = some (some z,size,bytes)) (hzs : z.cells.size = size) (hsz : 0 < size)
  (base : Nat) (v : Value) (n : Nat) (xs : List Value) (hown : w.ownsRow base e size v n xs)
  (xv : Value) (rs : List (List Value)) (hr : RowG w xv size rs) (hl : ∀ r ∈ rs,r.length = size) (h1 : ∀ u ∈ rs.flatten,u.oneCell' = true) (hb : n + rs.length ≤ 1000000) (hby : bytes ≤ 1000) (hbase : base ≤ w.heap.size) :
  ∃ v' w',(Builtin.append_ #[t,t] ty #[v,xv]).run Tryz.prog w = .ok v' w' ∧ w'.ownsRow base e size v' (n + rs.length) (xs ++ rs.flatten) ∧ w.grownBy w' v.ownBlock := by
 obtain ⟨i0,hi,hz0,hz1,hz2⟩ := info_parts hinfo
 obtain ⟨ao,cap,rfl,q1,q2,q0,q3⟩ := hr.form
 cases ao with
 | none =>
  have hrs : rs = [] := by
   cases rs with
   | nil => rfl
   | cons r l => obtain ⟨g,off,e,_⟩ := q3 (by simp); cases e
  subst hrs
  have := q0 rfl
  subst this
  have hrun := run_append_owned_none (P := Tryz.prog) (w := w) base t ty e i0 size ht hi v n xs hown
  refine ⟨v,w,hrun,?_,⟨rfl,rfl,rfl,Nat.le_refl _,fun _ _ _ => rfl⟩⟩
  rw [List.flatten_nil,List.append_nil]
  exact hown
 | some ad =>
  obtain ⟨v',w',g0,g1,g2,_⟩ := run_append_own w base t ty e i0 z size bytes ht hi hz0 hz1 hz2 hzs hsz v _ _ hown ad rs.length cap rs.flatten (by rw [flat_len rs hl]) (fun j u hu => by
   obtain ⟨i,c,k,e1,e2,rfl⟩ := flat_inv rs hl j u hu
   obtain ⟨g,off,e3,e4⟩ := q3 (by intro e; rw [e] at e1; simp at e1)
   cases e3
   have := e4 i c u k e1 e2
   rw [Nat.add_assoc] at this
   rw [Addr.add_lit]
   exact this) h1 (by unfold maxLen; omega) (Nat.le_trans (Nat.mul_le_mul hb hby) (by decide)) hbase
  exact ⟨v',w',g0,g1,g2⟩
theorem wpList_joinG {w : World} {ops : Array Oper} {rest : List Oper} {o : Oper} {a : Act} {Q : Exit → Act → World → Prop} (hgd : o.guard = none) (s x : Operand) (t e : TypeId) (size bytes : Nat) (z : Value)
  (ho : o.op = .call { callee := .builtin .append,args := #[s,x],argTypes := #[t,t] }) (ht : Tryz.prog.underlying t = some (.slice e)) (hinfo : (Tryz.prog.info? e).map (fun i => (i.zero,i.size,i.bytes)) = some (some z,size,bytes)) (hzs : z.cells.size = size) (hsz : 0 < size)
  (base : Nat) (v : Value) (n : Nat) (xs : List Value) (hs : a.eval s = v) (hown : w.ownsRow base e size v n xs)
  (xv : Value) (rs : List (List Value)) (hx : a.eval x = xv) (hr : RowG w xv size rs) (hl : ∀ r ∈ rs,r.length = size) (h1 : ∀ u ∈ rs.flatten,u.oneCell' = true) (hb : n + rs.length ≤ 1000000) (hby : bytes ≤ 1000) (hbase : base ≤ w.heap.size)
  (h : ∀ v' w',w'.ownsRow base e size v' (n + rs.length) (xs ++ rs.flatten) → w.grownBy w' v.ownBlock → wpList Tryz.prog ops Q rest (a.put o.dst v') w') : wpList Tryz.prog ops Q (o :: rest) a w := by
 obtain ⟨i0,hi,hz0,hz1,hz2⟩ := info_parts hinfo
 obtain ⟨ao,cap,rfl,q1,q2,q0,q3⟩ := hr.form
 cases ao with
 | none =>
  have hrs : rs = [] := by
   cases rs with
   | nil => rfl
   | cons r l => obtain ⟨g,off,e,_⟩ := q3 (by simp); cases e
  subst hrs
  have := q0 rfl
  subst this
  refine wpList_append_own_none hgd s x t ho base e i0 size ht hi v _ _ hs hown hx ?_
  refine h v w ?_ ⟨rfl,rfl,rfl,Nat.le_refl _,fun _ _ _ => rfl⟩
  rw [List.flatten_nil,List.append_nil]
  exact hown
 | some ad =>
  refine wpList_append_own w hgd s x t ho base e i0 z size bytes ht hi hz0 hz1 hz2 hzs hsz v _ _ hs hown ad rs.length cap rs.flatten hx (by rw [flat_len rs hl]) ?_ h1 (by unfold maxLen; omega) ?_ hbase ?_
  ·intro j u hu
   obtain ⟨i,c,k,e1,e2,rfl⟩ := flat_inv rs hl j u hu
   obtain ⟨g,off,e3,e4⟩ := q3 (by intro e; rw [e] at e1; simp at e1)
   cases e3
   have := e4 i c u k e1 e2
   rw [Nat.add_assoc] at this
   rw [Addr.add_lit]
   exact this
  ·exact Nat.le_trans (Nat.mul_le_mul hb hby) (by decide)
  ·intro v' w' g1 g2 _
   exact h v' w' g1 g2
theorem infoFl : (Tryz.prog.info? 54).map (fun i => (i.zero,i.size,i.bytes)) = some (some (.agg #[.string ⟨#[]⟩,.int .i64 0,.int .i64 0,.int .i64 0,.string ⟨#[]⟩]),5,56) := by kernel_rfl
theorem infoIn : (Tryz.prog.info? 3).map (fun i => (i.zero,i.size,i.bytes)) = some (some (.int .i64 0),1,8) := by kernel_rfl
theorem infoNm : (Tryz.prog.info? 70).map (fun i => (i.zero,i.size,i.bytes)) = some (some (.agg #[.string ⟨#[]⟩,.int .i64 0]),2,24) := by kernel_rfl
theorem infoMs : (Tryz.prog.info? 50).map (fun i => (i.zero,i.size,i.bytes)) = some (some (.agg #[.string ⟨#[]⟩,.slice none 0 0,.slice none 0 0]),3,64) := by kernel_rfl
theorem infoEn : (Tryz.prog.info? 68).map (fun i => (i.zero,i.size,i.bytes)) = some (some (.agg #[.string ⟨#[]⟩,.slice none 0 0]),2,40) := by kernel_rfl
theorem infoMt : (Tryz.prog.info? 72).map (fun i => (i.zero,i.size,i.bytes)) = some (some (.agg #[.string ⟨#[]⟩,.string ⟨#[]⟩,.string ⟨#[]⟩]),3,48) := by kernel_rfl
theorem flr_len (fs : List FlS) : ∀ r ∈ flRows fs,r.length = 5 := fun r hr => by simp only [flRows,List.mem_map] at hr; obtain ⟨_,_,rfl⟩ := hr; rfl
theorem inr_len (fs : List Int) : ∀ r ∈ inRows fs,r.length = 1 := fun r hr => by simp only [inRows,List.mem_map] at hr; obtain ⟨_,_,rfl⟩ := hr; rfl
theorem nmr_len (fs : List NmS) : ∀ r ∈ nmRows fs,r.length = 2 := fun r hr => by simp only [nmRows,List.mem_map] at hr; obtain ⟨_,_,rfl⟩ := hr; rfl
theorem mtr_len (fs : List MtS) : ∀ r ∈ mtRows fs,r.length = 3 := fun r hr => by simp only [mtRows,List.mem_map] at hr; obtain ⟨_,_,rfl⟩ := hr; rfl
theorem flr_one (fs : List FlS) : ∀ u ∈ (flRows fs).flatten,u.oneCell' = true := by
 intro u hu
 simp only [List.mem_flatten,flRows,List.mem_map] at hu
 obtain ⟨l,⟨f,_,rfl⟩,hu⟩ := hu
 simp only [FlS.cells,List.mem_cons,List.not_mem_nil,or_false] at hu
 rcases hu with rfl | rfl | rfl | rfl | rfl <;> rfl
theorem inr_one (fs : List Int) : ∀ u ∈ (inRows fs).flatten,u.oneCell' = true := by
 intro u hu
 simp only [List.mem_flatten,inRows,List.mem_map] at hu
 obtain ⟨l,⟨f,_,rfl⟩,hu⟩ := hu
 simp only [List.mem_cons,List.not_mem_nil,or_false] at hu
 subst hu; rfl
theorem nmr_one (fs : List NmS) : ∀ u ∈ (nmRows fs).flatten,u.oneCell' = true := by
 intro u hu
 simp only [List.mem_flatten,nmRows,List.mem_map] at hu
 obtain ⟨l,⟨f,_,rfl⟩,hu⟩ := hu
 simp only [NmS.cells,List.mem_cons,List.not_mem_nil,or_false] at hu
 rcases hu with rfl | rfl <;> rfl
theorem mtr_one (fs : List MtS) : ∀ u ∈ (mtRows fs).flatten,u.oneCell' = true := by
 intro u hu
 simp only [List.mem_flatten,mtRows,List.mem_map] at hu
 obtain ⟨l,⟨f,_,rfl⟩,hu⟩ := hu
 simp only [MtS.cells,List.mem_cons,List.not_mem_nil,or_false] at hu
 rcases hu with rfl | rfl | rfl <;> rfl
set_option maxHeartbeats 1000000 in
theorem freshF_any {w : World} {v : Value} {fs : List FlS} (hr : RowG w v 5 (flRows fs)) (hl : fs.length ≤ 100) :
  Calls Tryz.prog 56 #[v] w fun e w' => ∃ r,e = .returned r ∧ w'.ownsRow w.heap.size 54 5 r fs.length (flRows fs).flatten ∧ Below w.heap.size w w' := by
 have hN : (flRows fs).length = fs.length := by simp [flRows]
 have HN : Hid ((flRows fs).length = fs.length) := hN
 have HR : Hid (RowG w v 5 (flRows fs)) := hr
 have HL : Hid (fs.length ≤ 100) := hl
 clear hr hN hl
 go_enter Tryz.func56,Tryz.ntmps56
 go_wp2_with (first
  | (at_builtin; refine wpList_joinG rfl _ _ 48 54 5 56 _ rfl Tryz.underlying48 infoFl rfl (by decide) w.heap.size (.slice none 0 0) 0 [] rfl (World.ownsRow_nil _ _ _ _) v (flRows fs) rfl HR.out (flr_len fs) (flr_one fs) ?c1 (by decide) (Nat.le_refl _) ?_)
  | fail)
 case c1 => have h1 := HN.out; have h2 := HL.out; omega
 intro r w1 ho hg
 have hb : Below w.heap.size w w1 := (Below.refl _ _).grown hg (Nat.le_refl _) (fun k hk => by cases hk)
 have HO : Hid (w1.ownsRow w.heap.size 54 5 r fs.length (flRows fs).flatten) := by
  show World.ownsRow _ _ _ _ _ _ _
  rw [HN.out] at ho
  exact ho
 clear hg ho
 go_wp2_with fail
 go_ret
 exact ⟨_,rfl,HO.out,hb⟩
set_option maxHeartbeats 1000000 in
theorem freshI_any {w : World} {v : Value} {fs : List Int} (hr : RowG w v 1 (inRows fs)) (hl : fs.length ≤ 100) :
  Calls Tryz.prog 57 #[v] w fun e w' => ∃ r,e = .returned r ∧ w'.ownsRow w.heap.size 3 1 r fs.length (inRows fs).flatten ∧ Below w.heap.size w w' := by
 have hN : (inRows fs).length = fs.length := by simp [inRows]
 have HN : Hid ((inRows fs).length = fs.length) := hN
 have HR : Hid (RowG w v 1 (inRows fs)) := hr
 have HL : Hid (fs.length ≤ 100) := hl
 clear hr hN hl
 go_enter Tryz.func57,Tryz.ntmps57
 go_wp2_with (first
  | (at_builtin; refine wpList_joinG rfl _ _ 47 3 1 8 _ rfl Tryz.underlying47 infoIn rfl (by decide) w.heap.size (.slice none 0 0) 0 [] rfl (World.ownsRow_nil _ _ _ _) v (inRows fs) rfl HR.out (inr_len fs) (inr_one fs) ?c1 (by decide) (Nat.le_refl _) ?_)
  | fail)
 case c1 => have h1 := HN.out; have h2 := HL.out; omega
 intro r w1 ho hg
 have hb : Below w.heap.size w w1 := (Below.refl _ _).grown hg (Nat.le_refl _) (fun k hk => by cases hk)
 have HO : Hid (w1.ownsRow w.heap.size 3 1 r fs.length (inRows fs).flatten) := by
  show World.ownsRow _ _ _ _ _ _ _
  rw [HN.out] at ho
  exact ho
 clear hg ho
 go_wp2_with fail
 go_ret
 exact ⟨_,rfl,HO.out,hb⟩
end
section
open Go.ChangeShapes Go.WideShapes Go.ChangeAt Go.RowKit Go.Maps
set_option maxRecDepth 20000
set_option maxHeartbeats 4000000 in
theorem cmessage_any {w : World} {snm nm : ByteArray} {ae at' : Option Addr} {E ce T ct : Nat} {vm : Value} {ms : List MsS} (hr : MsIn w vm ms) (hl : ∀ m ∈ ms,m.fields.length ≤ 20 ∧ m.reserved.length ≤ 40) :
  Calls Tryz.prog 34 #[.agg #[.string snm,vm,.slice ae E ce,.slice at' T ct],.string nm] w fun e w' => ∃ vf vr,e = .returned (.tuple #[.agg #[.string ((ms.find? (fun m => decide (m.name = nm))).getD zeroM).name,vf,vr],.bool (ms.find? (fun m => decide (m.name = nm))).isSome]) ∧ w'.ownsRow w.heap.size 54 5 vf ((ms.find? (fun m => decide (m.name = nm))).getD zeroM).fields.length (flRows ((ms.find? (fun m => decide (m.name = nm))).getD zeroM).fields).flatten ∧ w'.ownsRow w.heap.size 3 1 vr ((ms.find? (fun m => decide (m.name = nm))).getD zeroM).reserved.length (inRows ((ms.find? (fun m => decide (m.name = nm))).getD zeroM).reserved).flatten ∧ Below w.heap.size w w' := by
 obtain ⟨a,c,rfl,q1,q2⟩ := hr.form2
 have HR : Hid (MsIn w (.slice a ms.length c) ms) := hr
 obtain ⟨N,hN⟩ : ∃ N,ms.length = N := ⟨_,rfl⟩
 rw [hN] at HR q1 ⊢
 have HN : Hid (ms.length = N) := hN
 clear hN hr
 have HL : Hid (∀ m ∈ ms,m.fields.length ≤ 20 ∧ m.reserved.length ≤ 40) := hl
 clear hl
 obtain ⟨A,hA⟩ : ∃ A,(ms.find? (fun m => decide (m.name = nm))) = A := ⟨_,rfl⟩
 rw [hA]
 have HA : Hid (A = ((ms.drop 0).find? (fun m => decide (m.name = nm)))) := hA.symm
 clear hA
 have BX0 : Blk ((w.alloc (.cells #[.string snm,.slice a N c,.slice ae E ce,.slice at' T ct] 26)).alloc (.cells #[.string ⟨#[]⟩,.slice none 0 0,.slice none 0 0] 50)) w.heap.size #[.string snm,.slice a N c,.slice ae E ce,.slice at' T ct] 26 := (Blk.new w _ _).below ((Below.refl _ _).alloc (Nat.le_refl _) _)
 have BR0 : Blk ((w.alloc (.cells #[.string snm,.slice a N c,.slice ae E ce,.slice at' T ct] 26)).alloc (.cells #[.string ⟨#[]⟩,.slice none 0 0,.slice none 0 0] 50)) (w.heap.size + 1) #[.string ⟨#[]⟩,.slice none 0 0,.slice none 0 0] 50 := by
  have := Blk.new (w.alloc (.cells #[.string snm,.slice a N c,.slice ae E ce,.slice at' T ct] 26)) #[.string ⟨#[]⟩,.slice none 0 0,.slice none 0 0] 50
  rwa [show (w.alloc (.cells #[.string snm,.slice a N c,.slice ae E ce,.slice at' T ct] 26)).heap.size = w.heap.size + 1 by simp] at this
 have hb0 : Below w.heap.size w ((w.alloc (.cells #[.string snm,.slice a N c,.slice ae E ce,.slice at' T ct] 26)).alloc (.cells #[.string ⟨#[]⟩,.slice none 0 0,.slice none 0 0] 50)) := ((Below.refl _ _).alloc (Nat.le_refl _) _).alloc (by simp) _
 go_enter Tryz.func34,Tryz.ntmps34
 go_wp2_with fail
 go_loopw [11] (fun iv wr => ∃ k : Nat,iv = .int .i64 (k : Int) ∧ k ≤ N ∧ Hid (A = ((ms.drop k).find? (fun m => decide (m.name = nm)))) ∧ Below w.heap.size w wr ∧ Blk wr (w.heap.size + 1) #[.string ⟨#[]⟩,.slice none 0 0,.slice none 0 0] 50) (fun iv _ => N - (intOf iv).toNat)
 case atStart => exact ⟨0,rfl,by omega,HA,hb0,BR0⟩
 case round =>
  obtain ⟨k,rfl,hk,HAk,hbel,BR⟩ := hrel
  clear BX0 BR0 hb0
  have hlt2 : w.heap.size + 1 < wr.heap.size := BR.lt
  have r0 := (BR.cell 0).trans rfl
  have z0 := BR.froz 0
  have r1 := (BR.cell 1).trans rfl
  have z1 := BR.froz 1
  have r2 := (BR.cell 2).trans rfl
  have z2 := BR.froz 2
  by_cases hlt : k < N
  ·obtain ⟨f,hf⟩ : ∃ n,ms[k]? = some n := ⟨_,List.getElem?_eq_getElem (by rw [HN.out]; exact hlt)⟩
   obtain ⟨g,off,vf,vr,rfl,c0',c1',c2',hrf,hrr⟩ := HR.out.get hf
   have c0 := (hbel.cell (World.block_lt_of_cell? _ _ c0')).trans c0'
   have c1 := (hbel.cell (World.block_lt_of_cell? _ _ c1')).trans c1'
   have c2 := (hbel.cell (World.block_lt_of_cell? _ _ c2')).trans c2'
   clear c0' c1' c2'
   have HF : Hid (RowG w vf 5 (flRows f.fields)) := hrf
   have HV : Hid (RowG w vr 1 (inRows f.reserved)) := hrr
   obtain ⟨a3,c3,rfl,_,_⟩ := hrf.form2
   obtain ⟨a4,c4,rfl,_,_⟩ := hrr.form2
   have HF : Hid (RowG w (.slice a3 (flRows f.fields).length c3) 5 (flRows f.fields)) := HF
   have HV : Hid (RowG w (.slice a4 (inRows f.reserved).length c4) 1 (inRows f.reserved)) := HV
   have HLf : Hid _ := HL.out f (List.mem_of_getElem? hf)
   have HA2 : Hid (A = if decide (f.name = nm) = true then some f else ((ms.drop (k + 1)).find? (fun m => decide (m.name = nm)))) := by
    show _ = _
    rw [HAk.out,drop_at hf,List.find?_cons]
    cases decide (f.name = nm) <;> rfl
   obtain ⟨f0,ff,fr⟩ := f
   simp only at c0 c1 c2 HA2 HF HV HLf
   generalize hnF : (flRows ff).length = nF at *
   generalize hnR : (inRows fr).length = nR at *
   clear hrf hrr hf HAk hnF hnR
   by_cases he : f0 = nm
   ·subst he
    have HA3 : Hid (A = some ⟨f0,ff,fr⟩) := by show _ = _; rw [HA2.out,if_pos (by simp)]
    clear HA2
    go_wp2_with fail
    refine wp_region_held_drew (S := fun _ => True) (by kernel_rfl) trivial (fun hS => ?_)
    have hba : Below w.heap.size w (wr.alloc (.cells #[.string f0,.slice a3 nF c3,.slice a4 nR c4] 50)).drew := below_drewN 1 (hbel.alloc (by omega) _)
    have BT : Blk (wr.alloc (.cells #[.string f0,.slice a3 nF c3,.slice a4 nR c4] 50)).drew wr.heap.size #[.string f0,.slice a3 nF c3,.slice a4 nR c4] 50 := Blk.new wr #[.string f0,.slice a3 nF c3,.slice a4 nR c4] 50
    have BR2 : Blk (wr.alloc (.cells #[.string f0,.slice a3 nF c3,.slice a4 nR c4] 50)).drew (w.heap.size + 1) #[.string ⟨#[]⟩,.slice none 0 0,.slice none 0 0] 50 := BR.below (below_drewN 1 ((Below.refl _ _).alloc (Nat.le_refl _) _))
    have HSZ : Hid ((wr.alloc (.cells #[.string f0,.slice a3 nF c3,.slice a4 nR c4] 50)).drew.heap.size = wr.heap.size + 1) := by show _ = _; simp [World.drew]
    generalize (wr.alloc (.cells #[.string f0,.slice a3 nF c3,.slice a4 nR c4] 50)).drew = W0 at *
    obtain ⟨bt,hbt⟩ : ∃ n,wr.heap.size = n := ⟨_,rfl⟩
    rw [hbt] at BT HSZ hlt2 ⊢
    clear hbt c0 c1 c2 r0 r1 r2 z0 z1 z2 hS
    have t1 : W0.cell? ⟨bt,1,none⟩ = some (.slice a3 nF c3) := BT.cell 1
    have t2 : W0.cell? ⟨bt,2,none⟩ = some (.slice a4 nR c4) := BT.cell 2
    refine rg_take 0 19 (.pointer (some ⟨bt,1,none⟩)) _ rfl rfl (by kernel_rfl) (by kernel_rfl) (by kernel_rfl) (fun _ _ _ h => h) (by rfl) (fun w' hw' => ?_) trivial (listed' := bts 10 1) (by kernel_rfl) rfl ?_
    ·go_simp
    simp only [zsA,zsZ,zsS]
    refine rg_take 3 22 (.pointer (some ⟨bt,2,none⟩)) _ rfl rfl (by kernel_rfl) (by kernel_rfl) (by kernel_rfl) (fun _ _ _ h => h) (by rfl) (fun w' hw' => ?_) trivial (listed' := bts 10 9) (by kernel_rfl) rfl ?_
    ·go_simp
    simp only [zsA,zsZ,zsS]
    refine rg_llc 1 4 2 20 23 21 (.slice a3 nF c3) (.slice a4 nR c4) 56 #[.slice a3 nF c3] (fun W => W.cell? ⟨bt,2,none⟩ = some (.slice a4 nR c4)) rfl rfl rfl rfl rfl rfl (by kernel_rfl) (by kernel_rfl) (by kernel_rfl) (by kernel_rfl) (by kernel_rfl) (fun _ => rfl) (fun _ => rfl) (fun _ => rfl) (by decide) (by decide) (by decide) (by decide) (by go_simp) (by go_simp) (by go_simp) (by go_simp) (fun v W hLD => by go_simp) (fun W => by go_simp) (fun W => by go_simp) ?_
    refine (freshF_any (HF.out.below hba) (by have := HLf.out; omega)).mono ?_
    rintro e w2 ⟨rv,rfl,ho,hb2⟩
    have BT2 := BT.below hb2
    have BR3 := BR2.below hb2
    have hbw2 : Below w.heap.size w w2 := hba.trans (hb2.mono hba.size)
    refine ⟨_,rfl,BT2.cell 2,?_⟩
    simp only [zsA,zsZ,zsS]
    clear t1 t2
    refine rg_take 6 25 (.pointer (some ⟨bt,1,none⟩)) _ rfl rfl (by kernel_rfl) (by kernel_rfl) (by kernel_rfl) (fun _ _ _ h => h) (by rfl) (fun w' hw' => ?_) trivial (listed' := bts 10 95) (by kernel_rfl) rfl ?_
    ·go_simp
    simp only [zsA,zsZ,zsS]
    refine rg_call 5 24 57 #[.slice a4 nR c4] rfl rfl (by kernel_rfl) (by rfl) (listed' := bts 10 127) (by kernel_rfl) (fun W => by go_simp) ?_
    refine (freshI_any (HV.out.below hbw2) (by have := HLf.out; omega)).mono ?_
    rintro e w3 ⟨rw,rfl,ho2,hb3⟩
    refine ⟨_,rfl,trivial,?_⟩
    simp only [zsA,zsZ,zsS]
    have BT3 := BT2.below hb3
    have BR4 := BR3.below hb3
    have hbw : Below w.heap.size w w3 := hbw2.trans (hb3.mono hbw2.size)
    have HO1 : Hid (w3.ownsRow (bt + 1) 54 5 rv ff.length (flRows ff).flatten) := by show World.ownsRow _ _ _ _ _ _ _; rw [HSZ.out] at ho; exact own_below ho hb3
    have HO2 : Hid (w3.ownsRow (bt + 1) 3 1 rw fr.length (inRows fr).flatten) := own_base ho2 (by have := hb2.size; have := HSZ.out; omega)
    obtain ⟨ra,rc,hrv⟩ := own_form ho
    obtain ⟨qa,qc,hqv⟩ := own_form ho2
    subst hrv hqv
    have HO1 : Hid (w3.ownsRow (bt + 1) 54 5 (.slice ra ff.length rc) ff.length (flRows ff).flatten) := HO1
    have HO2 : Hid (w3.ownsRow (bt + 1) 3 1 (.slice qa fr.length qc) fr.length (inRows fr).flatten) := HO2
    obtain ⟨nFF,hNL⟩ : ∃ x,ff.length = x := ⟨_,rfl⟩
    obtain ⟨nRR,hRL⟩ : ∃ x,fr.length = x := ⟨_,rfl⟩
    rw [hNL] at HO1 ⊢
    rw [hRL] at HO2 ⊢
    have HNL : Hid (ff.length = nFF) := hNL
    have HRL : Hid (fr.length = nRR) := hRL
    clear hNL hRL
    have hlt3 : bt < w3.heap.size := BT3.lt
    clear ho ho2 hb2 hb3 BT BT2 BR2 BR3 hba hbw2 hbel HSZ BR
    have t0 : w3.cell? ⟨bt,0,none⟩ = some (.string f0) := BT3.cell 0
    have t1 : w3.cell? ⟨bt,1,none⟩ = some (.slice a3 nF c3) := BT3.cell 1
    have t2 : w3.cell? ⟨bt,2,none⟩ = some (.slice a4 nR c4) := BT3.cell 2
    have y1 := BT3.froz 1
    have y2 := BT3.froz 2
    have r0 := (BR4.cell 0).trans rfl
    have r1 := (BR4.cell 1).trans rfl
    have r2 := (BR4.cell 2).trans rfl
    have z0 := BR4.froz 0
    have z1 := BR4.froz 1
    have z2 := BR4.froz 2
    have hdd : w.heap.size + 1 ≠ bt := by omega
    refine rg_store 7 (w3.setCell ⟨bt,1,none⟩ (.slice ra nFF rc)) rfl rfl (by kernel_rfl) (by rfl) (listed' := bts 10 255) (by kernel_rfl) (by go_simp) trivial ?_
    refine rg_take 8 26 (.pointer (some ⟨bt,2,none⟩)) _ rfl rfl (by kernel_rfl) (by kernel_rfl) (by kernel_rfl) (fun _ _ _ h => h) (by rfl) (fun w' hw' => ?_) trivial (listed' := bts 10 511) (by kernel_rfl) rfl ?_
    ·go_simp
    simp only [zsA,zsZ,zsS]
    refine rg_store 9 ((w3.setCell ⟨bt,1,none⟩ (.slice ra nFF rc)).setCell ⟨bt,2,none⟩ (.slice qa nRR qc)) rfl rfl (by kernel_rfl) (by rfl) (listed' := bts 10 1023) (by kernel_rfl) (by go_simp) trivial ?_
    refine wpAnyH_done (by kernel_rfl) ?_ _
    go_wp2_with fail
    refine bodyPost_ret (results_two rfl _ _ _ ⟨w.heap.size + 1,0,none⟩ (.agg #[.string f0,.slice ra nFF rc,.slice qa nRR qc]) (by go_simp) (by go_simp)) rfl ?_
    refine ⟨.slice ra nFF rc,.slice qa nRR qc,ret_two (by rw [HA3.out]; rfl) (by rw [HA3.out]; rfl),?_,?_,?_⟩
    ·rw [HA3.out]
     rw [show ((some (⟨f0,ff,fr⟩ : MsS)).getD zeroM).fields.length = nFF from HNL.out]
     refine own_base (own_kp HO1.out (S := fun k => k = bt ∨ k = w.heap.size + 1) ?_ (fun k hk => by omega)) (by omega)
     repeat' first | exact Kp.refl _ _ | refine Kp.setCell ?_ (fun _ => by simp) _
    ·rw [HA3.out]
     rw [show ((some (⟨f0,ff,fr⟩ : MsS)).getD zeroM).reserved.length = nRR from HRL.out]
     refine own_base (own_kp HO2.out (S := fun k => k = bt ∨ k = w.heap.size + 1) ?_ (fun k hk => by omega)) (by omega)
     repeat' first | exact Kp.refl _ _ | refine Kp.setCell ?_ (fun _ => by simp) _
    ·repeat' first | exact hbw | refine Below.setCell ?_ (by first | (simp; done) | (simp; omega)) _
   ·have hq := bytes_ne he
    have HA3 : Hid (A = ((ms.drop (k + 1)).find? (fun m => decide (m.name = nm)))) := by show _ = _; rw [HA2.out,if_neg (by simpa using he)]
    have hb2 : Below w.heap.size w (wr.alloc (.cells #[.string f0,.slice a3 nF c3,.slice a4 nR c4] 50)) := hbel.alloc (by omega) _
    have BR2 : Blk (wr.alloc (.cells #[.string f0,.slice a3 nF c3,.slice a4 nR c4] 50)) (w.heap.size + 1) #[.string ⟨#[]⟩,.slice none 0 0,.slice none 0 0] 50 := BR.below ((Below.refl _ _).alloc (Nat.le_refl _) _)
    go_wp2_with fail
    go_roundw
    case rel => exact ⟨k + 1,by go_num,by omega,HA3,hb2,BR2⟩
    case measure => simp [intOf]; omega
  ·have HA2 : Hid (A = none) := by show _ = _; rw [HAk.out,drop_end (by rw [HN.out]; omega)]; rfl
   go_wp2_with fail
   refine bodyPost_ret (results_two rfl _ _ _ ⟨w.heap.size + 1,0,none⟩ (.agg #[.string ⟨#[]⟩,.slice none 0 0,.slice none 0 0]) (by go_simp) (by go_simp)) rfl ?_
   exact ⟨.slice none 0 0,.slice none 0 0,ret_two (by rw [HA2.out]; rfl) (by rw [HA2.out]; rfl),by rw [HA2.out]; exact World.ownsRow_nil _ _ _ _,by rw [HA2.out]; exact World.ownsRow_nil _ _ _ _,(Below.setCell (Below.setCell (Below.setCell hbel (by simp) _) (by simp) _) (by simp) _)⟩
end
section
open Go.ChangeShapes Go.WideShapes Go.ChangeAt Go.RowKit
set_option maxRecDepth 20000
theorem TrW.trI {n : Nat} {w : World} {t : Tr} {K N : Int} {S : ByteArray} {a1 a2 : Option Addr} {n1 c1 n2 c2 : Nat} (h : TrW n w (.agg #[.int .i64 K,.int .i64 N,.string S,.slice a1 n1 c1,.slice a2 n2 c2]) t) : TrI n w ⟨K,N,S,plOf (.slice a1 n1 c1),plOf (.slice a2 n2 c2)⟩ t := by
 obtain ⟨p1,p2,p3,p4,p5⟩ := h.parts
 obtain ⟨r,e,h⟩ := h
 have e1 : r = [.int .i64 K,.int .i64 N,.string S,.slice a1 n1 c1,.slice a2 n2 c2] := by simpa using congrArg (fun v => match v with | .agg a => a.toList | _ => []) e.symm
 subst e1
 refine ⟨.slice a1 n1 c1,.slice a2 n2 c2,by rw [idOf,p1,p2,p3],?_⟩
 rw [p1,p2,p3]
 exact h
theorem flr_len5 (fs : List FlS) : ∀ r ∈ flRows fs,r.length = 5 := fun r hr => by
 simp only [flRows,List.mem_map] at hr
 obtain ⟨_,_,rfl⟩ := hr
 rfl
set_option maxHeartbeats 8000000 in
theorem message_step (s : ScS) (sn : ByteArray) (ma ea ta : Option Addr) (mn mc en ec tn tc b : Nat) (hl : ∀ m ∈ s.msgs,m.fields.length ≤ 20 ∧ m.reserved.length ≤ 40) (n : Nat) (IH : ∀ t nm v w,TrW n w v t → KnS s w b → ScIn w (.agg #[.string sn,.slice ma mn mc,.slice ea en ec,.slice ta tn tc]) s → Calls Tryz.prog 36 #[.agg #[.string sn,.slice ma mn mc,.slice ea en ec,.slice ta tn tc,.map (some b)],.string nm,v] w (MesP s (msgV n s nm t) b w))
  (t : Tr) (nm : ByteArray) (v : Value) (w : World) (ht : TrW (n + 1) w v t) (hk : KnS s w b) (hs : ScIn w (.agg #[.string sn,.slice ma mn mc,.slice ea en ec,.slice ta tn tc]) s) : Calls Tryz.prog 36 #[.agg #[.string sn,.slice ma mn mc,.slice ea en ec,.slice ta tn tc,.map (some b)],.string nm,v] w (MesP s (msgV (n + 1) s nm t) b w) := by
 have hmf : ∀ (fn : Fn) (first cap : Array Value) (w : World),(Instr.makeFunc fn first cap).run Tryz.prog w = .ok (.func fn first cap) w := fun _ _ _ _ => rfl
 obtain ⟨m,a1,c1,a2,c2,hmn,rfl, -, -, -,u1,u2,x1,x2,x3,x4,hr,he,hp1,hp2⟩ := ht.open
 obtain rfl : m = n := by omega
 obtain ⟨X,hX⟩ : ∃ X,msgV (m + 1) s nm t = X := ⟨_,rfl⟩
 have HV : Hid (msgV (m + 1) s nm t = X) := hX
 rw [hX]
 obtain ⟨K,hK⟩ : ∃ z,t.kind = z := ⟨_,rfl⟩
 obtain ⟨N,hN⟩ : ∃ z,t.n = z := ⟨_,rfl⟩
 obtain ⟨S,hS⟩ : ∃ z,t.s = z := ⟨_,rfl⟩
 obtain ⟨n1,hn1⟩ : ∃ z,t.es.length = z := ⟨_,rfl⟩
 obtain ⟨n2,hn2⟩ : ∃ z,t.rest.length = z := ⟨_,rfl⟩
 rw [hK,hN,hS,hn1,hn2] at ht ⊢
 rw [hn1] at he u1 x3
 rw [hn2] at hr x1 x4
 have HL : Hid (t.es.length = n1 ∧ t.rest.length = n2) := ⟨hn1,hn2⟩
 obtain ⟨⟨p1,m1⟩,hp1'⟩ : ∃ x,plOf (.slice a1 n1 c1) = x := ⟨_,rfl⟩
 obtain ⟨⟨p2,m2⟩,hp2'⟩ : ∃ x,plOf (.slice a2 n2 c2) = x := ⟨_,rfl⟩
 have HTI : Hid (TrI (m + 1) w ⟨K,N,S,(p1,m1),(p2,m2)⟩ t) := (by have h1 := ht.trI; rw [hp1',hp2'] at h1; exact h1 : TrI (m + 1) w ⟨K,N,S,(p1,m1),(p2,m2)⟩ t)
 have HIC : Hid (∀ W,Calls Tryz.prog 63 #[.agg #[.int .i64 K,.int .i64 N,.string S,.slice a1 n1 c1,.slice a2 n2 c2]] W fun e w' => e = .returned (.agg #[.int .i64 K,.int .i64 N,.string S,.pointer p1,.int .i64 (m1 : Int),.pointer p2,.int .i64 (m2 : Int)]) ∧ Below W.heap.size W w') := fun W => by
  have h1 := identity_any K N S a1 a2 n1 c1 n2 c2 W u1 u2 x3 x1 x2 x4
  rw [hp1',hp2'] at h1
  exact h1
 have HK : Hid (KnS s w b) := hk
 have HS : Hid (ScIn w (.agg #[.string sn,.slice ma mn mc,.slice ea en ec,.slice ta tn tc]) s) := hs
 have HE : Hid (EnsR m w (.slice a1 n1 c1) t.es) := he
 have HR : Hid (RowG w (.slice a2 n2 c2) 4 (fdRows t.rest)) := hr
 unfold maxLen at u2 x2
 have BF : Blk ((w.alloc (Obj.cells #[.string sn,.slice ma mn mc,.slice ea en ec,.slice ta tn tc,.map (some b)] 81)).alloc (Obj.cells #[.int .i64 K,.int .i64 N,.string S,.slice a1 n1 c1,.slice a2 n2 c2] 30)) w.heap.size #[.string sn,.slice ma mn mc,.slice ea en ec,.slice ta tn tc,.map (some b)] 81 := (Blk.new w _ _).below ((Below.refl _ _).alloc (Nat.le_refl _) _)
 have BT : Blk ((w.alloc (Obj.cells #[.string sn,.slice ma mn mc,.slice ea en ec,.slice ta tn tc,.map (some b)] 81)).alloc (Obj.cells #[.int .i64 K,.int .i64 N,.string S,.slice a1 n1 c1,.slice a2 n2 c2] 30)) (w.heap.size + 1) #[.int .i64 K,.int .i64 N,.string S,.slice a1 n1 c1,.slice a2 n2 c2] 30 := by
  have := Blk.new (w.alloc (Obj.cells #[.string sn,.slice ma mn mc,.slice ea en ec,.slice ta tn tc,.map (some b)] 81)) #[.int .i64 K,.int .i64 N,.string S,.slice a1 n1 c1,.slice a2 n2 c2] 30
  rwa [show (w.alloc (Obj.cells #[.string sn,.slice ma mn mc,.slice ea en ec,.slice ta tn tc,.map (some b)] 81)).heap.size = w.heap.size + 1 from by simp] at this
 have hbw : Below w.heap.size w ((w.alloc (Obj.cells #[.string sn,.slice ma mn mc,.slice ea en ec,.slice ta tn tc,.map (some b)] 81)).alloc (Obj.cells #[.int .i64 K,.int .i64 N,.string S,.slice a1 n1 c1,.slice a2 n2 c2] 30)) := ((Below.refl _ _).alloc (Nat.le_refl _) _).alloc (by simp) _
 clear hX hK hN hS hn1 hn2 hp1' hp2' hp1 hp2 x3 x4 hr he hk hs ht hmn
 go_enter Tryz.func36,Tryz.ntmps36
 go_wp2_with fail
 refine (HIC.out _).mono ?_
 rintro ee w1 ⟨rfl,hb1⟩
 have hbw1 : Below w.heap.size w w1 := hbw.trans (hb1.mono hbw.size)
 have al2 : Below w1.heap.size w1 (w1.alloc (Obj.cells #[.string nm,.int .i64 K,.int .i64 N,.string S,.pointer p1,.int .i64 (m1 : Int),.pointer p2,.int .i64 (m2 : Int)] 119)) := (Below.refl _ _).alloc (Nat.le_refl _) _
 have al3 : Below w1.heap.size w1 ((w1.alloc (Obj.cells #[.string nm,.int .i64 K,.int .i64 N,.string S,.pointer p1,.int .i64 (m1 : Int),.pointer p2,.int .i64 (m2 : Int)] 119)).alloc (Obj.cells #[] 120)) := al2.alloc al2.size _
 have hbw2 : Below w.heap.size w (w1.alloc (Obj.cells #[.string nm,.int .i64 K,.int .i64 N,.string S,.pointer p1,.int .i64 (m1 : Int),.pointer p2,.int .i64 (m2 : Int)] 119)) := hbw1.trans (al2.mono hbw1.size)
 have hbw3 : Below w.heap.size w ((w1.alloc (Obj.cells #[.string nm,.int .i64 K,.int .i64 N,.string S,.pointer p1,.int .i64 (m1 : Int),.pointer p2,.int .i64 (m2 : Int)] 119)).alloc (Obj.cells #[] 120)) := hbw1.trans (al3.mono hbw1.size)
 have BF2 : Blk (w1.alloc (Obj.cells #[.string nm,.int .i64 K,.int .i64 N,.string S,.pointer p1,.int .i64 (m1 : Int),.pointer p2,.int .i64 (m2 : Int)] 119)) w.heap.size #[.string sn,.slice ma mn mc,.slice ea en ec,.slice ta tn tc,.map (some b)] 81 := (BF.below hb1).below al2
 have BC2 : Blk (w1.alloc (Obj.cells #[.string nm,.int .i64 K,.int .i64 N,.string S,.pointer p1,.int .i64 (m1 : Int),.pointer p2,.int .i64 (m2 : Int)] 119)) w1.heap.size #[.string nm,.int .i64 K,.int .i64 N,.string S,.pointer p1,.int .i64 (m1 : Int),.pointer p2,.int .i64 (m2 : Int)] 119 := Blk.new w1 _ _
 have BF3 : Blk ((w1.alloc (Obj.cells #[.string nm,.int .i64 K,.int .i64 N,.string S,.pointer p1,.int .i64 (m1 : Int),.pointer p2,.int .i64 (m2 : Int)] 119)).alloc (Obj.cells #[] 120)) w.heap.size #[.string sn,.slice ma mn mc,.slice ea en ec,.slice ta tn tc,.map (some b)] 81 := (BF.below hb1).below al3
 have BT3 : Blk ((w1.alloc (Obj.cells #[.string nm,.int .i64 K,.int .i64 N,.string S,.pointer p1,.int .i64 (m1 : Int),.pointer p2,.int .i64 (m2 : Int)] 119)).alloc (Obj.cells #[] 120)) (w.heap.size + 1) #[.int .i64 K,.int .i64 N,.string S,.slice a1 n1 c1,.slice a2 n2 c2] 30 := (BT.below hb1).below al3
 have BC3 : Blk ((w1.alloc (Obj.cells #[.string nm,.int .i64 K,.int .i64 N,.string S,.pointer p1,.int .i64 (m1 : Int),.pointer p2,.int .i64 (m2 : Int)] 119)).alloc (Obj.cells #[] 120)) w1.heap.size #[.string nm,.int .i64 K,.int .i64 N,.string S,.pointer p1,.int .i64 (m1 : Int),.pointer p2,.int .i64 (m2 : Int)] 119 := BC2.below ((Below.refl _ _).alloc (Nat.le_refl _) _)
 obtain ⟨R,hlk,hR⟩ := (HK.out.below hbw2).look (nm := nm) (HTI.out.cel (Cel.ofBelow hbw2))
 have HR0 : Hid (R = true → X = 0) := fun h => by rw [← HV.out]; exact hR h
 have HLK : Hid ((Instr.lookup 79 (.map (some b)) (.agg #[.string nm,.int .i64 K,.int .i64 N,.string S,.pointer p1,.int .i64 (m1 : Int),.pointer p2,.int .i64 (m2 : Int)]) true).run Tryz.prog (w1.alloc (Obj.cells #[.string nm,.int .i64 K,.int .i64 N,.string S,.pointer p1,.int .i64 (m1 : Int),.pointer p2,.int .i64 (m2 : Int)] 119)) = .ok (.tuple #[.agg #[],.bool R]) (w1.alloc (Obj.cells #[.string nm,.int .i64 K,.int .i64 N,.string S,.pointer p1,.int .i64 (m1 : Int),.pointer p2,.int .i64 (m2 : Int)] 119))) := hlk
 have HK3 : Hid (KnS s ((w1.alloc (Obj.cells #[.string nm,.int .i64 K,.int .i64 N,.string S,.pointer p1,.int .i64 (m1 : Int),.pointer p2,.int .i64 (m2 : Int)] 119)).alloc (Obj.cells #[] 120)) b) := HK.out.below hbw3
 have HS3 : Hid (ScIn ((w1.alloc (Obj.cells #[.string nm,.int .i64 K,.int .i64 N,.string S,.pointer p1,.int .i64 (m1 : Int),.pointer p2,.int .i64 (m2 : Int)] 119)).alloc (Obj.cells #[] 120)) (.agg #[.string sn,.slice ma mn mc,.slice ea en ec,.slice ta tn tc]) s) := HS.out.below hbw3
 have HE3 : Hid (EnsR m ((w1.alloc (Obj.cells #[.string nm,.int .i64 K,.int .i64 N,.string S,.pointer p1,.int .i64 (m1 : Int),.pointer p2,.int .i64 (m2 : Int)] 119)).alloc (Obj.cells #[] 120)) (.slice a1 n1 c1) t.es) := HE.out.celE (Cel.ofBelow hbw3)
 have HRR3 : Hid (RowG ((w1.alloc (Obj.cells #[.string nm,.int .i64 K,.int .i64 N,.string S,.pointer p1,.int .i64 (m1 : Int),.pointer p2,.int .i64 (m2 : Int)] 119)).alloc (Obj.cells #[] 120)) (.slice a2 n2 c2) 4 (fdRows t.rest)) := HR.out.below hbw3
 have HTI3 : Hid (TrI (m + 1) ((w1.alloc (Obj.cells #[.string nm,.int .i64 K,.int .i64 N,.string S,.pointer p1,.int .i64 (m1 : Int),.pointer p2,.int .i64 (m2 : Int)] 119)).alloc (Obj.cells #[] 120)) ⟨K,N,S,(p1,m1),(p2,m2)⟩ t) := HTI.out.cel (Cel.ofBelow hbw3)
 have HKW : Hid (Kp (fun q => q = b) w ((w1.alloc (Obj.cells #[.string nm,.int .i64 K,.int .i64 N,.string S,.pointer p1,.int .i64 (m1 : Int),.pointer p2,.int .i64 (m2 : Int)] 119)).alloc (Obj.cells #[] 120))) := Kp.ofBelow hbw3
 have g4 := (BF2.cell 4).trans rfl
 have j0 := (BC2.cell 0).trans rfl
 have j1 := (BC2.cell 1).trans rfl
 have j2 := (BC2.cell 2).trans rfl
 have j3 := (BC2.cell 3).trans rfl
 have j4 := (BC2.cell 4).trans rfl
 have j5 := (BC2.cell 5).trans rfl
 have j6 := (BC2.cell 6).trans rfl
 have j7 := (BC2.cell 7).trans rfl
 clear hlk hR hb1 hbw hbw1 hbw2 hbw3 al2 al3 HK HS HE HR HTI HIC BF BT BF2 BC2
 cases R with
 | true =>
  have HX0 : Hid (0 = X) := (HR0.out rfl).symm
  go_wp2_with (first | (at_lookup; refine wpList_lookup_pl rfl _ _ rfl rfl rfl HLK.out ?_) | fail)
  go_ret
  exact MesP.of HX0.out HKW.out HK3.out
 | false =>
  obtain ⟨vm,ve,vt,hse,hms, -, -⟩ := HS3.out
  simp only [Value.agg.injEq,Array.mk.injEq,List.cons.injEq,and_true] at hse
  obtain ⟨hse0,rfl,rfl,rfl⟩ := hse
  have HMC : Hid (Calls Tryz.prog 34 #[.agg #[.string sn,.slice ma mn mc,.slice ea en ec,.slice ta tn tc],.string nm] ((w1.alloc (Obj.cells #[.string nm,.int .i64 K,.int .i64 N,.string S,.pointer p1,.int .i64 (m1 : Int),.pointer p2,.int .i64 (m2 : Int)] 119)).alloc (Obj.cells #[] 120)) fun e w' => ∃ vf vr,e = .returned (.tuple #[.agg #[.string ((msgOf s nm).getD zMs).name,vf,vr],.bool (msgOf s nm).isSome]) ∧ w'.ownsRow ((w1.alloc (Obj.cells #[.string nm,.int .i64 K,.int .i64 N,.string S,.pointer p1,.int .i64 (m1 : Int),.pointer p2,.int .i64 (m2 : Int)] 119)).alloc (Obj.cells #[] 120)).heap.size 54 5 vf ((msgOf s nm).getD zMs).fields.length (flRows ((msgOf s nm).getD zMs).fields).flatten ∧ w'.ownsRow ((w1.alloc (Obj.cells #[.string nm,.int .i64 K,.int .i64 N,.string S,.pointer p1,.int .i64 (m1 : Int),.pointer p2,.int .i64 (m2 : Int)] 119)).alloc (Obj.cells #[] 120)).heap.size 3 1 vr ((msgOf s nm).getD zMs).reserved.length (inRows ((msgOf s nm).getD zMs).reserved).flatten ∧ Below ((w1.alloc (Obj.cells #[.string nm,.int .i64 K,.int .i64 N,.string S,.pointer p1,.int .i64 (m1 : Int),.pointer p2,.int .i64 (m2 : Int)] 119)).alloc (Obj.cells #[] 120)).heap.size ((w1.alloc (Obj.cells #[.string nm,.int .i64 K,.int .i64 N,.string S,.pointer p1,.int .i64 (m1 : Int),.pointer p2,.int .i64 (m2 : Int)] 119)).alloc (Obj.cells #[] 120)) w') := cmessage_any hms hl
  clear hse0 hms
  have q0 := (BF3.cell 0).trans rfl
  have q1 := (BF3.cell 1).trans rfl
  have q2 := (BF3.cell 2).trans rfl
  have q3 := (BF3.cell 3).trans rfl
  obtain ⟨fs,hfs⟩ : ∃ z,((msgOf s nm).getD zMs).fields = z := ⟨_,rfl⟩
  obtain ⟨mnm,hmnm⟩ : ∃ z,((msgOf s nm).getD zMs).name = z := ⟨_,rfl⟩
  rw [hfs,hmnm] at HMC
  have HFS : Hid (((msgOf s nm).getD zMs).fields = fs) := hfs
  clear hfs hmnm
  generalize (msgOf s nm).isSome = okM at *
  go_wp2_with (first | (at_lookup; refine wpList_lookup_pl rfl _ _ rfl rfl rfl HLK.out ?_) | fail)
  refine HMC.out.mono ?_
  rintro ee w4 ⟨vf,vr,rfl,hof,hor,hb4⟩
  have hrf : RowG w4 vf 5 (flRows fs) := (RowG.own (flr_len5 fs) (by decide) hof).1
  obtain ⟨fa,fl,fc,rfl⟩ := row_slice hrf
  obtain ⟨ra,rc,hvr⟩ := own_form hor
  subst hvr
  obtain ⟨rl,hrl⟩ : ∃ z,((msgOf s nm).getD zMs).reserved.length = z := ⟨_,rfl⟩
  rw [hrl]
  have al5 : Below w4.heap.size w4 (w4.alloc (Obj.cells #[.string mnm,.slice fa fl fc,.slice ra rl rc] 50)) := (Below.refl _ _).alloc (Nat.le_refl _) _
  have hb35 : Below ((w1.alloc (Obj.cells #[.string nm,.int .i64 K,.int .i64 N,.string S,.pointer p1,.int .i64 (m1 : Int),.pointer p2,.int .i64 (m2 : Int)] 119)).alloc (Obj.cells #[] 120)).heap.size ((w1.alloc (Obj.cells #[.string nm,.int .i64 K,.int .i64 N,.string S,.pointer p1,.int .i64 (m1 : Int),.pointer p2,.int .i64 (m2 : Int)] 119)).alloc (Obj.cells #[] 120)) (w4.alloc (Obj.cells #[.string mnm,.slice fa fl fc,.slice ra rl rc] 50)) := hb4.trans (al5.mono hb4.size)
  have BF5 : Blk (w4.alloc (Obj.cells #[.string mnm,.slice fa fl fc,.slice ra rl rc] 50)) w.heap.size #[.string sn,.slice ma mn mc,.slice ea en ec,.slice ta tn tc,.map (some b)] 81 := BF3.below hb35
  have BT5 : Blk (w4.alloc (Obj.cells #[.string mnm,.slice fa fl fc,.slice ra rl rc] 50)) (w.heap.size + 1) #[.int .i64 K,.int .i64 N,.string S,.slice a1 n1 c1,.slice a2 n2 c2] 30 := BT3.below hb35
  have BC5 : Blk (w4.alloc (Obj.cells #[.string mnm,.slice fa fl fc,.slice ra rl rc] 50)) w1.heap.size #[.string nm,.int .i64 K,.int .i64 N,.string S,.pointer p1,.int .i64 (m1 : Int),.pointer p2,.int .i64 (m2 : Int)] 119 := BC3.below hb35
  have BM5 : Blk (w4.alloc (Obj.cells #[.string mnm,.slice fa fl fc,.slice ra rl rc] 50)) w4.heap.size #[.string mnm,.slice fa fl fc,.slice ra rl rc] 50 := Blk.new w4 _ _
  have HK5 : Hid (KnS s (w4.alloc (Obj.cells #[.string mnm,.slice fa fl fc,.slice ra rl rc] 50)) b) := HK3.out.below hb35
  have HS5 : Hid (ScIn (w4.alloc (Obj.cells #[.string mnm,.slice fa fl fc,.slice ra rl rc] 50)) (.agg #[.string sn,.slice ma mn mc,.slice ea en ec,.slice ta tn tc]) s) := HS3.out.below hb35
  have HE5 : Hid (EnsR m (w4.alloc (Obj.cells #[.string mnm,.slice fa fl fc,.slice ra rl rc] 50)) (.slice a1 n1 c1) t.es) := HE3.out.celE (Cel.ofBelow hb35)
  have HRR5 : Hid (RowG (w4.alloc (Obj.cells #[.string mnm,.slice fa fl fc,.slice ra rl rc] 50)) (.slice a2 n2 c2) 4 (fdRows t.rest)) := HRR3.out.below hb35
  have HTI5 : Hid (TrI (m + 1) (w4.alloc (Obj.cells #[.string mnm,.slice fa fl fc,.slice ra rl rc] 50)) ⟨K,N,S,(p1,m1),(p2,m2)⟩ t) := HTI3.out.cel (Cel.ofBelow hb35)
  have HRF5 : Hid (RowG (w4.alloc (Obj.cells #[.string mnm,.slice fa fl fc,.slice ra rl rc] 50)) (.slice fa fl fc) 5 (flRows fs)) := hrf.below al5
  have HKW5 : Hid (Kp (fun q => q = b) w (w4.alloc (Obj.cells #[.string mnm,.slice fa fl fc,.slice ra rl rc] 50))) := HKW.out.trans (Kp.ofBelow hb35)
  have q3 := (BT5.cell 3).trans rfl
  have HVX : Hid (X = if errF (t.es.map (entV (msgV m s) fs)) ≠ 0 then errF (t.es.map (entV (msgV m s) fs)) else if (t.rest.any fun f => (fldOf fs f.tag).isSome) = true then 7 else 0) := (by rw [← HV.out,msgV,HFS.out] : X = _)
  clear hrl hof hor hrf hb4 al5 hb35 BF3 BT3 BC3 HK3 HS3 HE3 HRR3 HTI3 HMC HLK q0 q1 q2 g4 j0 j1 j2 j3 j4 j5 j6 j7 HKW
  obtain ⟨b0,hb0⟩ : ∃ z,w.heap.size = z := ⟨_,rfl⟩
  simp only [hb0] at BF5 BT5 q3 ⊢
  go_wp2_with fail
  clear q3
  generalize (w4.alloc (Obj.cells #[.string mnm,.slice fa fl fc,.slice ra rl rc] 50)) = W5 at *
  obtain ⟨bM,hbM⟩ : ∃ z,w4.heap.size = z := ⟨_,rfl⟩
  obtain ⟨bC,hbC⟩ : ∃ z,w1.heap.size = z := ⟨_,rfl⟩
  rw [hbM] at BM5
  rw [hbC] at BC5
  simp only [hbM,hbC]
  clear hbM hbC hb0
  go_loopw [37] (fun iv wr => ∃ i : Nat,iv = .int .i64 (i : Int) ∧ i ≤ n1 ∧ Hid (errF ((t.es.take i).map (entV (msgV m s) fs)) = 0) ∧ Kp (fun q => q = b) W5 wr ∧ Hid (KnS s wr b)) (fun iv _ => n1 - (intOf iv).toNat)
  case atStart => exact ⟨0,rfl,by omega,(by simp [errF] : errF ((t.es.take 0).map (entV (msgV m s) fs)) = 0),Kp.refl _ _,HK5⟩
  case round =>
   obtain ⟨i,rfl,hi,HI,hkp,HKR⟩ := hrel
   have hcel : Cel W5 wr := HK5.out.cel hkp
   have BFr := BF5.cel hcel
   have BMr := BM5.cel hcel
   have BTr := BT5.cel hcel
   have BCr := BC5.cel hcel
   by_cases hlt : i < n1
   ·obtain ⟨e,hx⟩ : ∃ r,t.es[i]? = some r := ⟨_,List.getElem?_eq_getElem (by rw [HL.out.1]; exact hlt)⟩
    obtain ⟨gx,ox,xa,xc,rfl,y0,y1, -,hxt,hxc,hxm⟩ := ensR_get (HE5.out.celE hcel) hx
    have al : Below wr.heap.size wr (wr.alloc (Obj.cells #[.int .i64 e.1,.slice xa e.2.length xc] 58)) := (Below.refl _ _).alloc (Nat.le_refl _) _
    have htc := entry_step s sn ma ea ta mn mc en ec tn tc b m IH e fs mnm fa ra xa fl fc rl rc xc _ (hxt.celT (Cel.ofBelow al)) hxc hxm ((HRF5.out.cel hcel).below al) (HKR.out.below al) ((HS5.out.cel hcel).below al)
    obtain ⟨Y,hY⟩ : ∃ z,entV (msgV m s) fs e = z := ⟨_,rfl⟩
    have HY : Hid (entV (msgV m s) fs e = Y) := hY
    rw [hY] at htc
    obtain ⟨e1,he1⟩ : ∃ z,e.1 = z := ⟨_,rfl⟩
    obtain ⟨Xl,hXl⟩ : ∃ z,e.2.length = z := ⟨_,rfl⟩
    rw [he1,hXl] at htc al
    rw [he1] at y0
    rw [hXl] at y1
    have HTC : Hid (Calls Tryz.prog 64 #[.agg #[.string sn,.slice ma mn mc,.slice ea en ec,.slice ta tn tc,.map (some b)],.agg #[.string mnm,.slice fa fl fc,.slice ra rl rc],.agg #[.int .i64 e1,.slice xa Xl xc]] (wr.alloc (Obj.cells #[.int .i64 e1,.slice xa Xl xc] 58)) (MesP s Y b (wr.alloc (Obj.cells #[.int .i64 e1,.slice xa Xl xc] 58)))) := htc
    have HIX : Hid (t.es[i]? = some e) := hx
    have BFx := BFr.below al
    have BMx := BMr.below al
    have g0 := (BFx.cell 0).trans rfl
    have g1 := (BFx.cell 1).trans rfl
    have g2 := (BFx.cell 2).trans rfl
    have g3 := (BFx.cell 3).trans rfl
    have g4 := (BFx.cell 4).trans rfl
    have l0 := (BMx.cell 0).trans rfl
    have l1 := (BMx.cell 1).trans rfl
    have l2 := (BMx.cell 2).trans rfl
    clear hY he1 hXl hx hxt htc hxc hxm
    go_wp2_with fail
    refine Calls.mono HTC.out ?_
    rintro ee W6 ⟨rfl,hk6,hn6⟩
    have hkp6 : Kp (fun q => q = b) W5 W6 := (hkp.trans (Kp.ofBelow al)).trans hk6
    have HN6 : Hid (KnS s W6 b) := hn6
    have HKW6 : Hid (Kp (fun q => q = b) w W6) := HKW5.out.trans hkp6
    clear HTC hk6 hn6 BFx BMx g0 g1 g2 g3 g4 l0 l1 l2 y0 y1 al BFr BMr BTr BCr hkp HKR
    by_cases hY0 : Y = 0
    ·subst hY0
     have HI2 : Hid (errF ((t.es.take (i + 1)).map (entV (msgV m s) fs)) = 0) := errF_on HIX.out HI.out HY.out
     clear HI
     go_wp2_with fail
     go_roundw
     case rel => exact ⟨i + 1,by go_num,by omega,HI2,hkp6,HN6⟩
     case measure => simp [intOf]; omega
    ·have d4 : (Y != 0) = true := by simpa using hY0
     have HXY : Hid (Y = X) := (by
      have h1 : errF (t.es.map (entV (msgV m s) fs)) = Y := by rw [errF_hit HIX.out HI.out (by rw [HY.out]; exact hY0),HY.out]
      rw [HVX.out,h1,if_pos hY0] : Y = X)
     clear hY0
     go_wp2_with fail
     go_ret
     exact MesP.of HXY.out HKW6.out HN6.out
   ·have HE0 : Hid (errF (t.es.map (entV (msgV m s) fs)) = 0) := (by
     have h1 := HI.out
     rw [List.take_of_length_le (by rw [HL.out.1]; omega)] at h1
     exact h1 : errF (t.es.map (entV (msgV m s) fs)) = 0)
    have z4 := (BTr.cell 4).trans rfl
    obtain ⟨B,hB⟩ : ∃ z,(t.rest.any fun f => (fldOf fs f.tag).isSome) = z := ⟨_,rfl⟩
    have HB : Hid ((t.rest.any fun f => (fldOf fs f.tag).isSome) = B) := hB
    have HCO : Hid (Calls Tryz.prog 65 #[.slice a2 n2 c2,.func (.func 66) #[] #[.pointer (some ⟨bM,0,none⟩)]] wr fun e w' => e = .returned (.bool B) ∧ Below wr.heap.size wr w') := (by
     have h1 := containsR_any bM (.slice a2 n2 c2) t.rest wr (fun f => (fldOf fs f.tag).isSome) (HRR5.out.cel hcel) (fun W x hW _ => restc_any x (BMr.below hW) ((HRF5.out.cel hcel).below hW) ⟨_,_,_,rfl⟩)
     rw [hB] at h1
     exact h1 : Calls Tryz.prog _ _ wr _)
    clear hB HI BMr
    go_wp2_with fail
    refine HCO.out.mono ?_
    rintro ee w6 ⟨rfl,hb6⟩
    have HN6 : Hid (KnS s w6 b) := HKR.out.below hb6
    have HKW6 : Hid (Kp (fun q => q = b) w w6) := (HKW5.out.trans hkp).trans (Kp.ofBelow hb6)
    have BF6 := BFr.below hb6
    have BC6 := BCr.below hb6
    have HTI6 : Hid (TrI (m + 1) w6 ⟨K,N,S,(p1,m1),(p2,m2)⟩ t) := (HTI5.out.cel hcel).cel (Cel.ofBelow hb6)
    clear HCO hb6 z4 BTr BFr BCr hkp HKR hcel
    cases B with
    | true =>
     have HX7 : Hid (7 = X) := (by rw [HVX.out,HE0.out,if_neg (by simp),HB.out,if_pos rfl] : 7 = X)
     go_wp2_with fail
     go_ret
     exact MesP.of HX7.out HKW6.out HN6.out
    | false =>
     have HX0 : Hid (0 = X) := (by rw [HVX.out,HE0.out,if_neg (by simp),HB.out,if_neg (by simp)] : 0 = X)
     obtain ⟨w7,r1,r2,r3⟩ := HN6.out.update (nm := nm) HTI6.out (by rw [HV.out,← HX0.out])
     have HUP : Hid ((Instr.mapUpdate 79 (.map (some b)) (.agg #[.string nm,.int .i64 K,.int .i64 N,.string S,.pointer p1,.int .i64 (m1 : Int),.pointer p2,.int .i64 (m2 : Int)]) (.agg #[])).run Tryz.prog w6 = .ok () w7) := r1
     have HN7 : Hid (KnS s w7 b) := r2
     have HKW7 : Hid (Kp (fun q => q = b) w w7) := HKW6.out.trans r3
     have g4 := (BF6.cell 4).trans rfl
     have j0 := (BC6.cell 0).trans rfl
     have j1 := (BC6.cell 1).trans rfl
     have j2 := (BC6.cell 2).trans rfl
     have j3 := (BC6.cell 3).trans rfl
     have j4 := (BC6.cell 4).trans rfl
     have j5 := (BC6.cell 5).trans rfl
     have j6 := (BC6.cell 6).trans rfl
     have j7 := (BC6.cell 7).trans rfl
     clear r1 r2 r3 BF6 BC6 HN6 HTI6
     go_wp2_with (first | (at_mapUpdate; refine wpList_update_pl rfl _ _ _ rfl rfl rfl rfl HUP.out ?_) | fail)
     go_ret
     exact MesP.of HX0.out HKW7.out HN7.out
theorem message_any (s : ScS) (sn : ByteArray) (ma ea ta : Option Addr) (mn mc en ec tn tc b : Nat) (hl : ∀ m ∈ s.msgs,m.fields.length ≤ 20 ∧ m.reserved.length ≤ 40) : ∀ (n : Nat) (t : Tr) (nm : ByteArray) (v : Value) (w : World),TrW n w v t → KnS s w b → ScIn w (.agg #[.string sn,.slice ma mn mc,.slice ea en ec,.slice ta tn tc]) s → Calls Tryz.prog 36 #[.agg #[.string sn,.slice ma mn mc,.slice ea en ec,.slice ta tn tc,.map (some b)],.string nm,v] w (MesP s (msgV n s nm t) b w)
 | 0,_,_,_,_,h,_,_ => by obtain ⟨r,_,h⟩ := h; exact h.elim
 | n + 1,t,nm,v,w,h,hk,hs => message_step s sn ma ea ta mn mc en ec tn tc b hl n (fun t nm v w h hk hs => message_any s sn ma ea ta mn mc en ec tn tc b hl n t nm v w h hk hs) t nm v w h hk hs
theorem Apt.of_count {B : Nat} {w : World} {bs cs : List Nat} (h : Apt B w bs) (hc : ∀ k,cs.count k ≤ bs.count k) : Apt B w cs := by
 refine ⟨List.nodup_iff_count.2 fun a => Nat.le_trans (hc a) (List.nodup_iff_count.1 h.1 a),fun k hk => h.2 k ?_⟩
 have := List.count_pos_iff.2 hk
 exact List.count_pos_iff.1 (Nat.lt_of_lt_of_le this (hc k))
theorem Apt.new {B : Nat} {w w' : World} {bs : List Nat} (h : Apt B w bs) (hB : B ≤ w.heap.size) (hs : w.heap.size < w'.heap.size) : Apt B w' (bs ++ [w.heap.size]) := by
 refine Apt.append h (B' := w.heap.size) (cs := [w.heap.size]) ⟨by simp,by simp; exact hs⟩ hB (Nat.le_refl _) (Nat.le_of_lt hs)
theorem own_lt {w : World} {B : Nat} {e : TypeId} {s : Nat} {v : Value} {n : Nat} {xs : List Value} (h : w.ownsRow B e s v n xs) {k : Nat} (hk : v.ownBlock = some k) : B ≤ k ∧ k < w.heap.size := by
 rcases h.2 with ⟨rfl,_⟩ | ⟨g,cap,cur,rfl,h2,h3,_⟩
 ·simp [Value.ownBlock] at hk
 ·obtain rfl : g = k := by simpa [Value.ownBlock] using hk
  exact ⟨h2,(Array.getElem?_eq_some_iff.1 h3).1⟩
theorem grown_sm {w w' : World} {v : Value} {bs : List Nat} (hg : w.grownBy w' v.ownBlock) (hb : ∀ k ∈ bs,k < w.heap.size) (hv : ∀ k ∈ bs,k ∉ blkOf v) : Sm w w' bs := fun k hk => hg.block k (hb k hk) (fun e => hv k hk (mem_blkOf.2 e.symm))
theorem RowO.push {α : Type} {P : World → List Value → α → List Nat → Prop} {B e size : Nat} {w w' : World} {v v' : Value} {xs : List α} {rows : List (List Value)} {bss : List (List Nat)} (h : RowO P B e size w v xs rows bss) {r : List Value} {x : α} {b : List Nat}
  (ap : Apt B w (allB v bss ++ b)) (hown : w'.ownsRow B e size v' (xs.length + 1) (rows.flatten ++ r)) (hg : w.grownBy w' v.ownBlock) (hP : P w r x b) (hr : r.length = size) (loc : ∀ r x b,P w r x b → Sm w w' b → P w' r x b) :
  RowO P B e size w' v' (xs ++ [x]) (rows ++ [r]) (bss ++ [b]) := by
 have hcl : ∀ c,c ∈ bss ∨ c = b → Sm w w' c := fun c hc => by
  have hsub : ∀ k ∈ c,k ∈ bss.flatten ++ b := fun k hk => by
   rcases hc with hc | rfl
   ·exact List.mem_append.2 (.inl (List.mem_flatten.2 ⟨c,hc,hk⟩))
   ·exact List.mem_append.2 (.inr hk)
  have hn := ap.1
  rw [allB,List.append_assoc] at hn
  refine grown_sm hg (fun k hk => (ap.2 k (by rw [allB,List.append_assoc]; exact List.mem_append.2 (.inr (hsub k hk)))).2) fun k hk hv => ?_
  exact (List.nodup_append.1 hn).2.2 k hv k (hsub k hk) rfl
 refine ⟨by simpa using hown,by simp [h.len],by simp [h.blen],?_,fun i y hy => ?_⟩
 ·intro r' hr'
  rcases List.mem_append.1 hr' with h' | h'
  ·exact h.wide r' h'
  ·obtain rfl : r' = r := by simpa using h'
   exact hr
 ·by_cases hi : i < xs.length
  ·rw [List.getElem?_append_left hi] at hy
   obtain ⟨r1,b1,e1,e2,e3⟩ := h.each i y hy
   exact ⟨r1,b1,by rw [List.getElem?_append_left (by rw [h.len]; exact hi)]; exact e1,by rw [List.getElem?_append_left (by rw [h.blen]; exact hi)]; exact e2,loc _ _ _ e3 (hcl _ (.inl (List.mem_of_getElem? e2)))⟩
  ·rw [List.getElem?_append_right (by omega)] at hy
   obtain ⟨hi0,rfl⟩ : i - xs.length = 0 ∧ x = y := by
    cases hq : i - xs.length with
    | zero => rw [hq] at hy; simpa using hy
    | succ q => rw [hq] at hy; simp at hy
   refine ⟨r,b,?_,?_,loc _ _ _ hP (hcl _ (.inr rfl))⟩
   ·rw [List.getElem?_append_right (by rw [h.len]; omega),h.len,hi0]; rfl
   ·rw [List.getElem?_append_right (by rw [h.blen]; omega),h.blen,hi0]; rfl
theorem Apt.push {B : Nat} {w w' : World} {v v' : Value} {bss : List (List Nat)} {b more : List Nat} (ap : Apt B w (more ++ (allB v bss ++ b))) (hat : v'.ownBlock = v.ownBlock ∨ v'.ownBlock = some w.heap.size) {e : TypeId} {s n : Nat} {xs : List Value} (hown : w'.ownsRow B e s v' n xs) (hs : w.heap.size ≤ w'.heap.size) (hB : B ≤ w.heap.size) :
  Apt B w' (more ++ allB v' (bss ++ [b])) := by
 rcases hat with hat | hat
 ·refine (ap.mono hs).of_count fun k => ?_
  simp [allB,blkOf,hat,List.count_append]
 ·refine (ap.new hB (own_lt hown hat).2).of_count fun k => ?_
  simp only [allB,blkOf,hat,List.count_append,List.flatten_append,List.flatten_cons,List.flatten_nil,List.append_nil]
  omega
theorem RowO.nil {α : Type} (P : World → List Value → α → List Nat → Prop) (B e size : Nat) (w : World) : RowO P B e size w (.slice none 0 0) ([] : List α) [] [] :=
 ⟨World.ownsRow_nil w B e size,rfl,rfl,by simp,by simp⟩
theorem RowO.base {α : Type} {P Q : World → List Value → α → List Nat → Prop} {B B' e size : Nat} {w : World} {v : Value} {xs : List α} {rows : List (List Value)} {bss : List (List Nat)} (h : RowO P B e size w v xs rows bss) (hB : B' ≤ B) (hp : ∀ r x b,P w r x b → Q w r x b) : RowO Q B' e size w v xs rows bss :=
 ⟨own_base h.own hB,h.len,h.blen,h.wide,fun i x hx => by obtain ⟨r,b,h1,h2,h3⟩ := h.each i x hx; exact ⟨r,b,h1,h2,hp _ _ _ h3⟩⟩
theorem TrO.base : ∀ {n B B' : Nat} {w : World} {r : List Value} {t : Tr} {bs : List Nat},TrO n B w r t bs → B' ≤ B → TrO n B' w r t bs
 | 0,_,_,_,_,_,_,h,_ => h
 | n + 1,B,B',w,r,t,bs,h,hb => by
  obtain ⟨ve,vr,rows,bss,h1,h2,h3,h4,h5,h6,h7,rfl⟩ := h
  refine ⟨ve,vr,rows,bss,h1,h2,h3,h4,h5,own_base h6 hb,h7.base hb fun r x b hp => ?_,rfl⟩
  obtain ⟨vt,rows',bss',g1,g2,g3,rfl⟩ := hp
  exact ⟨vt,rows',bss',g1,g2,g3.base hb fun r x b hp => hp.base hb,rfl⟩
theorem wpList_ran {ops : Array Oper} {rest : List Oper} {o : Oper} {a : Act} {w w' : World} {v : Value} {Q : Exit → Act → World → Prop} (hgd : o.guard = none) (hr : (execOp a.eval o).run Tryz.prog w = .ok (.value v) w') (h : wpList Tryz.prog ops Q rest (a.put o.dst v) w') : wpList Tryz.prog ops Q (o :: rest) a w :=
 wpList_plain hgd fun _ hK => by
  unfold Oper.wp
  rw [hr,Oper.upon_value]
  exact hK _ _ h
theorem Apt.apart {B : Nat} {w : World} {a b : List Nat} (h : Apt B w (a ++ b)) : ∀ k ∈ a,k ∉ b := fun k ha hb => (List.nodup_append.1 h.1).2.2 k ha k hb rfl
theorem Sm.below {w w' : World} {bs : List Nat} (h : Below w.heap.size w w') (hb : ∀ k ∈ bs,k < w.heap.size) : Sm w w' bs := fun k hk => h.block k (hb k hk)
end
end Go.Proofs.YtfnjbbaphmmjlaaGreat

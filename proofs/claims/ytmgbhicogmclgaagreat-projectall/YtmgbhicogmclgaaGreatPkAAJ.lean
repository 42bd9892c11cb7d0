/- Part 10 of what the proof stands on. -/
import Derived.Test.YtmgbhicogmclgaaGreatPkAAI
namespace Go.Proofs.YtmgbhicogmclgaaGreat
set_option maxHeartbeats 8000000
set_option linter.unusedVariables false
set_option linter.unusedSimpArgs false
set_option maxRecDepth 20000
section
open Go.ChangeShapes Go.WideShapes Go.ChangeAt Go.RowKit
theorem rfits_any (x : Tr) (K N : Int) (S : ByteArray) (a1 a2 : Option Addr) (n1 c1 n2 c2 : Nat) (y1 : ByteArray) (y2 y3 y4 : Int) (y5 : ByteArray) (w : World)
  (hxk : x.kind = K ∧ x.n = N ∧ x.s = S) (hS : S.size ≤ 5000) (hk : 1 ≤ y4 ∧ y4 ≤ 7) :
  Calls Tryz.prog 50 #[.agg #[.string y1,.int .i64 y2,.int .i64 y3,.int .i64 y4,.string y5],.agg #[.int .i64 K,.int .i64 N,.string S,.slice a1 n1 c1,.slice a2 n2 c2]] w fun e w' => e = .returned (.bool (pfitB (⟨y1,y2,y3,y4,y5⟩ : FlS) x)) ∧ Below w.heap.size w w' := by
 have HX : Hid (x.kind = K ∧ x.n = N ∧ x.s = S) := hxk;have HS : Hid (S.size ≤ 5000) := hS;have hZb : Below w.heap.size w ((w.alloc (Obj.cells #[.string y1,.int .i64 y2,.int .i64 y3,.int .i64 y4,.string y5] 56)).alloc (Obj.cells #[.int .i64 K,.int .i64 N,.string S,.slice a1 n1 c1,.slice a2 n2 c2] 30)) := ((Below.refl _ _).alloc (Nat.le_refl _) _).alloc (by simp) _;have BF : Blk ((w.alloc (Obj.cells #[.string y1,.int .i64 y2,.int .i64 y3,.int .i64 y4,.string y5] 56)).alloc (Obj.cells #[.int .i64 K,.int .i64 N,.string S,.slice a1 n1 c1,.slice a2 n2 c2] 30)) w.heap.size #[.string y1,.int .i64 y2,.int .i64 y3,.int .i64 y4,.string y5] 56 := (Blk.new w _ _).below ((Below.refl _ _).alloc (Nat.le_refl _) _)
 have BT : Blk ((w.alloc (Obj.cells #[.string y1,.int .i64 y2,.int .i64 y3,.int .i64 y4,.string y5] 56)).alloc (Obj.cells #[.int .i64 K,.int .i64 N,.string S,.slice a1 n1 c1,.slice a2 n2 c2] 30)) (w.heap.size + 1) #[.int .i64 K,.int .i64 N,.string S,.slice a1 n1 c1,.slice a2 n2 c2] 30 := by
  have := Blk.new (w.alloc (Obj.cells #[.string y1,.int .i64 y2,.int .i64 y3,.int .i64 y4,.string y5] 56)) #[.int .i64 K,.int .i64 N,.string S,.slice a1 n1 c1,.slice a2 n2 c2] 30
  rwa [show (w.alloc (Obj.cells #[.string y1,.int .i64 y2,.int .i64 y3,.int .i64 y4,.string y5] 56)).heap.size = w.heap.size + 1 from by simp] at this
 obtain ⟨KT,hKT⟩ : ∃ z,kindT y4 = z := ⟨_,rfl⟩;have HKT : Hid (kindT y4 = KT) := hKT
 have HKC : Hid (∀ W,Calls Tryz.prog 89 #[.agg #[.int .i64 y4,.string y5]] W fun e w' => e = .returned (.int .i64 KT) ∧ Below W.heap.size W w') := fun W => by
  have := rkind_any y4 y5 W hk;rw [hKT] at this;exact this
 have HK7 : Hid (1 ≤ y4 ∧ y4 ≤ 7) := hk;clear hxk hS hk hKT
 go_enter Tryz.func50,Tryz.ntmps50
 go_upto_region 1 with fail
 generalize ((w.alloc (Obj.cells #[.string y1,.int .i64 y2,.int .i64 y3,.int .i64 y4,.string y5] 56)).alloc (Obj.cells #[.int .i64 K,.int .i64 N,.string S,.slice a1 n1 c1,.slice a2 n2 c2] 30)) = Z at *;obtain ⟨q,hq⟩ : ∃ z,w.heap.size = z := ⟨_,rfl⟩;have HQ : Hid (w.heap.size = q) := hq;rw [hq] at BF BT;simp only [hq];clear hq;have hS : Below Z.heap.size Z Z.drew := (Below.refl _ _).drew
 by_cases hKK : K = KT
 rotate_left
 ·have dK : (K != KT) = true := by simpa using hKK
  have HV : Hid (pfitB (⟨y1,y2,y3,y4,y5⟩ : FlS) x = false) := (by
   have h1 := HX.out.1; have h2 := HKT.out
   simp only [pfitB,h1,h2,decide_eq_false hKK,Bool.false_and] : pfitB (⟨y1,y2,y3,y4,y5⟩ : FlS) x = false)
  clear hKK;refine wp_region_held_drew (S := fun w' => Below Z.heap.size Z w') (by kernel_rfl) hS (fun hS => ?_);refine rg_take 0 6 (.pointer (some ⟨q + 1,0,none⟩)) _ rfl rfl (by kernel_rfl) (by kernel_rfl) (by kernel_rfl) (fun _ _ _ h => h) (by rfl) (fun w' hw' => ?_) hS (listed' := bts 7 1) (by kernel_rfl) rfl ?_
  ·go_simp
  simp only [zsA,zsZ,zsS];refine rg_take 1 7 (.int .i64 K) _ rfl rfl (by kernel_rfl) (by kernel_rfl) (by kernel_rfl) (fun _ _ _ h => h) (by rfl) (fun w' hw' => ?_) hS (listed' := bts 7 3) (by kernel_rfl) rfl ?_
  ·have f0 := ((BT.below hw').cell 0).trans rfl; go_simp
  simp only [zsA,zsZ,zsS];refine rg_take 2 8 (.pointer (some ⟨q,3,none⟩)) _ rfl rfl (by kernel_rfl) (by kernel_rfl) (by kernel_rfl) (fun _ _ _ h => h) (by rfl) (fun w' hw' => ?_) hS (listed' := bts 7 7) (by kernel_rfl) rfl ?_
  ·go_simp
  simp only [zsA,zsZ,zsS];refine rg_take 3 9 (.agg #[.int .i64 y4,.string y5]) _ rfl rfl (by kernel_rfl) (by kernel_rfl) (by kernel_rfl) (fun _ _ _ h => h) (by rfl) (fun w' hw' => ?_) hS (listed' := bts 7 15) (by kernel_rfl) rfl ?_
  ·have f3 := ((BF.below hw').cell 3).trans rfl; have f4 := ((BF.below hw').cell 4).trans rfl; go_simp
  simp only [zsA,zsZ,zsS];refine rg_call 4 10 89 #[.agg #[.int .i64 y4,.string y5]] rfl rfl (by kernel_rfl) (by rfl) (listed' := bts 7 31) (by kernel_rfl) (fun W => by go_simp) ?_;refine (HKC.out _).mono ?_;rintro ee W1 ⟨rfl,hbW1⟩;have hS0 := hS;have hS : Below Z.heap.size Z W1 := hS0.trans (hbW1.mono hS0.size);clear hS0 hbW1;refine ⟨_,rfl,hS,?_⟩;simp only [zsA,zsZ,zsS];refine rg_take 5 11 (.bool true) _ rfl rfl (by kernel_rfl) (by kernel_rfl) (by kernel_rfl) (fun _ _ _ h => h) (by rfl) (fun w' hw' => ?_) hS (listed' := bts 7 63) (by kernel_rfl) rfl ?_
  ·go_simp
  simp only [zsA,zsZ,zsS];refine rg_take 6 5 (.bool true) _ rfl rfl (by kernel_rfl) (by kernel_rfl) (by kernel_rfl) (fun _ _ _ h => h) (by rfl) (fun w' hw' => ?_) hS (listed' := bts 7 127) (by kernel_rfl) rfl ?_
  ·go_simp
  simp only [zsA,zsZ,zsS];refine wpAnyH_done (by kernel_rfl) ?_ _;have hbw1 : Below w.heap.size w W1 := hZb.trans (hS.mono hZb.size);have BF1 := BF.below hS;have BT1 := BT.below hS;clear hS BF BT hZb HKC;clear dK BF1 BT1;go_wp2_with fail;go_ret;exact ⟨congrArg (fun z : Bool => Ending.returned (Value.bool z)) HV.out.symm,hbw1⟩
 ·subst hKK
  have dK : (K != K) = false := by simp
  refine wp_region_held_drew (S := fun w' => Below Z.heap.size Z w') (by kernel_rfl) hS (fun hS => ?_);refine rg_take 0 6 (.pointer (some ⟨q + 1,0,none⟩)) _ rfl rfl (by kernel_rfl) (by kernel_rfl) (by kernel_rfl) (fun _ _ _ h => h) (by rfl) (fun w' hw' => ?_) hS (listed' := bts 7 1) (by kernel_rfl) rfl ?_
  ·go_simp
  simp only [zsA,zsZ,zsS];refine rg_take 1 7 (.int .i64 K) _ rfl rfl (by kernel_rfl) (by kernel_rfl) (by kernel_rfl) (fun _ _ _ h => h) (by rfl) (fun w' hw' => ?_) hS (listed' := bts 7 3) (by kernel_rfl) rfl ?_
  ·have f0 := ((BT.below hw').cell 0).trans rfl; go_simp
  simp only [zsA,zsZ,zsS];refine rg_take 2 8 (.pointer (some ⟨q,3,none⟩)) _ rfl rfl (by kernel_rfl) (by kernel_rfl) (by kernel_rfl) (fun _ _ _ h => h) (by rfl) (fun w' hw' => ?_) hS (listed' := bts 7 7) (by kernel_rfl) rfl ?_
  ·go_simp
  simp only [zsA,zsZ,zsS];refine rg_take 3 9 (.agg #[.int .i64 y4,.string y5]) _ rfl rfl (by kernel_rfl) (by kernel_rfl) (by kernel_rfl) (fun _ _ _ h => h) (by rfl) (fun w' hw' => ?_) hS (listed' := bts 7 15) (by kernel_rfl) rfl ?_
  ·have f3 := ((BF.below hw').cell 3).trans rfl; have f4 := ((BF.below hw').cell 4).trans rfl; go_simp
  simp only [zsA,zsZ,zsS];refine rg_call 4 10 89 #[.agg #[.int .i64 y4,.string y5]] rfl rfl (by kernel_rfl) (by rfl) (listed' := bts 7 31) (by kernel_rfl) (fun W => by go_simp) ?_;refine (HKC.out _).mono ?_;rintro ee W1 ⟨rfl,hbW1⟩;have hS0 := hS;have hS : Below Z.heap.size Z W1 := hS0.trans (hbW1.mono hS0.size);clear hS0 hbW1;refine ⟨_,rfl,hS,?_⟩;simp only [zsA,zsZ,zsS];refine rg_take 5 11 (.bool false) _ rfl rfl (by kernel_rfl) (by kernel_rfl) (by kernel_rfl) (fun _ _ _ h => h) (by rfl) (fun w' hw' => ?_) hS (listed' := bts 7 63) (by kernel_rfl) rfl ?_
  ·go_simp
  simp only [zsA,zsZ,zsS];refine rg_take 6 5 (.bool false) _ rfl rfl (by kernel_rfl) (by kernel_rfl) (by kernel_rfl) (fun _ _ _ h => h) (by rfl) (fun w' hw' => ?_) hS (listed' := bts 7 127) (by kernel_rfl) rfl ?_
  ·go_simp
  simp only [zsA,zsZ,zsS];refine wpAnyH_done (by kernel_rfl) ?_ _;have hbw1 : Below w.heap.size w W1 := hZb.trans (hS.mono hZb.size);have BF1 := BF.below hS;have BT1 := BT.below hS;clear hS BF BT hZb HKC;clear dK;obtain ⟨hk1,hk2⟩ := HK7.out
  have hc : y4 = 1 ∨ y4 = 2 ∨ y4 = 3 ∨ y4 = 6 ∨ y4 = 4 ∨ y4 = 5 ∨ y4 = 7 := by omega
  clear hk1 hk2 HK7
  rcases hc with rfl | rfl | rfl | rfl | rfl | rfl | rfl
  ·have HV : Hid (pfitB (⟨y1,y2,y3,1,y5⟩ : FlS) x = true) := (by
    have h1 := HX.out.1; have h2 := HKT.out;simp only [pfitB,h1,h2]
    simp : pfitB (⟨y1,y2,y3,1,y5⟩ : FlS) x = true)
   have fa3 := (BF1.cell 3).trans rfl;have fa4 := (BF1.cell 4).trans rfl;go_wp2_with fail;clear BF1 BT1 fa3 fa4;go_ret;exact ⟨congrArg (fun z : Bool => Ending.returned (Value.bool z)) HV.out.symm,hbw1⟩
  ·have HV : Hid (pfitB (⟨y1,y2,y3,2,y5⟩ : FlS) x = true) := (by
    have h1 := HX.out.1; have h2 := HKT.out;simp only [pfitB,h1,h2]
    simp : pfitB (⟨y1,y2,y3,2,y5⟩ : FlS) x = true)
   have fa3 := (BF1.cell 3).trans rfl;have fa4 := (BF1.cell 4).trans rfl;go_wp2_with fail;clear BF1 BT1 fa3 fa4;go_ret;exact ⟨congrArg (fun z : Bool => Ending.returned (Value.bool z)) HV.out.symm,hbw1⟩
  ·have HNC : Hid (∀ W,Calls Tryz.prog 90 #[.agg #[.int .i64 3,.string y5],.int .i64 N] W fun e w' => e = .returned (.bool (nmrB 3 N)) ∧ Below W.heap.size W w') := fun W => rnumber_any 3 N y5 W
   have HV : Hid (pfitB (⟨y1,y2,y3,3,y5⟩ : FlS) x = nmrB 3 N) := (by
    have h1 := HX.out.1; have h2 := HKT.out; have h3 := HX.out.2.1;simp only [pfitB,h1,h2,h3]
    simp : pfitB (⟨y1,y2,y3,3,y5⟩ : FlS) x = nmrB 3 N)
   obtain ⟨NB,hNB⟩ : ∃ z,nmrB 3 N = z := ⟨_,rfl⟩;rw [hNB] at HNC HV;clear hNB;have fa3 := (BF1.cell 3).trans rfl;have fa4 := (BF1.cell 4).trans rfl;have ta0 := (BT1.cell 0).trans rfl;have ta1 := (BT1.cell 1).trans rfl;go_wp2_with fail;refine (HNC.out _).mono ?_;rintro ee W2 ⟨rfl,hb2⟩;have hbw2 : Below w.heap.size w W2 := hbw1.trans (hb2.mono hbw1.size);clear hb2 hbw1 BF1 BT1 fa3 fa4 ta0 ta1 HNC;go_wp2_with fail;go_ret;exact ⟨congrArg (fun z : Bool => Ending.returned (Value.bool z)) HV.out.symm,hbw2⟩
  ·have HNC : Hid (∀ W,Calls Tryz.prog 90 #[.agg #[.int .i64 6,.string y5],.int .i64 N] W fun e w' => e = .returned (.bool (nmrB 6 N)) ∧ Below W.heap.size W w') := fun W => rnumber_any 6 N y5 W
   have HV : Hid (pfitB (⟨y1,y2,y3,6,y5⟩ : FlS) x = nmrB 6 N) := (by
    have h1 := HX.out.1; have h2 := HKT.out; have h3 := HX.out.2.1;simp only [pfitB,h1,h2,h3]
    simp : pfitB (⟨y1,y2,y3,6,y5⟩ : FlS) x = nmrB 6 N)
   obtain ⟨NB,hNB⟩ : ∃ z,nmrB 6 N = z := ⟨_,rfl⟩;rw [hNB] at HNC HV;clear hNB;have fa3 := (BF1.cell 3).trans rfl;have fa4 := (BF1.cell 4).trans rfl;have ta0 := (BT1.cell 0).trans rfl;have ta1 := (BT1.cell 1).trans rfl;go_wp2_with fail;refine (HNC.out _).mono ?_;rintro ee W2 ⟨rfl,hb2⟩;have hbw2 : Below w.heap.size w W2 := hbw1.trans (hb2.mono hbw1.size);clear hb2 hbw1 BF1 BT1 fa3 fa4 ta0 ta1 HNC;go_wp2_with fail;go_ret;exact ⟨congrArg (fun z : Bool => Ending.returned (Value.bool z)) HV.out.symm,hbw2⟩
  ·have HVC : Hid (∀ W,Calls Tryz.prog 91 #[.string S] W fun e w' => e = .returned (.bool (validB S.data.toList)) ∧ Below W.heap.size W w') := fun W => rvalidB_any S W (by have := HS.out; omega)
   have HV : Hid (pfitB (⟨y1,y2,y3,4,y5⟩ : FlS) x = validB S.data.toList) := (by
    have h1 := HX.out.1; have h2 := HKT.out; have h3 := HX.out.2.2;simp only [pfitB,h1,h2,h3]
    simp : pfitB (⟨y1,y2,y3,4,y5⟩ : FlS) x = validB S.data.toList)
   obtain ⟨VB,hVB⟩ : ∃ z,validB S.data.toList = z := ⟨_,rfl⟩;rw [hVB] at HVC HV;clear hVB;have fa3 := (BF1.cell 3).trans rfl;have fa4 := (BF1.cell 4).trans rfl;have ta0 := (BT1.cell 0).trans rfl;have ta1 := (BT1.cell 1).trans rfl;have ta2 := (BT1.cell 2).trans rfl;go_wp2_with fail;refine (HVC.out _).mono ?_;rintro ee W2 ⟨rfl,hb2⟩;have hbw2 : Below w.heap.size w W2 := hbw1.trans (hb2.mono hbw1.size);clear hb2 hbw1 BF1 BT1 fa3 fa4 ta0 ta1 ta2 HVC;go_wp2_with fail;go_ret;exact ⟨congrArg (fun z : Bool => Ending.returned (Value.bool z)) HV.out.symm,hbw2⟩
  ·have HV : Hid (pfitB (⟨y1,y2,y3,5,y5⟩ : FlS) x = true) := (by
    have h1 := HX.out.1; have h2 := HKT.out;simp only [pfitB,h1,h2]
    simp : pfitB (⟨y1,y2,y3,5,y5⟩ : FlS) x = true)
   have fa3 := (BF1.cell 3).trans rfl;have fa4 := (BF1.cell 4).trans rfl;go_wp2_with fail;clear BF1 BT1 fa3 fa4;go_ret;exact ⟨congrArg (fun z : Bool => Ending.returned (Value.bool z)) HV.out.symm,hbw1⟩
  ·have HV : Hid (pfitB (⟨y1,y2,y3,7,y5⟩ : FlS) x = true) := (by
    have h1 := HX.out.1; have h2 := HKT.out;simp only [pfitB,h1,h2]
    simp : pfitB (⟨y1,y2,y3,7,y5⟩ : FlS) x = true)
   have fa3 := (BF1.cell 3).trans rfl;have fa4 := (BF1.cell 4).trans rfl;go_wp2_with fail;clear BF1 BT1 fa3 fa4;go_ret;exact ⟨congrArg (fun z : Bool => Ending.returned (Value.bool z)) HV.out.symm,hbw1⟩
end
section
open Go.ChangeShapes Go.WideShapes Go.ChangeAt Go.RowKit Go.Maps
theorem r7field_any {w : World} {snm : ByteArray} {nm : Int} {am : Option Addr} {M cm : Nat} {vt : Value} {ts : List FlS} (hr : RowG w vt 5 (flRows ts)) :
  Calls Tryz.prog 49 #[.agg #[.string snm,vt,.slice am M cm],.int .i64 nm] w fun e w' => e = .returned (.tuple #[flV ((ts.find? fun m => decide (m.tag = nm)).getD zeroF),.bool (ts.find? fun m => decide (m.tag = nm)).isSome]) ∧ Below w.heap.size w w' := by
 obtain ⟨a,c,rfl,q1,q2⟩ := hr.form2
 have hN : (flRows ts).length = ts.length := by simp [flRows]
 rw [hN] at hr q1 ⊢;clear hN;obtain ⟨N,hN⟩ : ∃ N,ts.length = N := ⟨_,rfl⟩;rw [hN] at hr q1 ⊢;have HN : Hid (ts.length = N) := hN;have HR : Hid (RowG w (.slice a N c) 5 (flRows ts)) := hr;clear hN hr;obtain ⟨A,hA⟩ : ∃ A,(ts.find? fun m => decide (m.tag = nm)) = A := ⟨_,rfl⟩;rw [hA];have HA : Hid (A = ((ts.drop 0).find? fun m => decide (m.tag = nm))) := hA.symm;clear hA;have BX0 : Blk ((w.alloc (.cells #[.string snm,.slice a N c,.slice am M cm] 52)).alloc (.cells #[.string ⟨#[]⟩,.int .i64 0,.int .i64 0,.int .i64 0,.string ⟨#[]⟩] 56)) w.heap.size #[.string snm,.slice a N c,.slice am M cm] 52 := (Blk.new w _ _).below ((Below.refl _ _).alloc (Nat.le_refl _) _)
 have BR0 : Blk ((w.alloc (.cells #[.string snm,.slice a N c,.slice am M cm] 52)).alloc (.cells #[.string ⟨#[]⟩,.int .i64 0,.int .i64 0,.int .i64 0,.string ⟨#[]⟩] 56)) (w.heap.size + 1) #[.string ⟨#[]⟩,.int .i64 0,.int .i64 0,.int .i64 0,.string ⟨#[]⟩] 56 := by
  have := Blk.new (w.alloc (.cells #[.string snm,.slice a N c,.slice am M cm] 52)) #[.string ⟨#[]⟩,.int .i64 0,.int .i64 0,.int .i64 0,.string ⟨#[]⟩] 56
  rwa [show (w.alloc (.cells #[.string snm,.slice a N c,.slice am M cm] 52)).heap.size = w.heap.size + 1 by simp] at this
 have hb0 : Below w.heap.size w ((w.alloc (.cells #[.string snm,.slice a N c,.slice am M cm] 52)).alloc (.cells #[.string ⟨#[]⟩,.int .i64 0,.int .i64 0,.int .i64 0,.string ⟨#[]⟩] 56)) := ((Below.refl _ _).alloc (Nat.le_refl _) _).alloc (by simp) _
 go_enter Tryz.func49,Tryz.ntmps49
 go_wp2_with fail
 go_loopw [6] (fun iv wr => ∃ k : Nat,iv = .int .i64 (k : Int) ∧ k ≤ N ∧ Hid (A = ((ts.drop k).find? fun m => decide (m.tag = nm))) ∧ Below w.heap.size w wr ∧ Blk wr (w.heap.size + 1) #[.string ⟨#[]⟩,.int .i64 0,.int .i64 0,.int .i64 0,.string ⟨#[]⟩] 56 ∧ Blk wr w.heap.size #[.string snm,.slice a N c,.slice am M cm] 52) (fun iv _ => N - (intOf iv).toNat)
 case atStart => exact ⟨0,rfl,by omega,HA,hb0,BR0,BX0⟩
 case round =>
  obtain ⟨k,rfl,hk,HAk,hbel,BR,BX⟩ := hrel;clear BX0 BR0 hb0;have hlt2 : w.heap.size + 1 < wr.heap.size := BR.lt;have r0 := (BR.cell 0).trans rfl;have z0 := BR.froz 0;have r1 := (BR.cell 1).trans rfl;have z1 := BR.froz 1;have r2 := (BR.cell 2).trans rfl;have z2 := BR.froz 2;have r3 := (BR.cell 3).trans rfl;have z3 := BR.froz 3;have r4 := (BR.cell 4).trans rfl;have z4 := BR.froz 4;have x1 : wr.cell? ⟨w.heap.size,1,none⟩ = some (.slice a N c) := BX.cell 1
  by_cases hlt : k < N
  ·obtain ⟨f,hf⟩ : ∃ n,ts[k]? = some n := ⟨_,List.getElem?_eq_getElem (by rw [HN.out]; exact hlt)⟩
   have hrr : (flRows ts)[k]? = some f.cells := by simp [flRows,hf]
   obtain ⟨g,off,rfl,c1⟩ := (HR.out.below hbel).get hrr;obtain ⟨f0,f1,f2,f3,f4⟩ := f
   have HA2 : Hid (A = if decide (f1 = nm) = true then some ⟨f0,f1,f2,f3,f4⟩ else ((ts.drop (k + 1)).find? fun m => decide (m.tag = nm))) := by
    show _ = _
    rw [HAk.out,drop_at hf,List.find?_cons]
    cases decide (f1 = nm) <;> rfl
   have p0 := c1 0 _ rfl;have p1 := c1 1 _ rfl;have p2 := c1 2 _ rfl;have p3 := c1 3 _ rfl;have p4 := c1 4 _ rfl;simp only [Nat.add_zero] at p0 p1 p2 p3 p4;clear c1 hrr hf HAk
   by_cases he : f1 = nm
   ·subst he;go_wp2_with fail;refine bodyPost_ret (results_two rfl _ _ _ ⟨w.heap.size + 1,0,none⟩ (.agg #[.string f0,.int .i64 f1,.int .i64 f2,.int .i64 f3,.string f4]) (by go_simp) (by go_simp)) rfl ?_;exact ⟨ret_two (by rw [HA2.out,if_pos (by simp)]; rfl) (by rw [HA2.out,if_pos (by simp)]; rfl),(Below.setCell (Below.setCell (Below.setCell (Below.setCell (Below.setCell hbel (by simp) _) (by simp) _) (by simp) _) (by simp) _) (by simp) _)⟩
   ·have hq : (f1 == nm) = false := by simpa using he
    have HA3 : Hid (A = ((ts.drop (k + 1)).find? fun m => decide (m.tag = nm))) := by show _ = _; rw [HA2.out,if_neg (by simpa using he)]
    go_wp2_with fail
    go_roundw
    case rel => exact ⟨k + 1,by go_num,by omega,HA3,hbel,BR,BX⟩
    case measure => simp [intOf]; omega
  ·have HA2 : Hid (A = none) := by show _ = _; rw [HAk.out,drop_end (by rw [HN.out]; omega)]; rfl
   go_wp2_with fail;refine bodyPost_ret (results_two rfl _ _ _ ⟨w.heap.size + 1,0,none⟩ (.agg #[.string ⟨#[]⟩,.int .i64 0,.int .i64 0,.int .i64 0,.string ⟨#[]⟩]) (by go_simp) (by go_simp)) rfl ?_;exact ⟨ret_two (by rw [HA2.out]; rfl) (by rw [HA2.out]; rfl),(Below.setCell (Below.setCell (Below.setCell (Below.setCell (Below.setCell hbel (by simp) _) (by simp) _) (by simp) _) (by simp) _) (by simp) _)⟩
end
section
open Go.ChangeShapes Go.WideShapes Go.ChangeAt Go.RowKit
theorem rzero_any (t : Tr) (a1 a2 : Option Addr) (n1 c1 n2 c2 : Nat) (w : World) (h1 : n1 = t.es.length) (h2 : n2 = t.rest.length) : Calls Tryz.prog 52 #[.agg #[.int .i64 t.kind,.int .i64 t.n,.string t.s,.slice a1 n1 c1,.slice a2 n2 c2]] w fun e w' => e = .returned (.bool (zroB t)) ∧ Below w.heap.size w w' := by
 have hb : Below w.heap.size w (w.alloc (Obj.cells #[.int .i64 t.kind,.int .i64 t.n,.string t.s,.slice a1 n1 c1,.slice a2 n2 c2] 30)) := (Below.refl _ _).alloc (Nat.le_refl _) _
 have hz : zroB t = (decide (t.kind = 1 ∨ t.kind = 2 ∨ t.kind = 3) && decide (t.n = 0) && decide (t.s.size = 0) && decide (n1 = 0) && decide (n2 = 0)) := by rw [zroB,h1,h2]
 rw [hz];clear hz h1 h2;generalize t.kind = K at *;generalize t.n = N at *;generalize t.s = S at *
 have kk : K = 1 ∨ K = 2 ∨ K = 3 ∨ (¬ K = 1 ∧ ¬ K = 2 ∧ ¬ K = 3) := by omega
 rcases kk with rfl | rfl | rfl | ⟨h1,h2,h3⟩
 ·by_cases hN : N = 0
  ·subst hN
   by_cases hS : S.size = 0
   ·obtain rfl := size_empty hS
    by_cases h1 : n1 = 0
    ·subst h1
     by_cases h2 : n2 = 0
     ·subst h2
      go_enter Tryz.func52,Tryz.ntmps52
      go_wp2_with fail;go_ret;exact ⟨rfl,hb⟩
     ·have d2 : ((n2 : Int) == 0) = false := by simp; omega
      simp only [decide_eq_false h2,Bool.and_false];clear h2
      go_enter Tryz.func52,Tryz.ntmps52
      go_wp2_with fail;go_ret;exact ⟨rfl,hb⟩
    ·have d1 : ((n1 : Int) == 0) = false := by simp; omega
     simp only [decide_eq_false h1,Bool.and_false,Bool.false_and];clear h1
     go_enter Tryz.func52,Tryz.ntmps52
     go_wp2_with fail;go_ret;exact ⟨rfl,hb⟩
   ·have dS : (S.toList == ([] : List UInt8)) = false := by rw [ByteArray.toList_eq]; simp; intro e; exact hS (by rw [← ByteArray.size_data,e]; rfl)
    simp only [decide_eq_false hS,Bool.and_false,Bool.false_and];clear hS
    go_enter Tryz.func52,Tryz.ntmps52
    go_wp2_with fail;go_ret;exact ⟨rfl,hb⟩
  ·have dN : (N == 0) = false := by simpa using hN
   simp only [decide_eq_false hN,Bool.and_false,Bool.false_and];clear hN
   go_enter Tryz.func52,Tryz.ntmps52
   go_wp2_with fail;go_ret;exact ⟨rfl,hb⟩
 ·by_cases hN : N = 0
  ·subst hN
   by_cases hS : S.size = 0
   ·obtain rfl := size_empty hS
    by_cases h1 : n1 = 0
    ·subst h1
     by_cases h2 : n2 = 0
     ·subst h2
      go_enter Tryz.func52,Tryz.ntmps52
      go_wp2_with fail;go_ret;exact ⟨rfl,hb⟩
     ·have d2 : ((n2 : Int) == 0) = false := by simp; omega
      simp only [decide_eq_false h2,Bool.and_false];clear h2
      go_enter Tryz.func52,Tryz.ntmps52
      go_wp2_with fail;go_ret;exact ⟨rfl,hb⟩
    ·have d1 : ((n1 : Int) == 0) = false := by simp; omega
     simp only [decide_eq_false h1,Bool.and_false,Bool.false_and];clear h1
     go_enter Tryz.func52,Tryz.ntmps52
     go_wp2_with fail;go_ret;exact ⟨rfl,hb⟩
   ·have dS : (S.toList == ([] : List UInt8)) = false := by rw [ByteArray.toList_eq]; simp; intro e; exact hS (by rw [← ByteArray.size_data,e]; rfl)
    simp only [decide_eq_false hS,Bool.and_false,Bool.false_and];clear hS
    go_enter Tryz.func52,Tryz.ntmps52
    go_wp2_with fail;go_ret;exact ⟨rfl,hb⟩
  ·have dN : (N == 0) = false := by simpa using hN
   simp only [decide_eq_false hN,Bool.and_false,Bool.false_and];clear hN
   go_enter Tryz.func52,Tryz.ntmps52
   go_wp2_with fail;go_ret;exact ⟨rfl,hb⟩
 ·by_cases hN : N = 0
  ·subst hN
   by_cases hS : S.size = 0
   ·obtain rfl := size_empty hS
    by_cases h1 : n1 = 0
    ·subst h1
     by_cases h2 : n2 = 0
     ·subst h2
      go_enter Tryz.func52,Tryz.ntmps52
      go_wp2_with fail;go_ret;exact ⟨rfl,hb⟩
     ·have d2 : ((n2 : Int) == 0) = false := by simp; omega
      simp only [decide_eq_false h2,Bool.and_false];clear h2
      go_enter Tryz.func52,Tryz.ntmps52
      go_wp2_with fail;go_ret;exact ⟨rfl,hb⟩
    ·have d1 : ((n1 : Int) == 0) = false := by simp; omega
     simp only [decide_eq_false h1,Bool.and_false,Bool.false_and];clear h1
     go_enter Tryz.func52,Tryz.ntmps52
     go_wp2_with fail;go_ret;exact ⟨rfl,hb⟩
   ·have dS : (S.toList == ([] : List UInt8)) = false := by rw [ByteArray.toList_eq]; simp; intro e; exact hS (by rw [← ByteArray.size_data,e]; rfl)
    simp only [decide_eq_false hS,Bool.and_false,Bool.false_and];clear hS
    go_enter Tryz.func52,Tryz.ntmps52
    go_wp2_with fail;go_ret;exact ⟨rfl,hb⟩
  ·have dN : (N == 0) = false := by simpa using hN
   simp only [decide_eq_false hN,Bool.and_false,Bool.false_and];clear hN
   go_enter Tryz.func52,Tryz.ntmps52
   go_wp2_with fail;go_ret;exact ⟨rfl,hb⟩
 ·have hk : decide (K = 1 ∨ K = 2 ∨ K = 3) = false := by simp [h1,h2,h3]
  simp only [hk,Bool.false_and]
  rcases (by omega : K < 1 ∨ (1 ≤ K ∧ 3 < K)) with h5 | ⟨h5,h6⟩
  ·have e1 : decide (1 ≤ K) = false := by simp; omega
   clear h1 h2 h3 hk
   go_enter Tryz.func52,Tryz.ntmps52
   go_wp2_with fail;go_ret;exact ⟨rfl,hb⟩
  ·have e1 : decide (1 ≤ K) = true := by simp; omega
   have e2 : decide (K ≤ 3) = false := by simp; omega
   clear h1 h2 h3 hk
   go_enter Tryz.func52,Tryz.ntmps52
   go_wp2_with fail;go_ret;exact ⟨rfl,hb⟩
theorem kept_cellW {w : World} {a : Addr} {u : Value} (h : w.cell? a = some u) (x : Kept w.heap.size w) : x.w.cell? a = some u := by
 rw [x.below.cell (World.block_lt_of_cell? _ _ h)]; exact h
theorem rpmsg_step (n : Nat) {s : ScS} (hks : ∀ nm m,msgOf s nm = some m → ∀ f ∈ m.fields,1 ≤ f.kind ∧ f.kind ≤ 7) (sn : ByteArray) (ma ea ta : Option Addr) (mn mc en ec tn tc : Nat)
  (IH : ∀ (nm : ByteArray) (t : Tr) (K N : Int) (S : ByteArray) (pe pr : Option Addr) (Ke ce Kr cr : Nat) (qn : ByteArray) (vf vr : Value) (w : World),MsIn w (.slice ma mn mc) s.msgs → RowG w vf 5 (flRows ((msgOf s nm).getD zMs).fields) → RowG w vr 1 (inRows ((msgOf s nm).getD zMs).reserved) → TrC n w [.int .i64 K,.int .i64 N,.string S,.slice pe Ke ce,.slice pr Kr cr] t → t.kind = 3 → okN n t = true → SmN n t → Calls Tryz.prog 27 #[.agg #[.string sn,.slice ma mn mc,.slice ea en ec,.slice ta tn tc],.agg #[.string qn,vf,vr],.agg #[.int .i64 K,.int .i64 N,.string S,.slice pe Ke ce,.slice pr Kr cr]] w (SeeP n (prM n s nm t) w))
  (nm : ByteArray) (t : Tr) (K N : Int) (S : ByteArray) (pe pr : Option Addr) (Ke ce Kr cr : Nat) (qn : ByteArray) (vf vr : Value) (w : World) (hms : MsIn w (.slice ma mn mc) s.msgs) (hvf : RowG w vf 5 (flRows ((msgOf s nm).getD zMs).fields)) (hvr : RowG w vr 1 (inRows ((msgOf s nm).getD zMs).reserved)) (ht : TrC (n + 1) w [.int .i64 K,.int .i64 N,.string S,.slice pe Ke ce,.slice pr Kr cr] t) (hk3 : t.kind = 3) (hok : okN (n + 1) t = true) (hsm : SmN (n + 1) t) :
  Calls Tryz.prog 27 #[.agg #[.string sn,.slice ma mn mc,.slice ea en ec,.slice ta tn tc],.agg #[.string qn,vf,vr],.agg #[.int .i64 K,.int .i64 N,.string S,.slice pe Ke ce,.slice pr Kr cr]] w (SeeP (n + 1) (prM (n + 1) s nm t) w) := by
 obtain ⟨hen,hch⟩ := msg_ents hok hk3;obtain ⟨-, -,he40, -,hsub⟩ := hsm;obtain ⟨ve,vr',e,ka,na,sa,fra,rar,ea'⟩ := ht
 have HEA : Hid (EnsIn n w (.slice pe Ke ce) t.es ∧ t.es.length = Ke) := (by
  simp only [List.cons.injEq,Value.int.injEq,Value.string.injEq,true_and,and_true] at e;have hve := e.2.2.2.1;subst hve;have ea2 : EnsIn n w (.slice pe Ke ce) t.es := ea';obtain ⟨a9,c9,e9, -⟩ := ea2.open;simp only [Value.slice.injEq] at e9
  exact ⟨ea2,e9.2.1.symm⟩ : EnsIn n w (.slice pe Ke ce) t.es ∧ t.es.length = Ke)
 clear ka na sa fra rar ea' e
 have hke : Ke ≤ 500 := by rw [← HEA.out.2]; exact he40
 have HCH : Hid (∀ e ∈ t.es,1 ≤ e.2.length ∧ e.2.length ≤ 70 ∧ ∀ x ∈ e.2,okN n x = true ∧ SmN n x) := fun e he => ⟨ents_one _ _ hen e he,(hsub e he).1,fun x hx => ⟨hch e he x hx,(hsub e he).2 x hx⟩⟩
 have HKS : Hid (∀ tag f,fldOf ((msgOf s nm).getD zMs).fields tag = some f → 1 ≤ f.kind ∧ f.kind ≤ 7) := fun tag f h => fld_kinds hks h
 have HIH : Hid (∀ (nm : ByteArray) (t : Tr) (K N : Int) (S : ByteArray) (pe pr : Option Addr) (Ke ce Kr cr : Nat) (qn : ByteArray) (vf vr : Value) (w : World),MsIn w (.slice ma mn mc) s.msgs → RowG w vf 5 (flRows ((msgOf s nm).getD zMs).fields) → RowG w vr 1 (inRows ((msgOf s nm).getD zMs).reserved) → TrC n w [.int .i64 K,.int .i64 N,.string S,.slice pe Ke ce,.slice pr Kr cr] t → t.kind = 3 → okN n t = true → SmN n t → Calls Tryz.prog 27 #[.agg #[.string sn,.slice ma mn mc,.slice ea en ec,.slice ta tn tc],.agg #[.string qn,vf,vr],.agg #[.int .i64 K,.int .i64 N,.string S,.slice pe Ke ce,.slice pr Kr cr]] w (SeeP n (prM n s nm t) w)) := IH;have HMS : Hid (MsIn w (.slice ma mn mc) s.msgs) := hms;obtain ⟨R,hR⟩ : ∃ R,prM (n + 1) s nm t = R := ⟨_,rfl⟩;have HR : Hid (R = ⟨3,0,⟨#[]⟩,t.es.filterMap (entP (prM n s) ((msgOf s nm).getD zMs).fields),[]⟩) := (by rw [← hR]; rfl : R = _);rw [hR];clear hR hen hch he40 hsub hk3 hok IH hms hks;obtain ⟨fs,hfs⟩ : ∃ z,((msgOf s nm).getD zMs).fields = z := ⟨_,rfl⟩;rw [hfs] at hvf HKS HR;clear hfs;obtain ⟨fa,fc,rfl, -⟩ := hvf.form;obtain ⟨ra,rc,rfl, -⟩ := hvr.form;obtain ⟨fl,hfl⟩ : ∃ z,(flRows fs).length = z := ⟨_,rfl⟩;obtain ⟨rl,hrl⟩ : ∃ z,(inRows ((msgOf s nm).getD zMs).reserved).length = z := ⟨_,rfl⟩;rw [hfl] at hvf ⊢;rw [hrl] at hvr ⊢;have HVF : Hid (RowG w (.slice fa fl fc) 5 (flRows fs)) := hvf;clear hfl hrl hvr hvf;obtain ⟨BS,BM,BT,BR,hbw⟩ := pblk4 w #[.string sn,.slice ma mn mc,.slice ea en ec,.slice ta tn tc] #[.string qn,.slice fa fl fc,.slice ra rl rc] #[.int .i64 K,.int .i64 N,.string S,.slice pe Ke ce,.slice pr Kr cr] #[.int .i64 0,.int .i64 0,.string ⟨#[]⟩,.slice none 0 0,.slice none 0 0] 26 52 30 30
 go_enter Tryz.func27,Tryz.ntmps27
 go_upto_region 1 with fail
 have hsw : w.heap.size + 4 = ((((w.alloc (Obj.cells #[.string sn,.slice ma mn mc,.slice ea en ec,.slice ta tn tc] 26)).alloc (Obj.cells #[.string qn,.slice fa fl fc,.slice ra rl rc] 52)).alloc (Obj.cells #[.int .i64 K,.int .i64 N,.string S,.slice pe Ke ce,.slice pr Kr cr] 30)).alloc (Obj.cells #[.int .i64 0,.int .i64 0,.string ⟨#[]⟩,.slice none 0 0,.slice none 0 0] 30)).heap.size := by simp
 generalize ((((w.alloc (Obj.cells #[.string sn,.slice ma mn mc,.slice ea en ec,.slice ta tn tc] 26)).alloc (Obj.cells #[.string qn,.slice fa fl fc,.slice ra rl rc] 52)).alloc (Obj.cells #[.int .i64 K,.int .i64 N,.string S,.slice pe Ke ce,.slice pr Kr cr] 30)).alloc (Obj.cells #[.int .i64 0,.int .i64 0,.string ⟨#[]⟩,.slice none 0 0,.slice none 0 0] 30)) = W4 at *;obtain ⟨b0,hb0⟩ : ∃ z,w.heap.size = z := ⟨_,rfl⟩;have HBZ : Hid (w.heap.size = b0) := hb0;rw [hb0] at BS BM BT BR hsw;simp only [hb0];clear hb0;obtain ⟨bt,hbt⟩ : ∃ z,W4.heap.size = z := ⟨_,rfl⟩;have HBT : Hid (W4.heap.size = bt) := hbt
 have hbtb : b0 + 4 = bt := by omega
 have HSS : Hid (SeeS n bt (.slice none 0 0) [] (W4.alloc (Obj.cells #[.int .i64 3,.int .i64 0,.string ⟨#[]⟩,.slice none 0 0,.slice none 0 0] 30))) := SeeS.nil (by rw [← HBT.out]; exact Blk.new W4 _ _);have HBW : Hid (Below bt W4 (W4.alloc (Obj.cells #[.int .i64 3,.int .i64 0,.string ⟨#[]⟩,.slice none 0 0,.slice none 0 0] 30))) := (Below.refl _ _).alloc (by omega) _;have HPB : Hid (Blk W4 b0 #[.string sn,.slice ma mn mc,.slice ea en ec,.slice ta tn tc] 26 ∧ Blk W4 (b0 + 1) #[.string qn,.slice fa fl fc,.slice ra rl rc] 52 ∧ Blk W4 (b0 + 2) #[.int .i64 K,.int .i64 N,.string S,.slice pe Ke ce,.slice pr Kr cr] 30 ∧ Blk W4 (b0 + 3) #[.int .i64 0,.int .i64 0,.string ⟨#[]⟩,.slice none 0 0,.slice none 0 0] 30 ∧ Below b0 w W4) := ⟨BS,BM,BT,BR,by rw [← HBZ.out]; exact hbw⟩;clear BS BM BT BR hbw hsw;go_wp2_with fail
 try simp only [hbt]
 generalize (W4.alloc (Obj.cells #[.int .i64 3,.int .i64 0,.string ⟨#[]⟩,.slice none 0 0,.slice none 0 0] 30)) = W5 at *;clear hbt
 go_loopw [8] (fun iv wr => ∃ (i j : Nat) (va : Option Addr) (vc : Nat),iv = .int .i64 (i : Int) ∧ i ≤ Ke ∧ j ≤ i ∧ Hid (SeeS n bt (.slice va j vc) ((t.es.take i).filterMap (entP (prM n s) fs)) wr ∧ ((t.es.take i).filterMap (entP (prM n s) fs)).length = j) ∧ Hid (Below bt W4 wr)) (fun iv _ => Ke - (intOf iv).toNat)
 case atStart => exact ⟨0,0,none,0,rfl,by omega,by omega,⟨HSS.out,rfl⟩,HBW⟩
 case round =>
  clear HSS HBW;obtain ⟨i,j,va,vc,rfl,hi,hj,HSS,HBW⟩ := hrel;have hbw : Below bt W4 wr := HBW.out;have hbq : Below b0 w wr := HPB.out.2.2.2.2.trans (hbw.mono (by omega));have BT := HPB.out.2.2.1.kp (Kp.ofBelow (by rw [HBT.out]; exact hbw)) (S := fun _ => False) (fun h => h);have q3 := (BT.cell 3).trans rfl;have hbtl : bt < wr.heap.size := HSS.out.1.size
  by_cases hlt : i < Ke
  ·obtain ⟨x,hx⟩ : ∃ r,t.es[i]? = some r := ⟨_,List.getElem?_eq_getElem (by rw [HEA.out.2]; exact hlt)⟩;obtain ⟨ge,off,rfl,cc⟩ := HEA.out.1.get hx;obtain ⟨vt,p0,p1,p2,p3⟩ := ens_at cc;obtain ⟨pt,ct,rfl,t1,t2, -⟩ := p3.open;unfold maxLen at t2;have HX : Hid (t.es[i]? = some x) := hx;have HSX : Hid (1 ≤ x.2.length ∧ x.2.length ≤ 70 ∧ ∀ y ∈ x.2,okN n y = true ∧ SmN n y) := HCH.out x (List.mem_of_getElem? hx);obtain ⟨xt,xl⟩ := x;simp only at p0 p1 p2 p3 t1 HSX;obtain ⟨Kt,hKt⟩ : ∃ K,xl.length = K := ⟨_,rfl⟩;rw [hKt] at p1 t1;have T1 : Hid (TrsIn n w (.slice pt Kt ct) xl) := (by rw [← hKt]; exact p3 : TrsIn n w (.slice pt Kt ct) xl);have HKt : Hid (xl.length = Kt) := hKt
   have hkt : Kt ≤ 70 := by rw [← hKt]; exact HSX.out.2.1
   have hk1 : 1 ≤ Kt := by rw [← hKt]; exact HSX.out.1
   have H64 : Hid (Is64 xt) := p2;have HP : Hid (w.cell? ⟨ge,off + i * 2,none⟩ = some (.int .i64 xt) ∧ w.cell? ⟨ge,off + i * 2 + 1,none⟩ = some (.slice pt Kt ct)) := ⟨p0,p1⟩;obtain ⟨X,hX⟩ : ∃ z,fldOf fs xt = z := ⟨_,rfl⟩;have HXF : Hid (fldOf fs xt = X) := hX;obtain ⟨Y,hY⟩ : ∃ z,X.getD zeroF = z := ⟨_,rfl⟩;obtain ⟨FB,hFB⟩ : ∃ z,X.isSome = z := ⟨_,rfl⟩
   have HXY : Hid (X = none ∧ FB = false ∨ X = some Y ∧ FB = true) := (by
    cases X with
    | none => exact .inl ⟨rfl,hFB.symm⟩
    | some z => exact .inr ⟨by rw [← hY]; rfl,hFB.symm⟩ : X = none ∧ FB = false ∨ X = some Y ∧ FB = true)
   have HFC : Hid (∀ W,Below wr.heap.size wr W → Calls Tryz.prog 49 #[.agg #[.string qn,.slice fa fl fc,.slice ra rl rc],.int .i64 xt] W fun e w' => e = .returned (.tuple #[flV Y,.bool FB]) ∧ Below W.heap.size W w') := fun W hW => by
    have h1 := r7field_any (w := W) (snm := qn) (nm := xt) (am := ra) (M := rl) (cm := rc) (HVF.out.below (by rw [HBZ.out]; exact hbq.trans (hW.mono (by omega))));have h2 : (fs.find? fun m => decide (m.tag = xt)) = X := hX;rw [h2,hY,hFB] at h1;exact h1
   have HCB : Hid (∀ W,Below wr.heap.size wr W → Blk W (b0 + 1) #[.string qn,.slice fa fl fc,.slice ra rl rc] 52 ∧ Blk W (b0 + 2) #[.int .i64 K,.int .i64 N,.string S,.slice (some ⟨ge,off,none⟩) Ke ce,.slice pr Kr cr] 30 ∧ W.cell? ⟨ge,off + i * 2,none⟩ = some (.int .i64 xt) ∧ W.cell? ⟨ge,off + i * 2 + 1,none⟩ = some (.slice pt Kt ct)) := fun W hW => by
    have hb4 : Below W4.heap.size W4 W := by rw [HBT.out]; exact hbw.trans (hW.mono (by omega))
    have hbq2 : Below b0 w W := hbq.trans (hW.mono (by omega));have cc : ∀ p u,w.cell? p = some u → W.cell? p = some u := fun p u h => (hbq2.cell (by rw [← HBZ.out]; exact World.block_lt_of_cell? _ _ h)).trans h
    exact ⟨HPB.out.2.1.below hb4,HPB.out.2.2.1.below hb4,cc _ _ HP.out.1,cc _ _ HP.out.2⟩
   have HGL : Hid (ge < b0) := (by rw [← HBZ.out]; exact World.block_lt_of_cell? _ _ HP.out.1 : ge < b0);clear hx cc p0 p1 p2 p3 hKt hX hY hFB BT;obtain ⟨y1,y2,y3,y4,y5⟩ := Y;simp only [flV] at HFC
   go_upto_region 5 with fail
   go_cut [9,10] from 23 to 33 (fun pv bv wx => ∃ b : Nat,pv = .pointer (some ⟨b,0,none⟩) ∧ bv = .bool FB ∧ Hid (Blk wx b #[.string y1,.int .i64 y2,.int .i64 y3,.int .i64 y4,.string y5] 56 ∧ Below wr.heap.size wr wx))
   case first =>
    refine M_region (T := fun W => Below wr.heap.size wr W) (m := 13) (by kernel_rfl) ?_;have hS : Below wr.heap.size wr wr.drew := (Below.refl _ _).drew;refine M_take 0 24 (.agg #[.string qn,.slice fa fl fc,.slice ra rl rc]) _ rfl rfl (by kernel_rfl) (by kernel_rfl) (by kernel_rfl) (by kernel_rfl) (by kernel_rfl) (fun _ _ _ h => h) (by rfl) (fun w' hw' => ?_) hS (listed' := bts 14 1) (by kernel_rfl) rfl ?_
    ·have HB := (HCB.out _ hw').1; have f0 := (HB.cell 0).trans rfl; have f1 := (HB.cell 1).trans rfl; have f2 := (HB.cell 2).trans rfl; go_simp
    simp only [zsA,zsZ,zsS];refine M_take 1 25 (.pointer (some ⟨b0 + 2,3,none⟩)) _ rfl rfl (by kernel_rfl) (by kernel_rfl) (by kernel_rfl) (by kernel_rfl) (by kernel_rfl) (fun _ _ _ h => h) (by rfl) (fun w' hw' => ?_) hS (listed' := bts 14 3) (by kernel_rfl) rfl ?_
    ·go_simp
    simp only [zsA,zsZ,zsS];refine M_take 2 26 (.slice (some ⟨ge,off,none⟩) Ke ce) _ rfl rfl (by kernel_rfl) (by kernel_rfl) (by kernel_rfl) (by kernel_rfl) (by kernel_rfl) (fun _ _ _ h => h) (by rfl) (fun w' hw' => ?_) hS (listed' := bts 14 7) (by kernel_rfl) rfl ?_
    ·have HB := (HCB.out _ hw').2.1; have f3 := (HB.cell 3).trans rfl; go_simp
    simp only [zsA,zsZ,zsS];refine M_take 3 27 (.int .i64 (i : Int)) _ rfl rfl (by kernel_rfl) (by kernel_rfl) (by kernel_rfl) (by kernel_rfl) (by kernel_rfl) (fun _ _ _ h => h) (by rfl) (fun w' hw' => ?_) hS (listed' := bts 14 15) (by kernel_rfl) rfl ?_
    ·go_simp
    simp only [zsA,zsZ,zsS];refine M_take 4 28 (.pointer (some ⟨ge,off + i * 2,none⟩)) _ rfl rfl (by kernel_rfl) (by kernel_rfl) (by kernel_rfl) (by kernel_rfl) (by kernel_rfl) (fun _ _ _ h => h) (by rfl) (fun w' hw' => ?_) hS (listed' := bts 14 31) (by kernel_rfl) rfl ?_
    ·go_simp
    simp only [zsA,zsZ,zsS];refine M_take 5 29 (.pointer (some ⟨ge,off + i * 2,none⟩)) _ rfl rfl (by kernel_rfl) (by kernel_rfl) (by kernel_rfl) (by kernel_rfl) (by kernel_rfl) (fun _ _ _ h => h) (by rfl) (fun w' hw' => ?_) hS (listed' := bts 14 63) (by kernel_rfl) rfl ?_
    ·go_simp
    simp only [zsA,zsZ,zsS];refine M_take 6 30 (.int .i64 xt) _ rfl rfl (by kernel_rfl) (by kernel_rfl) (by kernel_rfl) (by kernel_rfl) (by kernel_rfl) (fun _ _ _ h => h) (by rfl) (fun w' hw' => ?_) hS (listed' := bts 14 127) (by kernel_rfl) rfl ?_
    ·obtain ⟨-, -,c0,c1⟩ := HCB.out _ hw'; go_simp
    simp only [zsA,zsZ,zsS];generalize wr.drew = U0 at *;refine M_fork 7 11 31 9 49 #[.agg #[.string qn,.slice fa fl fc,.slice ra rl rc],.int .i64 xt] (.pointer (some ⟨U0.heap.size,0,none⟩)) (U0.alloc (Obj.cells #[.string ⟨#[]⟩,.int .i64 0,.int .i64 0,.int .i64 0,.string ⟨#[]⟩] 56)) rfl rfl rfl rfl (by kernel_rfl) (by rfl) (by rfl) (by go_simp) (by go_simp) ?_ (hS.trans (((Below.refl _ _).alloc (Nat.le_refl _) _).mono hS.size)) ?_
    ·skip
     refine (HFC.out _ hS).mono ?_;rintro ee V1 ⟨rfl,hbU⟩;have hS0 := hS;have hS : Below wr.heap.size wr V1 := hS0.trans (hbU.mono hS0.size);clear hS0 hbU;refine ⟨_,rfl,hS,?_⟩;simp only [zsA,zsZ,zsS];refine M_take 8 23 (.tuple #[.agg #[.string y1,.int .i64 y2,.int .i64 y3,.int .i64 y4,.string y5],.bool FB]) _ rfl rfl (by kernel_rfl) (by kernel_rfl) (by kernel_rfl) (by kernel_rfl) (by kernel_rfl) (fun _ _ _ h => h) (by rfl) (fun w' hw' => ?_) hS (listed' := bts 14 511) (by kernel_rfl) rfl ?_
     ·go_simp
     simp only [zsA,zsZ,zsS];refine M_take 9 32 (.agg #[.string y1,.int .i64 y2,.int .i64 y3,.int .i64 y4,.string y5]) _ rfl rfl (by kernel_rfl) (by kernel_rfl) (by kernel_rfl) (by kernel_rfl) (by kernel_rfl) (fun _ _ _ h => h) (by rfl) (fun w' hw' => ?_) hS (listed' := bts 14 1023) (by kernel_rfl) rfl ?_
     ·go_simp
     simp only [zsA,zsZ,zsS];refine M_take 10 33 (.bool FB) _ rfl rfl (by kernel_rfl) (by kernel_rfl) (by kernel_rfl) (by kernel_rfl) (by kernel_rfl) (fun _ _ _ h => h) (by rfl) (fun w' hw' => ?_) hS (listed' := bts 14 2047) (by kernel_rfl) rfl ?_
     ·go_simp
     simp only [zsA,zsZ,zsS];refine M_run 11 9 (.pointer (some ⟨V1.heap.size,0,none⟩)) (V1.alloc (Obj.cells #[.string ⟨#[]⟩,.int .i64 0,.int .i64 0,.int .i64 0,.string ⟨#[]⟩] 56)) rfl rfl (by kernel_rfl) (by rfl) (listed' := bts 14 4095) (by kernel_rfl) (by go_simp) (hS.trans (((Below.refl _ _).alloc (Nat.le_refl _) _).mono hS.size)) ?_;have hbU : Below V1.heap.size V1 (V1.alloc (Obj.cells #[.string ⟨#[]⟩,.int .i64 0,.int .i64 0,.int .i64 0,.string ⟨#[]⟩] 56)) := (Below.refl _ _).alloc (Nat.le_refl _) _;obtain ⟨bz,hbz⟩ : ∃ z,V1.heap.size = z := ⟨_,rfl⟩
     have BZ : Blk (V1.alloc (Obj.cells #[.string ⟨#[]⟩,.int .i64 0,.int .i64 0,.int .i64 0,.string ⟨#[]⟩] 56)) bz #[.string ⟨#[]⟩,.int .i64 0,.int .i64 0,.int .i64 0,.string ⟨#[]⟩] 56 := by rw [← hbz]; exact Blk.new V1 _ _
     have GZ : wr.heap.size ≤ bz := by rw [← hbz]; exact hS.size
     have hS0 := hS;have hS : Below wr.heap.size wr (V1.alloc (Obj.cells #[.string ⟨#[]⟩,.int .i64 0,.int .i64 0,.int .i64 0,.string ⟨#[]⟩] 56)) := hS0.trans (hbU.mono hS0.size);clear hS0 hbU;simp only [zsA,zsZ,zsS]
     try simp only [hbz]
     clear hbz;generalize (V1.alloc (Obj.cells #[.string ⟨#[]⟩,.int .i64 0,.int .i64 0,.int .i64 0,.string ⟨#[]⟩] 56)) = V2 at *;have k0 := (BZ.cell 0).trans rfl;have z0 := BZ.froz 0;have k1 := (BZ.cell 1).trans rfl;have z1 := BZ.froz 1;have k2 := (BZ.cell 2).trans rfl;have z2 := BZ.froz 2;have k3 := (BZ.cell 3).trans rfl;have z3 := BZ.froz 3;have k4 := (BZ.cell 4).trans rfl;have z4 := BZ.froz 4;have hS9 : Below wr.heap.size wr (set5 V2 bz 0 (.string y1) (.int .i64 y2) (.int .i64 y3) (.int .i64 y4) (.string y5)) := hS.trans ((set5_kp V2 bz 0 (.string y1) (.int .i64 y2) (.int .i64 y3) (.int .i64 y4) (.string y5)).toBelow hS.size fun q e => by rw [e]; exact GZ);refine M_storeT 12 (set5 V2 bz 0 (.string y1) (.int .i64 y2) (.int .i64 y3) (.int .i64 y4) (.string y5)) rfl rfl (by kernel_rfl) (by rfl) (listed' := bts 14 8191) (by kernel_rfl) (by unfold set5; go_simp) hS9 ?_;clear k0 z0 k1 z1 k2 z2 k3 z3 k4 z4;have HFI : Hid (Blk (set5 V2 bz 0 (.string y1) (.int .i64 y2) (.int .i64 y3) (.int .i64 y4) (.string y5)) bz #[.string y1,.int .i64 y2,.int .i64 y3,.int .i64 y4,.string y5] 56 ∧ Below wr.heap.size wr (set5 V2 bz 0 (.string y1) (.int .i64 y2) (.int .i64 y3) (.int .i64 y4) (.string y5))) := ⟨blk_set5 BZ,hS9⟩;clear hS BZ GZ;generalize (set5 V2 bz 0 (.string y1) (.int .i64 y2) (.int .i64 y3) (.int .i64 y4) (.string y5)) = W9 at *;refine M_runA 13 10 (.bool FB) W9 rfl rfl (by kernel_rfl) (by rfl) (listed' := bts 14 16383) (by kernel_rfl) (by go_simp) (by kernel_rfl) ?_;simp only [zsA,zsZ,zsS];refine M_done (by kernel_rfl) ?_ _;go_wp2_with fail
     go_meet
     exact ⟨bz,rfl,rfl,HFI⟩
    ·skip
     have hbU : Below U0.heap.size U0 (U0.alloc (Obj.cells #[.string ⟨#[]⟩,.int .i64 0,.int .i64 0,.int .i64 0,.string ⟨#[]⟩] 56)) := (Below.refl _ _).alloc (Nat.le_refl _) _;obtain ⟨bz,hbz⟩ : ∃ z,U0.heap.size = z := ⟨_,rfl⟩
     have BZ : Blk (U0.alloc (Obj.cells #[.string ⟨#[]⟩,.int .i64 0,.int .i64 0,.int .i64 0,.string ⟨#[]⟩] 56)) bz #[.string ⟨#[]⟩,.int .i64 0,.int .i64 0,.int .i64 0,.string ⟨#[]⟩] 56 := by rw [← hbz]; exact Blk.new U0 _ _
     have GZ : wr.heap.size ≤ bz := by rw [← hbz]; exact hS.size
     have hS0 := hS;have hS : Below wr.heap.size wr (U0.alloc (Obj.cells #[.string ⟨#[]⟩,.int .i64 0,.int .i64 0,.int .i64 0,.string ⟨#[]⟩] 56)) := hS0.trans (hbU.mono hS0.size);clear hS0 hbU;simp only [zsA,zsZ,zsS]
     try simp only [hbz]
     clear hbz;generalize (U0.alloc (Obj.cells #[.string ⟨#[]⟩,.int .i64 0,.int .i64 0,.int .i64 0,.string ⟨#[]⟩] 56)) = V3 at *;refine M_call 7 31 49 #[.agg #[.string qn,.slice fa fl fc,.slice ra rl rc],.int .i64 xt] rfl rfl (by kernel_rfl) (by rfl) (listed' := bts 14 2303) (by kernel_rfl) (fun W => by go_simp) ?_;refine (HFC.out _ hS).mono ?_;rintro ee V4 ⟨rfl,hbU⟩
     replace BZ := BZ.below hbU
     have hS0 := hS;have hS : Below wr.heap.size wr V4 := hS0.trans (hbU.mono hS0.size);clear hS0 hbU;refine ⟨_,rfl,hS,?_⟩;simp only [zsA,zsZ,zsS];refine M_take 8 23 (.tuple #[.agg #[.string y1,.int .i64 y2,.int .i64 y3,.int .i64 y4,.string y5],.bool FB]) _ rfl rfl (by kernel_rfl) (by kernel_rfl) (by kernel_rfl) (by kernel_rfl) (by kernel_rfl) (fun _ _ _ h => h) (by rfl) (fun w' hw' => ?_) hS (listed' := bts 14 2559) (by kernel_rfl) rfl ?_
     ·go_simp
     simp only [zsA,zsZ,zsS];refine M_take 9 32 (.agg #[.string y1,.int .i64 y2,.int .i64 y3,.int .i64 y4,.string y5]) _ rfl rfl (by kernel_rfl) (by kernel_rfl) (by kernel_rfl) (by kernel_rfl) (by kernel_rfl) (fun _ _ _ h => h) (by rfl) (fun w' hw' => ?_) hS (listed' := bts 14 3071) (by kernel_rfl) rfl ?_
     ·go_simp
     simp only [zsA,zsZ,zsS];refine M_take 10 33 (.bool FB) _ rfl rfl (by kernel_rfl) (by kernel_rfl) (by kernel_rfl) (by kernel_rfl) (by kernel_rfl) (fun _ _ _ h => h) (by rfl) (fun w' hw' => ?_) hS (listed' := bts 14 4095) (by kernel_rfl) rfl ?_
     ·go_simp
     simp only [zsA,zsZ,zsS];have k0 := (BZ.cell 0).trans rfl;have z0 := BZ.froz 0;have k1 := (BZ.cell 1).trans rfl;have z1 := BZ.froz 1;have k2 := (BZ.cell 2).trans rfl;have z2 := BZ.froz 2;have k3 := (BZ.cell 3).trans rfl;have z3 := BZ.froz 3;have k4 := (BZ.cell 4).trans rfl;have z4 := BZ.froz 4;have hS9 : Below wr.heap.size wr (set5 V4 bz 0 (.string y1) (.int .i64 y2) (.int .i64 y3) (.int .i64 y4) (.string y5)) := hS.trans ((set5_kp V4 bz 0 (.string y1) (.int .i64 y2) (.int .i64 y3) (.int .i64 y4) (.string y5)).toBelow hS.size fun q e => by rw [e]; exact GZ);refine M_storeT 12 (set5 V4 bz 0 (.string y1) (.int .i64 y2) (.int .i64 y3) (.int .i64 y4) (.string y5)) rfl rfl (by kernel_rfl) (by rfl) (listed' := bts 14 8191) (by kernel_rfl) (by unfold set5; go_simp) hS9 ?_;clear k0 z0 k1 z1 k2 z2 k3 z3 k4 z4;have HFI : Hid (Blk (set5 V4 bz 0 (.string y1) (.int .i64 y2) (.int .i64 y3) (.int .i64 y4) (.string y5)) bz #[.string y1,.int .i64 y2,.int .i64 y3,.int .i64 y4,.string y5] 56 ∧ Below wr.heap.size wr (set5 V4 bz 0 (.string y1) (.int .i64 y2) (.int .i64 y3) (.int .i64 y4) (.string y5))) := ⟨blk_set5 BZ,hS9⟩;clear hS BZ GZ;generalize (set5 V4 bz 0 (.string y1) (.int .i64 y2) (.int .i64 y3) (.int .i64 y4) (.string y5)) = W9 at *;refine M_runA 13 10 (.bool FB) W9 rfl rfl (by kernel_rfl) (by rfl) (listed' := bts 14 16383) (by kernel_rfl) (by go_simp) (by kernel_rfl) ?_;simp only [zsA,zsZ,zsS];refine M_done (by kernel_rfl) ?_ _;go_wp2_with fail
     go_meet
     exact ⟨bz,rfl,rfl,HFI⟩
   case rest =>
    obtain ⟨b,rfl,rfl,HFB⟩ := hcut;have hwc : Below wr.heap.size wr wc := HFB.out.2;obtain ⟨-,BTc,d0,d1⟩ := HCB.out _ hwc;have d3 := (BTc.cell 3).trans rfl;have HSC : Hid (SeeS n bt (.slice va j vc) ((t.es.take i).filterMap (entP (prM n s) fs)) wc) := HSS.out.1.below hwc;have hbc : Below bt W4 wc := hbw.trans (hwc.mono (by omega));have HBC : Hid (Below bt W4 wc ∧ Below wr.heap.size wr wc ∧ Below b0 w wc) := ⟨hbc,hwc,hbq.trans (hwc.mono (by omega))⟩;have HLC : Hid (bt < wc.heap.size ∧ b < wc.heap.size) := ⟨HSC.out.size,HFB.out.1.lt⟩;clear hwc hbc BTc HFC;go_wp2_with fail;clear d0 d1 d3
    go_loopw [10,12] (fun zv kv wk => ∃ (k : Nat) (z : Bool),zv = .bool z ∧ kv = .int .i64 (k : Int) ∧ k ≤ Kt ∧ Hid (z = (FB && (xl.take k).all (pfitB (⟨y1,y2,y3,y4,y5⟩ : FlS)))) ∧ Hid (Below wc.heap.size wc wk)) (fun _ kv _ => Kt - (intOf kv).toNat)
    case atStart => exact ⟨0,FB,rfl,rfl,by omega,by show _ = _; simp,Below.refl _ _⟩
    case round =>
     obtain ⟨k,z,rfl,rfl,hk,HZ,HBK⟩ := hrel
     by_cases hlt2 : k < Kt
     ·obtain ⟨x,hx⟩ : ∃ r,xl[k]? = some r := ⟨_,List.getElem?_eq_getElem (by rw [HKt.out]; exact hlt2)⟩;obtain ⟨g3,off3,rfl,k1⟩ := T1.out.get hx;obtain ⟨u1,n1,v1,u2,n2,v2,z0,z1,z2,z3,z4,z5⟩ := trs_get k1;have HXX : Hid (xl[k]? = some x) := hx;have hbk : Below b0 w wr := HBC.out.2.2.trans (HBK.out.mono (by have := HLC.out; omega));have cc : ∀ p u,w.cell? p = some u → wr.cell? p = some u := fun p u h => (hbk.cell (by rw [← HBZ.out]; exact World.block_lt_of_cell? _ _ h)).trans h
      have x0 := cc _ _ z0;have x1 := cc _ _ z1;have x2 := cc _ _ z2;have x3 := cc _ _ z3;have x4 := cc _ _ z4
      have HZ2 : Hid ((FB && (xl.take (k + 1)).all (pfitB (⟨y1,y2,y3,y4,y5⟩ : FlS))) = (z && pfitB (⟨y1,y2,y3,y4,y5⟩ : FlS) x)) := (by
       rw [take_atC hx,List.all_append,HZ.out]; simp [Bool.and_assoc] : _ = _)
      have hzf : z = true → FB = true := fun h => by
       have h0 := HZ.out;rw [h] at h0
       cases hF : FB with
       | true => rfl
       | false => rw [hF,Bool.false_and] at h0; cases h0
      have HSZ : Hid (x.s.size ≤ 5000) := (by
       have h1 := (HSX.out.2.2 x (List.mem_of_getElem? hx)).2
       cases n with
       | zero => exact h1.elim
       | succ n => exact h1.1 : x.s.size ≤ 5000)
      have BFk := HFB.out.1.below HBK.out;have f0 := (BFk.cell 0).trans rfl;have f1 := (BFk.cell 1).trans rfl;have f2 := (BFk.cell 2).trans rfl;have f3 := (BFk.cell 3).trans rfl;have f4 := (BFk.cell 4).trans rfl;have k0 := kept_cellW f0;have k1 := kept_cellW f1;have k2 := kept_cellW f2;have k3 := kept_cellW f3;have k4 := kept_cellW f4;have j0 := kept_cellW x0;have j1 := kept_cellW x1;have j2 := kept_cellW x2;have j3 := kept_cellW x3;have j4 := kept_cellW x4;clear hx f0 f1 f2 f3 f4 x0 x1 x2 x3 x4 z0 z1 z2 z3 z4 z5 cc BFk hbk
      go_upto_region 10 with fail
      cases z with
      | false =>
       haveI := nonempty_qb (Below.refl wr.heap.size wr)
       refine wp_region_qb (Below.refl wr.heap.size wr) (by kernel_rfl) (by kernel_rfl) ?_
       repeat (go_big_quiet_step (fail))
       refine wpQuiet_nil ?_;rintro W1 ⟨⟨_,hW1⟩,rfl⟩;have HZ3 : Hid (false = (FB && (xl.take (k + 1)).all (pfitB (⟨y1,y2,y3,y4,y5⟩ : FlS)))) := (by rw [HZ2.out]; rfl : _ = _);have HB3 : Hid (Below wc.heap.size wc W1) := HBK.out.trans (hW1.mono HBK.out.size);clear k0 k1 k2 k3 k4 j0 j1 j2 j3 j4 hW1;go_wp2_with fail
       go_roundw
       case rel => exact ⟨k + 1,false,rfl,by go_num,by omega,HZ3,HB3⟩
       case measure => simp [intOf]; omega
      | true =>
       have HKK : Hid (1 ≤ y4 ∧ y4 ≤ 7) := (by
        rcases HXY.out with ⟨h,h2⟩ | ⟨h,h2⟩
        ·rw [hzf rfl] at h2; cases h2
        ·exact HKS.out xt _ (HXF.out.trans h) : 1 ≤ y4 ∧ y4 ≤ 7)
       obtain ⟨PB,hPB⟩ : ∃ z,pfitB (⟨y1,y2,y3,y4,y5⟩ : FlS) x = z := ⟨_,rfl⟩
       have HFT : Hid (∀ W,Below wr.heap.size wr W → Calls Tryz.prog 50 #[.agg #[.string y1,.int .i64 y2,.int .i64 y3,.int .i64 y4,.string y5],.agg #[.int .i64 x.kind,.int .i64 x.n,.string x.s,.slice u1 n1 v1,.slice u2 n2 v2]] W fun e w' => e = .returned (.bool PB) ∧ Below wr.heap.size wr w') := fun W hW => by
        have h1 := rfits_any x x.kind x.n x.s u1 u2 n1 v1 n2 v2 y1 y2 y3 y4 y5 W ⟨rfl,rfl,rfl⟩ HSZ.out HKK.out;rw [hPB] at h1;refine h1.mono ?_;rintro ee W' ⟨rfl,hb⟩;exact ⟨rfl,hW.trans (hb.mono hW.size)⟩
       rw [hPB] at HZ2;clear hPB
       haveI := nonempty_qb (Below.refl wr.heap.size wr)
       refine wp_region_qb (Below.refl wr.heap.size wr) (by kernel_rfl) (by kernel_rfl) ?_
       repeat (go_big_quiet_step (first | (go_at_call 50; exact qb_call HFT.out)))
       refine wpQuiet_nil ?_;rintro W1 ⟨⟨_,hW1⟩,rfl⟩;have HZ3 : Hid (PB = (FB && (xl.take (k + 1)).all (pfitB (⟨y1,y2,y3,y4,y5⟩ : FlS)))) := (by rw [HZ2.out]; rfl : _ = _);have HB3 : Hid (Below wc.heap.size wc W1) := HBK.out.trans (hW1.mono HBK.out.size);clear k0 k1 k2 k3 k4 j0 j1 j2 j3 j4 hW1 HFT;go_wp2_with fail
       go_roundw
       case rel => exact ⟨k + 1,PB,rfl,by go_num,by omega,HZ3,HB3⟩
       case measure => simp [intOf]; omega
     ·obtain rfl : k = Kt := by omega
      have HA : Hid (z = (FB && xl.all (pfitB (⟨y1,y2,y3,y4,y5⟩ : FlS)))) := (by
       have := HZ.out;rw [List.take_of_length_le (by rw [HKt.out]; omega)] at this
       exact this : _ = _)
      have HSK : Hid (SeeS n bt (.slice va j vc) ((t.es.take i).filterMap (entP (prM n s) fs)) wr) := HSC.out.below HBK.out;have HBR : Hid (Below bt W4 wr ∧ Below b0 w wr ∧ Blk wr b #[.string y1,.int .i64 y2,.int .i64 y3,.int .i64 y4,.string y5] 56 ∧ bt < wr.heap.size) := ⟨HBC.out.1.trans (HBK.out.mono (by have := HLC.out; omega)),HBC.out.2.2.trans (HBK.out.mono (by have := HLC.out; omega)),HFB.out.1.below HBK.out,HSK.out.size⟩;clear HZ HBK HSC HBC hlt2
      cases z with
      | false =>
       have HEN : Hid ((t.es.take (i + 1)).filterMap (entP (prM n s) fs) = (t.es.take i).filterMap (entP (prM n s) fs)) := (by
        rw [take_fm HX.out,entP_bad HXF.out HXY.out HA.out.symm]; simp : _ = _)
       have HS2 : Hid (SeeS n bt (.slice va j vc) ((t.es.take (i + 1)).filterMap (entP (prM n s) fs)) wr ∧ ((t.es.take (i + 1)).filterMap (entP (prM n s) fs)).length = j) := (by rw [HEN.out]; exact ⟨HSK.out,HSS.out.2⟩ : _ ∧ _);go_wp2_with fail
       go_roundw
       case rel => exact ⟨i + 1,j,va,vc,by go_num,by omega,by omega,HS2,HBR.out.1⟩
       case measure => simp [intOf]; omega
      | true =>
       obtain ⟨x0,hx0⟩ : ∃ r,xl[0]? = some r := ⟨_,List.getElem?_eq_getElem (by rw [HKt.out]; omega)⟩;obtain ⟨g3,off3,rfl, -⟩ := T1.out.get hx0;clear hx0 x0
       have HXS : Hid (X = some (⟨y1,y2,y3,y4,y5⟩ : FlS) ∧ fldOf fs xt = some (⟨y1,y2,y3,y4,y5⟩ : FlS) ∧ xl.all (pfitB (⟨y1,y2,y3,y4,y5⟩ : FlS)) = true) := (by
        have h0 := HA.out.symm
        rcases HXY.out with ⟨h,h2⟩ | ⟨h,h2⟩
        ·rw [h2,Bool.false_and] at h0; cases h0
        ·rw [h2,Bool.true_and] at h0; exact ⟨h,HXF.out.trans h,h0⟩ : _ ∧ _ ∧ _)
       have BFr := HBR.out.2.2.1;have f2 := (BFr.cell 2).trans rfl;have HJ : Hid (((t.es.take i).filterMap (entP (prM n s) fs)).length = j) := HSS.out.2;clear HSS HBW HA hbw hbq hbtl BFr
       go_upto_if 59 with fail
       go_cut [11] from 57 to 64 (fun lv wx => ∃ (o3 L cL d : Nat),lv = .slice (some ⟨g3,o3,none⟩) L cL ∧ Hid (o3 = off3 + d * 5 ∧ d + L = k ∧ 1 ≤ L ∧ xl.drop d = lastP (⟨y1,y2,y3,y4,y5⟩ : FlS) xl) ∧ wx = wr)
       case first =>
        by_cases hl3 : y3 = 3
        ·subst hl3
         have dl : ((3 : Int) != 3) = false := by decide
         go_wp2_with fail
         go_meet
         exact ⟨off3,k,ct,0,rfl,⟨by omega,by omega,by omega,by simp [lastP]⟩,rfl⟩
        ·have dl : (y3 != 3) = true := by simpa using hl3
         go_wp2_with fail
         go_meet
         exact ⟨off3 + (k - 1) * 5,k - (k - 1),ct - (k - 1),k - 1,rfl,⟨rfl,by omega,by omega,by simp [lastP,hl3,HKt.out]⟩,rfl⟩
       case rest =>
        obtain ⟨o3,L,cL,d,rfl,HD,hwx⟩ := hcut;subst hwx;have hy2 : y2 = xt := (fldP HXS.out.2.1).1;subst hy2;have HKK : Hid (1 ≤ y4 ∧ y4 ≤ 7) := HKS.out _ _ HXS.out.2.1;have HLL : Hid ((lastP (⟨y1,y2,y3,y4,y5⟩ : FlS) xl).length = L) := (by rw [← HD.out.2.2.2,List.length_drop,HKt.out]; have := HD.out.2.1; omega : _ = _);have hL1 : 1 ≤ L := HD.out.2.2.1
        have hLk : L ≤ 70 := by have := HD.out.2.1; omega
        have f1 := (HBR.out.2.2.1.cell 1).trans rfl;obtain ⟨g,hg⟩ : ∃ z,wc.heap.size = z := ⟨_,rfl⟩;have HG : Hid (wc.heap.size = g) := hg;have HSY : Hid (SeeY n g y2 (.slice none 0 0) (((lastP (⟨y1,y2,y3,y4,y5⟩ : FlS) xl).take 0).map (oneP (prM n s) (⟨y1,y2,y3,y4,y5⟩ : FlS))) (wc.alloc (Obj.cells #[.int .i64 y2,.slice none 0 0] 69))) := SeeY.nil (by rw [← HG.out]; exact Blk.new wc _ _);have HBY : Hid (Below g wc (wc.alloc (Obj.cells #[.int .i64 y2,.slice none 0 0] 69))) := (Below.refl _ _).alloc (by omega) _;clear f2;go_wp2_with fail
        try simp only [hg]
        generalize (wc.alloc (Obj.cells #[.int .i64 y2,.slice none 0 0] 69)) = WY at *;clear hg f1
        go_loopw [14] (fun jv wz => ∃ (q : Nat) (ya : Option Addr) (yc : Nat),jv = .int .i64 (q : Int) ∧ q ≤ L ∧ Hid (SeeY n g y2 (.slice ya q yc) (((lastP (⟨y1,y2,y3,y4,y5⟩ : FlS) xl).take q).map (oneP (prM n s) (⟨y1,y2,y3,y4,y5⟩ : FlS))) wz) ∧ Hid (Below g wc wz)) (fun jv _ => L - (intOf jv).toNat)
        case atStart => exact ⟨0,none,0,rfl,by omega,HSY,HBY⟩
        case round =>
         clear HSY HBY;obtain ⟨q,ya,yc,rfl,hq,HSY,HBY⟩ := hrel;have hgz : g < wr.heap.size := HSY.out.size
         by_cases hlt3 : q < L
         ·obtain ⟨x,hx⟩ : ∃ r,xl[d + q]? = some r := ⟨_,List.getElem?_eq_getElem (by rw [HKt.out]; have := HD.out.2.1; omega)⟩;have HXQ : Hid ((lastP (⟨y1,y2,y3,y4,y5⟩ : FlS) xl)[q]? = some x) := (by rw [← HD.out.2.2.2,List.getElem?_drop]; exact hx : _ = _)
          have HXM : Hid (okN n x = true ∧ SmN n x ∧ pfitB (⟨y1,y2,y3,y4,y5⟩ : FlS) x = true) := (by
           have hm := List.mem_of_getElem? hx
           exact ⟨(HSX.out.2.2 x hm).1,(HSX.out.2.2 x hm).2,List.all_eq_true.1 HXS.out.2.2 x hm⟩ : _ ∧ _ ∧ _)
          obtain ⟨g9,o9,e9,k1⟩ := T1.out.get hx;simp only [Option.some.injEq,Addr.mk.injEq,and_true] at e9;obtain ⟨rfl,rfl⟩ := e9;obtain ⟨u1,n1,v1,u2,n2,v2,z0,z1,z2,z3,z4,z5⟩ := trs_get k1
          have ho : off3 + (d + q) * 5 = o3 + q * 5 := by have := HD.out.1; omega
          rw [ho] at z0 z1 z2 z3 z4;have HZZ : Hid (w.cell? ⟨g3,o3 + q * 5,none⟩ = some (.int .i64 x.kind) ∧ w.cell? ⟨g3,o3 + q * 5 + 1,none⟩ = some (.int .i64 x.n) ∧ w.cell? ⟨g3,o3 + q * 5 + 2,none⟩ = some (.string x.s) ∧ w.cell? ⟨g3,o3 + q * 5 + 3,none⟩ = some (.slice u1 n1 v1) ∧ w.cell? ⟨g3,o3 + q * 5 + 4,none⟩ = some (.slice u2 n2 v2) ∧ TrIn n w (.agg #[.int .i64 x.kind,.int .i64 x.n,.string x.s,.slice u1 n1 v1,.slice u2 n2 v2]) x) := ⟨z0,z1,z2,z3,z4,z5⟩
          have HQB : Hid (∀ W,Kp (fun z => g < z) wr W → Below g wc W ∧ Below b0 w W) := fun W hW => by
           have h1 : Below g wr W := hW.toBelow (by omega) (fun z hz => by omega);have h2 : Below g wc W := HBY.out.trans h1;exact ⟨h2,HBR.out.2.1.trans (h2.mono (by have := HG.out; have := HBR.out.2.2.2; omega))⟩
          have HCT : Hid (∀ W,Kp (fun z => g < z) wr W → Blk W g #[.int .i64 y2,.slice ya q yc] 69 ∧ Blk W b0 #[.string sn,.slice ma mn mc,.slice ea en ec,.slice ta tn tc] 26 ∧ Blk W b #[.string y1,.int .i64 y2,.int .i64 y3,.int .i64 y4,.string y5] 56 ∧ W.cell? ⟨g3,o3 + q * 5,none⟩ = some (.int .i64 x.kind) ∧ W.cell? ⟨g3,o3 + q * 5 + 1,none⟩ = some (.int .i64 x.n) ∧ W.cell? ⟨g3,o3 + q * 5 + 2,none⟩ = some (.string x.s) ∧ W.cell? ⟨g3,o3 + q * 5 + 3,none⟩ = some (.slice u1 n1 v1) ∧ W.cell? ⟨g3,o3 + q * 5 + 4,none⟩ = some (.slice u2 n2 v2)) := fun W hW => by
           obtain ⟨h2,h3⟩ := HQB.out W hW;have cc : ∀ p u,w.cell? p = some u → W.cell? p = some u := fun p u h => (h3.cell (by rw [← HBZ.out]; exact World.block_lt_of_cell? _ _ h)).trans h
           obtain ⟨z0,z1,z2,z3,z4, -⟩ := HZZ.out
           have h4 : Below W4.heap.size W4 W := by rw [HBT.out]; exact HBR.out.1.trans (h2.mono (by have := HG.out; have := HBR.out.2.2.2; omega))
           exact ⟨HSY.out.1.kp hW (by omega),HPB.out.1.below h4,HBR.out.2.2.1.below (by rw [HG.out]; exact h2),cc _ _ z0,cc _ _ z1,cc _ _ z2,cc _ _ z3,cc _ _ z4⟩
          obtain ⟨OX,hOX⟩ : ∃ z,oneP (prM n s) (⟨y1,y2,y3,y4,y5⟩ : FlS) x = z := ⟨_,rfl⟩
          have HOC : Hid (∀ W,Kp (fun z => g < z) wr W → Calls Tryz.prog 51 #[.agg #[.string sn,.slice ma mn mc,.slice ea en ec,.slice ta tn tc],.agg #[.string y1,.int .i64 y2,.int .i64 y3,.int .i64 y4,.string y5],.agg #[.int .i64 x.kind,.int .i64 x.n,.string x.s,.slice u1 n1 v1,.slice u2 n2 v2]] W (SeeP n OX W)) := fun W hW => by
           obtain ⟨h2,h3⟩ := HQB.out W hW;obtain ⟨ok1,sm1,pf1⟩ := HXM.out
           have hbw' : Below w.heap.size w W := by rw [HBZ.out]; exact h3
           have hT : ∀ W',Below w.heap.size w W' → TrC n W' [.int .i64 x.kind,.int .i64 x.n,.string x.s,.slice u1 n1 v1,.slice u2 n2 v2] x := fun W' hb => by
            obtain ⟨r,e,h⟩ := HZZ.out.2.2.2.2.2.below hb;simp only [Value.agg.injEq] at e;have e' := congrArg Array.toList e;simp only at e';subst e';exact h
           rw [← hOX];refine rpone_step n sn ma ea ta mn mc en ec tn tc x x.kind x.n x.s u1 u2 n1 v1 n2 v2 y1 y2 y3 y4 y5 W (HMS.out.below hbw') (hT W hbw') ?_ (pfit_kind pf1) HKK.out ?_
           ·intro hk3
            cases n with
            | zero => exact (hT W hbw').elim
            | succ n => exact leafKind ok1 hk3
           ·intro hk3 W' qn vf vr hb hvf hvr;have hb' : Below w.heap.size w W' := hbw'.trans (hb.mono hbw'.size);exact HIH.out y5 x x.kind x.n x.s u1 u2 n1 v1 n2 v2 qn vf vr W' (HMS.out.below hb') hvf hvr (hT W' hb') hk3 ok1 sm1
          have HTK : Hid ((((lastP (⟨y1,y2,y3,y4,y5⟩ : FlS) xl).take (q + 1)).map (oneP (prM n s) (⟨y1,y2,y3,y4,y5⟩ : FlS))) = (((lastP (⟨y1,y2,y3,y4,y5⟩ : FlS) xl).take q).map (oneP (prM n s) (⟨y1,y2,y3,y4,y5⟩ : FlS))) ++ [OX]) := (by
           rw [take_atC HXQ.out,List.map_append,List.map_cons,List.map_nil,hOX] : _ = _)
          have HQL : Hid ((((lastP (⟨y1,y2,y3,y4,y5⟩ : FlS) xl).take q).map (oneP (prM n s) (⟨y1,y2,y3,y4,y5⟩ : FlS))).length = q) := (by rw [List.length_map,List.length_take,HLL.out]; omega : _ = _);clear hx k1 z0 z1 z2 z3 z4 z5 ho hOX
          go_upto_region 18 with fail
          refine M_region (T := fun W => Kp (fun z => g < z) wr W) (m := 11) (by kernel_rfl) ?_;have hdr : Below wr.heap.size wr wr.drew := (Below.refl _ _).drew;have hS : Kp (fun z => g < z) wr wr.drew := Kp.ofBelow hdr;refine M_take 0 74 (.pointer (some ⟨g,1,none⟩)) _ rfl rfl (by kernel_rfl) (by kernel_rfl) (by kernel_rfl) (by kernel_rfl) (by kernel_rfl) (fun _ _ _ h => h) (by rfl) (fun w' hw' => ?_) hS (listed' := bts 13 1) (by kernel_rfl) rfl ?_
          ·go_simp
          simp only [zsA,zsZ,zsS];refine M_take 1 75 (.slice ya q yc) _ rfl rfl (by kernel_rfl) (by kernel_rfl) (by kernel_rfl) (by kernel_rfl) (by kernel_rfl) (fun _ _ _ h => h) (by rfl) (fun w' hw' => ?_) hS (listed' := bts 13 3) (by kernel_rfl) rfl ?_
          ·obtain ⟨HB0,HB1,HB2,z0,z1,z2,z3,z4⟩ := HCT.out _ hw'; have f1 := (HB0.cell 1).trans rfl; go_simp
          simp only [zsA,zsZ,zsS];refine M_take 2 76 (.agg #[.string sn,.slice ma mn mc,.slice ea en ec,.slice ta tn tc]) _ rfl rfl (by kernel_rfl) (by kernel_rfl) (by kernel_rfl) (by kernel_rfl) (by kernel_rfl) (fun _ _ _ h => h) (by rfl) (fun w' hw' => ?_) hS (listed' := bts 13 7) (by kernel_rfl) rfl ?_
          ·obtain ⟨HB0,HB1,HB2,z0,z1,z2,z3,z4⟩ := HCT.out _ hw'; have f0 := (HB1.cell 0).trans rfl; have f1 := (HB1.cell 1).trans rfl; have f2 := (HB1.cell 2).trans rfl; have f3 := (HB1.cell 3).trans rfl; go_simp
          simp only [zsA,zsZ,zsS];refine M_take 3 77 (.agg #[.string y1,.int .i64 y2,.int .i64 y3,.int .i64 y4,.string y5]) _ rfl rfl (by kernel_rfl) (by kernel_rfl) (by kernel_rfl) (by kernel_rfl) (by kernel_rfl) (fun _ _ _ h => h) (by rfl) (fun w' hw' => ?_) hS (listed' := bts 13 15) (by kernel_rfl) rfl ?_
          ·obtain ⟨HB0,HB1,HB2,z0,z1,z2,z3,z4⟩ := HCT.out _ hw'; have f0 := (HB2.cell 0).trans rfl; have f1 := (HB2.cell 1).trans rfl; have f2 := (HB2.cell 2).trans rfl; have f3 := (HB2.cell 3).trans rfl; have f4 := (HB2.cell 4).trans rfl; go_simp
          simp only [zsA,zsZ,zsS];refine M_take 4 78 (.slice (some ⟨g3,o3,none⟩) L cL) _ rfl rfl (by kernel_rfl) (by kernel_rfl) (by kernel_rfl) (by kernel_rfl) (by kernel_rfl) (fun _ _ _ h => h) (by rfl) (fun w' hw' => ?_) hS (listed' := bts 13 31) (by kernel_rfl) rfl ?_
          ·go_simp
          simp only [zsA,zsZ,zsS];refine M_take 5 79 (.int .i64 (q : Int)) _ rfl rfl (by kernel_rfl) (by kernel_rfl) (by kernel_rfl) (by kernel_rfl) (by kernel_rfl) (fun _ _ _ h => h) (by rfl) (fun w' hw' => ?_) hS (listed' := bts 13 63) (by kernel_rfl) rfl ?_
          ·go_simp
          simp only [zsA,zsZ,zsS];refine M_take 6 80 (.pointer (some ⟨g3,o3 + q * 5,none⟩)) _ rfl rfl (by kernel_rfl) (by kernel_rfl) (by kernel_rfl) (by kernel_rfl) (by kernel_rfl) (fun _ _ _ h => h) (by rfl) (fun w' hw' => ?_) hS (listed' := bts 13 127) (by kernel_rfl) rfl ?_
          ·go_simp
          simp only [zsA,zsZ,zsS];refine M_take 7 81 (.agg #[.int .i64 x.kind,.int .i64 x.n,.string x.s,.slice u1 n1 v1,.slice u2 n2 v2]) _ rfl rfl (by kernel_rfl) (by kernel_rfl) (by kernel_rfl) (by kernel_rfl) (by kernel_rfl) (fun _ _ _ h => h) (by rfl) (fun w' hw' => ?_) hS (listed' := bts 13 255) (by kernel_rfl) rfl ?_
          ·obtain ⟨HB0,HB1,HB2,z0,z1,z2,z3,z4⟩ := HCT.out _ hw'; go_simp
          simp only [zsA,zsZ,zsS];refine M_call 8 82 51 #[.agg #[.string sn,.slice ma mn mc,.slice ea en ec,.slice ta tn tc],.agg #[.string y1,.int .i64 y2,.int .i64 y3,.int .i64 y4,.string y5],.agg #[.int .i64 x.kind,.int .i64 x.n,.string x.s,.slice u1 n1 v1,.slice u2 n2 v2]] rfl rfl (by kernel_rfl) (by rfl) (listed' := bts 13 511) (by kernel_rfl) (fun W => by go_simp) ?_;refine (HOC.out _ hS).mono ?_;rintro ee V1 ⟨r4,bs4,rfl,ht4,hap4,hbU⟩;obtain ⟨a1,m1,c1,a2,m2,c2,rfl⟩ := ht4.open;have hdv : Below wr.heap.size wr V1 := hdr.trans (hbU.mono hdr.size);have hS : Kp (fun z => g < z) wr V1 := Kp.ofBelow hdv;refine ⟨_,rfl,hS,?_⟩;simp only [zsA,zsZ,zsS];have al : Below V1.heap.size V1 (V1.alloc (Obj.cells #[.int .i64 OX.kind,.int .i64 OX.n,.string OX.s,.slice a1 m1 c1,.slice a2 m2 c2] 30)) := (Below.refl _ _).alloc (Nat.le_refl _) _;have hd2 : Below wr.heap.size wr (V1.alloc (Obj.cells #[.int .i64 OX.kind,.int .i64 OX.n,.string OX.s,.slice a1 m1 c1,.slice a2 m2 c2] 30)) := hdv.trans (al.mono hdv.size);have BZ : Blk (V1.alloc (Obj.cells #[.int .i64 OX.kind,.int .i64 OX.n,.string OX.s,.slice a1 m1 c1,.slice a2 m2 c2] 30)) V1.heap.size #[.int .i64 OX.kind,.int .i64 OX.n,.string OX.s,.slice a1 m1 c1,.slice a2 m2 c2] 30 := Blk.new V1 _ _;have ht2 : TrX n wr.heap.size (V1.alloc (Obj.cells #[.int .i64 OX.kind,.int .i64 OX.n,.string OX.s,.slice a1 m1 c1,.slice a2 m2 c2] 30)) [.int .i64 OX.kind,.int .i64 OX.n,.string OX.s,.slice a1 m1 c1,.slice a2 m2 c2] OX bs4 := ht4.sm (Sm.below al fun k hk => (hap4.2 k hk).2);have hap2 : Apt wr.heap.size (V1.alloc (Obj.cells #[.int .i64 OX.kind,.int .i64 OX.n,.string OX.s,.slice a1 m1 c1,.slice a2 m2 c2] 30)) bs4 := hap4.mono al.size;obtain ⟨ba,bc,W',r1,r2,r3,r4,r5⟩ := HSY.out.push hd2 ht2 hap2 BZ (by rw [HQL.out]; omega);rw [HQL.out] at r1 r3 r5;rw [← HTK.out] at r3;have HRUN : Hid ((Builtin.append_ #[67,67] 67 #[.slice ya q yc,.slice (some ⟨V1.heap.size,0,none⟩) 1 1]).run Tryz.prog (V1.alloc (Obj.cells #[.int .i64 OX.kind,.int .i64 OX.n,.string OX.s,.slice a1 m1 c1,.slice a2 m2 c2] 30)) = .ok (.slice ba (q + 1) bc) W') := r1;have hS2 : Kp (fun z => g < z) wr (V1.alloc (Obj.cells #[.int .i64 OX.kind,.int .i64 OX.n,.string OX.s,.slice a1 m1 c1,.slice a2 m2 c2] 30)) := Kp.ofBelow hd2;have hS3 : Kp (fun z => g < z) wr W' := hS2.trans2 r4 fun _ _ hi => hi
          have s1 := (r2.cell 1).trans rfl;have s2 := r2.froz 1;have HSY2 : Hid (SeeY n g y2 (.slice ba (q + 1) bc) (((lastP (⟨y1,y2,y3,y4,y5⟩ : FlS) xl).take (q + 1)).map (oneP (prM n s) (⟨y1,y2,y3,y4,y5⟩ : FlS))) (W'.setCell ⟨g,1,none⟩ (.slice ba (q + 1) bc))) := r3;have HBY2 : Hid (Below g wc (W'.setCell ⟨g,1,none⟩ (.slice ba (q + 1) bc))) := HBY.out.trans (r5.toBelow (by omega) (fun z hz => hz));clear r1 r2 r3 r4 r5 BZ ht2 hap2 al hd2 hdv ht4 hap4 hbU hdr;refine M_run 9 83 (.slice (some ⟨V1.heap.size,0,none⟩) 1 1) ((V1.alloc (Obj.cells #[.int .i64 OX.kind,.int .i64 OX.n,.string OX.s,.slice a1 m1 c1,.slice a2 m2 c2] 30))) rfl rfl (by kernel_rfl) (by rfl) (listed' := bts 13 1023) (by kernel_rfl) (by go_simp) hS2 ?_;simp only [zsA,zsZ,zsS];refine M_run 10 84 (.slice ba (q + 1) bc) (W') rfl rfl (by kernel_rfl) (by rfl) (listed' := bts 13 2047) (by kernel_rfl) (append_run rfl rfl rfl HRUN.out) hS3 ?_;simp only [zsA,zsZ,zsS];refine M_runA 11 85 (.pointer (some ⟨g,1,none⟩)) W' rfl rfl (by kernel_rfl) (by rfl) (listed' := bts 13 4095) (by kernel_rfl) (by go_simp) (by kernel_rfl) ?_;simp only [zsA,zsZ,zsS];refine M_store 12 (W'.setCell ⟨g,1,none⟩ (.slice ba (q + 1) bc)) rfl rfl (by kernel_rfl) (by rfl) (listed' := bts 13 8191) (by kernel_rfl) (by go_simp) (by kernel_rfl) ?_;refine M_done (by kernel_rfl) ?_ _;clear HRUN s1 s2 hS hS2 hS3;generalize (W'.setCell ⟨g,1,none⟩ (.slice ba (q + 1) bc)) = W9 at *;go_wp2_with fail
          go_roundw
          case rel => exact ⟨q + 1,ba,bc,by go_num,by omega,HSY2,HBY2⟩
          case measure => simp [intOf]; omega
         ·obtain rfl : q = L := by omega
          have HYF : Hid (SeeY n g y2 (.slice ya q yc) ((lastP (⟨y1,y2,y3,y4,y5⟩ : FlS) xl).map (oneP (prM n s) (⟨y1,y2,y3,y4,y5⟩ : FlS))) wr) := (by
           have h1 := HSY.out;rw [List.take_of_length_le (by rw [HLL.out]; omega)] at h1
           exact h1 : SeeY _ _ _ _ _ _)
          obtain ⟨ZL,hZL⟩ : ∃ z,(lastP (⟨y1,y2,y3,y4,y5⟩ : FlS) xl).map (oneP (prM n s) (⟨y1,y2,y3,y4,y5⟩ : FlS)) = z := ⟨_,rfl⟩;have HZL : Hid ((lastP (⟨y1,y2,y3,y4,y5⟩ : FlS) xl).map (oneP (prM n s) (⟨y1,y2,y3,y4,y5⟩ : FlS)) = ZL) := hZL;rw [hZL] at HYF;obtain ⟨f0,hf0⟩ : ∃ r,ZL[0]? = some r := ⟨_,List.getElem?_eq_getElem (by rw [← hZL,List.length_map,HLL.out]; omega)⟩
          have HF0 : Hid (ZL.headD tr0 = f0) := (by
           cases ZL with
           | nil => cases hf0
           | cons z l => simpa using hf0 : _ = _)
          clear hZL;obtain ⟨q0,rfl,hgq,a1,m1,c1,a2,m2,c2,hm1,hm2,z0,z1,z2,z3,z4⟩ := HYF.out.first hf0;obtain ⟨ZB,hZB⟩ : ∃ z,zroB f0 = z := ⟨_,rfl⟩;have HZB : Hid (zroB f0 = ZB) := hZB
          have HZC : Hid (∀ W,Calls Tryz.prog 52 #[.agg #[.int .i64 f0.kind,.int .i64 f0.n,.string f0.s,.slice a1 m1 c1,.slice a2 m2 c2]] W fun e w' => e = .returned (.bool ZB) ∧ Below W.heap.size W w') := fun W => by
           have h1 := rzero_any f0 a1 a2 m1 c1 m2 c2 W hm1 hm2;rw [hZB] at h1;exact h1
          obtain ⟨C,hC⟩ : ∃ z,(!(decide (y3 = 1) && ZB)) = z := ⟨_,rfl⟩;have HC : Hid ((!(decide (y3 = 1) && ZB)) = C) := hC
          have hwg : Below wc.heap.size wc wr := by rw [HG.out]; exact HBY.out
          have HSR : Hid (SeeS n bt (.slice va j vc) ((t.es.take i).filterMap (entP (prM n s) fs)) wr ∧ Below bt W4 wr) := ⟨HSK.out.below hwg,HBR.out.1.trans (hwg.mono (by have := HBR.out.2.2.2; omega))⟩
          have HPU : Hid (∀ W bz,Below wr.heap.size wr W → Blk W bz #[.int .i64 y2,.slice (some ⟨q0,0,none⟩) q yc] 69 → ∃ a c W',(Builtin.append_ #[27,27] 27 #[.slice va j vc,.slice (some ⟨bz,0,none⟩) 1 1]).run Tryz.prog W = .ok (.slice a (j + 1) c) W' ∧ Blk W' bt #[.int .i64 3,.int .i64 0,.string ⟨#[]⟩,.slice va j vc,.slice none 0 0] 30 ∧
            SeeS n bt (.slice a (j + 1) c) ((t.es.take i).filterMap (entP (prM n s) fs) ++ [(y2,ZL)]) (W'.setCell ⟨bt,3,none⟩ (.slice a (j + 1) c)) ∧ Below bt W4 (W'.setCell ⟨bt,3,none⟩ (.slice a (j + 1) c))) := fun W bz hW BZ => by
           obtain ⟨a,c,W',e1,e2,e3, -,e5⟩ := HSK.out.push (hwg.trans (hW.mono hwg.size)) (HYF.out.below hW) (by have := HG.out; omega) H64.out BZ (by rw [HJ.out]; omega);rw [HJ.out] at e1 e3 e5;exact ⟨a,c,W',e1,e2,e3,HBR.out.1.trans (e5.toBelow (by have := HBR.out.2.2.2; omega) fun z hz => hz)⟩
          have f2 := ((HBR.out.2.2.1.below hwg).cell 2).trans rfl;have s1 := (HYF.out.1.cell 1).trans rfl;clear hf0 hm1 hm2 hZB hC hwg HSY
          go_upto_region 19 with fail
          go_cut [96] from 86 to 96 (fun bv wx => bv = .bool C ∧ Hid (Below wr.heap.size wr wx))
          case first =>
           by_cases hl1 : y3 = 1
           ·subst hl1
            have dl : ((1 : Int) != 1) = false := by decide
            go_wp2_with fail;refine (HZC.out _).mono ?_;rintro ee W1 ⟨rfl,hb1⟩;have HB1 : Hid (Below wr.heap.size wr W1) := hb1;clear hb1 z0 z1 z2 z3 z4 f2 s1
            cases ZB with
            | true =>
             have hc : C = false := by rw [← HC.out]; decide
             subst hc;go_wp2_with fail
             go_meet
             exact ⟨rfl,HB1⟩
            | false =>
             have hc : C = true := by rw [← HC.out]; decide
             subst hc;go_wp2_with fail
             go_meet
             exact ⟨rfl,HB1⟩
           ·have dl : (y3 != 1) = true := by simpa using hl1
            have hc : C = true := by rw [← HC.out,decide_eq_false hl1]; rfl
            subst hc;have HB1 : Hid (Below wr.heap.size wr wr) := Below.refl _ _;go_wp2_with fail
            go_meet
            exact ⟨rfl,HB1⟩
          case rest =>
           obtain ⟨rfl,HBX⟩ := hcut;clear f2 s1 z0 z1 z2 z3 z4
           cases C with
           | false =>
            have HEN : Hid ((t.es.take (i + 1)).filterMap (entP (prM n s) fs) = (t.es.take i).filterMap (entP (prM n s) fs)) := (by
             have h1 : decide (y3 = 1) && ZB := by have := HC.out; simpa using this
             have h2 : y3 = 1 ∧ ZB = true := by simpa using h1
             rw [take_fm HX.out,entP_zero HXS.out.2.1 HXS.out.2.2 ⟨h2.1,by rw [HZL.out,HF0.out,HZB.out]; exact h2.2⟩]; simp : _ = _)
            have HS2 : Hid (SeeS n bt (.slice va j vc) ((t.es.take (i + 1)).filterMap (entP (prM n s) fs)) wc ∧ ((t.es.take (i + 1)).filterMap (entP (prM n s) fs)).length = j) := (by rw [HEN.out]; exact ⟨HSR.out.1.below HBX.out,HJ.out⟩ : _ ∧ _);have HB2 : Hid (Below bt W4 wc) := HSR.out.2.trans (HBX.out.mono (by have := HSR.out.1.size; omega));go_wp2_with fail
            go_roundw
            case rel => exact ⟨i + 1,j,va,vc,by go_num,by omega,by omega,HS2,HB2⟩
            case measure => simp [intOf]; omega
           | true =>
            have HEN : Hid ((t.es.take (i + 1)).filterMap (entP (prM n s) fs) = (t.es.take i).filterMap (entP (prM n s) fs) ++ [(y2,ZL)]) := (by
             have h1 : ¬ (y3 = 1 ∧ ZB = true) := fun h => by
              have := HC.out;rw [decide_eq_true h.1,h.2] at this
              cases this
             rw [take_fm HX.out,entP_good HXS.out.2.1 HXS.out.2.2 (by rw [HZL.out,HF0.out,HZB.out]; exact h1),HZL.out]; rfl : _ = _)
            have hal : Below wc.heap.size wc (wc.alloc (Obj.cells #[.int .i64 y2,.slice (some ⟨q0,0,none⟩) q yc] 69)) := (Below.refl _ _).alloc (Nat.le_refl _) _;obtain ⟨a,c,W',r1,r2,r3,r4⟩ := HPU.out (wc.alloc (Obj.cells #[.int .i64 y2,.slice (some ⟨q0,0,none⟩) q yc] 69)) wc.heap.size (HBX.out.trans (hal.mono HBX.out.size)) (Blk.new wc _ _);have HS3 : Hid (SeeS n bt (.slice a (j + 1) c) ((t.es.take (i + 1)).filterMap (entP (prM n s) fs)) (W'.setCell ⟨bt,3,none⟩ (.slice a (j + 1) c)) ∧ ((t.es.take (i + 1)).filterMap (entP (prM n s) fs)).length = j + 1) := (by rw [HEN.out]; exact ⟨r3,by rw [List.length_append,HJ.out]; rfl⟩ : _ ∧ _);have HB3 : Hid (Below bt W4 (W'.setCell ⟨bt,3,none⟩ (.slice a (j + 1) c))) := r4;have B3 := (HSR.out.1.below HBX.out).1;have w3 := (B3.cell 3).trans rfl;have BY3 := (HYF.out.below HBX.out).1;have y0 := (BY3.cell 0).trans rfl;have y1' := (BY3.cell 1).trans rfl;have s3 := (r2.cell 3).trans rfl;have s4 := r2.froz 3;clear B3 BY3 hal r2 r3 r4
            go_wp2_with (first | (at_builtin; refine wpList_ran rfl (append_run rfl rfl rfl r1) ?_) | fail)
            clear w3 y0 y1' r1;go_wp2_with fail
            go_roundw
            case rel => exact ⟨i + 1,j + 1,a,c,by go_num,by omega,by omega,HS3,HB3⟩
            case measure => simp [intOf]; omega
  ·obtain rfl : i = Ke := by omega
   have HSF : Hid (SeeS n bt (.slice va j vc) (t.es.filterMap (entP (prM n s) fs)) wr) := (by
    have h1 := HSS.out.1;rw [List.take_of_length_le (by rw [HEA.out.2]; omega)] at h1
    exact h1 : SeeS _ _ _ _ _)
   have BX := HSF.out.1;have x0 := (BX.cell 0).trans rfl;have x1 := (BX.cell 1).trans rfl;have x2 := (BX.cell 2).trans rfl;have x3 := (BX.cell 3).trans rfl;have x4 := (BX.cell 4).trans rfl;have BRr : Blk wr (b0 + 3) #[.int .i64 0,.int .i64 0,.string ⟨#[]⟩,.slice none 0 0,.slice none 0 0] 30 := HPB.out.2.2.2.1.below (by rw [HBT.out]; exact hbw);have c0 := (BRr.cell 0).trans rfl;have c1 := (BRr.cell 1).trans rfl;have c2 := (BRr.cell 2).trans rfl;have c3 := (BRr.cell 3).trans rfl;have c4 := (BRr.cell 4).trans rfl;have z0 := BRr.froz 0;have z1 := BRr.froz 1;have z2 := BRr.froz 2;have z3 := BRr.froz 3;have z4 := BRr.froz 4;clear BX BRr BT HSS;go_wp2_with fail;refine bodyPost_ret (results_cell rfl _ _ _ ⟨b0 + 3,0,none⟩ (.agg #[.int .i64 3,.int .i64 0,.string ⟨#[]⟩,.slice va j vc,.slice none 0 0]) (by go_simp) (by go_simp)) rfl ?_;rw [HR.out];obtain ⟨bs,h1,h2⟩ := HSF.out.done;have hz := HBZ.out;exact SeeP.done (b := b0 + 3) (by rw [hz]; exact hbq) (by omega) (h1.base (by omega)) (h2.base (by omega)) (fun e => by have := (h2.2 _ e).1; omega)
theorem rpmsg_any {s : ScS} (hks : ∀ nm m,msgOf s nm = some m → ∀ f ∈ m.fields,1 ≤ f.kind ∧ f.kind ≤ 7) (sn : ByteArray) (ma ea ta : Option Addr) (mn mc en ec tn tc : Nat) : ∀ (n : Nat),∀ (nm : ByteArray) (t : Tr) (K N : Int) (S : ByteArray) (pe pr : Option Addr) (Ke ce Kr cr : Nat) (qn : ByteArray) (vf vr : Value) (w : World),MsIn w (.slice ma mn mc) s.msgs → RowG w vf 5 (flRows ((msgOf s nm).getD zMs).fields) → RowG w vr 1 (inRows ((msgOf s nm).getD zMs).reserved) → TrC n w [.int .i64 K,.int .i64 N,.string S,.slice pe Ke ce,.slice pr Kr cr] t → t.kind = 3 → okN n t = true → SmN n t → Calls Tryz.prog 27 #[.agg #[.string sn,.slice ma mn mc,.slice ea en ec,.slice ta tn tc],.agg #[.string qn,vf,vr],.agg #[.int .i64 K,.int .i64 N,.string S,.slice pe Ke ce,.slice pr Kr cr]] w (SeeP n (prM n s nm t) w)
 | 0,nm,t,K,N,S,pe,pr,Ke,ce,Kr,cr,qn,vf,vr,w,hms,hvf,hvr,ht,hk3,hok,hsm => ht.elim
 | n + 1,nm,t,K,N,S,pe,pr,Ke,ce,Kr,cr,qn,vf,vr,w,hms,hvf,hvr,ht,hk3,hok,hsm => rpmsg_step n hks sn ma ea ta mn mc en ec tn tc (rpmsg_any hks sn ma ea ta mn mc en ec tn tc n) nm t K N S pe pr Ke ce Kr cr qn vf vr w hms hvf hvr ht hk3 hok hsm
theorem rcheckV_any (t k n : Int) (b : ByteArray) (w : World) :
  Calls Tryz.prog 95 #[.agg #[.int .i64 t,.int .i64 k,.int .i64 n,.string b]] w fun e w' => e = .returned (.bool (okV t k n b)) ∧ Below w.heap.size w w' := by
 by_cases h1 : 1 ≤ t
 ·by_cases h2 : t ≤ 500
  ·by_cases hk : k = 0
   ·subst hk
    go_enter Tryz.func95,Tryz.ntmps95
    go_wp2_with fail
    all_goals
     go_ret;exact ⟨ret_boolF (by simp [okV,h1,h2]),(Below.refl _ _).alloc (Nat.le_refl _) _⟩
   ·by_cases hk1 : k = 1
    ·subst hk1
     by_cases hn : n = 0
     ·subst hn
      go_enter Tryz.func95,Tryz.ntmps95
      go_wp2_with fail
      all_goals
       go_ret;exact ⟨ret_boolF (by simp [okV,h1,h2]),(Below.refl _ _).alloc (Nat.le_refl _) _⟩
     ·go_enter Tryz.func95,Tryz.ntmps95
      go_wp2_with fail
      all_goals
       go_ret;exact ⟨ret_boolF (by simp [okV,hn]),(Below.refl _ _).alloc (Nat.le_refl _) _⟩
    ·have e0 : (k == 0) = false := by simp [hk]
     have e1 : (k == 1) = false := by simp [hk1]
     go_enter Tryz.func95,Tryz.ntmps95
     go_wp2_with fail
     all_goals
      go_ret;exact ⟨ret_boolF (by simp [okV,hk,hk1]),(Below.refl _ _).alloc (Nat.le_refl _) _⟩
  ·have hok : okV t k n b = false := by simp [okV]; omega
   rw [hok];clear hok
   have hd : decide (t < 1) = false := by simp; omega
   have hd5 : decide (500 < t) = true := by simp; omega
   go_enter Tryz.func95,Tryz.ntmps95
   go_wp2_with fail
   all_goals
    go_ret;exact ⟨rfl,(Below.refl _ _).alloc (Nat.le_refl _) _⟩
 ·have hok : okV t k n b = false := by simp [okV]; omega
  rw [hok];clear hok
  have hd : decide (t < 1) = true := by simp; omega
  go_enter Tryz.func95,Tryz.ntmps95
  go_wp2_with fail
  all_goals
   go_ret;exact ⟨rfl,(Below.refl _ _).alloc (Nat.le_refl _) _⟩
theorem rrising_any (a : Option Addr) (rs : List Fd) (N cap : Nat) (w : World) (hN : rs.length = N) (hadr : rs = [] ∨ ∃ g off,a = some ⟨g,off,none⟩) (hc : N ≤ cap) (hm : cap ≤ maxLen) (hh : HoldsR w a rs) :
  Calls Tryz.prog 115 #[.slice a N cap] w fun e w' => e = .returned (.bool (risesB rs)) ∧ Below w.heap.size w w' := by
 have HN : Hid (rs.length = N) := hN;have HA : Hid (rs = [] ∨ ∃ g off,a = some ⟨g,off,none⟩) := hadr;have HH : Hid (HoldsR w a rs) := hh;obtain ⟨R,hR⟩ : ∃ R,risesB rs = R := ⟨_,rfl⟩;rw [hR];have HR : Hid (risesB rs = R) := hR;unfold maxLen at hm;clear hN hadr hh hR
 go_enter Tryz.func115,Tryz.ntmps115
 go_wp2_with fail
 go_loopw [3] (fun iv wr => ∃ i : Nat,iv = .int .i64 ((i : Int) + 1) ∧ i ≤ N ∧ Hid (∀ j x y,j < i → rs[j]? = some x → rs[j + 1]? = some y → x.tag ≤ y.tag) ∧ Below w.heap.size w wr) (fun iv _ => N + 1 - (intOf iv).toNat)
 case atStart => exact ⟨0,rfl,by omega,(fun j x y hj => absurd hj (by omega) : ∀ j x y,j < 0 → rs[j]? = some x → rs[j + 1]? = some y → x.tag ≤ y.tag),Below.refl _ _⟩
 case round =>
  obtain ⟨i,rfl,hi,HT,hbel⟩ := hrel
  by_cases hlt : i + 1 < N
  ·have hr : rs[i]? = some (rs[i]'(by rw [HN.out]; omega)) := List.getElem?_eq_getElem _;generalize rs[i]'(by rw [HN.out]; omega) = r at hr;have hs : rs[i + 1]? = some (rs[i + 1]'(by rw [HN.out]; exact hlt)) := List.getElem?_eq_getElem _;generalize rs[i + 1]'(by rw [HN.out]; exact hlt) = s at hs
   rcases HA.out with h0 | ⟨g,off,rfl⟩
   ·exact absurd hlt (by have := HN.out; rw [h0] at this; simp at this; omega)
   obtain ⟨p0, -, -, -⟩ := (HH.out.below hbel).at hr;obtain ⟨q0, -, -, -⟩ := (HH.out.below hbel).at hs;have HK : Hid (rs[i]? = some r) := hr;have HK2 : Hid (rs[i + 1]? = some s) := hs;obtain ⟨x,hx⟩ : ∃ q,r.tag = q := ⟨_,rfl⟩;obtain ⟨y,hy⟩ : ∃ q,s.tag = q := ⟨_,rfl⟩;rw [hx] at p0;rw [hy] at q0;have HX : Hid (r.tag = x) := hx;have HY : Hid (s.tag = y) := hy
   have hlti : (i : Int) + 1 < (N : Int) := by omega
   clear hr hs hx hy
   by_cases hle : y < x
   ·have hd : decide (y < x) = true := by simp [hle]
    obtain rfl : R = false := by rw [← HR.out]; exact rises_break i r s HK.out HK2.out (by rw [HX.out,HY.out]; exact hle)
    clear HT HK HK2 HX HY HR;go_wp2_with fail
    go_quiet (fail)
    have hbn := below_drewN nq hbel;clear p0 q0 hbel;go_wp2_with fail;go_ret;exact ⟨rfl,hbn⟩
   ·have hd : decide (y < x) = false := by simp; omega
    have HT2 : Hid (∀ j u v,j < i + 1 → rs[j]? = some u → rs[j + 1]? = some v → u.tag ≤ v.tag) := fun j u v hj hu hv => by
     by_cases hji : j = i
     ·subst hji;rw [HK.out] at hu;rw [HK2.out] at hv
      obtain rfl : r = u := by simpa using hu
      obtain rfl : s = v := by simpa using hv
      rw [HX.out,HY.out]; omega
     ·exact HT.out j u v (by omega) hu hv
    clear HT HK HK2 HX HY;go_wp2_with fail
    go_quiet (fail)
    have hbn := below_drewN nq hbel;clear p0 q0 hbel;go_wp2_with fail
    go_roundw
    case rel => exact ⟨i + 1,by go_num,by omega,HT2,hbn⟩
    case measure => simp [intOf]; omega
  ·obtain rfl : R = true := by
    rw [← HR.out];refine rises_steps fun j x y hx hy => HT.out j x y ?_ hx hy
    have := (List.getElem?_eq_some_iff.1 hy).1;rw [HN.out] at this
    omega
   have hnl : ¬ (i : Int) + 1 < (N : Int) := by omega
   clear HT HR;go_wp2_with fail;go_ret;exact ⟨rfl,hbel⟩
end
end Go.Proofs.YtmgbhicogmclgaaGreat

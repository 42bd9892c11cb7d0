/- Part 5 of what the proof stands on. -/
import Derived.Test.YtiajaocckkghgaaGreatPkBAD
namespace Go.Proofs.YtiajaocckkghgaaGreat
set_option linter.unusedVariables false
set_option linter.unusedSimpArgs false
open Go.ChangeShapes Go.WideShapes Go.ChangeAt Go.RowKit
set_option maxRecDepth 20000
theorem b3a (w : World) (c1 c2 c3 : Array Value) (t1 t2 t3 : TypeId) : Blk (((w.alloc (Obj.cells c1 t1)).alloc (Obj.cells c2 t2)).alloc (Obj.cells c3 t3)) w.heap.size c1 t1 := ((Blk.new w _ _).below ((Below.refl _ _).alloc (Nat.le_refl _) _)).below ((Below.refl _ _).alloc (Nat.le_refl _) _)
theorem b3b (w : World) (c1 c2 c3 : Array Value) (t1 t2 t3 : TypeId) : Blk (((w.alloc (Obj.cells c1 t1)).alloc (Obj.cells c2 t2)).alloc (Obj.cells c3 t3)) (w.heap.size + 1) c2 t2 := by
 have := (Blk.new (w.alloc (Obj.cells c1 t1)) c2 t2).below ((Below.refl _ _).alloc (Nat.le_refl _) (Obj.cells c3 t3))
 rwa [show (w.alloc (Obj.cells c1 t1)).heap.size = w.heap.size + 1 from by simp] at this
theorem b3c (w : World) (c1 c2 c3 : Array Value) (t1 t2 t3 : TypeId) : Blk (((w.alloc (Obj.cells c1 t1)).alloc (Obj.cells c2 t2)).alloc (Obj.cells c3 t3)) (w.heap.size + 2) c3 t3 := by
 have := Blk.new ((w.alloc (Obj.cells c1 t1)).alloc (Obj.cells c2 t2)) c3 t3
 rwa [show ((w.alloc (Obj.cells c1 t1)).alloc (Obj.cells c2 t2)).heap.size = w.heap.size + 2 from by simp] at this
theorem b3w (w : World) (c1 c2 c3 : Array Value) (t1 t2 t3 : TypeId) : Below w.heap.size w (((w.alloc (Obj.cells c1 t1)).alloc (Obj.cells c2 t2)).alloc (Obj.cells c3 t3)) := (((Below.refl _ _).alloc (Nat.le_refl _) _).alloc (by simp) _).alloc (by simp; omega) _
def OneP (n : Nat) (s : ScS) (f : FlS) (ba a : Nat) (w : World) (e : Ending) (w' : World) : Prop := ∃ r x bs a',e = .returned (.agg (List.toArray r)) ∧ TrO n w.heap.size w' r x bs ∧ Apt w.heap.size w' bs ∧ OneT n s f x ∧ cntN n x + a ≤ a' ∧ a' ≤ max (a + 1) (154 + 2 * n) ∧ Blk w' ba #[.int .i64 (a' : Int)] 3 ∧ Kp (fun q => q = ba) w w'
def FitP (n : Nat) (s : ScS) (nm : ByteArray) (ba a : Nat) (w : World) (e : Ending) (w' : World) : Prop := ∃ r t bs a',e = .returned (.agg (List.toArray r)) ∧ TrO n w.heap.size w' r t bs ∧ Apt w.heap.size w' bs ∧ FitT n s nm t ∧ cntN n t + a ≤ a' + 1 ∧ a' ≤ max a (154 + 2 * n) ∧ Blk w' ba #[.int .i64 (a' : Int)] 3 ∧ Kp (fun q => q = ba) w w'
theorem trO_leaf (n B : Nat) (w : World) (k v : Int) (b : ByteArray) (hk : Is64 k) (hv : Is64 v) (hb : b.size ≤ 140737488351232) : TrO (n + 1) B w [.int .i64 k,.int .i64 v,.string b,.slice none 0 0,.slice none 0 0] ⟨k,v,b,[],[]⟩ [] :=
 ⟨.slice none 0 0,.slice none 0 0,[],[],rfl,hk,hv,hb,(fun f hf => by simp at hf),World.ownsRow_nil _ _ _ _,RowO.nil _ _ _ _ _,rfl⟩
theorem one_leaf {n : Nat} {s : ScS} {f : FlS} {ba a a' : Nat} {w W : World} {k v : Int} {b : ByteArray} (h1 : OneT (n + 1) s f ⟨k,v,b,[],[]⟩) (hk : Is64 k) (hv : Is64 v) (hb : b.size ≤ 5000) (ha : a' = a + 1) (hB : Blk W ba #[.int .i64 (a' : Int)] 3) (hK : Kp (fun q => q = ba) w W) :
  OneP (n + 1) s f ba a w (.returned (.agg #[.int .i64 k,.int .i64 v,.string b,.slice none 0 0,.slice none 0 0])) W :=
 ⟨_,_,[],a',rfl,trO_leaf n _ W k v b hk hv (Nat.le_trans hb (by decide)),Apt.nil _ _,h1,by rw [leaf_cnt]; omega,by omega,hB,hK⟩
abbrev grs : ByteArray := ⟨#[103,114,195,182,195,159,101]⟩
set_option maxHeartbeats 8000000 in
theorem one_step (s : ScS) (sn : ByteArray) (ma ea ta : Option Addr) (mn mc en ec tn tc : Nat) (n : Nat) (ls : List Int) (la : Option Addr) (lc L ba : Nat) (w0 : World) (hs0 : ScIn w0 (.agg #[.string sn,.slice ma mn mc,.slice ea en ec,.slice ta tn tc]) s) (hl : RowG w0 (.slice la L lc) 1 (inRows ls)) (hL : ls.length = L) (hL2 : L ≤ 100000) (hL0 : L ≠ 0) (hba : w0.heap.size ≤ ba) (deep : Int)
  (f : FlS) (hk1 : 1 ≤ f.kind) (hk7 : f.kind ≤ 7) (IH : f.kind = 7 → ∀ (nm : ByteArray) (a : Nat) (w : World),Below w0.heap.size w0 w → Blk w ba #[.int .i64 (a : Int)] 3 → ba < w.heap.size → a ≤ 900 → Calls Tryz.prog 41 #[.agg #[.string sn,.slice ma mn mc,.slice ea en ec,.slice ta tn tc],.string nm,.slice la L lc,.pointer (some ⟨ba,0,none⟩),.int .i64 (deep + 1)] w (FitP (n + 1) s nm ba a w))
  (a : Nat) (w : World) (hw : Below w0.heap.size w0 w) (hB : Blk w ba #[.int .i64 (a : Int)] 3) (ha : a ≤ 800) (hd : 0 ≤ deep ∧ deep ≤ 100) :
  Calls Tryz.prog 76 #[.agg #[.string sn,.slice ma mn mc,.slice ea en ec,.slice ta tn tc],flV f,.slice la L lc,.pointer (some ⟨ba,0,none⟩),.int .i64 deep] w (OneP (n + 1) s f ba a w) := by
 obtain ⟨f1,f2,f3,f4,f5⟩ := f
 simp only at hk1 hk7 IH
 simp only [flV]
 have BS := b3a w #[.string sn,.slice ma mn mc,.slice ea en ec,.slice ta tn tc] #[.string f1,.int .i64 f2,.int .i64 f3,.int .i64 f4,.string f5] #[.int .i64 0,.int .i64 0,.string ⟨#[]⟩,.slice none 0 0,.slice none 0 0] 26 58 33
 have BL := b3b w #[.string sn,.slice ma mn mc,.slice ea en ec,.slice ta tn tc] #[.string f1,.int .i64 f2,.int .i64 f3,.int .i64 f4,.string f5] #[.int .i64 0,.int .i64 0,.string ⟨#[]⟩,.slice none 0 0,.slice none 0 0] 26 58 33
 have BR := b3c w #[.string sn,.slice ma mn mc,.slice ea en ec,.slice ta tn tc] #[.string f1,.int .i64 f2,.int .i64 f3,.int .i64 f4,.string f5] #[.int .i64 0,.int .i64 0,.string ⟨#[]⟩,.slice none 0 0,.slice none 0 0] 26 58 33
 have hbw := b3w w #[.string sn,.slice ma mn mc,.slice ea en ec,.slice ta tn tc] #[.string f1,.int .i64 f2,.int .i64 f3,.int .i64 f4,.string f5] #[.int .i64 0,.int .i64 0,.string ⟨#[]⟩,.slice none 0 0,.slice none 0 0] 26 58 33
 have hw3 : Below w0.heap.size w0 (((w.alloc (Obj.cells #[.string sn,.slice ma mn mc,.slice ea en ec,.slice ta tn tc] 26)).alloc (Obj.cells #[.string f1,.int .i64 f2,.int .i64 f3,.int .i64 f4,.string f5] 58)).alloc (Obj.cells #[.int .i64 0,.int .i64 0,.string ⟨#[]⟩,.slice none 0 0,.slice none 0 0] 33)) := hw.trans (hbw.mono hw.size)
 have HN : Hid (Calls Tryz.prog 75 #[.slice la L lc,.pointer (some ⟨ba,0,none⟩)] (((w.alloc (Obj.cells #[.string sn,.slice ma mn mc,.slice ea en ec,.slice ta tn tc] 26)).alloc (Obj.cells #[.string f1,.int .i64 f2,.int .i64 f3,.int .i64 f4,.string f5] 58)).alloc (Obj.cells #[.int .i64 0,.int .i64 0,.string ⟨#[]⟩,.slice none 0 0,.slice none 0 0] 33)) (NxP L ba a (((w.alloc (Obj.cells #[.string sn,.slice ma mn mc,.slice ea en ec,.slice ta tn tc] 26)).alloc (Obj.cells #[.string f1,.int .i64 f2,.int .i64 f3,.int .i64 f4,.string f5] 58)).alloc (Obj.cells #[.int .i64 0,.int .i64 0,.string ⟨#[]⟩,.slice none 0 0,.slice none 0 0] 33)))) := lnext_any ls la lc L ba a w0 _ hw3 hl hL hL2 (hB.below hbw) (by omega) hba
 have HBA : Hid (ba < w.heap.size) := hB.lt
 have HIH : Hid (f4 = 7 → ∀ (nm : ByteArray) (a : Nat) (w : World),Below w0.heap.size w0 w → Blk w ba #[.int .i64 (a : Int)] 3 → ba < w.heap.size → a ≤ 900 → Calls Tryz.prog 41 #[.agg #[.string sn,.slice ma mn mc,.slice ea en ec,.slice ta tn tc],.string nm,.slice la L lc,.pointer (some ⟨ba,0,none⟩),.int .i64 (deep + 1)] w (FitP (n + 1) s nm ba a w)) := IH
 have HW0 : Hid (w0.heap.size ≤ ba ∧ Below w0.heap.size w0 w) := ⟨hba,hw⟩
 obtain ⟨hd1,hd2⟩ := hd
 clear hs0 hl hL hw3 hB IH hw
 go_enter Tryz.func76,Tryz.ntmps76
 go_wp2_with fail
 refine Calls.mono HN.out ?_
 rintro ee w1 ⟨v,a1,rfl,hv, -, -, -,ha1,hB1,hK1⟩
 have ha1' := ha1 hL0
 have HA1 : Hid (a1 = a + 1) := ha1'
 have hb0 : w.heap.size ≠ ba := by have := HBA.out; omega
 have BS1 := BS.kp hK1 (fun e => hb0 e)
 have BL1 := BL.kp hK1 (fun e => by have := HBA.out; omega)
 have BR1 := BR.kp hK1 (fun e => by have := HBA.out; omega)
 have HKW : Hid (Kp (fun q => q = ba) w w1) := (Kp.ofBelow hbw).trans2 hK1 (fun i _ e => e)
 have HB1 : Hid (Blk w1 ba #[.int .i64 (a1 : Int)] 3) := hB1
 clear HN hbw hK1 hB1 BS BL BR ha1 ha1'
 have l3 := (BL1.cell 3).trans rfl
 have r0 := (BR1.cell 0).trans rfl
 have z0 := BR1.froz 0
 have r1 := (BR1.cell 1).trans rfl
 have z1 := BR1.froz 1
 have r2 := (BR1.cell 2).trans rfl
 have z2 := BR1.froz 2
 have r3 := (BR1.cell 3).trans rfl
 have z3 := BR1.froz 3
 have r4 := (BR1.cell 4).trans rfl
 have z4 := BR1.froz 4
 have hlt := BR1.lt
 have KF : ∀ (W : World),Kp (fun q => q = w.heap.size + 2) w1 W → Kp (fun q => q = ba) w W := fun W hW => HKW.out.trans2 hW (fun i hi e => by omega)
 have HKF : Hid (∀ (W : World),Kp (fun q => q = w.heap.size + 2) w1 W → Kp (fun q => q = ba) w W ∧ Blk W ba #[.int .i64 (a1 : Int)] 3) := fun W hW => ⟨KF W hW,HB1.out.kp hW (fun e => by have := HBA.out; omega)⟩
 clear KF
 rcases (by omega : f4 = 1 ∨ f4 = 2 ∨ f4 = 3 ∨ f4 = 6 ∨ f4 = 4 ∨ f4 = 5 ∨ f4 = 7) with rfl | rfl | rfl | rfl | rfl | rfl | rfl
 ·go_wp2_with fail
  refine bodyPost_ret (results_cell rfl _ _ _ ⟨w.heap.size + 2,0,none⟩ (.agg #[.int .i64 1,.int .i64 ((v : Int) % 4294967296 - 2147483648),.string ⟨#[]⟩,.slice none 0 0,.slice none 0 0]) (by go_simp) (by go_simp)) rfl ?_
  have hfin : ∀ (W : World),Kp (fun q => q = w.heap.size + 2) w1 W → OneP (n + 1) s ⟨f1,f2,f3,1,f5⟩ ba a w (.returned (.agg #[.int .i64 1,.int .i64 ((v : Int) % 4294967296 - 2147483648),.string ⟨#[]⟩,.slice none 0 0,.slice none 0 0])) W := fun W hW => one_leaf (num_one n s _ ((v : Int) % 4294967296 - 2147483648) (by show kindT 1 = 1; decide) (by simp [nmrB]; omega) (by show (1 : Int) ≠ 4; decide)) ⟨by decide,by decide⟩ ⟨by omega,by omega⟩ (by decide) HA1.out (HKF.out W hW).2 (HKF.out W hW).1
  refine hfin _ ?_
  refine Kp.setCell ?_ (fun _ => by simp) _
  refine Kp.setCell ?_ (fun _ => by simp) _
  refine Kp.setCell ?_ (fun _ => by simp) _
  refine Kp.setCell ?_ (fun _ => by simp) _
  refine Kp.setCell ?_ (fun _ => by simp) _
  exact Kp.refl _ _
 ·go_wp2_with fail
  refine bodyPost_ret (results_cell rfl _ _ _ ⟨w.heap.size + 2,0,none⟩ (.agg #[.int .i64 1,.int .i64 ((v : Int) - 2305843009213693952),.string ⟨#[]⟩,.slice none 0 0,.slice none 0 0]) (by go_simp) (by go_simp)) rfl ?_
  have hfin : ∀ (W : World),Kp (fun q => q = w.heap.size + 2) w1 W → OneP (n + 1) s ⟨f1,f2,f3,2,f5⟩ ba a w (.returned (.agg #[.int .i64 1,.int .i64 ((v : Int) - 2305843009213693952),.string ⟨#[]⟩,.slice none 0 0,.slice none 0 0])) W := fun W hW => one_leaf (num_one n s _ ((v : Int) - 2305843009213693952) (by show kindT 2 = 1; decide) (by simp [nmrB]) (by show (2 : Int) ≠ 4; decide)) ⟨by decide,by decide⟩ ⟨by omega,by omega⟩ (by decide) HA1.out (HKF.out W hW).2 (HKF.out W hW).1
  refine hfin _ ?_
  refine Kp.setCell ?_ (fun _ => by simp) _
  refine Kp.setCell ?_ (fun _ => by simp) _
  refine Kp.setCell ?_ (fun _ => by simp) _
  refine Kp.setCell ?_ (fun _ => by simp) _
  refine Kp.setCell ?_ (fun _ => by simp) _
  exact Kp.refl _ _
 ·go_wp2_with fail
  refine bodyPost_ret (results_cell rfl _ _ _ ⟨w.heap.size + 2,0,none⟩ (.agg #[.int .i64 1,.int .i64 ((v : Int) % 2),.string ⟨#[]⟩,.slice none 0 0,.slice none 0 0]) (by go_simp) (by go_simp)) rfl ?_
  have hfin : ∀ (W : World),Kp (fun q => q = w.heap.size + 2) w1 W → OneP (n + 1) s ⟨f1,f2,f3,3,f5⟩ ba a w (.returned (.agg #[.int .i64 1,.int .i64 ((v : Int) % 2),.string ⟨#[]⟩,.slice none 0 0,.slice none 0 0])) W := fun W hW => one_leaf (num_one n s _ ((v : Int) % 2) (by show kindT 3 = 1; decide) (by simp [nmrB]; omega) (by show (3 : Int) ≠ 4; decide)) ⟨by decide,by decide⟩ ⟨by omega,by omega⟩ (by decide) HA1.out (HKF.out W hW).2 (HKF.out W hW).1
  refine hfin _ ?_
  refine Kp.setCell ?_ (fun _ => by simp) _
  refine Kp.setCell ?_ (fun _ => by simp) _
  refine Kp.setCell ?_ (fun _ => by simp) _
  refine Kp.setCell ?_ (fun _ => by simp) _
  refine Kp.setCell ?_ (fun _ => by simp) _
  exact Kp.refl _ _
 ·go_wp2_with fail
  refine bodyPost_ret (results_cell rfl _ _ _ ⟨w.heap.size + 2,0,none⟩ (.agg #[.int .i64 1,.int .i64 ((v : Int) % 5),.string ⟨#[]⟩,.slice none 0 0,.slice none 0 0]) (by go_simp) (by go_simp)) rfl ?_
  have hfin : ∀ (W : World),Kp (fun q => q = w.heap.size + 2) w1 W → OneP (n + 1) s ⟨f1,f2,f3,6,f5⟩ ba a w (.returned (.agg #[.int .i64 1,.int .i64 ((v : Int) % 5),.string ⟨#[]⟩,.slice none 0 0,.slice none 0 0])) W := fun W hW => one_leaf (num_one n s _ ((v : Int) % 5) (by show kindT 6 = 1; decide) (by simp [nmrB]; omega) (by show (6 : Int) ≠ 4; decide)) ⟨by decide,by decide⟩ ⟨by omega,by omega⟩ (by decide) HA1.out (HKF.out W hW).2 (HKF.out W hW).1
  refine hfin _ ?_
  refine Kp.setCell ?_ (fun _ => by simp) _
  refine Kp.setCell ?_ (fun _ => by simp) _
  refine Kp.setCell ?_ (fun _ => by simp) _
  refine Kp.setCell ?_ (fun _ => by simp) _
  refine Kp.setCell ?_ (fun _ => by simp) _
  exact Kp.refl _ _
 ·rcases (by omega : (v : Int) % 6 = 0 ∨ (v : Int) % 6 = 1 ∨ (v : Int) % 6 = 2 ∨ (v : Int) % 6 = 3 ∨ (v : Int) % 6 = 4 ∨ (v : Int) % 6 = 5) with h6 | h6 | h6 | h6 | h6 | h6
  ·have hix : ∀ W,(Instr.index 181 (.agg #[.int .i64 0,.int .i64 1,.int .i64 2,.int .i64 4,.int .i64 6,.int .i64 7]) (.int .i64 0)).run Tryz.prog W = .ok (.int .i64 0) W := fun W => by kernel_rfl
   go_wp2_with fail
   refine bodyPost_ret (results_cell rfl _ _ _ ⟨w.heap.size + 2,0,none⟩ (.agg #[.int .i64 2,.int .i64 0,.string (grs.extract 0 0),.slice none 0 0,.slice none 0 0]) (by go_simp) (by go_simp)) rfl ?_
   have hfin : ∀ (W : World),Kp (fun q => q = w.heap.size + 2) w1 W → OneP (n + 1) s ⟨f1,f2,f3,4,f5⟩ ba a w (.returned (.agg #[.int .i64 2,.int .i64 0,.string (grs.extract 0 0),.slice none 0 0,.slice none 0 0])) W := fun W hW => one_leaf (txt_one n s _ (grs.extract 0 0) (by show kindT 4 = 2; decide) (by decide +kernel) (by decide +kernel)) ⟨by decide,by decide⟩ ⟨by decide,by decide⟩ (by decide +kernel) HA1.out (HKF.out W hW).2 (HKF.out W hW).1
   refine hfin _ ?_
   refine Kp.setCell ?_ (fun _ => by simp) _
   refine Kp.setCell ?_ (fun _ => by simp) _
   refine Kp.setCell ?_ (fun _ => by simp) _
   refine Kp.setCell ?_ (fun _ => by simp) _
   refine Kp.setCell ?_ (fun _ => by simp) _
   exact Kp.refl _ _
  ·have hix : ∀ W,(Instr.index 181 (.agg #[.int .i64 0,.int .i64 1,.int .i64 2,.int .i64 4,.int .i64 6,.int .i64 7]) (.int .i64 1)).run Tryz.prog W = .ok (.int .i64 1) W := fun W => by kernel_rfl
   go_wp2_with fail
   refine bodyPost_ret (results_cell rfl _ _ _ ⟨w.heap.size + 2,0,none⟩ (.agg #[.int .i64 2,.int .i64 0,.string (grs.extract 0 1),.slice none 0 0,.slice none 0 0]) (by go_simp) (by go_simp)) rfl ?_
   have hfin : ∀ (W : World),Kp (fun q => q = w.heap.size + 2) w1 W → OneP (n + 1) s ⟨f1,f2,f3,4,f5⟩ ba a w (.returned (.agg #[.int .i64 2,.int .i64 0,.string (grs.extract 0 1),.slice none 0 0,.slice none 0 0])) W := fun W hW => one_leaf (txt_one n s _ (grs.extract 0 1) (by show kindT 4 = 2; decide) (by decide +kernel) (by decide +kernel)) ⟨by decide,by decide⟩ ⟨by decide,by decide⟩ (by decide +kernel) HA1.out (HKF.out W hW).2 (HKF.out W hW).1
   refine hfin _ ?_
   refine Kp.setCell ?_ (fun _ => by simp) _
   refine Kp.setCell ?_ (fun _ => by simp) _
   refine Kp.setCell ?_ (fun _ => by simp) _
   refine Kp.setCell ?_ (fun _ => by simp) _
   refine Kp.setCell ?_ (fun _ => by simp) _
   exact Kp.refl _ _
  ·have hix : ∀ W,(Instr.index 181 (.agg #[.int .i64 0,.int .i64 1,.int .i64 2,.int .i64 4,.int .i64 6,.int .i64 7]) (.int .i64 2)).run Tryz.prog W = .ok (.int .i64 2) W := fun W => by kernel_rfl
   go_wp2_with fail
   refine bodyPost_ret (results_cell rfl _ _ _ ⟨w.heap.size + 2,0,none⟩ (.agg #[.int .i64 2,.int .i64 0,.string (grs.extract 0 2),.slice none 0 0,.slice none 0 0]) (by go_simp) (by go_simp)) rfl ?_
   have hfin : ∀ (W : World),Kp (fun q => q = w.heap.size + 2) w1 W → OneP (n + 1) s ⟨f1,f2,f3,4,f5⟩ ba a w (.returned (.agg #[.int .i64 2,.int .i64 0,.string (grs.extract 0 2),.slice none 0 0,.slice none 0 0])) W := fun W hW => one_leaf (txt_one n s _ (grs.extract 0 2) (by show kindT 4 = 2; decide) (by decide +kernel) (by decide +kernel)) ⟨by decide,by decide⟩ ⟨by decide,by decide⟩ (by decide +kernel) HA1.out (HKF.out W hW).2 (HKF.out W hW).1
   refine hfin _ ?_
   refine Kp.setCell ?_ (fun _ => by simp) _
   refine Kp.setCell ?_ (fun _ => by simp) _
   refine Kp.setCell ?_ (fun _ => by simp) _
   refine Kp.setCell ?_ (fun _ => by simp) _
   refine Kp.setCell ?_ (fun _ => by simp) _
   exact Kp.refl _ _
  ·have hix : ∀ W,(Instr.index 181 (.agg #[.int .i64 0,.int .i64 1,.int .i64 2,.int .i64 4,.int .i64 6,.int .i64 7]) (.int .i64 3)).run Tryz.prog W = .ok (.int .i64 4) W := fun W => by kernel_rfl
   go_wp2_with fail
   refine bodyPost_ret (results_cell rfl _ _ _ ⟨w.heap.size + 2,0,none⟩ (.agg #[.int .i64 2,.int .i64 0,.string (grs.extract 0 4),.slice none 0 0,.slice none 0 0]) (by go_simp) (by go_simp)) rfl ?_
   have hfin : ∀ (W : World),Kp (fun q => q = w.heap.size + 2) w1 W → OneP (n + 1) s ⟨f1,f2,f3,4,f5⟩ ba a w (.returned (.agg #[.int .i64 2,.int .i64 0,.string (grs.extract 0 4),.slice none 0 0,.slice none 0 0])) W := fun W hW => one_leaf (txt_one n s _ (grs.extract 0 4) (by show kindT 4 = 2; decide) (by decide +kernel) (by decide +kernel)) ⟨by decide,by decide⟩ ⟨by decide,by decide⟩ (by decide +kernel) HA1.out (HKF.out W hW).2 (HKF.out W hW).1
   refine hfin _ ?_
   refine Kp.setCell ?_ (fun _ => by simp) _
   refine Kp.setCell ?_ (fun _ => by simp) _
   refine Kp.setCell ?_ (fun _ => by simp) _
   refine Kp.setCell ?_ (fun _ => by simp) _
   refine Kp.setCell ?_ (fun _ => by simp) _
   exact Kp.refl _ _
  ·have hix : ∀ W,(Instr.index 181 (.agg #[.int .i64 0,.int .i64 1,.int .i64 2,.int .i64 4,.int .i64 6,.int .i64 7]) (.int .i64 4)).run Tryz.prog W = .ok (.int .i64 6) W := fun W => by kernel_rfl
   go_wp2_with fail
   refine bodyPost_ret (results_cell rfl _ _ _ ⟨w.heap.size + 2,0,none⟩ (.agg #[.int .i64 2,.int .i64 0,.string (grs.extract 0 6),.slice none 0 0,.slice none 0 0]) (by go_simp) (by go_simp)) rfl ?_
   have hfin : ∀ (W : World),Kp (fun q => q = w.heap.size + 2) w1 W → OneP (n + 1) s ⟨f1,f2,f3,4,f5⟩ ba a w (.returned (.agg #[.int .i64 2,.int .i64 0,.string (grs.extract 0 6),.slice none 0 0,.slice none 0 0])) W := fun W hW => one_leaf (txt_one n s _ (grs.extract 0 6) (by show kindT 4 = 2; decide) (by decide +kernel) (by decide +kernel)) ⟨by decide,by decide⟩ ⟨by decide,by decide⟩ (by decide +kernel) HA1.out (HKF.out W hW).2 (HKF.out W hW).1
   refine hfin _ ?_
   refine Kp.setCell ?_ (fun _ => by simp) _
   refine Kp.setCell ?_ (fun _ => by simp) _
   refine Kp.setCell ?_ (fun _ => by simp) _
   refine Kp.setCell ?_ (fun _ => by simp) _
   refine Kp.setCell ?_ (fun _ => by simp) _
   exact Kp.refl _ _
  ·have hix : ∀ W,(Instr.index 181 (.agg #[.int .i64 0,.int .i64 1,.int .i64 2,.int .i64 4,.int .i64 6,.int .i64 7]) (.int .i64 5)).run Tryz.prog W = .ok (.int .i64 7) W := fun W => by kernel_rfl
   go_wp2_with fail
   refine bodyPost_ret (results_cell rfl _ _ _ ⟨w.heap.size + 2,0,none⟩ (.agg #[.int .i64 2,.int .i64 0,.string (grs.extract 0 7),.slice none 0 0,.slice none 0 0]) (by go_simp) (by go_simp)) rfl ?_
   have hfin : ∀ (W : World),Kp (fun q => q = w.heap.size + 2) w1 W → OneP (n + 1) s ⟨f1,f2,f3,4,f5⟩ ba a w (.returned (.agg #[.int .i64 2,.int .i64 0,.string (grs.extract 0 7),.slice none 0 0,.slice none 0 0])) W := fun W hW => one_leaf (txt_one n s _ (grs.extract 0 7) (by show kindT 4 = 2; decide) (by decide +kernel) (by decide +kernel)) ⟨by decide,by decide⟩ ⟨by decide,by decide⟩ (by decide +kernel) HA1.out (HKF.out W hW).2 (HKF.out W hW).1
   refine hfin _ ?_
   refine Kp.setCell ?_ (fun _ => by simp) _
   refine Kp.setCell ?_ (fun _ => by simp) _
   refine Kp.setCell ?_ (fun _ => by simp) _
   refine Kp.setCell ?_ (fun _ => by simp) _
   refine Kp.setCell ?_ (fun _ => by simp) _
   exact Kp.refl _ _
 ·rcases (by omega : (v : Int) % 6 = 0 ∨ (v : Int) % 6 = 1 ∨ (v : Int) % 6 = 2 ∨ (v : Int) % 6 = 3 ∨ (v : Int) % 6 = 4 ∨ (v : Int) % 6 = 5) with h6 | h6 | h6 | h6 | h6 | h6
  ·have hix : ∀ W,(Instr.index 181 (.agg #[.int .i64 0,.int .i64 1,.int .i64 2,.int .i64 4,.int .i64 6,.int .i64 7]) (.int .i64 0)).run Tryz.prog W = .ok (.int .i64 0) W := fun W => by kernel_rfl
   go_wp2_with fail
   refine bodyPost_ret (results_cell rfl _ _ _ ⟨w.heap.size + 2,0,none⟩ (.agg #[.int .i64 2,.int .i64 0,.string (grs.extract 0 0),.slice none 0 0,.slice none 0 0]) (by go_simp) (by go_simp)) rfl ?_
   have hfin : ∀ (W : World),Kp (fun q => q = w.heap.size + 2) w1 W → OneP (n + 1) s ⟨f1,f2,f3,5,f5⟩ ba a w (.returned (.agg #[.int .i64 2,.int .i64 0,.string (grs.extract 0 0),.slice none 0 0,.slice none 0 0])) W := fun W hW => one_leaf (txt_one n s _ (grs.extract 0 0) (by show kindT 5 = 2; decide) (by decide +kernel) (by decide +kernel)) ⟨by decide,by decide⟩ ⟨by decide,by decide⟩ (by decide +kernel) HA1.out (HKF.out W hW).2 (HKF.out W hW).1
   refine hfin _ ?_
   refine Kp.setCell ?_ (fun _ => by simp) _
   refine Kp.setCell ?_ (fun _ => by simp) _
   refine Kp.setCell ?_ (fun _ => by simp) _
   refine Kp.setCell ?_ (fun _ => by simp) _
   refine Kp.setCell ?_ (fun _ => by simp) _
   exact Kp.refl _ _
  ·have hix : ∀ W,(Instr.index 181 (.agg #[.int .i64 0,.int .i64 1,.int .i64 2,.int .i64 4,.int .i64 6,.int .i64 7]) (.int .i64 1)).run Tryz.prog W = .ok (.int .i64 1) W := fun W => by kernel_rfl
   go_wp2_with fail
   refine bodyPost_ret (results_cell rfl _ _ _ ⟨w.heap.size + 2,0,none⟩ (.agg #[.int .i64 2,.int .i64 0,.string (grs.extract 0 1),.slice none 0 0,.slice none 0 0]) (by go_simp) (by go_simp)) rfl ?_
   have hfin : ∀ (W : World),Kp (fun q => q = w.heap.size + 2) w1 W → OneP (n + 1) s ⟨f1,f2,f3,5,f5⟩ ba a w (.returned (.agg #[.int .i64 2,.int .i64 0,.string (grs.extract 0 1),.slice none 0 0,.slice none 0 0])) W := fun W hW => one_leaf (txt_one n s _ (grs.extract 0 1) (by show kindT 5 = 2; decide) (by decide +kernel) (by decide +kernel)) ⟨by decide,by decide⟩ ⟨by decide,by decide⟩ (by decide +kernel) HA1.out (HKF.out W hW).2 (HKF.out W hW).1
   refine hfin _ ?_
   refine Kp.setCell ?_ (fun _ => by simp) _
   refine Kp.setCell ?_ (fun _ => by simp) _
   refine Kp.setCell ?_ (fun _ => by simp) _
   refine Kp.setCell ?_ (fun _ => by simp) _
   refine Kp.setCell ?_ (fun _ => by simp) _
   exact Kp.refl _ _
  ·have hix : ∀ W,(Instr.index 181 (.agg #[.int .i64 0,.int .i64 1,.int .i64 2,.int .i64 4,.int .i64 6,.int .i64 7]) (.int .i64 2)).run Tryz.prog W = .ok (.int .i64 2) W := fun W => by kernel_rfl
   go_wp2_with fail
   refine bodyPost_ret (results_cell rfl _ _ _ ⟨w.heap.size + 2,0,none⟩ (.agg #[.int .i64 2,.int .i64 0,.string (grs.extract 0 2),.slice none 0 0,.slice none 0 0]) (by go_simp) (by go_simp)) rfl ?_
   have hfin : ∀ (W : World),Kp (fun q => q = w.heap.size + 2) w1 W → OneP (n + 1) s ⟨f1,f2,f3,5,f5⟩ ba a w (.returned (.agg #[.int .i64 2,.int .i64 0,.string (grs.extract 0 2),.slice none 0 0,.slice none 0 0])) W := fun W hW => one_leaf (txt_one n s _ (grs.extract 0 2) (by show kindT 5 = 2; decide) (by decide +kernel) (by decide +kernel)) ⟨by decide,by decide⟩ ⟨by decide,by decide⟩ (by decide +kernel) HA1.out (HKF.out W hW).2 (HKF.out W hW).1
   refine hfin _ ?_
   refine Kp.setCell ?_ (fun _ => by simp) _
   refine Kp.setCell ?_ (fun _ => by simp) _
   refine Kp.setCell ?_ (fun _ => by simp) _
   refine Kp.setCell ?_ (fun _ => by simp) _
   refine Kp.setCell ?_ (fun _ => by simp) _
   exact Kp.refl _ _
  ·have hix : ∀ W,(Instr.index 181 (.agg #[.int .i64 0,.int .i64 1,.int .i64 2,.int .i64 4,.int .i64 6,.int .i64 7]) (.int .i64 3)).run Tryz.prog W = .ok (.int .i64 4) W := fun W => by kernel_rfl
   go_wp2_with fail
   refine bodyPost_ret (results_cell rfl _ _ _ ⟨w.heap.size + 2,0,none⟩ (.agg #[.int .i64 2,.int .i64 0,.string (grs.extract 0 4),.slice none 0 0,.slice none 0 0]) (by go_simp) (by go_simp)) rfl ?_
   have hfin : ∀ (W : World),Kp (fun q => q = w.heap.size + 2) w1 W → OneP (n + 1) s ⟨f1,f2,f3,5,f5⟩ ba a w (.returned (.agg #[.int .i64 2,.int .i64 0,.string (grs.extract 0 4),.slice none 0 0,.slice none 0 0])) W := fun W hW => one_leaf (txt_one n s _ (grs.extract 0 4) (by show kindT 5 = 2; decide) (by decide +kernel) (by decide +kernel)) ⟨by decide,by decide⟩ ⟨by decide,by decide⟩ (by decide +kernel) HA1.out (HKF.out W hW).2 (HKF.out W hW).1
   refine hfin _ ?_
   refine Kp.setCell ?_ (fun _ => by simp) _
   refine Kp.setCell ?_ (fun _ => by simp) _
   refine Kp.setCell ?_ (fun _ => by simp) _
   refine Kp.setCell ?_ (fun _ => by simp) _
   refine Kp.setCell ?_ (fun _ => by simp) _
   exact Kp.refl _ _
  ·have hix : ∀ W,(Instr.index 181 (.agg #[.int .i64 0,.int .i64 1,.int .i64 2,.int .i64 4,.int .i64 6,.int .i64 7]) (.int .i64 4)).run Tryz.prog W = .ok (.int .i64 6) W := fun W => by kernel_rfl
   go_wp2_with fail
   refine bodyPost_ret (results_cell rfl _ _ _ ⟨w.heap.size + 2,0,none⟩ (.agg #[.int .i64 2,.int .i64 0,.string (grs.extract 0 6),.slice none 0 0,.slice none 0 0]) (by go_simp) (by go_simp)) rfl ?_
   have hfin : ∀ (W : World),Kp (fun q => q = w.heap.size + 2) w1 W → OneP (n + 1) s ⟨f1,f2,f3,5,f5⟩ ba a w (.returned (.agg #[.int .i64 2,.int .i64 0,.string (grs.extract 0 6),.slice none 0 0,.slice none 0 0])) W := fun W hW => one_leaf (txt_one n s _ (grs.extract 0 6) (by show kindT 5 = 2; decide) (by decide +kernel) (by decide +kernel)) ⟨by decide,by decide⟩ ⟨by decide,by decide⟩ (by decide +kernel) HA1.out (HKF.out W hW).2 (HKF.out W hW).1
   refine hfin _ ?_
   refine Kp.setCell ?_ (fun _ => by simp) _
   refine Kp.setCell ?_ (fun _ => by simp) _
   refine Kp.setCell ?_ (fun _ => by simp) _
   refine Kp.setCell ?_ (fun _ => by simp) _
   refine Kp.setCell ?_ (fun _ => by simp) _
   exact Kp.refl _ _
  ·have hix : ∀ W,(Instr.index 181 (.agg #[.int .i64 0,.int .i64 1,.int .i64 2,.int .i64 4,.int .i64 6,.int .i64 7]) (.int .i64 5)).run Tryz.prog W = .ok (.int .i64 7) W := fun W => by kernel_rfl
   go_wp2_with fail
   refine bodyPost_ret (results_cell rfl _ _ _ ⟨w.heap.size + 2,0,none⟩ (.agg #[.int .i64 2,.int .i64 0,.string (grs.extract 0 7),.slice none 0 0,.slice none 0 0]) (by go_simp) (by go_simp)) rfl ?_
   have hfin : ∀ (W : World),Kp (fun q => q = w.heap.size + 2) w1 W → OneP (n + 1) s ⟨f1,f2,f3,5,f5⟩ ba a w (.returned (.agg #[.int .i64 2,.int .i64 0,.string (grs.extract 0 7),.slice none 0 0,.slice none 0 0])) W := fun W hW => one_leaf (txt_one n s _ (grs.extract 0 7) (by show kindT 5 = 2; decide) (by decide +kernel) (by decide +kernel)) ⟨by decide,by decide⟩ ⟨by decide,by decide⟩ (by decide +kernel) HA1.out (HKF.out W hW).2 (HKF.out W hW).1
   refine hfin _ ?_
   refine Kp.setCell ?_ (fun _ => by simp) _
   refine Kp.setCell ?_ (fun _ => by simp) _
   refine Kp.setCell ?_ (fun _ => by simp) _
   refine Kp.setCell ?_ (fun _ => by simp) _
   refine Kp.setCell ?_ (fun _ => by simp) _
   exact Kp.refl _ _
 ·have c0 := (BS1.cell 0).trans rfl
  have c1 := (BS1.cell 1).trans rfl
  have c2 := (BS1.cell 2).trans rfl
  have c3 := (BS1.cell 3).trans rfl
  have l4 := (BL1.cell 4).trans rfl
  have HF : Hid (Calls Tryz.prog 41 #[.agg #[.string sn,.slice ma mn mc,.slice ea en ec,.slice ta tn tc],.string f5,.slice la L lc,.pointer (some ⟨ba,0,none⟩),.int .i64 (deep + 1)] w1 (FitP (n + 1) s f5 ba a1 w1)) := HIH.out rfl f5 a1 w1 (HW0.out.2.trans (HKW.out.toBelow HW0.out.2.size (fun k e => by rw [e]; exact HW0.out.1))) HB1.out HB1.out.lt (by have := HA1.out; omega)
  go_wp2_with fail
  refine Calls.mono HF.out ?_
  rintro ee w2 ⟨r,t,bs,a2,rfl,hO,hA,hT,hc,hm,hB2,hK2⟩
  have BR2 := BR1.kp hK2 (fun e => by have := HBA.out; omega)
  obtain ⟨x1,x2,x3,x4,x5,x6,hr⟩ := TrO.open hO
  subst hr
  have hlt2 := BR2.lt
  have r0 := (BR2.cell 0).trans rfl
  have z0 := BR2.froz 0
  have r1 := (BR2.cell 1).trans rfl
  have z1 := BR2.froz 1
  have r2 := (BR2.cell 2).trans rfl
  have z2 := BR2.froz 2
  have r3 := (BR2.cell 3).trans rfl
  have z3 := BR2.froz 3
  have r4 := (BR2.cell 4).trans rfl
  have z4 := BR2.froz 4
  have HO : Hid (TrO (n + 1) w1.heap.size w2 [.int .i64 t.kind,.int .i64 t.n,.string t.s,.slice x1 x2 x3,.slice x4 x5 x6] t bs ∧ Apt w1.heap.size w2 bs ∧ FitT (n + 1) s f5 t ∧ cntN (n + 1) t + a1 ≤ a2 + 1 ∧ a2 ≤ max a1 (154 + 2 * (n + 1)) ∧ Blk w2 ba #[.int .i64 (a2 : Int)] 3 ∧ Kp (fun q => q = ba) w1 w2) := ⟨hO,hA,hT,hc,hm,hB2,hK2⟩
  have HLT : Hid (w.heap.size + 2 < w1.heap.size) := BR1.lt
  clear hO hA hT hc hm hB2 hK2 HF BR2 BR1 BS1 BL1 c0 c1 c2 c3 l3 l4
  generalize hkk : t.kind = tk at *
  generalize hnn : t.n = tn' at *
  generalize hss : t.s = ts' at *
  have HKN : Hid (t.kind = tk ∧ t.n = tn' ∧ t.s = ts') := ⟨hkk,hnn,hss⟩
  clear hkk hnn hss
  go_wp2_with fail
  refine bodyPost_ret (results_cell rfl _ _ _ ⟨w.heap.size + 2,0,none⟩ (.agg #[.int .i64 tk,.int .i64 tn',.string ts',.slice x1 x2 x3,.slice x4 x5 x6]) (by go_simp) (by go_simp)) rfl ?_
  obtain ⟨o1,o2,o3,o4,o5,o6,o7⟩ := HO.out
  have hks : ∀ (W : World),Kp (fun q => q = w.heap.size + 2) w2 W → OneP (n + 1) s ⟨f1,f2,f3,7,f5⟩ ba a w (.returned (.agg #[.int .i64 tk,.int .i64 tn',.string ts',.slice x1 x2 x3,.slice x4 x5 x6])) W := fun W hW => by
   have hle : w.heap.size ≤ w1.heap.size := HKW.out.size
   have hsm : Sm w2 W bs := fun k hk => hW.block k (o2.2 k hk).2 (fun e => by have := (o2.2 k hk).1; have := HLT.out; omega)
   refine ⟨_,t,bs,a2,rfl,(o1.base hle).sm hsm,(o2.base hle).mono hW.size,o3.one rfl,?_,?_,o6.kp hW (fun e => by have := HBA.out; omega),(HKW.out.trans o7).trans2 hW (fun i hi e => by omega)⟩
   ·have := HA1.out; omega
   ·have := HA1.out; omega
  refine hks _ ?_
  refine Kp.setCell ?_ (fun _ => by simp) _
  refine Kp.setCell ?_ (fun _ => by simp) _
  refine Kp.setCell ?_ (fun _ => by simp) _
  refine Kp.setCell ?_ (fun _ => by simp) _
  refine Kp.setCell ?_ (fun _ => by simp) _
  exact Kp.refl _ _
end Go.Proofs.YtiajaocckkghgaaGreat

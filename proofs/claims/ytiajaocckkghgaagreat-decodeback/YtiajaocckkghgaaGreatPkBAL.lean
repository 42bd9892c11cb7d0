/- Part 12 of what the proof stands on. -/
import Derived.Test.YtiajaocckkghgaaGreatPkBAK
namespace Go.Proofs.YtiajaocckkghgaaGreat
set_option linter.unusedVariables false
set_option linter.unusedSimpArgs false
open Go.ChangeShapes Go.WideShapes Go.ChangeAt Go.RowKit
set_option maxRecDepth 20000
set_option maxHeartbeats 1000000 in
theorem eplaceE_any (a : Option Addr) (N cap : Nat) (w : World) (h1 : N ≤ cap) (h2 : cap ≤ maxLen) (h3 : N = 0 ∨ ∃ g off,a = some ⟨g,off,none⟩) :
  Calls Tryz.prog 184 #[.slice a N cap] w fun e w' => e = .returned (plV (plOf (.slice a N cap))) ∧ Below w.heap.size w w' := by
 unfold maxLen at h2
 by_cases hN : N = 0
 ·subst hN
  go_enter Tryz.func184,Tryz.ntmps184
  go_wp2_with fail
  refine bodyPost_ret (results_cell rfl _ _ _ ⟨w.heap.size,0,none⟩ (.agg #[.pointer none,.int .i64 0]) (by go_simp) (by go_simp)) rfl ⟨by simp [plV,plOf],(Below.refl _ _).alloc (Nat.le_refl _) _⟩
 ·obtain ⟨g,off,rfl⟩ : ∃ g off,a = some ⟨g,off,none⟩ := by
   rcases h3 with h | h
   ·exact absurd h hN
   ·exact h
  have hd : ((N : Int) == 0) = false := by simp; omega
  have hp : 0 < N := by omega
  go_enter Tryz.func184,Tryz.ntmps184
  go_wp2_with fail
  refine bodyPost_ret (results_cell rfl _ _ _ ⟨w.heap.size,0,none⟩ (.agg #[.pointer (some ⟨g,off,none⟩),.int .i64 (N : Int)]) (by go_simp) (by go_simp)) rfl ⟨by simp [plV,plOf,hN],(Below.refl _ _).alloc (Nat.le_refl _) _⟩
set_option maxHeartbeats 1000000 in
theorem eplaceR_any (a : Option Addr) (N cap : Nat) (w : World) (h1 : N ≤ cap) (h2 : cap ≤ maxLen) (h3 : N = 0 ∨ ∃ g off,a = some ⟨g,off,none⟩) :
  Calls Tryz.prog 185 #[.slice a N cap] w fun e w' => e = .returned (plV (plOf (.slice a N cap))) ∧ Below w.heap.size w w' := by
 unfold maxLen at h2
 by_cases hN : N = 0
 ·subst hN
  go_enter Tryz.func185,Tryz.ntmps185
  go_wp2_with fail
  refine bodyPost_ret (results_cell rfl _ _ _ ⟨w.heap.size,0,none⟩ (.agg #[.pointer none,.int .i64 0]) (by go_simp) (by go_simp)) rfl ⟨by simp [plV,plOf],(Below.refl _ _).alloc (Nat.le_refl _) _⟩
 ·obtain ⟨g,off,rfl⟩ : ∃ g off,a = some ⟨g,off,none⟩ := by
   rcases h3 with h | h
   ·exact absurd h hN
   ·exact h
  have hd : ((N : Int) == 0) = false := by simp; omega
  have hp : 0 < N := by omega
  go_enter Tryz.func185,Tryz.ntmps185
  go_wp2_with fail
  refine bodyPost_ret (results_cell rfl _ _ _ ⟨w.heap.size,0,none⟩ (.agg #[.pointer (some ⟨g,off,none⟩),.int .i64 (N : Int)]) (by go_simp) (by go_simp)) rfl ⟨by simp [plV,plOf,hN],(Below.refl _ _).alloc (Nat.le_refl _) _⟩
set_option maxHeartbeats 2000000 in
theorem eidentity_any (K N : Int) (S : ByteArray) (a1 a2 : Option Addr) (n1 c1 n2 c2 : Nat) (w : World) (h1 : n1 ≤ c1) (h2 : c1 ≤ maxLen) (h3 : n1 = 0 ∨ ∃ g off,a1 = some ⟨g,off,none⟩) (h4 : n2 ≤ c2) (h5 : c2 ≤ maxLen) (h6 : n2 = 0 ∨ ∃ g off,a2 = some ⟨g,off,none⟩) :
  Calls Tryz.prog 167 #[.agg #[.int .i64 K,.int .i64 N,.string S,.slice a1 n1 c1,.slice a2 n2 c2]] w fun e w' => e = .returned (idV (plOf (.slice a1 n1 c1),plOf (.slice a2 n2 c2))) ∧ Below w.heap.size w w' := by
 obtain ⟨⟨p1,m1⟩,hp1⟩ : ∃ x,plOf (.slice a1 n1 c1) = x := ⟨_,rfl⟩
 obtain ⟨⟨p2,m2⟩,hp2⟩ : ∃ x,plOf (.slice a2 n2 c2) = x := ⟨_,rfl⟩
 have HE : Hid (∀ W,Calls Tryz.prog 184 #[.slice a1 n1 c1] W fun e w' => e = .returned (.agg #[.pointer p1,.int .i64 (m1 : Int)]) ∧ Below W.heap.size W w') := fun W => by
  have := eplaceE_any a1 n1 c1 W h1 h2 h3
  rw [hp1] at this
  exact this
 have HR : Hid (∀ W,Calls Tryz.prog 185 #[.slice a2 n2 c2] W fun e w' => e = .returned (.agg #[.pointer p2,.int .i64 (m2 : Int)]) ∧ Below W.heap.size W w') := fun W => by
  have := eplaceR_any a2 n2 c2 W h4 h5 h6
  rw [hp2] at this
  exact this
 rw [hp1,hp2]
 clear hp1 hp2 h1 h2 h3 h4 h5 h6
 have B0 : Blk ((w.alloc (Obj.cells #[.int .i64 K,.int .i64 N,.string S,.slice a1 n1 c1,.slice a2 n2 c2] 33)).alloc (Obj.cells #[.pointer none,.int .i64 0,.pointer none,.int .i64 0] 222)) w.heap.size #[.int .i64 K,.int .i64 N,.string S,.slice a1 n1 c1,.slice a2 n2 c2] 33 := (Blk.new w _ _).below ((Below.refl _ _).alloc (Nat.le_refl _) _)
 have B1 : Blk ((w.alloc (Obj.cells #[.int .i64 K,.int .i64 N,.string S,.slice a1 n1 c1,.slice a2 n2 c2] 33)).alloc (Obj.cells #[.pointer none,.int .i64 0,.pointer none,.int .i64 0] 222)) (w.heap.size + 1) #[.pointer none,.int .i64 0,.pointer none,.int .i64 0] 222 := by
  have := Blk.new (w.alloc (Obj.cells #[.int .i64 K,.int .i64 N,.string S,.slice a1 n1 c1,.slice a2 n2 c2] 33)) #[.pointer none,.int .i64 0,.pointer none,.int .i64 0] 222
  rwa [show (w.alloc (Obj.cells #[.int .i64 K,.int .i64 N,.string S,.slice a1 n1 c1,.slice a2 n2 c2] 33)).heap.size = w.heap.size + 1 from by simp] at this
 have hb : Below w.heap.size w ((w.alloc (Obj.cells #[.int .i64 K,.int .i64 N,.string S,.slice a1 n1 c1,.slice a2 n2 c2] 33)).alloc (Obj.cells #[.pointer none,.int .i64 0,.pointer none,.int .i64 0] 222)) := ((Below.refl _ _).alloc (Nat.le_refl _) _).alloc (by simp) _
 go_enter Tryz.func167,Tryz.ntmps167
 go_wp2_with fail
 generalize ((w.alloc (Obj.cells #[.int .i64 K,.int .i64 N,.string S,.slice a1 n1 c1,.slice a2 n2 c2] 33)).alloc (Obj.cells #[.pointer none,.int .i64 0,.pointer none,.int .i64 0] 222)) = W0 at *
 obtain ⟨b0,hb0⟩ : ∃ b,w.heap.size = b := ⟨_,rfl⟩
 have HBZ : Hid (w.heap.size = b0) := hb0
 rw [hb0] at B0 B1
 simp only [hb0]
 clear hb0
 have hTb : ∀ W,Below W0.heap.size W0 W → W.cell? ⟨b0,3,none⟩ = some (.slice a1 n1 c1) ∧ W.cell? ⟨b0,4,none⟩ = some (.slice a2 n2 c2) := fun W hW => ⟨(B0.below hW).cell 3,(B0.below hW).cell 4⟩
 refine M_region (T := fun W => W.cell? ⟨b0,3,none⟩ = some (.slice a1 n1 c1) ∧ W.cell? ⟨b0,4,none⟩ = some (.slice a2 n2 c2)) (m := 7) (by kernel_rfl) ?_
 have hd : Below W0.heap.size W0 W0.drew := (Below.refl _ _).drew
 have hS := hTb _ hd
 refine M_take 0 3 (.pointer (some ⟨b0,3,none⟩)) _ rfl rfl (by kernel_rfl) (by kernel_rfl) (by kernel_rfl) (by kernel_rfl) (by kernel_rfl) (fun _ _ _ h => h) (by rfl) (fun w' hw' => ?_) hS (listed' := bts 8 1) (by kernel_rfl) rfl ?_
 ·go_simp
 simp only [zsA,zsZ,zsS]
 refine M_take 1 4 (.slice a1 n1 c1) _ rfl rfl (by kernel_rfl) (by kernel_rfl) (by kernel_rfl) (by kernel_rfl) (by kernel_rfl) (fun _ _ _ h => h) (by rfl) (fun w' hw' => ?_) hS (listed' := bts 8 3) (by kernel_rfl) rfl ?_
 ·obtain ⟨f3,f4⟩ := hw'; go_simp
 simp only [zsA,zsZ,zsS]
 refine M_take 3 6 (.pointer (some ⟨b0,4,none⟩)) _ rfl rfl (by kernel_rfl) (by kernel_rfl) (by kernel_rfl) (by kernel_rfl) (by kernel_rfl) (fun _ _ _ h => h) (by rfl) (fun w' hw' => ?_) hS (listed' := bts 8 11) (by kernel_rfl) rfl ?_
 ·go_simp
 simp only [zsA,zsZ,zsS]
 refine M_take 4 7 (.slice a2 n2 c2) _ rfl rfl (by kernel_rfl) (by kernel_rfl) (by kernel_rfl) (by kernel_rfl) (by kernel_rfl) (fun _ _ _ h => h) (by rfl) (fun w' hw' => ?_) hS (listed' := bts 8 27) (by kernel_rfl) rfl ?_
 ·obtain ⟨f3,f4⟩ := hw'; go_simp
 simp only [zsA,zsZ,zsS]
 refine M_call 2 5 184 #[.slice a1 n1 c1] rfl rfl (by kernel_rfl) (by rfl) (listed' := bts 8 31) (by kernel_rfl) (fun W => by go_simp) ?_
 refine (HE.out _).mono ?_
 rintro e W1 ⟨rfl,hb1⟩
 have hd1 : Below W0.heap.size W0 W1 := hd.trans (hb1.mono hd.size)
 have hS := hTb _ hd1
 refine ⟨_,rfl,hS,?_⟩
 simp only [zsA,zsZ,zsS]
 refine M_call 5 8 185 #[.slice a2 n2 c2] rfl rfl (by kernel_rfl) (by rfl) (listed' := bts 8 63) (by kernel_rfl) (fun W => by go_simp) ?_
 refine (HR.out _).mono ?_
 rintro e W2 ⟨rfl,hb2⟩
 have hd2 : Below W0.heap.size W0 W2 := hd1.trans (hb2.mono hd1.size)
 have hS := hTb _ hd2
 refine ⟨_,rfl,hS,?_⟩
 simp only [zsA,zsZ,zsS]
 refine M_take 6 9 (.agg #[.pointer p1,.int .i64 (m1 : Int),.pointer p2,.int .i64 (m2 : Int)]) _ rfl rfl (by kernel_rfl) (by kernel_rfl) (by kernel_rfl) (by kernel_rfl) (by kernel_rfl) (fun _ _ _ h => h) (by rfl) (fun w' hw' => ?_) hS (listed' := bts 8 127) (by kernel_rfl) rfl ?_
 ·go_simp
 simp only [zsA,zsZ,zsS]
 have BR := B1.below hd2
 have r0 := (BR.cell 0).trans rfl
 have z0 := BR.froz 0
 have r1 := (BR.cell 1).trans rfl
 have z1 := BR.froz 1
 have r2 := (BR.cell 2).trans rfl
 have z2 := BR.froz 2
 have r3 := (BR.cell 3).trans rfl
 have z3 := BR.froz 3
 refine M_store 7 ((((W2.setCell ⟨b0 + 1,0,none⟩ (.pointer p1)).setCell ⟨b0 + 1,1,none⟩ (.int .i64 (m1 : Int))).setCell ⟨b0 + 1,2,none⟩ (.pointer p2)).setCell ⟨b0 + 1,3,none⟩ (.int .i64 (m2 : Int))) rfl rfl (by kernel_rfl) (by rfl) (listed' := bts 8 255) (by kernel_rfl) (by go_simp) (by kernel_rfl) ?_
 refine M_done (by kernel_rfl) ?_ _
 have BR0 : Blk (W2.setCell ⟨b0 + 1,0,none⟩ (.pointer p1)) (b0 + 1) #[.pointer p1,.int .i64 0,.pointer none,.int .i64 0] 222 := BR.set 0 _ rfl
 have BR1 : Blk ((W2.setCell ⟨b0 + 1,0,none⟩ (.pointer p1)).setCell ⟨b0 + 1,1,none⟩ (.int .i64 (m1 : Int))) (b0 + 1) #[.pointer p1,.int .i64 (m1 : Int),.pointer none,.int .i64 0] 222 := BR0.set 1 _ rfl
 have BR2 : Blk (((W2.setCell ⟨b0 + 1,0,none⟩ (.pointer p1)).setCell ⟨b0 + 1,1,none⟩ (.int .i64 (m1 : Int))).setCell ⟨b0 + 1,2,none⟩ (.pointer p2)) (b0 + 1) #[.pointer p1,.int .i64 (m1 : Int),.pointer p2,.int .i64 0] 222 := BR1.set 2 _ rfl
 have BR3 : Blk ((((W2.setCell ⟨b0 + 1,0,none⟩ (.pointer p1)).setCell ⟨b0 + 1,1,none⟩ (.int .i64 (m1 : Int))).setCell ⟨b0 + 1,2,none⟩ (.pointer p2)).setCell ⟨b0 + 1,3,none⟩ (.int .i64 (m2 : Int))) (b0 + 1) #[.pointer p1,.int .i64 (m1 : Int),.pointer p2,.int .i64 (m2 : Int)] 222 := BR2.set 3 _ rfl
 have hbe : Below w.heap.size w W2 := hb.trans (hd2.mono hb.size)
 have hbe0 : Below w.heap.size w (W2.setCell ⟨b0 + 1,0,none⟩ (.pointer p1)) := Below.setCell (p := ⟨b0 + 1,0,none⟩) hbe (by have := HBZ.out; show w.heap.size ≤ b0 + 1; omega) _
 have hbe1 : Below w.heap.size w ((W2.setCell ⟨b0 + 1,0,none⟩ (.pointer p1)).setCell ⟨b0 + 1,1,none⟩ (.int .i64 (m1 : Int))) := Below.setCell (p := ⟨b0 + 1,1,none⟩) hbe0 (by have := HBZ.out; show w.heap.size ≤ b0 + 1; omega) _
 have hbe2 : Below w.heap.size w (((W2.setCell ⟨b0 + 1,0,none⟩ (.pointer p1)).setCell ⟨b0 + 1,1,none⟩ (.int .i64 (m1 : Int))).setCell ⟨b0 + 1,2,none⟩ (.pointer p2)) := Below.setCell (p := ⟨b0 + 1,2,none⟩) hbe1 (by have := HBZ.out; show w.heap.size ≤ b0 + 1; omega) _
 have hbe3 : Below w.heap.size w ((((W2.setCell ⟨b0 + 1,0,none⟩ (.pointer p1)).setCell ⟨b0 + 1,1,none⟩ (.int .i64 (m1 : Int))).setCell ⟨b0 + 1,2,none⟩ (.pointer p2)).setCell ⟨b0 + 1,3,none⟩ (.int .i64 (m2 : Int))) := Below.setCell (p := ⟨b0 + 1,3,none⟩) hbe2 (by have := HBZ.out; show w.heap.size ≤ b0 + 1; omega) _
 clear r0 z0 r1 z1 r2 z2 r3 z3 BR0 hbe0 BR1 hbe1 BR2 hbe2 BR hbe hS
 generalize ((((W2.setCell ⟨b0 + 1,0,none⟩ (.pointer p1)).setCell ⟨b0 + 1,1,none⟩ (.int .i64 (m1 : Int))).setCell ⟨b0 + 1,2,none⟩ (.pointer p2)).setCell ⟨b0 + 1,3,none⟩ (.int .i64 (m2 : Int))) = W3 at *
 have r0 := (BR3.cell 0).trans rfl
 have r1 := (BR3.cell 1).trans rfl
 have r2 := (BR3.cell 2).trans rfl
 have r3 := (BR3.cell 3).trans rfl
 go_wp2_with fail
 refine bodyPost_ret (results_cell rfl _ _ _ ⟨b0 + 1,0,none⟩ (.agg #[.pointer p1,.int .i64 (m1 : Int),.pointer p2,.int .i64 (m2 : Int)]) (by go_simp) (by go_simp)) rfl ⟨rfl,hbe3⟩
def cntV (K N : Int) (S : ByteArray) (ve vr : Value) : Value := if K = 1 then .iface 201 (.int .i64 N) else if K = 2 then .iface 202 (.string S) else .iface 203 (.agg #[.int .i64 K,.int .i64 N,.string S,ve,vr])
set_option maxHeartbeats 1000000 in
theorem content_any (K N : Int) (S : ByteArray) (a1 a2 : Option Addr) (n1 c1 n2 c2 : Nat) (w : World) :
  Calls Tryz.prog 150 #[.agg #[.int .i64 K,.int .i64 N,.string S,.slice a1 n1 c1,.slice a2 n2 c2]] w fun e w' => e = .returned (cntV K N S (.slice a1 n1 c1) (.slice a2 n2 c2)) ∧ Below w.heap.size w w' := by
 have al : Below w.heap.size w (w.alloc (Obj.cells #[.int .i64 K,.int .i64 N,.string S,.slice a1 n1 c1,.slice a2 n2 c2] 33)) := (Below.refl _ _).alloc (Nat.le_refl _) _
 by_cases h1 : K = 1
 ·subst h1
  go_enter Tryz.func150,Tryz.ntmps150
  go_wp2_with fail
  go_ret
  exact ⟨rfl,al⟩
 ·have d1 : (K == 1) = false := by simpa using h1
  by_cases h2 : K = 2
  ·subst h2
   go_enter Tryz.func150,Tryz.ntmps150
   go_wp2_with fail
   go_ret
   exact ⟨rfl,al⟩
  ·have d2 : (K == 2) = false := by simpa using h2
   have HV : Hid (cntV K N S (.slice a1 n1 c1) (.slice a2 n2 c2) = .iface 203 (.agg #[.int .i64 K,.int .i64 N,.string S,.slice a1 n1 c1,.slice a2 n2 c2])) := (by unfold cntV; rw [if_neg h1,if_neg h2] : cntV K N S (.slice a1 n1 c1) (.slice a2 n2 c2) = _)
   rw [HV.out]
   clear HV h1 h2
   go_enter Tryz.func150,Tryz.ntmps150
   go_wp2_with fail
   go_ret
   exact ⟨rfl,al⟩
def FldP (W0 : World) (R : Fd × Nat) (b : Nat) (w : World) (e : Ending) (w' : World) : Prop := e = .returned (.tuple #[R.1.val,.int .i64 (R.2 : Int)]) ∧ KnE W0 w' b ∧ Kp (fun q => q = b) w w'
def BytP (W0 : World) (R : List Nat × Nat) (b : Nat) (w : World) (e : Ending) (w' : World) : Prop := e = .returned (.tuple #[.string (strN R.1),.int .i64 (R.2 : Int)]) ∧ KnE W0 w' b ∧ Kp (fun q => q = b) w w'
theorem FldP.of {W0 : World} {R : Fd × Nat} {b : Nat} {w w' : World} {t k n : Int} {s : ByteArray} {e : Int} (h : R = (⟨t,k,n,s⟩,e.toNat)) (he : 0 ≤ e) (h1 : KnE W0 w' b) (h2 : Kp (fun q => q = b) w w') : FldP W0 R b w (.returned (.tuple #[.agg #[.int .i64 t,.int .i64 k,.int .i64 n,.string s],.int .i64 e])) w' := by
 subst h
 refine ⟨?_,h1,h2⟩
 simp only [Fd.val]
 rw [Int.toNat_of_nonneg he]
set_option maxHeartbeats 4000000 in
theorem efield_step (W0 : World) (b n : Nat) (x : Tr) (tag : Int) (K N : Int) (S : ByteArray) (a1 a2 : Option Addr) (n1 c1 n2 c2 : Nat) (w : World) (hx : TrW n W0 (.agg #[.int .i64 K,.int .i64 N,.string S,.slice a1 n1 c1,.slice a2 n2 c2]) x)
  (IB : ∀ W,Below W0.heap.size W0 W → KnE W0 W b → Calls Tryz.prog 151 #[.agg #[.map (some b)],.agg #[.int .i64 K,.int .i64 N,.string S,.slice a1 n1 c1,.slice a2 n2 c2]] W (BytP W0 (bytE n x) b W))
  (h0 : Below W0.heap.size W0 w) (hk : KnE W0 w b) :
  Calls Tryz.prog 119 #[.agg #[.map (some b)],.int .i64 tag,.agg #[.int .i64 K,.int .i64 N,.string S,.slice a1 n1 c1,.slice a2 n2 c2]] w (FldP W0 (flE (bytE n) tag x) b w) := by
 have hA : ∀ (T : TypeId) (v : Value) (W : World),T = 201 ∨ T = 202 ∨ T = 203 → (Instr.typeAssert (.iface T v) 20 T true).run Tryz.prog W = .ok (.tuple #[v,.bool true]) W := by
  rintro T v W (rfl | rfl | rfl) <;> kernel_rfl
 have hA1 : ∀ (v : Value) (W : World),(Instr.typeAssert (.iface 201 v) 20 201 true).run Tryz.prog W = .ok (.tuple #[v,.bool true]) W := fun v W => hA _ v W (.inl rfl)
 have hA2 : ∀ (v : Value) (W : World),(Instr.typeAssert (.iface 202 v) 20 202 true).run Tryz.prog W = .ok (.tuple #[v,.bool true]) W := fun v W => hA _ v W (.inr (.inl rfl))
 have hA3 : ∀ (v : Value) (W : World),(Instr.typeAssert (.iface 203 v) 20 203 true).run Tryz.prog W = .ok (.tuple #[v,.bool true]) W := fun v W => hA _ v W (.inr (.inr rfl))
 have hF2 : ∀ (v : Value) (W : World),(Instr.typeAssert (.iface 202 v) 20 201 true).run Tryz.prog W = .ok (.tuple #[.int .i64 0,.bool false]) W := fun v W => by kernel_rfl
 have hF3 : ∀ (v : Value) (W : World),(Instr.typeAssert (.iface 203 v) 20 201 true).run Tryz.prog W = .ok (.tuple #[.int .i64 0,.bool false]) W := fun v W => by kernel_rfl
 have hF4 : ∀ (v : Value) (W : World),(Instr.typeAssert (.iface 203 v) 20 202 true).run Tryz.prog W = .ok (.tuple #[.string ⟨#[]⟩,.bool false]) W := fun v W => by kernel_rfl
 obtain ⟨k1,k2,k3, -, -⟩ := hx.parts
 obtain ⟨R,hR⟩ : ∃ R,flE (bytE n) tag x = R := ⟨_,rfl⟩
 rw [hR]
 have HR : Hid (flE (bytE n) tag x = R) := hR
 have HX : Hid (x.kind = K ∧ x.n = N ∧ x.s = S) := ⟨k1,k2,k3⟩
 have HC : Hid (∀ W,Calls Tryz.prog 150 #[.agg #[.int .i64 K,.int .i64 N,.string S,.slice a1 n1 c1,.slice a2 n2 c2]] W fun e w' => e = .returned (cntV K N S (.slice a1 n1 c1) (.slice a2 n2 c2)) ∧ Below W.heap.size W w') := fun W => content_any K N S a1 a2 n1 c1 n2 c2 W
 have HK : Hid (KnE W0 w b) := hk
 have H0 : Hid (Below W0.heap.size W0 w) := h0
 have HB : Hid (∀ W,Below W0.heap.size W0 W → KnE W0 W b → Calls Tryz.prog 151 #[.agg #[.map (some b)],.agg #[.int .i64 K,.int .i64 N,.string S,.slice a1 n1 c1,.slice a2 n2 c2]] W (BytP W0 (bytE n x) b W)) := IB
 have hlt := hk.lt
 obtain ⟨Z,hZ⟩ : ∃ Z,Z = (((w.alloc (Obj.cells #[.map (some b)] 119)).alloc (Obj.cells #[.int .i64 K,.int .i64 N,.string S,.slice a1 n1 c1,.slice a2 n2 c2] 33)).alloc (Obj.cells #[.int .i64 0,.int .i64 0,.int .i64 0,.string ⟨#[]⟩] 61)).alloc (Obj.cells #[.int .i64 tag,.int .i64 1,.int .i64 0,.string ⟨#[]⟩] 61) := ⟨_,rfl⟩
 have al1 : Below w.heap.size w (w.alloc (Obj.cells #[.map (some b)] 119)) := (Below.refl _ _).alloc (Nat.le_refl _) _
 have BE : Blk Z w.heap.size #[.map (some b)] 119 := by
  rw [hZ]
  exact (((Blk.new w _ _).below ((Below.refl _ _).alloc (Nat.le_refl _) _)).below ((Below.refl _ _).alloc (Nat.le_refl _) _)).below ((Below.refl _ _).alloc (Nat.le_refl _) _)
 have BT : Blk Z (w.heap.size + 1) #[.int .i64 K,.int .i64 N,.string S,.slice a1 n1 c1,.slice a2 n2 c2] 33 := by
  rw [hZ]
  have := Blk.new (w.alloc (Obj.cells #[.map (some b)] 119)) #[.int .i64 K,.int .i64 N,.string S,.slice a1 n1 c1,.slice a2 n2 c2] 33
  rw [show (w.alloc (Obj.cells #[.map (some b)] 119)).heap.size = w.heap.size + 1 from by simp] at this
  exact (this.below ((Below.refl _ _).alloc (Nat.le_refl _) _)).below ((Below.refl _ _).alloc (Nat.le_refl _) _)
 have BO : Blk Z (w.heap.size + 1 + 1) #[.int .i64 0,.int .i64 0,.int .i64 0,.string ⟨#[]⟩] 61 := by
  rw [hZ]
  have := Blk.new ((w.alloc (Obj.cells #[.map (some b)] 119)).alloc (Obj.cells #[.int .i64 K,.int .i64 N,.string S,.slice a1 n1 c1,.slice a2 n2 c2] 33)) #[.int .i64 0,.int .i64 0,.int .i64 0,.string ⟨#[]⟩] 61
  rw [show ((w.alloc (Obj.cells #[.map (some b)] 119)).alloc (Obj.cells #[.int .i64 K,.int .i64 N,.string S,.slice a1 n1 c1,.slice a2 n2 c2] 33)).heap.size = w.heap.size + 1 + 1 from by simp] at this
  exact this.below ((Below.refl _ _).alloc (Nat.le_refl _) _)
 have BR : Blk Z (w.heap.size + 1 + 1 + 1) #[.int .i64 tag,.int .i64 1,.int .i64 0,.string ⟨#[]⟩] 61 := by
  rw [hZ]
  have := Blk.new (((w.alloc (Obj.cells #[.map (some b)] 119)).alloc (Obj.cells #[.int .i64 K,.int .i64 N,.string S,.slice a1 n1 c1,.slice a2 n2 c2] 33)).alloc (Obj.cells #[.int .i64 0,.int .i64 0,.int .i64 0,.string ⟨#[]⟩] 61)) #[.int .i64 tag,.int .i64 1,.int .i64 0,.string ⟨#[]⟩] 61
  rw [show (((w.alloc (Obj.cells #[.map (some b)] 119)).alloc (Obj.cells #[.int .i64 K,.int .i64 N,.string S,.slice a1 n1 c1,.slice a2 n2 c2] 33)).alloc (Obj.cells #[.int .i64 0,.int .i64 0,.int .i64 0,.string ⟨#[]⟩] 61)).heap.size = w.heap.size + 1 + 1 + 1 from by simp] at this
  exact this
 have hZb : Below w.heap.size w Z := by
  rw [hZ]
  exact (((al1.alloc (by simp) _).alloc (by simp; omega) _).alloc (by simp; omega) _)
 clear hR k1 k2 k3 hA al1 hx h0 hk IB
 go_enter Tryz.func119,Tryz.ntmps119
 go_wp2_with fail
 rw [← hZ]
 clear hZ
 refine (HC.out _).mono ?_
 rintro e w2 ⟨rfl,hb2⟩
 have hbw2 : Below w.heap.size w w2 := hZb.trans (hb2.mono hZb.size)
 have BE2 := BE.below hb2
 have BT2 := BT.below hb2
 have BO2 := BO.below hb2
 have BR2 := BR.below hb2
 have HK2 : Hid (KnE W0 w2 b) := HK.out.below hbw2
 have H02 : Hid (Below W0.heap.size W0 w2) := H0.out.trans (hbw2.mono H0.out.size)
 clear BE BT BO BR hb2 hZb HC Z H0 HK
 obtain ⟨s,hs⟩ : ∃ s,w.heap.size = s := ⟨_,rfl⟩
 have HSZ : Hid (w.heap.size = s) := hs
 rw [hs] at BE2 BT2 BO2 BR2 hlt
 simp only [hs]
 clear hs
 have o0 := (BO2.cell 0).trans rfl
 have o1 := (BO2.cell 1).trans rfl
 have o2 := (BO2.cell 2).trans rfl
 have o3 := (BO2.cell 3).trans rfl
 have r0 := (BR2.cell 0).trans rfl
 have r1 := (BR2.cell 1).trans rfl
 have r2 := (BR2.cell 2).trans rfl
 have r3 := (BR2.cell 3).trans rfl
 have zo0 := BO2.froz 0
 have zo1 := BO2.froz 1
 have zo2 := BO2.froz 2
 have zo3 := BO2.froz 3
 have zr0 := BR2.froz 0
 have zr1 := BR2.froz 1
 have zr2 := BR2.froz 2
 have zr3 := BR2.froz 3
 by_cases h1 : K = 1
 ·subst h1
  have HRV : Hid (R = (⟨tag,0,N,⟨#[]⟩⟩,0)) := (by rw [← HR.out,flE,if_pos HX.out.1,HX.out.2.1] : R = _)
  simp only [cntV,if_pos]
  clear HR HX HB
  go_wp2_with fail
  refine bodyPost_ret (results_two rfl _ _ _ ⟨s + 1 + 1,0,none⟩ (.agg #[.int .i64 tag,.int .i64 0,.int .i64 N,.string ⟨#[]⟩]) (by go_simp) (by go_simp)) rfl (FldP.of HRV.out (by decide) ?_ ?_)
  ·refine KnE.kp (S := fun q => q = s + 1 + 1 ∨ q = s + 1 + 1 + 1) HK2.out ?_ (by omega)
   refine Kp.setCell ?_ (fun _ => by simp) _
   refine Kp.setCell ?_ (fun _ => by simp) _
   refine Kp.setCell ?_ (fun _ => by simp) _
   refine Kp.setCell ?_ (fun _ => by simp) _
   refine Kp.setCell ?_ (fun _ => by simp) _
   refine Kp.setCell ?_ (fun _ => by simp) _
   exact Kp.refl _ _
  ·refine Kp.setCell ?_ (fun h => absurd h (by have := HSZ.out; simp only; omega)) _
   refine Kp.setCell ?_ (fun h => absurd h (by have := HSZ.out; simp only; omega)) _
   refine Kp.setCell ?_ (fun h => absurd h (by have := HSZ.out; simp only; omega)) _
   refine Kp.setCell ?_ (fun h => absurd h (by have := HSZ.out; simp only; omega)) _
   refine Kp.setCell ?_ (fun h => absurd h (by have := HSZ.out; simp only; omega)) _
   refine Kp.setCell ?_ (fun h => absurd h (by have := HSZ.out; simp only; omega)) _
   exact Kp.ofBelow hbw2
 ·by_cases h2 : K = 2
  ·subst h2
   simp only [cntV,if_neg (show ¬ (2 : Int) = 1 by decide),if_pos]
   by_cases h3 : 4096 < S.size
   ·have HRV : Hid (R = (⟨0,0,0,⟨#[]⟩⟩,4)) := (by rw [← HR.out,flE,if_neg (by rw [HX.out.1]; decide),if_pos HX.out.1,HX.out.2.2,if_pos h3]; rfl : R = _)
    clear HR HX HB
    go_wp2_with fail
    refine bodyPost_ret (results_two rfl _ _ _ ⟨s + 1 + 1,0,none⟩ (.agg #[.int .i64 0,.int .i64 0,.int .i64 0,.string ⟨#[]⟩]) (by go_simp) (by go_simp)) rfl (FldP.of HRV.out (by decide) ?_ ?_)
    ·refine KnE.kp (S := fun q => q = s + 1 + 1 ∨ q = s + 1 + 1 + 1) HK2.out ?_ (by omega)
     refine Kp.setCell ?_ (fun _ => by simp) _
     refine Kp.setCell ?_ (fun _ => by simp) _
     refine Kp.setCell ?_ (fun _ => by simp) _
     refine Kp.setCell ?_ (fun _ => by simp) _
     exact Kp.refl _ _
    ·refine Kp.setCell ?_ (fun h => absurd h (by have := HSZ.out; simp only; omega)) _
     refine Kp.setCell ?_ (fun h => absurd h (by have := HSZ.out; simp only; omega)) _
     refine Kp.setCell ?_ (fun h => absurd h (by have := HSZ.out; simp only; omega)) _
     refine Kp.setCell ?_ (fun h => absurd h (by have := HSZ.out; simp only; omega)) _
     exact Kp.ofBelow hbw2
   ·have HRV : Hid (R = (⟨tag,1,0,S⟩,0)) := (by rw [← HR.out,flE,if_neg (by rw [HX.out.1]; decide),if_pos HX.out.1,HX.out.2.2,if_neg h3] : R = _)
    clear HR HX HB
    go_wp2_with fail
    refine bodyPost_ret (results_two rfl _ _ _ ⟨s + 1 + 1,0,none⟩ (.agg #[.int .i64 tag,.int .i64 1,.int .i64 0,.string S]) (by go_simp) (by go_simp)) rfl (FldP.of HRV.out (by decide) ?_ ?_)
    ·refine KnE.kp (S := fun q => q = s + 1 + 1 ∨ q = s + 1 + 1 + 1) HK2.out ?_ (by omega)
     refine Kp.setCell ?_ (fun _ => by simp) _
     refine Kp.setCell ?_ (fun _ => by simp) _
     refine Kp.setCell ?_ (fun _ => by simp) _
     refine Kp.setCell ?_ (fun _ => by simp) _
     refine Kp.setCell ?_ (fun _ => by simp) _
     exact Kp.refl _ _
    ·refine Kp.setCell ?_ (fun h => absurd h (by have := HSZ.out; simp only; omega)) _
     refine Kp.setCell ?_ (fun h => absurd h (by have := HSZ.out; simp only; omega)) _
     refine Kp.setCell ?_ (fun h => absurd h (by have := HSZ.out; simp only; omega)) _
     refine Kp.setCell ?_ (fun h => absurd h (by have := HSZ.out; simp only; omega)) _
     refine Kp.setCell ?_ (fun h => absurd h (by have := HSZ.out; simp only; omega)) _
     exact Kp.ofBelow hbw2
  ·have HRV : Hid (R = if (bytE n x).2 ≠ 0 then (fd0,(bytE n x).2) else (⟨tag,1,0,strN (bytE n x).1⟩,0)) := (by rw [← HR.out,flE,if_neg (by rw [HX.out.1]; exact h1),if_neg (by rw [HX.out.1]; exact h2)] : R = _)
   simp only [cntV,if_neg h1,if_neg h2]
   have al3 : Below w2.heap.size w2 (w2.alloc (Obj.cells #[.int .i64 K,.int .i64 N,.string S,.slice a1 n1 c1,.slice a2 n2 c2] 203)) := (Below.refl _ _).alloc (Nat.le_refl _) _
   have BE3 := BE2.below al3
   have BO3 := BO2.below al3
   have BR3 := BR2.below al3
   have HK3 : Hid (KnE W0 (w2.alloc (Obj.cells #[.int .i64 K,.int .i64 N,.string S,.slice a1 n1 c1,.slice a2 n2 c2] 203)) b) := HK2.out.below al3
   have H03 : Hid (Below W0.heap.size W0 (w2.alloc (Obj.cells #[.int .i64 K,.int .i64 N,.string S,.slice a1 n1 c1,.slice a2 n2 c2] 203))) := H02.out.trans (al3.mono H02.out.size)
   have hbw3 : Below w.heap.size w (w2.alloc (Obj.cells #[.int .i64 K,.int .i64 N,.string S,.slice a1 n1 c1,.slice a2 n2 c2] 203)) := hbw2.trans (al3.mono hbw2.size)
   have e0 := (BE3.cell 0).trans rfl
   have HBC : Hid (Calls Tryz.prog 151 #[.agg #[.map (some b)],.agg #[.int .i64 K,.int .i64 N,.string S,.slice a1 n1 c1,.slice a2 n2 c2]] (w2.alloc (Obj.cells #[.int .i64 K,.int .i64 N,.string S,.slice a1 n1 c1,.slice a2 n2 c2] 203)) (BytP W0 (bytE n x) b (w2.alloc (Obj.cells #[.int .i64 K,.int .i64 N,.string S,.slice a1 n1 c1,.slice a2 n2 c2] 203)))) := HB.out _ H03.out HK3.out
   clear HR HX HB al3 BE2 BT2 BO2 BR2 HK2 H02 hbw2 h1 h2 o0 o1 o2 o3 r0 r1 r2 r3 zo0 zo1 zo2 zo3 zr0 zr1 zr2 zr3
   go_wp2_with fail
   refine Calls.mono HBC.out ?_
   rintro ee w4 ⟨rfl,hk4,hkp4⟩
   generalize (w2.alloc (Obj.cells #[.int .i64 K,.int .i64 N,.string S,.slice a1 n1 c1,.slice a2 n2 c2] 203)) = w3 at *
   have HK4 : Hid (KnE W0 w4 b) := hk4
   have HKP : Hid (Kp (fun q => q = b) w w4) := (Kp.ofBelow hbw3).trans hkp4
   have BO4 := BO3.kp hkp4 (by omega)
   have BR4 := BR3.kp hkp4 (by omega)
   generalize bytE n x = q at *
   obtain ⟨ns,er⟩ := q
   simp only at HRV ⊢
   generalize strN ns = T at *
   have o0 := (BO4.cell 0).trans rfl
   have o1 := (BO4.cell 1).trans rfl
   have o2 := (BO4.cell 2).trans rfl
   have o3 := (BO4.cell 3).trans rfl
   have r0 := (BR4.cell 0).trans rfl
   have r1 := (BR4.cell 1).trans rfl
   have r2 := (BR4.cell 2).trans rfl
   have r3 := (BR4.cell 3).trans rfl
   have zo0 := BO4.froz 0
   have zo1 := BO4.froz 1
   have zo2 := BO4.froz 2
   have zo3 := BO4.froz 3
   have zr3 := BR4.froz 3
   clear hk4 hkp4 BE3 BO3 BR3 HK3 H03 hbw3 e0 HBC BO4 BR4
   by_cases he : er = 0
   ·subst he
    have HRV2 : Hid (R = (⟨tag,1,0,T⟩,0)) := (by rw [HRV.out,if_neg (by simp)] : R = _)
    clear HRV
    go_wp2_with fail
    refine bodyPost_ret (results_two rfl _ _ _ ⟨s + 1 + 1,0,none⟩ (.agg #[.int .i64 tag,.int .i64 1,.int .i64 0,.string T]) (by go_simp) (by go_simp)) rfl (FldP.of HRV2.out (by decide) ?_ ?_)
    ·refine KnE.kp (S := fun q => q = s + 1 + 1 ∨ q = s + 1 + 1 + 1) HK4.out ?_ (by omega)
     refine Kp.setCell ?_ (fun _ => by simp) _
     refine Kp.setCell ?_ (fun _ => by simp) _
     refine Kp.setCell ?_ (fun _ => by simp) _
     refine Kp.setCell ?_ (fun _ => by simp) _
     refine Kp.setCell ?_ (fun _ => by simp) _
     exact Kp.refl _ _
    ·refine Kp.setCell ?_ (fun h => absurd h (by have := HSZ.out; simp only; omega)) _
     refine Kp.setCell ?_ (fun h => absurd h (by have := HSZ.out; simp only; omega)) _
     refine Kp.setCell ?_ (fun h => absurd h (by have := HSZ.out; simp only; omega)) _
     refine Kp.setCell ?_ (fun h => absurd h (by have := HSZ.out; simp only; omega)) _
     refine Kp.setCell ?_ (fun h => absurd h (by have := HSZ.out; simp only; omega)) _
     exact HKP.out
   ·have hd : ((er : Int) != 0) = true := by simp; omega
    have HRV2 : Hid (R = (⟨0,0,0,⟨#[]⟩⟩,((er : Int)).toNat)) := (by rw [HRV.out,if_pos he]; rfl : R = _)
    clear HRV he
    go_wp2_with fail
    refine bodyPost_ret (results_two rfl _ _ _ ⟨s + 1 + 1,0,none⟩ (.agg #[.int .i64 0,.int .i64 0,.int .i64 0,.string ⟨#[]⟩]) (by go_simp) (by go_simp)) rfl (FldP.of HRV2.out (by omega) ?_ ?_)
    ·refine KnE.kp (S := fun q => q = s + 1 + 1 ∨ q = s + 1 + 1 + 1) HK4.out ?_ (by omega)
     refine Kp.setCell ?_ (fun _ => by simp) _
     refine Kp.setCell ?_ (fun _ => by simp) _
     refine Kp.setCell ?_ (fun _ => by simp) _
     refine Kp.setCell ?_ (fun _ => by simp) _
     exact Kp.refl _ _
    ·refine Kp.setCell ?_ (fun h => absurd h (by have := HSZ.out; simp only; omega)) _
     refine Kp.setCell ?_ (fun h => absurd h (by have := HSZ.out; simp only; omega)) _
     refine Kp.setCell ?_ (fun h => absurd h (by have := HSZ.out; simp only; omega)) _
     refine Kp.setCell ?_ (fun h => absurd h (by have := HSZ.out; simp only; omega)) _
     exact HKP.out
theorem ret_boolF {a b : Bool} (h : a = b) : Ending.returned (.bool a) = .returned (.bool b) := by rw [h]
set_option maxHeartbeats 1000000 in
theorem checkV_any (t k n : Int) (b : ByteArray) (w : World) :
  Calls Tryz.prog 45 #[.agg #[.int .i64 t,.int .i64 k,.int .i64 n,.string b]] w fun e w' => e = .returned (.bool (okV t k n b)) ∧ Below w.heap.size w w' := by
 by_cases h1 : 1 ≤ t
 ·by_cases h2 : t ≤ 500
  ·by_cases hk : k = 0
   ·subst hk
    go_enter Tryz.func45,Tryz.ntmps45
    go_wp2_with fail
    all_goals
     go_ret
     exact ⟨ret_boolF (by simp [okV,h1,h2]),(Below.refl _ _).alloc (Nat.le_refl _) _⟩
   ·by_cases hk1 : k = 1
    ·subst hk1
     by_cases hn : n = 0
     ·subst hn
      go_enter Tryz.func45,Tryz.ntmps45
      go_wp2_with fail
      all_goals
       go_ret
       exact ⟨ret_boolF (by simp [okV,h1,h2]),(Below.refl _ _).alloc (Nat.le_refl _) _⟩
     ·go_enter Tryz.func45,Tryz.ntmps45
      go_wp2_with fail
      all_goals
       go_ret
       exact ⟨ret_boolF (by simp [okV,hn]),(Below.refl _ _).alloc (Nat.le_refl _) _⟩
    ·have e0 : (k == 0) = false := by simp [hk]
     have e1 : (k == 1) = false := by simp [hk1]
     go_enter Tryz.func45,Tryz.ntmps45
     go_wp2_with fail
     all_goals
      go_ret
      exact ⟨ret_boolF (by simp [okV,hk,hk1]),(Below.refl _ _).alloc (Nat.le_refl _) _⟩
  ·have hok : okV t k n b = false := by simp [okV]; omega
   rw [hok]
   clear hok
   have hd : decide (t < 1) = false := by simp; omega
   have hd5 : decide (500 < t) = true := by simp; omega
   go_enter Tryz.func45,Tryz.ntmps45
   go_wp2_with fail
   all_goals
    go_ret
    exact ⟨rfl,(Below.refl _ _).alloc (Nat.le_refl _) _⟩
 ·have hok : okV t k n b = false := by simp [okV]; omega
  rw [hok]
  clear hok
  have hd : decide (t < 1) = true := by simp; omega
  go_enter Tryz.func45,Tryz.ntmps45
  go_wp2_with fail
  all_goals
   go_ret
   exact ⟨rfl,(Below.refl _ _).alloc (Nat.le_refl _) _⟩
theorem wchk_any (r : Fd) (w : World) : Calls Tryz.prog 45 #[r.val] w fun e w' => e = .returned (.bool (okF r)) ∧ Below w.heap.size w w' := checkV_any _ _ _ _ w
set_option maxHeartbeats 2000000 in
theorem field_num (t : Nat) (n : Int) (b : ByteArray) (w : World) (h1 : 1 ≤ t) (h2 : t ≤ 500) (h3 : -9223372036854775808 ≤ n) (h4 : n ≤ 9223372036854775807) :
  Calls Tryz.prog 46 #[.agg #[.int .i64 (t : Int),.int .i64 0,.int .i64 n,.string b]] w fun e w' => ∃ v,e = .returned v ∧
   w'.ownsRow w.heap.size 5 1 v (digs (2 * t) ++ digs (zigN n).toNat).length (byteCells (digs (2 * t) ++ digs (zigN n).toNat)) ∧ Below w.heap.size w w' := by
 have hz := zigN_bd n h3 h4
 have l1 := digs_len64 (2 * t) (by omega)
 obtain ⟨R,hR⟩ : ∃ R,digs (2 * t) ++ digs (zigN n).toNat = R := ⟨_,rfl⟩
 rw [hR]
 have HR : Hid (digs (2 * t) ++ digs (zigN n).toNat = R) := hR
 clear hR
 go_enter Tryz.func46,Tryz.ntmps46
 go_wp2_with fail
 refine (put_nil (2 * t) _ (by omega) _ (by omega)).mono ?_
 rintro e w1 ⟨g,cap,rfl,hg1,hg2,hc,hm,hh,hb⟩
 have hb0 : Below w.heap.size w w1 := (below_one w _).trans (hb.mono (by simp))
 generalize digs (2 * t) = ds at *
 have hcell : w1.cell? ⟨w.heap.size,1,none⟩ = some (.int .i64 0) := by rw [hb.cell (by simp)]; simp
 have hcell2 : w1.cell? ⟨w.heap.size,2,none⟩ = some (.int .i64 n) := by rw [hb.cell (by simp)]; simp
 have HH : Hid (Holds w1 (some ⟨g,0,none⟩) ds) := hh
 have HB : Hid (Below w.heap.size w w1) := hb0
 obtain ⟨N,hN⟩ : ∃ N,ds.length = N := ⟨_,rfl⟩
 rw [hN] at hc l1 ⊢
 have HN : Hid (ds.length = N) := hN
 clear hh hb hb0 hN
 go_wp2_with fail
 refine (zig_any n _ h3 h4).mono ?_
 rintro e w2 ⟨rfl,rfl⟩
 obtain ⟨z,hzz⟩ := Int.eq_ofNat_of_zero_le hz.1
 have HR2 : Hid (ds ++ digs z = R) := by show _ = _; rw [← HR.out,hzz,Int.toNat_natCast]
 rw [hzz] at hz ⊢
 clear hzz HR
 go_wp2_with fail
 have hp := put_any (some ⟨g,0,none⟩) ds cap z w2 (fun h => by cases h) (by rw [HN.out]; exact hc) hm (by rw [HN.out]; omega) HH.out (by omega)
 rw [HN.out] at hp
 refine hp.mono ?_
 rintro e w3 ⟨r,rfl,ho,hb3⟩
 have hws := HB.out.size
 have HO : Hid (w3.ownsRow w.heap.size 5 1 r R.length (byteCells R)) := by rw [← HR2.out]; exact own_mono ho hws
 have HB3 : Hid (Below w.heap.size w w3) := HB.out.trans (hb3.mono hws)
 clear hp ho hb3 HB
 go_wp2_with fail
 go_ret
 exact ⟨_,rfl,HO.out,HB3.out⟩
set_option maxHeartbeats 4000000 in
theorem field_text (t : Nat) (n : Int) (b : ByteArray) (w : World) (h1 : 1 ≤ t) (h2 : t ≤ 500) (h3 : b.size ≤ 4096) :
  Calls Tryz.prog 46 #[.agg #[.int .i64 (t : Int),.int .i64 1,.int .i64 n,.string b]] w fun e w' => ∃ v,e = .returned v ∧
   w'.ownsRow w.heap.size 5 1 v (digs (2 * t + 1) ++ (digs b.size ++ bytesN b)).length (byteCells (digs (2 * t + 1) ++ (digs b.size ++ bytesN b))) ∧ Below w.heap.size w w' := by
 obtain ⟨i0,hi,hz0,hz1,hz2⟩ := info_parts infoByte
 have l1 := digs_len64 (2 * t + 1) (by omega)
 have HL2 : Hid ((digs b.size).length ≤ 10) := (digs_len64 b.size (by omega)).2
 have HW : Hid (IntKind.u64.wrap (b.size : Int) = (b.size : Int)) := by show _ = _; rw [IntKind.wrap_u64]; omega
 obtain ⟨R,hR⟩ : ∃ R,digs (2 * t + 1) ++ (digs b.size ++ bytesN b) = R := ⟨_,rfl⟩
 rw [hR]
 have HR : Hid (digs (2 * t + 1) ++ (digs b.size ++ bytesN b) = R) := hR
 clear hR
 go_enter Tryz.func46,Tryz.ntmps46
 go_wp2_with fail
 refine (put_nil (2 * t + 1) _ (by omega) _ (by omega)).mono ?_
 rintro e w1 ⟨g,cap,rfl,hg1,hg2,hc,hm,hh,hb⟩
 have hb0 : Below w.heap.size w w1 := (below_one w _).trans (hb.mono (by simp))
 generalize digs (2 * t + 1) = ds at *
 have hcell : w1.cell? ⟨w.heap.size,1,none⟩ = some (.int .i64 1) := by rw [hb.cell (by simp)]; simp
 have HC3 : Hid (w1.cell? ⟨w.heap.size,3,none⟩ = some (.string b)) := by show _ = _; rw [hb.cell (by simp)]; simp
 have HH : Hid (Holds w1 (some ⟨g,0,none⟩) ds) := hh
 have HB : Hid (Below w.heap.size w w1) := hb0
 have hlt : w.heap.size < w1.heap.size := by have := hb.size; simp at this; omega
 obtain ⟨N,hN⟩ : ∃ N,ds.length = N := ⟨_,rfl⟩
 rw [hN] at hc l1 ⊢
 have HN : Hid (ds.length = N) := hN
 clear hh hb hb0 hN
 go_wp2_with fail
 have hS : Below w1.heap.size w1 w1.drew := (Below.refl _ _).drew
 have HCC : Hid (∀ W,Below w1.heap.size w1 W → W.cell? ⟨w.heap.size,3,none⟩ = some (.string b)) := fun W hW => by rw [hW.cell hlt]; exact HC3.out
 refine wp_region_held_drew (S := fun w' => Below w1.heap.size w1 w') (by kernel_rfl) hS (fun hS => ?_)
 refine rg_take 0 20 (.slice (some ⟨g,0,none⟩) N cap) _ rfl rfl (by kernel_rfl) (by kernel_rfl) (by kernel_rfl) (fun _ _ _ h => h) (by rfl) (fun w' hw' => ?_) hS (listed' := bts 10 1) (by kernel_rfl) rfl ?_
 ·go_simp
 simp only [zsA,zsZ,zsS]
 refine rg_take 1 21 (.pointer (some ⟨w.heap.size,3,none⟩)) _ rfl rfl (by kernel_rfl) (by kernel_rfl) (by kernel_rfl) (fun _ _ _ h => h) (by rfl) (fun w' hw' => ?_) hS (listed' := bts 10 3) (by kernel_rfl) rfl ?_
 ·go_simp
 simp only [zsA,zsZ,zsS]
 refine rg_take 2 22 (.string b) _ rfl rfl (by kernel_rfl) (by kernel_rfl) (by kernel_rfl) (fun _ _ _ h => h) (by rfl) (fun w' hw' => ?_) hS (listed' := bts 10 7) (by kernel_rfl) rfl ?_
 ·have hcv := HCC.out w' hw'; go_simp
 simp only [zsA,zsZ,zsS]
 refine rg_take 3 23 (.int .i64 (b.size : Int)) _ rfl rfl (by kernel_rfl) (by kernel_rfl) (by kernel_rfl) (fun _ _ _ h => h) (by rfl) (fun w' hw' => ?_) hS (listed' := bts 10 15) (by kernel_rfl) rfl ?_
 ·go_simp
 simp only [zsA,zsZ,zsS]
 refine rg_take 4 24 (.int .u64 (b.size : Int)) _ rfl rfl (by kernel_rfl) (by kernel_rfl) (by kernel_rfl) (fun _ _ _ h => h) (by rfl) (fun w' hw' => ?_) hS (listed' := bts 10 31) (by kernel_rfl) rfl ?_
 ·have hwr := HW.out; go_simp
 simp only [zsA,zsZ,zsS]
 refine rg_take 6 26 (.pointer (some ⟨w.heap.size,3,none⟩)) _ rfl rfl (by kernel_rfl) (by kernel_rfl) (by kernel_rfl) (fun _ _ _ h => h) (by rfl) (fun w' hw' => ?_) hS (listed' := bts 10 95) (by kernel_rfl) rfl ?_
 ·go_simp
 simp only [zsA,zsZ,zsS]
 refine rg_take 7 27 (.string b) _ rfl rfl (by kernel_rfl) (by kernel_rfl) (by kernel_rfl) (fun _ _ _ h => h) (by rfl) (fun w' hw' => ?_) hS (listed' := bts 10 223) (by kernel_rfl) rfl ?_
 ·have hcv := HCC.out w' hw'; go_simp
 simp only [zsA,zsZ,zsS]
 refine rg_call 5 25 90 #[.slice (some ⟨g,0,none⟩) N cap,.int .u64 (b.size : Int)] rfl rfl (by kernel_rfl) (by rfl) (listed' := bts 10 255) (by kernel_rfl) (fun w' => ?_) ?_
 ·go_simp
 have hp := put_any (some ⟨g,0,none⟩) ds cap b.size w1.drew (fun h => by cases h) (by rw [HN.out]; exact hc) hm (by rw [HN.out]; omega) (HH.out.below hS) (by omega)
 rw [HN.out] at hp
 refine hp.mono ?_
 rintro e w3 ⟨r,rfl,ho,hb3⟩
 have hS3 : Below w1.heap.size w1 w3 := hS.trans (hb3.mono hS.size)
 refine ⟨_,rfl,hS3,?_⟩
 have ho3 := own_mono ho (Nat.le_trans HB.out.size hS.size)
 obtain ⟨v',w4,hr,h24,h34,_⟩ := Lib.run_append_own_string (P := Tryz.prog) w3 w.heap.size 27 9 27 5 i0 Tryz.underlying27 Tryz.underlying9 hi hz0 hz1 hz2 r _ _ ho3 b (by have := HL2.out; have := HN.out; unfold maxLen; simp; omega) (by have := HL2.out; have := HN.out; simp; omega) (Nat.le_trans HB.out.size hS3.size)
 have hS4 : Below w1.heap.size w1 w4 := hS3.grown h34 hS3.size (fun k hk => Nat.le_trans hS.size (ho.lt k hk).1)
 have HO4 : Hid (w4.ownsRow w.heap.size 5 1 v' R.length (byteCells R)) := by
  show World.ownsRow _ _ _ _ _ _ _
  have e : (ds ++ digs b.size).length + b.size = R.length := by rw [← HR.out]; simp [bytesN_len]; omega
  rw [strCells_bytes,← byteCells_app,List.append_assoc,HR.out,e] at h24
  exact h24
 have HB4 : Hid (Below w.heap.size w w4) := HB.out.trans (hS4.mono HB.out.size)
 clear ho ho3 hb3 hp h24 h34
 simp only [zsA,zsZ,zsS]
 refine rg_run 8 28 v' w4 rfl rfl (by kernel_rfl) (by rfl) (listed' := bts 10 511) (by kernel_rfl) ?_ hS4 ?_
 ·exact append_run rfl rfl rfl hr
 simp only [zsA,zsZ,zsS]
 have hS := hS4
 refine rg_take 9 2 v' _ rfl rfl (by kernel_rfl) (by kernel_rfl) (by kernel_rfl) (fun _ _ _ h => h) (by rfl) (fun w' hw' => ?_) hS (listed' := bts 10 1023) (by kernel_rfl) rfl ?_
 ·go_simp
 simp only [zsA,zsZ,zsS]
 refine wpAnyH_done (by kernel_rfl) ?_ _
 clear hr
 go_wp2_with fail
 go_ret
 exact ⟨_,rfl,HO4.out,HB4.out⟩
theorem field_any (r : Fd) (w : World) (h : okF r = true) (hn : Is64 r.n) :
  Calls Tryz.prog 46 #[r.val] w fun e w' => ∃ v,e = .returned v ∧ w'.ownsRow w.heap.size 5 1 v (fieldN r).length (byteCells (fieldN r)) ∧ Below w.heap.size w w' := by
 rcases ok_cases h hn with ⟨t,n,rfl,h1,h2,h3⟩ | ⟨t,b,rfl,h1,h2,h3⟩
 ·rw [fieldN_num]; exact field_num t n _ w h1 h2 h3.1 h3.2
 ·rw [fieldN_text]; exact field_text t 0 b w h1 h2 h3
theorem all_take_snoc {rs : List Fd} {i : Nat} {r : Fd} (h : rs[i]? = some r) : rs.take (i + 1) = rs.take i ++ [r] := by
 rw [List.take_add_one,h]; rfl
theorem all_bad {rs : List Fd} {i : Nat} {r : Fd} (h : rs[i]? = some r) (hr : okF r = false) : rs.all okF = false := by
 rw [List.all_eq_false]
 exact ⟨r,List.mem_of_getElem? h,by simp [hr]⟩
theorem flat_take_le (rs : List Fd) (i : Nat) : (flatN (rs.take i)).length ≤ (flatN rs).length := by
 conv => rhs; rw [← List.take_append_drop i rs,flatN_app,List.length_append]
 omega
set_option maxHeartbeats 2000000 in
theorem wputall_any (a : Option Addr) (rs : List Fd) (N cap : Nat) (w : World) (hN : rs.length = N) (hadr : rs = [] ∨ ∃ g off,a = some ⟨g,off,none⟩) (hc : N ≤ cap) (hm : cap ≤ maxLen) (hl : N ≤ 1000000) (hh : HoldsR w a rs) (h64 : ∀ r ∈ rs,Is64 r.n) :
  Calls Tryz.prog 25 #[.slice a N cap] w fun e w' => ∃ v,e = .returned (.tuple #[v,.int .i64 ((putL rs).2 : Int)]) ∧ w'.ownsRow w.heap.size 5 1 v (putL rs).1.length (byteCells (putL rs).1) ∧ Below w.heap.size w w' := by
 have HN : Hid (rs.length = N) := hN
 have HA : Hid (rs = [] ∨ ∃ g off,a = some ⟨g,off,none⟩) := hadr
 have HH : Hid (HoldsR w a rs) := hh
 have H64 : Hid (∀ r ∈ rs,Is64 r.n) := h64
 obtain ⟨R,hR⟩ : ∃ R,putL rs = R := ⟨_,rfl⟩
 rw [hR]
 have HR : Hid (putL rs = R) := hR
 unfold maxLen at hm
 clear hN hadr hh h64 hR
 go_enter Tryz.func25,Tryz.ntmps25
 go_wp2_with fail
 go_loopw [11] (fun iv wr => ∃ i : Nat,iv = .int .i64 (i : Int) ∧ i ≤ N ∧ Hid ((rs.take i).all okF = true) ∧ Below w.heap.size w wr) (fun iv _ => N - (intOf iv).toNat)
 case atStart => exact ⟨0,rfl,by omega,(by rfl : ((rs.take 0).all okF = true)),Below.refl _ _⟩
 case round =>
  obtain ⟨i,rfl,hi,HT,hbel⟩ := hrel
  have hws := hbel.size
  by_cases hlt : i < N
  ·have hr : rs[i]? = some (rs[i]'(by rw [HN.out]; exact hlt)) := List.getElem?_eq_getElem _
   generalize rs[i]'(by rw [HN.out]; exact hlt) = r at hr
   rcases HA.out with h0 | ⟨g,off,rfl⟩
   ·exact absurd hlt (by have := HN.out; rw [h0] at this; simp at this; omega)
   obtain ⟨p0,p1,p2,p3⟩ := (HH.out.below hbel).at hr
   have HK : Hid (rs[i]? = some r) := hr
   obtain ⟨ok,hok⟩ : ∃ b,okF r = b := ⟨_,rfl⟩
   have HOK : Hid (okF r = ok) := hok
   have HCK : Hid (∀ W,Calls Tryz.prog 45 #[.agg #[.int .i64 r.tag,.int .i64 r.wire,.int .i64 r.n,.string r.b]] W fun e w' => e = .returned (.bool ok) ∧ Below W.heap.size W w') := fun W => by rw [← hok]; exact wchk_any r W
   clear hr hok
   generalize r.tag = t at p0 HCK
   generalize r.wire = k at p1 HCK
   generalize r.n = n at p2 HCK
   generalize r.b = b at p3 HCK
   go_wp2_with fail
   refine (HCK.out _).mono ?_
   rintro e w1 ⟨rfl,hb1⟩
   have hb1' : Below w.heap.size w w1 := (hbel.alloc hws _).trans (hb1.mono (by simp; omega))
   clear hb1 p0 p1 p2 p3 HCK hbel
   cases ok with
   | true =>
    have HT2 : Hid ((rs.take (i + 1)).all okF = true) := by
     show _ = _
     rw [all_take_snoc HK.out,List.all_append,HT.out,List.all_cons,HOK.out,List.all_nil]
     rfl
    clear HT HK HOK
    go_wp2_with fail
    go_roundw
    case rel => exact ⟨i + 1,by go_num,by omega,HT2,hb1'⟩
    case measure => simp [intOf]; omega
   | false =>
    obtain rfl : R = ([],1) := by rw [← HR.out]; exact putL_bad (all_bad HK.out HOK.out)
    clear HT HK HOK HR
    go_wp2_with fail
    go_ret2
    exact ⟨_,rfl,World.ownsRow_nil _ _ _ _,hb1'⟩
  ·obtain rfl : i = N := by omega
   have HALL : Hid (rs.all okF = true) := by
    have := HT.out
    rw [List.take_of_length_le (by rw [HN.out]; exact Nat.le_refl _)] at this
    exact this
   clear HT
   go_wp2_with fail
   go_loopw [6,21] (fun out iv wr' => ∃ i' : Nat,iv = .int .i64 (i' : Int) ∧ i' ≤ i ∧ Hid ((flatN (rs.take i')).length ≤ 4096) ∧ Hid (wr'.ownsRow w.heap.size 5 1 out (flatN (rs.take i')).length (byteCells (flatN (rs.take i')))) ∧ Below w.heap.size w wr') (fun _ iv _ => i - (intOf iv).toNat)
   case atStart => exact ⟨0,rfl,by omega,(by rw [List.take_zero,flatN_nil]; decide : (flatN (rs.take 0)).length ≤ 4096),by rw [List.take_zero,flatN_nil]; exact World.ownsRow_nil _ _ _ _,hbel⟩
   case round =>
    obtain ⟨j,rfl,hj,HL,HO,hbel2⟩ := hrel
    have hws2 := hbel2.size
    by_cases hlt2 : j < i
    ·have hr : rs[j]? = some (rs[j]'(by rw [HN.out]; exact hlt2)) := List.getElem?_eq_getElem _
     generalize rs[j]'(by rw [HN.out]; exact hlt2) = r at hr
     rcases HA.out with h0 | ⟨g,off,rfl⟩
     ·exact absurd hlt2 (by have := HN.out; rw [h0] at this; simp at this; omega)
     obtain ⟨p0,p1,p2,p3⟩ := (HH.out.below hbel2).at hr
     have hmem : r ∈ rs := List.mem_of_getElem? hr
     have hrok : okF r = true := List.all_eq_true.1 HALL.out r hmem
     have hr64 := H64.out r hmem
     have hfl := (fieldN_len hrok hr64).2
     have HFD : Hid (∀ W,Calls Tryz.prog 46 #[.agg #[.int .i64 r.tag,.int .i64 r.wire,.int .i64 r.n,.string r.b]] W fun e w' => ∃ v,e = .returned v ∧ w'.ownsRow W.heap.size 5 1 v (fieldN r).length (byteCells (fieldN r)) ∧ Below W.heap.size W w') := fun W => field_any r W hrok hr64
     have HF1 : Hid (flatN (rs.take (j + 1)) = flatN (rs.take j) ++ fieldN r) := by
      show _ = _
      rw [all_take_snoc hr,flatN_app,flatN_cons,flatN_nil,List.append_nil]
     clear hr hmem hrok hr64
     generalize r.tag = t at p0 HFD
     generalize r.wire = k at p1 HFD
     generalize r.n = n at p2 HFD
     generalize r.b = b at p3 HFD
     generalize fieldN r = fs at *
     have HLF : Hid (fs.length ≤ 4116) := hfl
     clear hfl
     obtain ⟨F,hF⟩ : ∃ F,flatN (rs.take j) = F := ⟨_,rfl⟩
     rw [hF] at HL HO HF1
     clear hF
     go_wp2_with fail
     refine (HFD.out _).mono ?_
     rintro e w1 ⟨v1,rfl,ho1,hb1⟩
     have hb1' : Below w.heap.size w w1 := (hbel2.alloc hws2 _).trans (hb1.mono (by simp; omega))
     have HO1 := own_belowH HO ((below_one _ _).trans (hb1.mono (by simp)))
     obtain ⟨a2,cap2,rfl, -,h21,h22,h23,h24⟩ := own_open ho1
     have HH2 : Hid (Holds w1 a2 fs) := h24
     have HA2 : Hid (a2 = none → fs = [] ∧ cap2 = 0) := by
      rcases h21 with h | ⟨g',h,_⟩
      ·exact fun _ => ⟨h.2.1,h.2.2⟩
      ·exact fun e => by rw [h] at e; cases e
     clear HO ho1 hb1 h21 h22 h23 h24 p0 p1 p2 p3 HFD hbel2
     obtain ⟨M,hM⟩ : ∃ M,fs.length = M := ⟨_,rfl⟩
     rw [hM]
     have HM : Hid (M = fs.length) := hM.symm
     clear hM
     go_wp2_with (first
      | (at_builtin; refine wpList_join rfl _ _ rfl w.heap.size _ _ F rfl HO1.out a2 fs M cap2 rfl HM.out HA2.out HH2.out ?c1 ?c2 ?_)
      | fail)
     case c1 => have := HL.out; have := HLF.out; omega
     case c2 => exact hb1'.size
     intro v3 w3 ho3 hg3
     have hb3 : Below w.heap.size w w3 := hb1'.grown hg3 hb1'.size (fun k hk => (HO1.out.lt k hk).1)
     obtain ⟨a3,cap3,rfl, -,h31,h32,h33,h34⟩ := own_open ho3
     have e0 : F.length + fs.length = (flatN (rs.take (j + 1))).length := by rw [HF1.out,List.length_append]
     rw [← HF1.out] at ho3 ⊢
     rw [e0] at ho3
     clear e0
     have HO3 : Hid (w3.ownsRow w.heap.size 5 1 (.slice a3 (flatN (rs.take (j + 1))).length cap3) (flatN (rs.take (j + 1))).length (byteCells (flatN (rs.take (j + 1))))) := ho3
     clear ho3 hg3 h31 h32 h33 h34 HO1 HH2 HA2 HM HL HLF HF1 hb1'
     by_cases hbig : 4096 < (flatN (rs.take (j + 1))).length
     ·obtain rfl : R = ([],4) := by rw [← HR.out]; exact putL_big HALL.out (Nat.lt_of_lt_of_le hbig (flat_take_le rs _))
      clear HR HO3
      generalize (flatN (rs.take (j + 1))).length = L at *
      go_wp2_with fail
      go_ret2
      exact ⟨_,rfl,World.ownsRow_nil _ _ _ _,hb3⟩
     ·have HL3 : Hid ((flatN (rs.take (j + 1))).length ≤ 4096) := by show _ ≤ _; omega
      obtain ⟨L,hLL⟩ : ∃ L,(flatN (rs.take (j + 1))).length = L := ⟨_,rfl⟩
      have hbig' : ¬ 4096 < L := by omega
      rw [hLL]
      have HLL : Hid ((flatN (rs.take (j + 1))).length = L) := hLL
      clear hbig hLL
      go_wp2_with fail
      go_roundw
      case rel => exact ⟨j + 1,by go_num,by omega,HL3,by rw [← HLL.out]; exact HO3,hb3⟩
      case measure => simp [intOf]; omega
    ·obtain rfl : j = i := by omega
     have hF : flatN (rs.take j) = flatN rs := by rw [List.take_of_length_le (by rw [HN.out]; exact Nat.le_refl _)]
     rw [hF] at HL HO
     obtain rfl : R = (flatN rs,0) := by rw [← HR.out]; exact putL_ok HALL.out HL.out
     clear HR hF
     go_wp2_with fail
     go_ret2
     exact ⟨_,rfl,HO.out,hbel2⟩
def RawsAt (B : Nat) (w : World) (v : Value) (rs : List Fd) : Prop := ∃ a cap,v = .slice a rs.length cap ∧ ((a = none ∧ rs = [] ∧ cap = 0) ∨ ∃ g,a = some ⟨g,0,none⟩ ∧ B ≤ g ∧ g < w.heap.size) ∧ rs.length ≤ cap ∧ cap ≤ maxLen ∧ HoldsR w a rs
theorem RawsAt.below {B : Nat} {w w1 : World} {v : Value} {rs : List Fd} (h : RawsAt B w v rs) (hb : Below w.heap.size w w1) : RawsAt B w1 v rs := by
 obtain ⟨a,cap,h1,h2,h3,h4,h5⟩ := h
 refine ⟨a,cap,h1,?_,h3,h4,h5.below hb⟩
 rcases h2 with h | ⟨g,g1,g2,g3⟩
 ·exact .inl h
 ·exact .inr ⟨g,g1,g2,Nat.lt_of_lt_of_le g3 hb.size⟩
theorem RawsAt.own {B : Nat} {w : World} {v : Value} {n : Nat} {rs : List Fd} (h : w.ownsRow B 61 4 v n (rawCells rs)) : RawsAt B w v rs := by
 obtain ⟨a,cap,h1,_,h2,h3,h4,h5⟩ := own_openR h
 exact ⟨a,cap,h1,h2,h3,h4,h5⟩
theorem RawsAt.nil (B : Nat) (w : World) : RawsAt B w (.slice none 0 0) [] := ⟨none,0,rfl,.inl ⟨rfl,rfl,rfl⟩,Nat.le_refl _,by decide,HoldsR.nil⟩
def FdsOk (rs : List Fd) : Prop := rs.length ≤ 1000000 ∧ ∀ r ∈ rs,Is64 r.n
def FlsP (W0 : World) (R : List Fd × Nat) (b : Nat) (w : World) (e : Ending) (w' : World) : Prop := ∃ v,e = .returned (.tuple #[v,.int .i64 (R.2 : Int)]) ∧ RawsAt w.heap.size w' v R.1 ∧ FdsOk R.1 ∧ KnE W0 w' b ∧ Kp (fun q => q = b) w w'
theorem putall_at {B : Nat} {w : World} {v : Value} {rs : List Fd} (h : RawsAt B w v rs) (hr : FdsOk rs) :
  Calls Tryz.prog 25 #[v] w fun e w' => ∃ v,e = .returned (.tuple #[v,.int .i64 ((putL rs).2 : Int)]) ∧ w'.ownsRow w.heap.size 5 1 v (putL rs).1.length (byteCells (putL rs).1) ∧ Below w.heap.size w w' := by
 obtain ⟨a,cap,rfl,h2,h3,h4,h5⟩ := h
 exact wputall_any a rs rs.length cap w rfl (own_adrR h2) h3 h4 hr.1 h5 hr.2
theorem BytP.of {W0 : World} {R : List Nat × Nat} {b : Nat} {w w' : World} {s : ByteArray} {e : Int} {ns : List Nat} (h : R = (ns,e.toNat)) (he : 0 ≤ e) (hs : s = strN ns) (h1 : KnE W0 w' b) (h2 : Kp (fun q => q = b) w w') : BytP W0 R b w (.returned (.tuple #[.string s,.int .i64 e])) w' := by
 subst h hs
 refine ⟨?_,h1,h2⟩
 simp only
 rw [Int.toNat_of_nonneg he]
set_option maxHeartbeats 4000000 in
theorem ebytes_step (W0 : World) (b m : Nat) (x : Tr) (K N : Int) (S : ByteArray) (a1 a2 : Option Addr) (n1 c1 n2 c2 : Nat) (w : World) (hx : TrW (m + 1) W0 (.agg #[.int .i64 K,.int .i64 N,.string S,.slice a1 n1 c1,.slice a2 n2 c2]) x)
  (IF : ∀ W,Below W0.heap.size W0 W → KnE W0 W b → Calls Tryz.prog 68 #[.agg #[.map (some b)],.agg #[.int .i64 K,.int .i64 N,.string S,.slice a1 n1 c1,.slice a2 n2 c2]] W (FlsP W0 (rwE (bytE m) x) b W))
  (h0 : Below W0.heap.size W0 w) (hk : KnE W0 w b) :
  Calls Tryz.prog 151 #[.agg #[.map (some b)],.agg #[.int .i64 K,.int .i64 N,.string S,.slice a1 n1 c1,.slice a2 n2 c2]] w (BytP W0 (bytE (m + 1) x) b w) := by
 obtain ⟨m',a1',c1',a2',c2',hmn,hv, -, -, -,u1,u2,x1,x2,x3,x4, -, -, -, -⟩ := hx.open
 simp only [Value.agg.injEq,Array.mk.injEq,List.cons.injEq,Value.int.injEq,Value.string.injEq,Value.slice.injEq,and_true,true_and] at hv
 obtain ⟨-, -, -,⟨rfl,hn1,rfl⟩,rfl,hn2,rfl⟩ := hv
 rw [← hn1] at u1 x3
 rw [← hn2] at x1 x4
 obtain ⟨R,hR⟩ : ∃ R,bytE (m + 1) x = R := ⟨_,rfl⟩
 rw [hR]
 have HR : Hid (bytE (m + 1) x = R) := hR
 have HR2 : Hid (ofR (rwE (bytE m) x) = R) := hR
 have hj := hx.trJ
 obtain ⟨⟨p1,m1⟩,hp1⟩ : ∃ z,plOf (.slice a1 n1 c1) = z := ⟨_,rfl⟩
 obtain ⟨⟨p2,m2⟩,hp2⟩ : ∃ z,plOf (.slice a2 n2 c2) = z := ⟨_,rfl⟩
 have hI := fun W => eidentity_any K N S a1 a2 n1 c1 n2 c2 W u1 u2 x3 x1 x2 x4
 rw [hp1,hp2] at hj hI
 have HJ : Hid (TrJ (m + 1) W0 ((p1,m1),(p2,m2)) x) := hj
 have HI : Hid (∀ W,Calls Tryz.prog 167 #[.agg #[.int .i64 K,.int .i64 N,.string S,.slice a1 n1 c1,.slice a2 n2 c2]] W fun e w' => e = .returned (.agg #[.pointer p1,.int .i64 (m1 : Int),.pointer p2,.int .i64 (m2 : Int)]) ∧ Below W.heap.size W w') := hI
 have HK : Hid (KnE W0 w b) := hk
 have H0 : Hid (Below W0.heap.size W0 w) := h0
 have HF : Hid (∀ W,Below W0.heap.size W0 W → KnE W0 W b → Calls Tryz.prog 68 #[.agg #[.map (some b)],.agg #[.int .i64 K,.int .i64 N,.string S,.slice a1 n1 c1,.slice a2 n2 c2]] W (FlsP W0 (rwE (bytE m) x) b W)) := IF
 have hlt := hk.lt
 obtain ⟨Z,hZ⟩ : ∃ Z,Z = (w.alloc (Obj.cells #[.map (some b)] 119)).alloc (Obj.cells #[.int .i64 K,.int .i64 N,.string S,.slice a1 n1 c1,.slice a2 n2 c2] 33) := ⟨_,rfl⟩
 have al1 : Below w.heap.size w (w.alloc (Obj.cells #[.map (some b)] 119)) := (Below.refl _ _).alloc (Nat.le_refl _) _
 have BE : Blk Z w.heap.size #[.map (some b)] 119 := by
  rw [hZ]
  exact (Blk.new w _ _).below ((Below.refl _ _).alloc (Nat.le_refl _) _)
 have BT : Blk Z (w.heap.size + 1) #[.int .i64 K,.int .i64 N,.string S,.slice a1 n1 c1,.slice a2 n2 c2] 33 := by
  rw [hZ]
  have := Blk.new (w.alloc (Obj.cells #[.map (some b)] 119)) #[.int .i64 K,.int .i64 N,.string S,.slice a1 n1 c1,.slice a2 n2 c2] 33
  rw [show (w.alloc (Obj.cells #[.map (some b)] 119)).heap.size = w.heap.size + 1 from by simp] at this
  exact this
 have hZb : Below w.heap.size w Z := by
  rw [hZ]
  exact al1.alloc (by simp) _
 clear hR al1 hx h0 hk IF hp1 hp2 hj hI u1 u2 x1 x2 x3 x4 hn1 hn2 hmn
 go_enter Tryz.func151,Tryz.ntmps151
 go_wp2_with fail
 rw [← hZ]
 clear hZ
 refine (HI.out _).mono ?_
 rintro e w1 ⟨rfl,hb1⟩
 have hbw1 : Below w.heap.size w w1 := hZb.trans (hb1.mono hZb.size)
 have BE1 := BE.below hb1
 have BT1 := BT.below hb1
 have HK1 : Hid (KnE W0 w1 b) := HK.out.below hbw1
 have H01 : Hid (Below W0.heap.size W0 w1) := H0.out.trans (hbw1.mono H0.out.size)
 clear BE BT hb1 hZb HI Z H0 HK
 obtain ⟨s,hs⟩ : ∃ s,w.heap.size = s := ⟨_,rfl⟩
 have HSZ : Hid (w.heap.size = s) := hs
 rw [hs] at BE1 BT1 hlt
 simp only [hs]
 clear hs
 have al2 : Below w1.heap.size w1 (w1.alloc (Obj.cells #[.pointer p1,.int .i64 (m1 : Int),.pointer p2,.int .i64 (m2 : Int)] 222)) := (Below.refl _ _).alloc (Nat.le_refl _) _
 have BE2 := BE1.below al2
 have BT2 := BT1.below al2
 have BI2 : Blk (w1.alloc (Obj.cells #[.pointer p1,.int .i64 (m1 : Int),.pointer p2,.int .i64 (m2 : Int)] 222)) w1.heap.size #[.pointer p1,.int .i64 (m1 : Int),.pointer p2,.int .i64 (m2 : Int)] 222 := Blk.new w1 _ _
 have HK2 : Hid (KnE W0 (w1.alloc (Obj.cells #[.pointer p1,.int .i64 (m1 : Int),.pointer p2,.int .i64 (m2 : Int)] 222)) b) := HK1.out.below al2
 have H02 : Hid (Below W0.heap.size W0 (w1.alloc (Obj.cells #[.pointer p1,.int .i64 (m1 : Int),.pointer p2,.int .i64 (m2 : Int)] 222))) := H01.out.trans (al2.mono H01.out.size)
 have hbw2 : Below w.heap.size w (w1.alloc (Obj.cells #[.pointer p1,.int .i64 (m1 : Int),.pointer p2,.int .i64 (m2 : Int)] 222)) := hbw1.trans (al2.mono hbw1.size)
 have e0 := (BE2.cell 0).trans rfl
 have i0 := (BI2.cell 0).trans rfl
 have i1 := (BI2.cell 1).trans rfl
 have i2 := (BI2.cell 2).trans rfl
 have i3 := (BI2.cell 3).trans rfl
 rcases HK2.out.look H02.out HJ.out with ⟨ns,hlk,hbv⟩ | hlk
 ·have HLK : Hid ((Instr.lookup 117 (.map (some b)) (.agg #[.pointer p1,.int .i64 (m1 : Int),.pointer p2,.int .i64 (m2 : Int)]) true).run Tryz.prog (w1.alloc (Obj.cells #[.pointer p1,.int .i64 (m1 : Int),.pointer p2,.int .i64 (m2 : Int)] 222)) = .ok (.tuple #[.agg #[.string (strN ns)],.bool true]) (w1.alloc (Obj.cells #[.pointer p1,.int .i64 (m1 : Int),.pointer p2,.int .i64 (m2 : Int)] 222))) := hlk
  have HV : Hid (R = (ns,0)) := (by rw [← HR.out,hbv] : R = _)
  have HT : Hid (∃ T,T = strN ns) := ⟨_,rfl⟩
  have HKE : Hid (∀ o,KnE W0 ((w1.alloc (Obj.cells #[.pointer p1,.int .i64 (m1 : Int),.pointer p2,.int .i64 (m2 : Int)] 222)).alloc o) b) := fun o => HK2.out.below ((Below.refl _ _).alloc (Nat.le_refl _) _)
  have HKW : Hid (∀ o,Kp (fun q => q = b) w ((w1.alloc (Obj.cells #[.pointer p1,.int .i64 (m1 : Int),.pointer p2,.int .i64 (m2 : Int)] 222)).alloc o)) := fun o => Kp.ofBelow (hbw2.alloc hbw2.size _)
  clear hlk hbv HF HR HR2 HJ HK1 H01 HK2 H02 hbw1 hbw2 al2 BE1 BT1 BE2 BT2 BI2
  obtain ⟨T,hT⟩ : ∃ T,strN ns = T := ⟨_,rfl⟩
  rw [hT] at HLK
  have HTT : Hid (T = strN ns) := hT.symm
  clear hT HT
  go_wp2_with (first | (at_lookup; refine wpList_lookup_pl rfl _ _ rfl rfl rfl HLK.out ?_) | fail)
  go_ret2
  exact BytP.of HV.out (by decide) HTT.out (HKE.out _) (HKW.out _)
 ·have HLK : Hid ((Instr.lookup 117 (.map (some b)) (.agg #[.pointer p1,.int .i64 (m1 : Int),.pointer p2,.int .i64 (m2 : Int)]) true).run Tryz.prog (w1.alloc (Obj.cells #[.pointer p1,.int .i64 (m1 : Int),.pointer p2,.int .i64 (m2 : Int)] 222)) = .ok (.tuple #[.agg #[.string ⟨#[]⟩],.bool false]) (w1.alloc (Obj.cells #[.pointer p1,.int .i64 (m1 : Int),.pointer p2,.int .i64 (m2 : Int)] 222))) := hlk
  have al3 : Below (w1.alloc (Obj.cells #[.pointer p1,.int .i64 (m1 : Int),.pointer p2,.int .i64 (m2 : Int)] 222)).heap.size (w1.alloc (Obj.cells #[.pointer p1,.int .i64 (m1 : Int),.pointer p2,.int .i64 (m2 : Int)] 222)) ((w1.alloc (Obj.cells #[.pointer p1,.int .i64 (m1 : Int),.pointer p2,.int .i64 (m2 : Int)] 222)).alloc (Obj.cells #[.string ⟨#[]⟩] 225)) := (Below.refl _ _).alloc (Nat.le_refl _) _
  have BE3 := BE2.below al3
  have BT3 := BT2.below al3
  have BI3 := BI2.below al3
  have HK3 : Hid (KnE W0 ((w1.alloc (Obj.cells #[.pointer p1,.int .i64 (m1 : Int),.pointer p2,.int .i64 (m2 : Int)] 222)).alloc (Obj.cells #[.string ⟨#[]⟩] 225)) b) := HK2.out.below al3
  have H03 : Hid (Below W0.heap.size W0 ((w1.alloc (Obj.cells #[.pointer p1,.int .i64 (m1 : Int),.pointer p2,.int .i64 (m2 : Int)] 222)).alloc (Obj.cells #[.string ⟨#[]⟩] 225))) := H02.out.trans (al3.mono H02.out.size)
  have HKW3 : Hid (Kp (fun q => q = b) w ((w1.alloc (Obj.cells #[.pointer p1,.int .i64 (m1 : Int),.pointer p2,.int .i64 (m2 : Int)] 222)).alloc (Obj.cells #[.string ⟨#[]⟩] 225))) := Kp.ofBelow (hbw2.trans (al3.mono hbw2.size))
  have HFC : Hid (Calls Tryz.prog 68 #[.agg #[.map (some b)],.agg #[.int .i64 K,.int .i64 N,.string S,.slice a1 n1 c1,.slice a2 n2 c2]] ((w1.alloc (Obj.cells #[.pointer p1,.int .i64 (m1 : Int),.pointer p2,.int .i64 (m2 : Int)] 222)).alloc (Obj.cells #[.string ⟨#[]⟩] 225)) (FlsP W0 (rwE (bytE m) x) b ((w1.alloc (Obj.cells #[.pointer p1,.int .i64 (m1 : Int),.pointer p2,.int .i64 (m2 : Int)] 222)).alloc (Obj.cells #[.string ⟨#[]⟩] 225)))) := HF.out _ H03.out HK3.out
  have k0 := (BE3.cell 0).trans rfl
  have t0 := (BT3.cell 0).trans rfl
  have t1 := (BT3.cell 1).trans rfl
  have t2 := (BT3.cell 2).trans rfl
  have t3 := (BT3.cell 3).trans rfl
  have t4 := (BT3.cell 4).trans rfl
  have hl1 : s + 1 < w1.heap.size := BT1.lt
  clear hlk HF HK1 H01 HK2 H02 hbw1 hbw2 al2 al3 BE1 BT1 BE2 BT2 BI2
  go_wp2_with (first | (at_lookup; refine wpList_lookup_pl rfl _ _ rfl rfl rfl HLK.out ?_) | fail)
  refine Calls.mono HFC.out ?_
  rintro ee w4 ⟨v4,rfl,hra,hok,hk4,hkp4⟩
  have hnb : w1.heap.size ≠ b := by omega
  have BE4 := BE3.kp hkp4 (by omega)
  have BI4 := BI3.kp hkp4 hnb
  have HK4 : Hid (KnE W0 w4 b) := hk4
  have H04 : Hid (Below W0.heap.size W0 w4) := HK3.out.frame H03.out hkp4
  have HKW4 : Hid (Kp (fun q => q = b) w w4) := HKW3.out.trans hkp4
  have HRA : Hid (RawsAt ((w1.alloc (Obj.cells #[.pointer p1,.int .i64 (m1 : Int),.pointer p2,.int .i64 (m2 : Int)] 222)).alloc (Obj.cells #[.string ⟨#[]⟩] 225)).heap.size w4 v4 (rwE (bytE m) x).1) := hra
  have HOK : Hid (FdsOk (rwE (bytE m) x).1) := hok
  clear HLK BE3 BT3 BI3 HK3 H03 HKW3 HFC k0 t0 t1 t2 t3 t4 hra hok hk4 hkp4 e0 i0 i1 i2 i3
  generalize ((w1.alloc (Obj.cells #[.pointer p1,.int .i64 (m1 : Int),.pointer p2,.int .i64 (m2 : Int)] 222)).alloc (Obj.cells #[.string ⟨#[]⟩] 225)).heap.size = B4 at *
  generalize rwE (bytE m) x = q at *
  obtain ⟨rs,er⟩ := q
  simp only at HRA HOK ⊢
  by_cases he : er = 0
  ·subst he
   have HPC : Hid (Calls Tryz.prog 25 #[v4] w4 fun e w' => ∃ v,e = .returned (.tuple #[v,.int .i64 ((putL rs).2 : Int)]) ∧ w'.ownsRow w4.heap.size 5 1 v (putL rs).1.length (byteCells (putL rs).1) ∧ Below w4.heap.size w4 w') := putall_at HRA.out HOK.out
   have HR3 : Hid (putL rs = R) := (by have := HR2.out; rw [ofR,if_neg (by simp)] at this; exact this : putL rs = R)
   rw [HR3.out] at HPC
   clear HR2 HRA HOK
   go_wp2_with fail
   refine Calls.mono HPC.out ?_
   rintro ee w5 ⟨v5,rfl,ho5,hb5⟩
   have BE5 := BE4.below hb5
   have BI5 := BI4.below hb5
   have HK5 : Hid (KnE W0 w5 b) := HK4.out.below hb5
   have H05 : Hid (Below W0.heap.size W0 w5) := H04.out.trans (hb5.mono H04.out.size)
   have HKW5 : Hid (Kp (fun q => q = b) w w5) := HKW4.out.trans (Kp.ofBelow hb5)
   have HCV : Hid ((convert 27 9 v5).run Tryz.prog w5 = .ok (.string (strN R.1)) w5) := conv_own ho5
   have HNR : Hid (R.2 ≠ 0 → R.1 = []) := (by rw [← HR3.out]; exact putL_none : R.2 ≠ 0 → R.1 = [])
   clear BE4 BI4 HK4 H04 HKW4 HPC HR3 ho5 hb5
   obtain ⟨ns,e2⟩ := R
   simp only at HCV HNR ⊢
   by_cases he2 : e2 = 0
   ·subst he2
    obtain ⟨T,hT⟩ : ∃ T,strN ns = T := ⟨_,rfl⟩
    rw [hT] at HCV
    have HTT : Hid (T = strN ns) := hT.symm
    have hcv := HCV.out
    have al6 : Below w5.heap.size w5 (w5.alloc (Obj.cells #[.string T] 225)) := (Below.refl _ _).alloc (Nat.le_refl _) _
    have BE6 := BE5.below al6
    have BI6 := BI5.below al6
    have BD6 : Blk (w5.alloc (Obj.cells #[.string T] 225)) w5.heap.size #[.string T] 225 := Blk.new w5 _ _
    obtain ⟨w7,g1,g2,g3⟩ := (HK5.out.below al6).update (H05.out.trans (al6.mono H05.out.size)) HJ.out (ns := ns) HR.out
    rw [hT] at g1
    have HUP : Hid ((Instr.mapUpdate 117 (.map (some b)) (.agg #[.pointer p1,.int .i64 (m1 : Int),.pointer p2,.int .i64 (m2 : Int)]) (.agg #[.string T])).run Tryz.prog (w5.alloc (Obj.cells #[.string T] 225)) = .ok () w7) := g1
    have HK7 : Hid (KnE W0 w7 b) := g2
    have HKW7 : Hid (Kp (fun q => q = b) w w7) := (HKW5.out.trans (Kp.ofBelow al6)).trans g3
    have BD7 := BD6.kp g3 (by have := HK5.out.lt; omega)
    have k0 := (BE6.cell 0).trans rfl
    have j0 := (BI6.cell 0).trans rfl
    have j1 := (BI6.cell 1).trans rfl
    have j2 := (BI6.cell 2).trans rfl
    have j3 := (BI6.cell 3).trans rfl
    have d0 := (BD7.cell 0).trans rfl
    clear hT HCV al6 BE5 BI5 BE6 BI6 BD6 HK5 H05 HKW5 g1 g2 g3 BD7 HR
    go_wp2_with (first | (at_mapUpdate; refine wpList_update_pl rfl _ _ _ rfl rfl rfl rfl HUP.out ?_) | fail)
    go_ret2
    exact BytP.of rfl (by decide) HTT.out HK7.out HKW7.out
   ·have hd : ((e2 : Int) != 0) = true := by simp; omega
    have HNS : Hid (ns = []) := HNR.out he2
    clear he2 HCV HNR HR
    go_wp2_with fail
    go_ret2
    exact BytP.of rfl (by omega) (by rw [HNS.out]; rfl) HK5.out HKW5.out
  ·have hd : ((er : Int) != 0) = true := by simp; omega
   have HR3 : Hid (R = ([],((er : Int)).toNat)) := (by have := HR2.out; rw [ofR,if_pos he] at this; exact this.symm : R = _)
   clear he HR2 HRA HOK HR
   go_wp2_with fail
   go_ret2
   exact BytP.of HR3.out (by omega) rfl HK4.out HKW4.out
end Go.Proofs.YtiajaocckkghgaaGreat

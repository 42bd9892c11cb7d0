/- Part 5 of what the proof stands on. -/
import Derived.Test.YtmgbhicogmclgaaGreatPkWAD
namespace Go.Proofs.YtmgbhicogmclgaaGreat
set_option maxHeartbeats 8000000
set_option linter.unusedVariables false
set_option linter.unusedSimpArgs false
set_option maxRecDepth 20000
section
open Go.ChangeShapes Go.WideShapes Go.ChangeAt Go.RowKit
theorem pplaceE_any (a : Option Addr) (N cap : Nat) (w : World) (h1 : N ≤ cap) (h2 : cap ≤ maxLen) (h3 : N = 0 ∨ ∃ g off,a = some ⟨g,off,none⟩) :
  Calls Tryz.prog 79 #[.slice a N cap] w fun e w' => e = .returned (plV (plOf (.slice a N cap))) ∧ Below w.heap.size w w' := by
 unfold maxLen at h2
 by_cases hN : N = 0
 ·subst hN
  go_enter Tryz.func79,Tryz.ntmps79
  go_wp2_with fail;refine bodyPost_ret (results_cell rfl _ _ _ ⟨w.heap.size,0,none⟩ (.agg #[.pointer none,.int .i64 0]) (by go_simp) (by go_simp)) rfl ⟨by simp [plV,plOf],bra _⟩
 ·obtain ⟨g,off,rfl⟩ : ∃ g off,a = some ⟨g,off,none⟩ := by
   rcases h3 with h | h
   ·exact absurd h hN
   ·exact h
  have hd : ((N : Int) == 0) = false := by simp; omega
  have hp : 0 < N := by omega
  go_enter Tryz.func79,Tryz.ntmps79
  go_wp2_with fail;refine bodyPost_ret (results_cell rfl _ _ _ ⟨w.heap.size,0,none⟩ (.agg #[.pointer (some ⟨g,off,none⟩),.int .i64 (N : Int)]) (by go_simp) (by go_simp)) rfl ⟨by simp [plV,plOf,hN],bra _⟩
theorem pplaceR_any (a : Option Addr) (N cap : Nat) (w : World) (h1 : N ≤ cap) (h2 : cap ≤ maxLen) (h3 : N = 0 ∨ ∃ g off,a = some ⟨g,off,none⟩) :
  Calls Tryz.prog 80 #[.slice a N cap] w fun e w' => e = .returned (plV (plOf (.slice a N cap))) ∧ Below w.heap.size w w' := by
 unfold maxLen at h2
 by_cases hN : N = 0
 ·subst hN
  go_enter Tryz.func80,Tryz.ntmps80
  go_wp2_with fail;refine bodyPost_ret (results_cell rfl _ _ _ ⟨w.heap.size,0,none⟩ (.agg #[.pointer none,.int .i64 0]) (by go_simp) (by go_simp)) rfl ⟨by simp [plV,plOf],bra _⟩
 ·obtain ⟨g,off,rfl⟩ : ∃ g off,a = some ⟨g,off,none⟩ := by
   rcases h3 with h | h
   ·exact absurd h hN
   ·exact h
  have hd : ((N : Int) == 0) = false := by simp; omega
  have hp : 0 < N := by omega
  go_enter Tryz.func80,Tryz.ntmps80
  go_wp2_with fail;refine bodyPost_ret (results_cell rfl _ _ _ ⟨w.heap.size,0,none⟩ (.agg #[.pointer (some ⟨g,off,none⟩),.int .i64 (N : Int)]) (by go_simp) (by go_simp)) rfl ⟨by simp [plV,plOf,hN],bra _⟩
theorem pidentity_any (K N : Int) (S : ByteArray) (a1 a2 : Option Addr) (n1 c1 n2 c2 : Nat) (w : World) (h1 : n1 ≤ c1) (h2 : c1 ≤ maxLen) (h3 : n1 = 0 ∨ ∃ g off,a1 = some ⟨g,off,none⟩) (h4 : n2 ≤ c2) (h5 : c2 ≤ maxLen) (h6 : n2 = 0 ∨ ∃ g off,a2 = some ⟨g,off,none⟩) :
  Calls Tryz.prog 45 #[.agg #[.int .i64 K,.int .i64 N,.string S,.slice a1 n1 c1,.slice a2 n2 c2]] w fun e w' => e = .returned (pidV (plOf (.slice a1 n1 c1),plOf (.slice a2 n2 c2))) ∧ Below w.heap.size w w' := by
 obtain ⟨⟨p1,m1⟩,hp1⟩ : ∃ x,plOf (.slice a1 n1 c1) = x := ⟨_,rfl⟩;obtain ⟨⟨p2,m2⟩,hp2⟩ : ∃ x,plOf (.slice a2 n2 c2) = x := ⟨_,rfl⟩
 have HE : Hid (∀ W,Calls Tryz.prog 79 #[.slice a1 n1 c1] W fun e w' => e = .returned (.agg #[.pointer p1,.int .i64 (m1 : Int)]) ∧ Below W.heap.size W w') := fun W => by
  have := pplaceE_any a1 n1 c1 W h1 h2 h3;rw [hp1] at this;exact this
 have HR : Hid (∀ W,Calls Tryz.prog 80 #[.slice a2 n2 c2] W fun e w' => e = .returned (.agg #[.pointer p2,.int .i64 (m2 : Int)]) ∧ Below W.heap.size W w') := fun W => by
  have := pplaceR_any a2 n2 c2 W h4 h5 h6;rw [hp2] at this;exact this
 rw [hp1,hp2];clear hp1 hp2 h1 h2 h3 h4 h5 h6;have B0 : Blk ((w.alloc (Obj.cells #[.int .i64 K,.int .i64 N,.string S,.slice a1 n1 c1,.slice a2 n2 c2] 30)).alloc (Obj.cells #[.pointer none,.int .i64 0,.pointer none,.int .i64 0] 105)) w.heap.size #[.int .i64 K,.int .i64 N,.string S,.slice a1 n1 c1,.slice a2 n2 c2] 30 := (Blk.new w _ _).below (bra _)
 have B1 : Blk ((w.alloc (Obj.cells #[.int .i64 K,.int .i64 N,.string S,.slice a1 n1 c1,.slice a2 n2 c2] 30)).alloc (Obj.cells #[.pointer none,.int .i64 0,.pointer none,.int .i64 0] 105)) (w.heap.size + 1) #[.pointer none,.int .i64 0,.pointer none,.int .i64 0] 105 := by
  have := Blk.new (w.alloc (Obj.cells #[.int .i64 K,.int .i64 N,.string S,.slice a1 n1 c1,.slice a2 n2 c2] 30)) #[.pointer none,.int .i64 0,.pointer none,.int .i64 0] 105
  rwa [show (w.alloc (Obj.cells #[.int .i64 K,.int .i64 N,.string S,.slice a1 n1 c1,.slice a2 n2 c2] 30)).heap.size = w.heap.size + 1 from by simp] at this
 have hb : Below w.heap.size w ((w.alloc (Obj.cells #[.int .i64 K,.int .i64 N,.string S,.slice a1 n1 c1,.slice a2 n2 c2] 30)).alloc (Obj.cells #[.pointer none,.int .i64 0,.pointer none,.int .i64 0] 105)) := (bra _).alloc (by simp) _
 go_enter Tryz.func45,Tryz.ntmps45
 go_wp2_with fail;generalize ((w.alloc (Obj.cells #[.int .i64 K,.int .i64 N,.string S,.slice a1 n1 c1,.slice a2 n2 c2] 30)).alloc (Obj.cells #[.pointer none,.int .i64 0,.pointer none,.int .i64 0] 105)) = W0 at *;obtain ⟨b0,hb0⟩ : ∃ b,w.heap.size = b := ⟨_,rfl⟩;have HBZ : Hid (w.heap.size = b0) := hb0;rw [hb0] at B0 B1;simp only [hb0];clear hb0;have hTb : ∀ W,Below W0.heap.size W0 W → W.cell? ⟨b0,3,none⟩ = some (.slice a1 n1 c1) ∧ W.cell? ⟨b0,4,none⟩ = some (.slice a2 n2 c2) := fun W hW => ⟨(B0.below hW).cell 3,(B0.below hW).cell 4⟩
 refine M_region (T := fun W => W.cell? ⟨b0,3,none⟩ = some (.slice a1 n1 c1) ∧ W.cell? ⟨b0,4,none⟩ = some (.slice a2 n2 c2)) (m := 7) (by kernel_rfl) ?_;have hd : Below W0.heap.size W0 W0.drew := (Below.refl _ _).drew;have hS := hTb _ hd;refine M_tk 0 3 (.pointer (some ⟨b0,3,none⟩)) (fun w' hw' => ?_) hS (bts 8 1) ?_
 ·go_simp
 refine M_tk 1 4 (.slice a1 n1 c1) (fun w' hw' => ?_) hS (bts 8 3) ?_
 ·obtain ⟨f3,f4⟩ := hw'; go_simp
 refine M_tk 3 6 (.pointer (some ⟨b0,4,none⟩)) (fun w' hw' => ?_) hS (bts 8 11) ?_
 ·go_simp
 refine M_tk 4 7 (.slice a2 n2 c2) (fun w' hw' => ?_) hS (bts 8 27) ?_
 ·obtain ⟨f3,f4⟩ := hw'; go_simp
 refine M_cl 2 5 79 #[.slice a1 n1 c1] (bts 8 31) rfl (fun W => by go_simp) ?_;refine (HE.out _).mono ?_;rintro e W1 ⟨rfl,hb1⟩;have hd1 : Below W0.heap.size W0 W1 := hd.trans (hb1.mono hd.size);have hS := hTb _ hd1;refine ⟨_,rfl,hS,?_⟩;simp only [zsA,zsZ,zsS];refine M_cl 5 8 80 #[.slice a2 n2 c2] (bts 8 63) rfl (fun W => by go_simp) ?_;refine (HR.out _).mono ?_;rintro e W2 ⟨rfl,hb2⟩;have hd2 : Below W0.heap.size W0 W2 := hd1.trans (hb2.mono hd1.size);have hS := hTb _ hd2;refine ⟨_,rfl,hS,?_⟩;simp only [zsA,zsZ,zsS];refine M_tk 6 9 (.agg #[.pointer p1,.int .i64 (m1 : Int),.pointer p2,.int .i64 (m2 : Int)]) (fun w' hw' => ?_) hS (bts 8 127) ?_
 ·go_simp
 have BR := B1.below hd2;have r0 := (BR.cell 0).trans rfl;have z0 := BR.froz 0;have r1 := (BR.cell 1).trans rfl;have z1 := BR.froz 1;have r2 := (BR.cell 2).trans rfl;have z2 := BR.froz 2;have r3 := (BR.cell 3).trans rfl;have z3 := BR.froz 3;refine M_st 7 ((((W2.setCell ⟨b0 + 1,0,none⟩ (.pointer p1)).setCell ⟨b0 + 1,1,none⟩ (.int .i64 (m1 : Int))).setCell ⟨b0 + 1,2,none⟩ (.pointer p2)).setCell ⟨b0 + 1,3,none⟩ (.int .i64 (m2 : Int))) (bts 8 255) rfl (by go_simp) ?_;refine M_done (by kernel_rfl) ?_ _;have BR0 : Blk (W2.setCell ⟨b0 + 1,0,none⟩ (.pointer p1)) (b0 + 1) #[.pointer p1,.int .i64 0,.pointer none,.int .i64 0] 105 := BR.set 0 _ rfl;have BR1 : Blk ((W2.setCell ⟨b0 + 1,0,none⟩ (.pointer p1)).setCell ⟨b0 + 1,1,none⟩ (.int .i64 (m1 : Int))) (b0 + 1) #[.pointer p1,.int .i64 (m1 : Int),.pointer none,.int .i64 0] 105 := BR0.set 1 _ rfl;have BR2 : Blk (((W2.setCell ⟨b0 + 1,0,none⟩ (.pointer p1)).setCell ⟨b0 + 1,1,none⟩ (.int .i64 (m1 : Int))).setCell ⟨b0 + 1,2,none⟩ (.pointer p2)) (b0 + 1) #[.pointer p1,.int .i64 (m1 : Int),.pointer p2,.int .i64 0] 105 := BR1.set 2 _ rfl;have BR3 : Blk ((((W2.setCell ⟨b0 + 1,0,none⟩ (.pointer p1)).setCell ⟨b0 + 1,1,none⟩ (.int .i64 (m1 : Int))).setCell ⟨b0 + 1,2,none⟩ (.pointer p2)).setCell ⟨b0 + 1,3,none⟩ (.int .i64 (m2 : Int))) (b0 + 1) #[.pointer p1,.int .i64 (m1 : Int),.pointer p2,.int .i64 (m2 : Int)] 105 := BR2.set 3 _ rfl;have hbe : Below w.heap.size w W2 := hb.trans (hd2.mono hb.size);have hbe0 : Below w.heap.size w (W2.setCell ⟨b0 + 1,0,none⟩ (.pointer p1)) := Below.setCell (p := ⟨b0 + 1,0,none⟩) hbe (by have := HBZ.out; show w.heap.size ≤ b0 + 1; omega) _;have hbe1 : Below w.heap.size w ((W2.setCell ⟨b0 + 1,0,none⟩ (.pointer p1)).setCell ⟨b0 + 1,1,none⟩ (.int .i64 (m1 : Int))) := Below.setCell (p := ⟨b0 + 1,1,none⟩) hbe0 (by have := HBZ.out; show w.heap.size ≤ b0 + 1; omega) _;have hbe2 : Below w.heap.size w (((W2.setCell ⟨b0 + 1,0,none⟩ (.pointer p1)).setCell ⟨b0 + 1,1,none⟩ (.int .i64 (m1 : Int))).setCell ⟨b0 + 1,2,none⟩ (.pointer p2)) := Below.setCell (p := ⟨b0 + 1,2,none⟩) hbe1 (by have := HBZ.out; show w.heap.size ≤ b0 + 1; omega) _;have hbe3 : Below w.heap.size w ((((W2.setCell ⟨b0 + 1,0,none⟩ (.pointer p1)).setCell ⟨b0 + 1,1,none⟩ (.int .i64 (m1 : Int))).setCell ⟨b0 + 1,2,none⟩ (.pointer p2)).setCell ⟨b0 + 1,3,none⟩ (.int .i64 (m2 : Int))) := Below.setCell (p := ⟨b0 + 1,3,none⟩) hbe2 (by have := HBZ.out; show w.heap.size ≤ b0 + 1; omega) _;clear r0 z0 r1 z1 r2 z2 r3 z3 BR0 hbe0 BR1 hbe1 BR2 hbe2 BR hbe hS;generalize ((((W2.setCell ⟨b0 + 1,0,none⟩ (.pointer p1)).setCell ⟨b0 + 1,1,none⟩ (.int .i64 (m1 : Int))).setCell ⟨b0 + 1,2,none⟩ (.pointer p2)).setCell ⟨b0 + 1,3,none⟩ (.int .i64 (m2 : Int))) = W3 at *;obtain ⟨r0,r1,r2,r3⟩ := cl4 BR3;go_wp2_with fail;refine bodyPost_ret (results_cell rfl _ _ _ ⟨b0 + 1,0,none⟩ (.agg #[.pointer p1,.int .i64 (m1 : Int),.pointer p2,.int .i64 (m2 : Int)]) (by go_simp) (by go_simp)) rfl ⟨rfl,hbe3⟩
end
section
open Go.ChangeShapes Go.WideShapes Go.ChangeAt Go.RowKit Go.Maps
theorem cfield_any {w : World} {snm : ByteArray} {nm : Int} {am : Option Addr} {M cm : Nat} {vt : Value} {ts : List FlS} (hr : RowG w vt 5 (flRows ts)) :
  Calls Tryz.prog 81 #[.agg #[.string snm,vt,.slice am M cm],.int .i64 nm] w fun e w' => e = .returned (.tuple #[flV ((ts.find? fun m => decide (m.tag = nm)).getD zeroF),.bool (ts.find? fun m => decide (m.tag = nm)).isSome]) ∧ Below w.heap.size w w' := by
 obtain ⟨a,c,rfl,q1,q2⟩ := hr.form2
 have hN : (flRows ts).length = ts.length := by simp [flRows]
 rw [hN] at hr q1 ⊢;clear hN;obtain ⟨N,hN⟩ : ∃ N,ts.length = N := ⟨_,rfl⟩;rw [hN] at hr q1 ⊢;have HN : Hid (ts.length = N) := hN;have HR : Hid (RowG w (.slice a N c) 5 (flRows ts)) := hr;clear hN hr;obtain ⟨A,hA⟩ : ∃ A,(ts.find? fun m => decide (m.tag = nm)) = A := ⟨_,rfl⟩;rw [hA];have HA : Hid (A = ((ts.drop 0).find? fun m => decide (m.tag = nm))) := hA.symm;clear hA;have BX0 : Blk ((w.alloc (.cells #[.string snm,.slice a N c,.slice am M cm] 52)).alloc (.cells #[.string ⟨#[]⟩,.int .i64 0,.int .i64 0,.int .i64 0,.string ⟨#[]⟩] 56)) w.heap.size #[.string snm,.slice a N c,.slice am M cm] 52 := (Blk.new w _ _).below (bra _)
 have BR0 : Blk ((w.alloc (.cells #[.string snm,.slice a N c,.slice am M cm] 52)).alloc (.cells #[.string ⟨#[]⟩,.int .i64 0,.int .i64 0,.int .i64 0,.string ⟨#[]⟩] 56)) (w.heap.size + 1) #[.string ⟨#[]⟩,.int .i64 0,.int .i64 0,.int .i64 0,.string ⟨#[]⟩] 56 := by
  have := Blk.new (w.alloc (.cells #[.string snm,.slice a N c,.slice am M cm] 52)) #[.string ⟨#[]⟩,.int .i64 0,.int .i64 0,.int .i64 0,.string ⟨#[]⟩] 56
  rwa [show (w.alloc (.cells #[.string snm,.slice a N c,.slice am M cm] 52)).heap.size = w.heap.size + 1 by simp] at this
 have hb0 : Below w.heap.size w ((w.alloc (.cells #[.string snm,.slice a N c,.slice am M cm] 52)).alloc (.cells #[.string ⟨#[]⟩,.int .i64 0,.int .i64 0,.int .i64 0,.string ⟨#[]⟩] 56)) := (bra _).alloc (by simp) _
 go_enter Tryz.func81,Tryz.ntmps81
 go_wp2_with fail
 go_loopw [11] (fun iv wr => ∃ k : Nat,iv = .int .i64 (k : Int) ∧ k ≤ N ∧ Hid (A = ((ts.drop k).find? fun m => decide (m.tag = nm))) ∧ Below w.heap.size w wr ∧ Blk wr (w.heap.size + 1) #[.string ⟨#[]⟩,.int .i64 0,.int .i64 0,.int .i64 0,.string ⟨#[]⟩] 56) (fun iv _ => N - (intOf iv).toNat)
 case atStart => exact ⟨0,rfl,by omega,HA,hb0,BR0⟩
 case round =>
  obtain ⟨k,rfl,hk,HAk,hbel,BR⟩ := hrel;clear BX0 BR0 hb0;have hlt2 : w.heap.size + 1 < wr.heap.size := BR.lt;obtain ⟨r0,r1,r2,r3,r4⟩ := cl5 BR;obtain ⟨z0,z1,z2,z3,z4⟩ := fz5 BR
  by_cases hlt : k < N
  ·obtain ⟨f,hf⟩ : ∃ n,ts[k]? = some n := ⟨_,List.getElem?_eq_getElem (by rw [HN.out]; exact hlt)⟩
   have hrr : (flRows ts)[k]? = some f.cells := by simp [flRows,hf]
   obtain ⟨g,off,rfl,c1⟩ := (HR.out.below hbel).get hrr;obtain ⟨f0,f1,f2,f3,f4⟩ := f
   have HA2 : Hid (A = if decide (f1 = nm) = true then some ⟨f0,f1,f2,f3,f4⟩ else ((ts.drop (k + 1)).find? fun m => decide (m.tag = nm))) := by
    show _ = _
    rw [HAk.out,drop_at hf,List.find?_cons]
    cases decide (f1 = nm) <;> rfl
   have p0 := c1 0 _ rfl;have p1 := c1 1 _ rfl;have p2 := c1 2 _ rfl;have p3 := c1 3 _ rfl;have p4 := c1 4 _ rfl;simp only [Nat.add_zero] at p0 p1 p2 p3 p4;clear c1 hrr hf HAk
   by_cases he : f1 = nm
   ·subst he;go_wp2_with fail;refine bodyPost_ret (results_two rfl _ _ _ ⟨w.heap.size + 1,0,none⟩ (.agg #[.string f0,.int .i64 f1,.int .i64 f2,.int .i64 f3,.string f4]) (by go_simp) (by go_simp)) rfl ?_;exact ⟨ret_two (by rw [HA2.out,if_pos (by simp)]; rfl) (by rw [HA2.out,if_pos (by simp)]; rfl),(Below.alloc (Below.setCell (Below.setCell (Below.setCell (Below.setCell (Below.setCell hbel (by simp) _) (by simp) _) (by simp) _) (by simp) _) (by simp) _) (by simp; omega) _)⟩
   ·have hq : (f1 == nm) = false := by simpa using he
    have HA3 : Hid (A = ((ts.drop (k + 1)).find? fun m => decide (m.tag = nm))) := by show _ = _; rw [HA2.out,if_neg (by simpa using he)]
    have hb2 : Below w.heap.size w (wr.alloc (.cells #[.string f0,.int .i64 f1,.int .i64 f2,.int .i64 f3,.string f4] 56)) := hbel.alloc (by omega) _;have BR2 : Blk (wr.alloc (.cells #[.string f0,.int .i64 f1,.int .i64 f2,.int .i64 f3,.string f4] 56)) (w.heap.size + 1) #[.string ⟨#[]⟩,.int .i64 0,.int .i64 0,.int .i64 0,.string ⟨#[]⟩] 56 := BR.below (bra _);go_wp2_with fail
    go_roundw
    case rel => exact ⟨k + 1,by go_num,by omega,HA3,hb2,BR2⟩
    case measure => simp [intOf]; omega
  ·have HA2 : Hid (A = none) := by show _ = _; rw [HAk.out,drop_end (by rw [HN.out]; omega)]; rfl
   go_wp2_with fail;refine bodyPost_ret (results_two rfl _ _ _ ⟨w.heap.size + 1,0,none⟩ (.agg #[.string ⟨#[]⟩,.int .i64 0,.int .i64 0,.int .i64 0,.string ⟨#[]⟩]) (by go_simp) (by go_simp)) rfl ?_;exact ⟨ret_two (by rw [HA2.out]; rfl) (by rw [HA2.out]; rfl),(Below.setCell (Below.setCell (Below.setCell (Below.setCell (Below.setCell hbel (by simp) _) (by simp) _) (by simp) _) (by simp) _) (by simp) _)⟩
end
section
open Go.ChangeShapes Go.WideShapes Go.ChangeAt Go.RowKit
theorem number_any (k n : Int) (nm : ByteArray) (w : World) : Calls Tryz.prog 111 #[.agg #[.int .i64 k,.string nm],.int .i64 n] w fun e w' => e = .returned (.bool (nmrB k n)) ∧ Below w.heap.size w w' := by
 have hb : Below w.heap.size w (w.alloc (Obj.cells #[.int .i64 k,.string nm] 54)) := bra _
 have rng : n < -2147483648 ∨ (-2147483648 ≤ n ∧ n < 0) ∨ (0 ≤ n ∧ n ≤ 1) ∨ (1 < n ∧ n ≤ 2147483647) ∨ 2147483647 < n := by omega
 have kk : k = 3 ∨ k = 6 ∨ k = 1 ∨ k = 2 ∨ (¬ k = 3 ∧ ¬ k = 6 ∧ ¬ k = 1 ∧ ¬ k = 2) := by omega
 rcases rng with g | g | g | g | g
 ·have f1 : decide (1 < n) = false := by simp; omega
  have f2 : decide (n < 0) = true := by simp; omega
  have f3 : decide (n < -2147483648) = true := by simp; omega
  have f4 : decide (2147483647 < n) = false := by simp; omega
  rcases kk with rfl | rfl | rfl | rfl | ⟨h3,h6,h1,h2⟩
  ·have hr : nmrB 3 n = false := by simp [nmrB]; omega
   rw [hr];clear hr g
   go_enter Tryz.func111,Tryz.ntmps111
   go_wp2_with fail;go_ret;exact ⟨rfl,hb⟩
  ·have hr : nmrB 6 n = false := by simp [nmrB]; omega
   rw [hr];clear hr g
   go_enter Tryz.func111,Tryz.ntmps111
   go_wp2_with fail;go_ret;exact ⟨rfl,hb⟩
  ·have hr : nmrB 1 n = false := by simp [nmrB]; omega
   rw [hr];clear hr g
   go_enter Tryz.func111,Tryz.ntmps111
   go_wp2_with fail;go_ret;exact ⟨rfl,hb⟩
  ·have hr : nmrB 2 n = true := by simp [nmrB]
   rw [hr];clear hr g
   go_enter Tryz.func111,Tryz.ntmps111
   go_wp2_with fail;go_ret;exact ⟨rfl,hb⟩
  ·have e1 : (k == 1) = false := by simpa using h1
   have e2 : (k == 2) = false := by simpa using h2
   have e3 : (k == 3) = false := by simpa using h3
   have e6 : (k == 6) = false := by simpa using h6
   have hr : nmrB k n = false := by simp [nmrB,h3,h6,h1,h2]
   rw [hr];clear h1 h2 h3 h6 hr g
   go_enter Tryz.func111,Tryz.ntmps111
   go_wp2_with fail;go_ret;exact ⟨rfl,hb⟩
 ·have f1 : decide (1 < n) = false := by simp; omega
  have f2 : decide (n < 0) = true := by simp; omega
  have f3 : decide (n < -2147483648) = false := by simp; omega
  have f4 : decide (2147483647 < n) = false := by simp; omega
  rcases kk with rfl | rfl | rfl | rfl | ⟨h3,h6,h1,h2⟩
  ·have hr : nmrB 3 n = false := by simp [nmrB]; omega
   rw [hr];clear hr g
   go_enter Tryz.func111,Tryz.ntmps111
   go_wp2_with fail;go_ret;exact ⟨rfl,hb⟩
  ·have hr : nmrB 6 n = false := by simp [nmrB]; omega
   rw [hr];clear hr g
   go_enter Tryz.func111,Tryz.ntmps111
   go_wp2_with fail;go_ret;exact ⟨rfl,hb⟩
  ·have hr : nmrB 1 n = true := by simp [nmrB]; omega
   rw [hr];clear hr g
   go_enter Tryz.func111,Tryz.ntmps111
   go_wp2_with fail;go_ret;exact ⟨rfl,hb⟩
  ·have hr : nmrB 2 n = true := by simp [nmrB]
   rw [hr];clear hr g
   go_enter Tryz.func111,Tryz.ntmps111
   go_wp2_with fail;go_ret;exact ⟨rfl,hb⟩
  ·have e1 : (k == 1) = false := by simpa using h1
   have e2 : (k == 2) = false := by simpa using h2
   have e3 : (k == 3) = false := by simpa using h3
   have e6 : (k == 6) = false := by simpa using h6
   have hr : nmrB k n = false := by simp [nmrB,h3,h6,h1,h2]
   rw [hr];clear h1 h2 h3 h6 hr g
   go_enter Tryz.func111,Tryz.ntmps111
   go_wp2_with fail;go_ret;exact ⟨rfl,hb⟩
 ·have f1 : decide (1 < n) = false := by simp; omega
  have f2 : decide (n < 0) = false := by simp; omega
  have f3 : decide (n < -2147483648) = false := by simp; omega
  have f4 : decide (2147483647 < n) = false := by simp; omega
  rcases kk with rfl | rfl | rfl | rfl | ⟨h3,h6,h1,h2⟩
  ·have hr : nmrB 3 n = true := by simp [nmrB]; omega
   rw [hr];clear hr g
   go_enter Tryz.func111,Tryz.ntmps111
   go_wp2_with fail;go_ret;exact ⟨rfl,hb⟩
  ·have hr : nmrB 6 n = true := by simp [nmrB]; omega
   rw [hr];clear hr g
   go_enter Tryz.func111,Tryz.ntmps111
   go_wp2_with fail;go_ret;exact ⟨rfl,hb⟩
  ·have hr : nmrB 1 n = true := by simp [nmrB]; omega
   rw [hr];clear hr g
   go_enter Tryz.func111,Tryz.ntmps111
   go_wp2_with fail;go_ret;exact ⟨rfl,hb⟩
  ·have hr : nmrB 2 n = true := by simp [nmrB]
   rw [hr];clear hr g
   go_enter Tryz.func111,Tryz.ntmps111
   go_wp2_with fail;go_ret;exact ⟨rfl,hb⟩
  ·have e1 : (k == 1) = false := by simpa using h1
   have e2 : (k == 2) = false := by simpa using h2
   have e3 : (k == 3) = false := by simpa using h3
   have e6 : (k == 6) = false := by simpa using h6
   have hr : nmrB k n = false := by simp [nmrB,h3,h6,h1,h2]
   rw [hr];clear h1 h2 h3 h6 hr g
   go_enter Tryz.func111,Tryz.ntmps111
   go_wp2_with fail;go_ret;exact ⟨rfl,hb⟩
 ·have f1 : decide (1 < n) = true := by simp; omega
  have f2 : decide (n < 0) = false := by simp; omega
  have f3 : decide (n < -2147483648) = false := by simp; omega
  have f4 : decide (2147483647 < n) = false := by simp; omega
  rcases kk with rfl | rfl | rfl | rfl | ⟨h3,h6,h1,h2⟩
  ·have hr : nmrB 3 n = false := by simp [nmrB]; omega
   rw [hr];clear hr g
   go_enter Tryz.func111,Tryz.ntmps111
   go_wp2_with fail;go_ret;exact ⟨rfl,hb⟩
  ·have hr : nmrB 6 n = true := by simp [nmrB]; omega
   rw [hr];clear hr g
   go_enter Tryz.func111,Tryz.ntmps111
   go_wp2_with fail;go_ret;exact ⟨rfl,hb⟩
  ·have hr : nmrB 1 n = true := by simp [nmrB]; omega
   rw [hr];clear hr g
   go_enter Tryz.func111,Tryz.ntmps111
   go_wp2_with fail;go_ret;exact ⟨rfl,hb⟩
  ·have hr : nmrB 2 n = true := by simp [nmrB]
   rw [hr];clear hr g
   go_enter Tryz.func111,Tryz.ntmps111
   go_wp2_with fail;go_ret;exact ⟨rfl,hb⟩
  ·have e1 : (k == 1) = false := by simpa using h1
   have e2 : (k == 2) = false := by simpa using h2
   have e3 : (k == 3) = false := by simpa using h3
   have e6 : (k == 6) = false := by simpa using h6
   have hr : nmrB k n = false := by simp [nmrB,h3,h6,h1,h2]
   rw [hr];clear h1 h2 h3 h6 hr g
   go_enter Tryz.func111,Tryz.ntmps111
   go_wp2_with fail;go_ret;exact ⟨rfl,hb⟩
 ·have f1 : decide (1 < n) = true := by simp; omega
  have f2 : decide (n < 0) = false := by simp; omega
  have f3 : decide (n < -2147483648) = false := by simp; omega
  have f4 : decide (2147483647 < n) = true := by simp; omega
  rcases kk with rfl | rfl | rfl | rfl | ⟨h3,h6,h1,h2⟩
  ·have hr : nmrB 3 n = false := by simp [nmrB]; omega
   rw [hr];clear hr g
   go_enter Tryz.func111,Tryz.ntmps111
   go_wp2_with fail;go_ret;exact ⟨rfl,hb⟩
  ·have hr : nmrB 6 n = false := by simp [nmrB]; omega
   rw [hr];clear hr g
   go_enter Tryz.func111,Tryz.ntmps111
   go_wp2_with fail;go_ret;exact ⟨rfl,hb⟩
  ·have hr : nmrB 1 n = false := by simp [nmrB]; omega
   rw [hr];clear hr g
   go_enter Tryz.func111,Tryz.ntmps111
   go_wp2_with fail;go_ret;exact ⟨rfl,hb⟩
  ·have hr : nmrB 2 n = true := by simp [nmrB]
   rw [hr];clear hr g
   go_enter Tryz.func111,Tryz.ntmps111
   go_wp2_with fail;go_ret;exact ⟨rfl,hb⟩
  ·have e1 : (k == 1) = false := by simpa using h1
   have e2 : (k == 2) = false := by simpa using h2
   have e3 : (k == 3) = false := by simpa using h3
   have e6 : (k == 6) = false := by simpa using h6
   have hr : nmrB k n = false := by simp [nmrB,h3,h6,h1,h2]
   rw [hr];clear h1 h2 h3 h6 hr g
   go_enter Tryz.func111,Tryz.ntmps111
   go_wp2_with fail;go_ret;exact ⟨rfl,hb⟩
theorem size_empty {s : ByteArray} (h : s.size = 0) : s = ⟨#[]⟩ := by
 obtain ⟨⟨l⟩⟩ := s
 cases l with
 | nil => rfl
 | cons a l => simp [ByteArray.size] at h
theorem zero_any (t : Tr) (a1 a2 : Option Addr) (n1 c1 n2 c2 : Nat) (w : World) (h1 : n1 = t.es.length) (h2 : n2 = t.rest.length) : Calls Tryz.prog 85 #[.agg #[.int .i64 t.kind,.int .i64 t.n,.string t.s,.slice a1 n1 c1,.slice a2 n2 c2]] w fun e w' => e = .returned (.bool (zroB t)) ∧ Below w.heap.size w w' := by
 have hb : Below w.heap.size w (w.alloc (Obj.cells #[.int .i64 t.kind,.int .i64 t.n,.string t.s,.slice a1 n1 c1,.slice a2 n2 c2] 30)) := bra _
 have hz : zroB t = (decide (t.kind = 1 ∨ t.kind = 2 ∨ t.kind = 3) && decide (t.n = 0) && decide (t.s.size = 0) && decide (n1 = 0) && decide (n2 = 0)) := by rw [zroB,h1,h2]
 rw [hz];clear hz h1 h2;generalize t.kind = K at *;generalize t.n = N at *;generalize t.s = S at *
 have kk : K = 1 ∨ K = 2 ∨ K = 3 ∨ (¬ K = 1 ∧ ¬ K = 2 ∧ ¬ K = 3) := by omega
 rcases kk with rfl | rfl | rfl | ⟨h1,h2,h3⟩
 ·by_cases hN : N = 0
  ·subst hN
   by_cases hS : S.size = 0
   ·obtain rfl := size_empty hS
    by_cases h1 : n1 = 0
    ·subst h1
     by_cases h2 : n2 = 0
     ·subst h2
      go_enter Tryz.func85,Tryz.ntmps85
      go_wp2_with fail;go_ret;exact ⟨rfl,hb⟩
     ·have d2 : ((n2 : Int) == 0) = false := by simp; omega
      simp only [decide_eq_false h2,Bool.and_false];clear h2
      go_enter Tryz.func85,Tryz.ntmps85
      go_wp2_with fail;go_ret;exact ⟨rfl,hb⟩
    ·have d1 : ((n1 : Int) == 0) = false := by simp; omega
     simp only [decide_eq_false h1,Bool.and_false,Bool.false_and];clear h1
     go_enter Tryz.func85,Tryz.ntmps85
     go_wp2_with fail;go_ret;exact ⟨rfl,hb⟩
   ·have dS : (S.toList == ([] : List UInt8)) = false := by rw [ByteArray.toList_eq]; simp; intro e; exact hS (by rw [← ByteArray.size_data,e]; rfl)
    simp only [decide_eq_false hS,Bool.and_false,Bool.false_and];clear hS
    go_enter Tryz.func85,Tryz.ntmps85
    go_wp2_with fail;go_ret;exact ⟨rfl,hb⟩
  ·have dN : (N == 0) = false := by simpa using hN
   simp only [decide_eq_false hN,Bool.and_false,Bool.false_and];clear hN
   go_enter Tryz.func85,Tryz.ntmps85
   go_wp2_with fail;go_ret;exact ⟨rfl,hb⟩
 ·by_cases hN : N = 0
  ·subst hN
   by_cases hS : S.size = 0
   ·obtain rfl := size_empty hS
    by_cases h1 : n1 = 0
    ·subst h1
     by_cases h2 : n2 = 0
     ·subst h2
      go_enter Tryz.func85,Tryz.ntmps85
      go_wp2_with fail;go_ret;exact ⟨rfl,hb⟩
     ·have d2 : ((n2 : Int) == 0) = false := by simp; omega
      simp only [decide_eq_false h2,Bool.and_false];clear h2
      go_enter Tryz.func85,Tryz.ntmps85
      go_wp2_with fail;go_ret;exact ⟨rfl,hb⟩
    ·have d1 : ((n1 : Int) == 0) = false := by simp; omega
     simp only [decide_eq_false h1,Bool.and_false,Bool.false_and];clear h1
     go_enter Tryz.func85,Tryz.ntmps85
     go_wp2_with fail;go_ret;exact ⟨rfl,hb⟩
   ·have dS : (S.toList == ([] : List UInt8)) = false := by rw [ByteArray.toList_eq]; simp; intro e; exact hS (by rw [← ByteArray.size_data,e]; rfl)
    simp only [decide_eq_false hS,Bool.and_false,Bool.false_and];clear hS
    go_enter Tryz.func85,Tryz.ntmps85
    go_wp2_with fail;go_ret;exact ⟨rfl,hb⟩
  ·have dN : (N == 0) = false := by simpa using hN
   simp only [decide_eq_false hN,Bool.and_false,Bool.false_and];clear hN
   go_enter Tryz.func85,Tryz.ntmps85
   go_wp2_with fail;go_ret;exact ⟨rfl,hb⟩
 ·by_cases hN : N = 0
  ·subst hN
   by_cases hS : S.size = 0
   ·obtain rfl := size_empty hS
    by_cases h1 : n1 = 0
    ·subst h1
     by_cases h2 : n2 = 0
     ·subst h2
      go_enter Tryz.func85,Tryz.ntmps85
      go_wp2_with fail;go_ret;exact ⟨rfl,hb⟩
     ·have d2 : ((n2 : Int) == 0) = false := by simp; omega
      simp only [decide_eq_false h2,Bool.and_false];clear h2
      go_enter Tryz.func85,Tryz.ntmps85
      go_wp2_with fail;go_ret;exact ⟨rfl,hb⟩
    ·have d1 : ((n1 : Int) == 0) = false := by simp; omega
     simp only [decide_eq_false h1,Bool.and_false,Bool.false_and];clear h1
     go_enter Tryz.func85,Tryz.ntmps85
     go_wp2_with fail;go_ret;exact ⟨rfl,hb⟩
   ·have dS : (S.toList == ([] : List UInt8)) = false := by rw [ByteArray.toList_eq]; simp; intro e; exact hS (by rw [← ByteArray.size_data,e]; rfl)
    simp only [decide_eq_false hS,Bool.and_false,Bool.false_and];clear hS
    go_enter Tryz.func85,Tryz.ntmps85
    go_wp2_with fail;go_ret;exact ⟨rfl,hb⟩
  ·have dN : (N == 0) = false := by simpa using hN
   simp only [decide_eq_false hN,Bool.and_false,Bool.false_and];clear hN
   go_enter Tryz.func85,Tryz.ntmps85
   go_wp2_with fail;go_ret;exact ⟨rfl,hb⟩
 ·have e1 : (K == 1) = false := by simpa using h1
  have e2 : (K == 2) = false := by simpa using h2
  have e3 : (K == 3) = false := by simpa using h3
  have hk : decide (K = 1 ∨ K = 2 ∨ K = 3) = false := by simp [h1,h2,h3]
  simp only [hk,Bool.false_and];clear h1 h2 h3 hk
  go_enter Tryz.func85,Tryz.ntmps85
  go_wp2_with fail;go_ret;exact ⟨rfl,hb⟩
theorem valid_any (s : ByteArray) (w : World) (hs : s.size ≤ 140737488351232) :
  Calls Tryz.prog 112 #[.string s] w fun e w' => e = .returned (.bool (validB s.data.toList)) ∧ Below w.heap.size w w' := by
 go_enter Tryz.func112,Tryz.ntmps112
 go_wp2
 go_loopw [] (fun wr => ∃ (pos : Nat) (acc : List Nat),wr = w.iter s pos ∧ Hid (Gone s.data.toList pos acc)) (fun wr => s.size - wr.iterPos w.heap.size)
 case atStart => exact ⟨0,[],rfl,Gone.start _⟩
 case round =>
  obtain ⟨pos,acc,rfl,H⟩ := hrel
  by_cases hp : pos < s.size
  ·obtain ⟨c,k,hd,h1,h2⟩ := dec_at s pos hp
   have hnx : ∀ ty,(Instr.next (.pointer (some ⟨w.heap.size,0,none⟩)) true ty).run Tryz.prog (w.iter s pos) = .ok (.tuple #[.bool true,.int .i64 (pos : Int),.int .i32 (c : Int)]) (w.iter s (pos + k)) := by
    intro ty;have := run_next_any (P := Tryz.prog) w s pos ty hp;rw [hd] at this;exact this
   have H1 : Hid (standsB (s.data.toList.drop pos) c = true → nxL (s.data.toList.drop pos) = some (c,k)) := h1;have H2 : Hid (standsB (s.data.toList.drop pos) c = false → nxL (s.data.toList.drop pos) = none) := h2;clear hd h1 h2;go_wp2_with fail;refine (stands_any s _ _ _ hs (by omega) (by omega)).mono ?_;rintro e w' ⟨rfl,rfl⟩;rw [Int.toNat_natCast]
   cases hst : standsB (s.data.toList.drop pos) c with
   | false =>
    go_wp2
    go_ret;exact ⟨ret_bool (by unfold validB; rw [H.out.bad (by rw [len_data]; exact hp) (H2.out hst)]; rfl),below_iter _ _ _⟩
   | true =>
    have HN := H1.out hst;have hk : 1 ≤ k := (nxL_some _ _ _ HN).2.2.2.1;have HG : Hid (Gone s.data.toList (pos + k) (acc ++ [c])) := H.out.step HN;clear HN
    go_wp2
    go_roundw
    case rel => exact ⟨pos + k,acc ++ [c],rfl,HG⟩
    case measure => simp; omega
  ·have hnx : ∀ ty,(Instr.next (.pointer (some ⟨w.heap.size,0,none⟩)) true ty).run Tryz.prog (w.iter s pos) = _ := fun ty => run_next_end w s pos ty hp
   go_wp2
   go_ret;exact ⟨ret_bool (by unfold validB; rw [H.out.done (by rw [len_data]; omega)]; rfl),below_iter _ _ _⟩
theorem zeroEp (w : World) : (zeroValue 129).run Tryz.prog w = .ok (.agg #[]) w := by kernel_rfl
theorem place_any (a : Option Addr) (N cap : Nat) (w : World) (h1 : N ≤ cap) (h2 : cap ≤ maxLen) (h3 : N = 0 ∨ ∃ g off,a = some ⟨g,off,none⟩) :
  Calls Tryz.prog 75 #[.slice a N cap] w fun e w' => e = .returned (plV (plOf (.slice a N cap))) ∧ Below w.heap.size w w' := by
 unfold maxLen at h2
 by_cases hN : N = 0
 ·subst hN
  go_enter Tryz.func75,Tryz.ntmps75
  go_wp2_with fail;refine bodyPost_ret (results_cell rfl _ _ _ ⟨w.heap.size,0,none⟩ (.agg #[.pointer none,.int .i64 0]) (by go_simp) (by go_simp)) rfl ⟨by simp [plV,plOf],bra _⟩
 ·obtain ⟨g,off,rfl⟩ : ∃ g off,a = some ⟨g,off,none⟩ := by
   rcases h3 with h | h
   ·exact absurd h hN
   ·exact h
  have hd : ((N : Int) == 0) = false := by simp; omega
  have hp : 0 < N := by omega
  go_enter Tryz.func75,Tryz.ntmps75
  go_wp2_with fail;refine bodyPost_ret (results_cell rfl _ _ _ ⟨w.heap.size,0,none⟩ (.agg #[.pointer (some ⟨g,off,none⟩),.int .i64 (N : Int)]) (by go_simp) (by go_simp)) rfl ⟨by simp [plV,plOf,hN],bra _⟩
theorem uPlace : Tryz.prog.underlying 140 = some (.map 142 129) := by kernel_rfl
theorem told_pl {w : World} {x : Pl} {L : List Pl} (hx : PlOk w x) (hL : ∀ y ∈ L,PlOk w y) : Told 142 w (plV x) (L.map plV) := by
 intro q hq;obtain ⟨y,hy,rfl⟩ := List.mem_map.1 hq;have h := eql_pl w x y hx (hL y hy)
 have inj : plV x = plV y ↔ x = y := by
  obtain ⟨p,m⟩ := x;obtain ⟨q,n⟩ := y
  simp [plV]
  intro _
  omega
 constructor
 ·intro e;rw [h,decide_eq_true (inj.1 e)]
 ·intro e;rw [h,decide_eq_false (fun e' => e (inj.2 e'))]
theorem mem_plV {x : Pl} {L : List Pl} : plV x ∈ L.map plV ↔ x ∈ L := by
 constructor
 ·intro h;obtain ⟨y,hy,e⟩ := List.mem_map.1 h;obtain ⟨p,m⟩ := x;obtain ⟨q,n⟩ := y
  simp [plV] at e
  obtain ⟨rfl,e2⟩ := e
  obtain rfl : n = m := by omega
  exact hy
 ·exact List.mem_map_of_mem
def msgsL (ts : List Tr) : List (List (Int × List Tr)) := (ts.filter fun t => t.kind == 3).map Tr.es
def MsgS (ts : List Tr) (M : List (List (Int × List Tr))) : Prop := M.Sublist (msgsL ts) ∧ ∀ t ∈ ts,t.kind = 3 → t.es ∈ M
def LvC (n : Nat) (w : World) (r : List Value) (m : List (Int × List Tr)) : Prop := ∃ ve,r = [ve] ∧ EnsQ n w ve m ∧ PlnV w ve
abbrev LvQ (n : Nat) (w : World) (v : Value) (M : List (List (Int × List Tr))) : Prop := RowP (LvC n w) w 1 v M
theorem infoSl : (Tryz.prog.info? 27).map (fun i => (i.zero,i.size,i.bytes)) = some (some (.slice none 0 0),1,24) := by kernel_rfl
theorem MsgS.skip {ts : List Tr} {M : List (List (Int × List Tr))} {t : Tr} (h : MsgS ts M) (ht : t.kind ≠ 3) : MsgS (ts ++ [t]) M := by
 refine ⟨?_,fun x hx hk => ?_⟩
 ·have : msgsL (ts ++ [t]) = msgsL ts := by simp [msgsL,List.filter_append,ht]
  rw [this]; exact h.1
 ·rcases List.mem_append.1 hx with hx | hx
  ·exact h.2 x hx hk
  ·obtain rfl : x = t := by simpa using hx
   exact absurd hk ht
theorem msgs_snoc {ts : List Tr} {t : Tr} (ht : t.kind = 3) : msgsL (ts ++ [t]) = msgsL ts ++ [t.es] := by simp [msgsL,List.filter_append,ht]
theorem MsgS.old {ts : List Tr} {M : List (List (Int × List Tr))} {t : Tr} (h : MsgS ts M) (ht : t.kind = 3) (hm : t.es ∈ M) : MsgS (ts ++ [t]) M := by
 refine ⟨?_,fun x hx hk => ?_⟩
 ·rw [msgs_snoc ht]; exact h.1.trans (List.sublist_append_left _ _)
 ·rcases List.mem_append.1 hx with hx | hx
  ·exact h.2 x hx hk
  ·obtain rfl : x = t := by simpa using hx
   exact hm
theorem MsgS.new {ts : List Tr} {M : List (List (Int × List Tr))} {t : Tr} (h : MsgS ts M) (ht : t.kind = 3) : MsgS (ts ++ [t]) (M ++ [t.es]) := by
 refine ⟨?_,fun x hx hk => ?_⟩
 ·rw [msgs_snoc ht]; exact h.1.append (List.Sublist.refl _)
 ·rcases List.mem_append.1 hx with hx | hx
  ·exact List.mem_append.2 (.inl (h.2 x hx hk))
  ·obtain rfl : x = t := by simpa using hx
   simp
def Side (n : Nat) (w : World) (ves : List Value) (M : List (List (Int × List Tr))) : Prop := ves.length = M.length ∧ ∀ (i : Nat) (ve : Value) (m : List (Int × List Tr)),ves[i]? = some ve → M[i]? = some m → EnsQ n w ve m ∧ PlnV w ve
theorem Side.nil (n : Nat) (w : World) : Side n w [] [] := ⟨rfl,by simp⟩
theorem Side.snoc {n : Nat} {w : World} {ves : List Value} {M : List (List (Int × List Tr))} (h : Side n w ves M) {ve : Value} {m : List (Int × List Tr)} (h1 : EnsQ n w ve m) (h2 : PlnV w ve) : Side n w (ves ++ [ve]) (M ++ [m]) := by
 refine ⟨by simp [h.1],fun i v m' hv hm => ?_⟩
 by_cases hi : i < ves.length
 ·rw [List.getElem?_append_left hi] at hv;rw [List.getElem?_append_left (by rw [← h.1]; exact hi)] at hm;exact h.2 i v m' hv hm
 ·rw [List.getElem?_append_right (by omega)] at hv;rw [List.getElem?_append_right (by rw [← h.1]; omega)] at hm;rw [← h.1] at hm
  cases hq : i - ves.length with
  | zero =>
   rw [hq] at hv hm
   obtain rfl : ve = v := by simpa using hv
   obtain rfl : m = m' := by simpa using hm
   exact ⟨h1,h2⟩
  | succ q => rw [hq] at hv; simp at hv
theorem Side.mem {n : Nat} {w : World} {ves : List Value} {M : List (List (Int × List Tr))} (h : Side n w ves M) {ve : Value} (hv : ve ∈ ves) : ∃ m ∈ M,EnsQ n w ve m ∧ PlnV w ve := by
 obtain ⟨i,hi,e⟩ := List.getElem_of_mem hv;have hm : M[i]? = some (M[i]'(by rw [← h.1]; exact hi)) := List.getElem?_eq_getElem _;exact ⟨_,List.mem_of_getElem? hm,h.2 i ve _ (by rw [List.getElem?_eq_getElem hi,e]) hm⟩
theorem flat_one : ∀ l : List Value,l = (l.map fun x => [x]).flatten
 | [] => rfl
 | a :: l => by rw [List.map_cons,List.flatten_cons,← flat_one l]; rfl
theorem Side.row {n : Nat} {w w' : World} {ves : List Value} {M : List (List (Int × List Tr))} (h : Side n w ves M) (hb : Below w.heap.size w w') {B k : Nat} {v : Value} (ho : w'.ownsRow B 27 1 v k ves) : LvQ n w' v M := by
 have hf : ves = (ves.map fun x => [x]).flatten := flat_one ves;rw [hf] at ho;have hr := (RowG.own (rs := ves.map fun x => [x]) (by intro r hr; obtain ⟨x,_,rfl⟩ := List.mem_map.1 hr; rfl) (by decide) ho).1;refine ⟨_,hr,by simp [h.1],fun i m hm => ?_⟩;obtain ⟨ve,hv⟩ : ∃ ve,ves[i]? = some ve := ⟨_,List.getElem?_eq_getElem (by rw [h.1]; exact (List.getElem?_eq_some_iff.1 hm).1)⟩;obtain ⟨g1,g2⟩ := h.2 i ve m hv hm;exact ⟨[ve],by simp [hv],ve,rfl,g1.belowEQ hb,g2.below hb⟩
def MsgP (n : Nat) (ts : List Tr) (w : World) (e : Ending) (w' : World) : Prop := ∃ v M,e = .returned v ∧ LvQ n w' v M ∧ MsgS ts M ∧ Below w.heap.size w w'
theorem messages_step (n : Nat) (v : Value) (ts : List Tr) (w : World) (h : TrsQ (n + 1) w v ts) (hl : ts.length ≤ 5000) :
  Calls Tryz.prog 42 #[v] w (MsgP n ts w) := by
 have hmm := @run_makeMap Tryz.prog;obtain ⟨a,cap,rfl,h1,h2,h3, -, -⟩ := RowP.open h;obtain ⟨N,hN⟩ : ∃ N,ts.length = N := ⟨_,rfl⟩;rw [hN] at h1 hl ⊢;have HH : Hid (TrsQ (n + 1) w (.slice a N cap) ts) := hid (by rw [← hN]; exact h);have HN : Hid (ts.length = N) := hN;unfold maxLen at h2;clear h hN h3
 go_enter Tryz.func42,Tryz.ntmps42
 go_wp2_with fail;have HS0 : Hid (PlSet (w.alloc (.map #[] 0)) w.heap.size (List.map plV [])) := PlSet.made w;have HO0 : Hid ((w.alloc (.map #[] 0)).ownsRow (w.heap.size + 1) 27 1 (.slice none 0 0) 0 []) := World.ownsRow_nil _ _ _ _;have hb0 : Below w.heap.size w (w.alloc (.map #[] 0)) := bra _
 go_loopw [3,13] (fun ov iv wr => ∃ (i k : Nat) (oa : Option Addr) (oc : Nat) (ves : List Value) (M : List (List (Int × List Tr))),iv = .int .i64 (i : Int) ∧ ov = .slice oa k oc ∧ i ≤ N ∧ k ≤ i ∧ Hid (Side n w ves M) ∧ Hid (MsgS (ts.take i) M) ∧ Hid (PlSet wr w.heap.size ((ves.map plOf).map plV)) ∧ Hid (wr.ownsRow (w.heap.size + 1) 27 1 (.slice oa k oc) k ves) ∧ Below w.heap.size w wr) (fun _ iv _ => N - (intOf iv).toNat)
 case atStart => exact ⟨0,0,none,0,[],[],rfl,rfl,by omega,by omega,Side.nil n w,(⟨by simp,by simp⟩ : MsgS (ts.take 0) []),HS0,HO0,hb0⟩
 case round =>
  clear HS0 HO0 hb0;obtain ⟨i,k,oa,oc,ves,M,rfl,rfl,hi,hk,HSD,HMS,HST,HO,hbel⟩ := hrel
  by_cases hlt : i < N
  ·obtain ⟨t,ht⟩ : ∃ r,ts[i]? = some r := ⟨_,List.getElem?_eq_getElem (by rw [HN.out]; exact hlt)⟩;obtain ⟨g,off,rfl,r,hr,hc⟩ := HH.out.get ht;obtain ⟨ve,vr,rfl,q1,q2,q3,q4,q5,q6,q7⟩ := hr;obtain ⟨ea,ec,rfl,e1,e2,e3, -, -⟩ := RowP.open q6;obtain ⟨ra,rc,rfl, -⟩ := rest_holds q5;have c0 := (hbel.cell (World.block_lt_of_cell? _ _ (hc 0 _ rfl))).trans (hc 0 _ rfl);have c1 := (hbel.cell (World.block_lt_of_cell? _ _ (hc 1 _ rfl))).trans (hc 1 _ rfl);have c2 := (hbel.cell (World.block_lt_of_cell? _ _ (hc 2 _ rfl))).trans (hc 2 _ rfl);have c3 := (hbel.cell (World.block_lt_of_cell? _ _ (hc 3 _ rfl))).trans (hc 3 _ rfl);have c4 := (hbel.cell (World.block_lt_of_cell? _ _ (hc 4 _ rfl))).trans (hc 4 _ rfl);simp only [Nat.add_zero] at c0;have HT : Hid (ts[i]? = some t) := ht;have HTK : Hid (ts.take (i + 1) = ts.take i ++ [t]) := hid (by obtain ⟨hl',e⟩ := List.getElem?_eq_some_iff.1 ht; rw [List.take_succ_eq_append_getElem hl',e]);have HE : Hid (EnsQ n w (.slice ea t.es.length ec) t.es ∧ PlnV w (.slice ea t.es.length ec)) := ⟨q6,q7⟩;clear hc ht q1 q2 q3 q4 q5 q6 q7;generalize hEl : t.es.length = El at *;generalize t.rest.length = Rl at *;have HEl : Hid (t.es.length = El) := hEl;obtain ⟨K,hK⟩ : ∃ K,t.kind = K := ⟨_,rfl⟩;rw [hK] at c0;have HK : Hid (t.kind = K) := hK;clear hK hEl;generalize t.n = Tn at *;generalize t.s = Ts at *
   by_cases h3 : K = 3
   ·subst h3;obtain ⟨⟨p,m⟩,hpm⟩ : ∃ x,plOf (.slice ea El ec) = x := ⟨_,rfl⟩;have HPM : Hid (plOf (.slice ea El ec) = (p,m)) := hpm
    have HPC : Hid (∀ W,Calls Tryz.prog 75 #[.slice ea El ec] W fun e w' => e = .returned (.agg #[.pointer p,.int .i64 (m : Int)]) ∧ Below W.heap.size W w') := fun W => by
     have := place_any ea El ec W e1 e2 (e3.imp (fun h => by rw [← HEl.out,h]; rfl) id);rw [hpm] at this;exact this
    clear hpm e3;go_wp2_with fail;refine (HPC.out _).mono ?_;rintro e w2 ⟨rfl,hb2⟩;have BT : Blk w2 wr.heap.size #[.int .i64 3,.int .i64 Tn,.string Ts,.slice ea El ec,.slice ra Rl rc] 30 := (Blk.new wr _ _).below hb2;have hbr : Below wr.heap.size wr w2 := (bra _).trans (hb2.mono (by simp));have hbw : Below w.heap.size w w2 := hbel.trans (hbr.mono hbel.size);have HST2 : Hid (PlSet w2 w.heap.size ((ves.map plOf).map plV)) := HST.out.below hbr;have HO2 : Hid (w2.ownsRow (w.heap.size + 1) 27 1 (.slice oa k oc) k ves) := own_below HO.out hbr;generalize wr.heap.size = bt at *;clear hb2 hbr HPC c0 c1 c2 c3 c4 HST HO hbel
    have HTD : Hid (∀ W,Below w.heap.size w W → Told 142 W (.agg #[.pointer p,.int .i64 (m : Int)]) ((ves.map plOf).map plV)) := fun W hW => by
     have hx : PlOk W (p,m) := by rw [← HPM.out]; exact plOf_ok (HE.out.2.below hW) (HE.out.1.belowEQ hW)
     exact told_pl hx fun y hy => by
      obtain ⟨ve,hve,rfl⟩ := List.mem_map.1 hy;obtain ⟨m',_,g1,g2⟩ := HSD.out.mem hve;exact plOf_ok (g2.below hW) (RowP.belowEQ g1 hW)
    obtain ⟨R,hR⟩ : ∃ R : Bool,R = true ↔ (p,m) ∈ ves.map plOf := by
     by_cases hm : (p,m) ∈ ves.map plOf
     ·exact ⟨true,by simp [hm]⟩
     ·exact ⟨false,by simp [hm]⟩
    have HR : Hid (R = true ↔ (p,m) ∈ ves.map plOf) := hR;clear hR;have al3 : Below w2.heap.size w2 (w2.alloc (Obj.cells #[.pointer p,.int .i64 (m : Int)] 142)) := bra _;have hb3 : Below w.heap.size w (w2.alloc (Obj.cells #[.pointer p,.int .i64 (m : Int)] 142)) := hbw.trans (al3.mono hbw.size);have al4 : Below w2.heap.size w2 ((w2.alloc (Obj.cells #[.pointer p,.int .i64 (m : Int)] 142)).alloc (Obj.cells #[] 129)) := al3.alloc (by simp) _;have hb4 : Below w.heap.size w ((w2.alloc (Obj.cells #[.pointer p,.int .i64 (m : Int)] 142)).alloc (Obj.cells #[] 129)) := hbw.trans (al4.mono hbw.size)
    have HLK : Hid ((Instr.lookup 140 (.map (some w.heap.size)) (.agg #[.pointer p,.int .i64 (m : Int)]) true).run Tryz.prog (w2.alloc (Obj.cells #[.pointer p,.int .i64 (m : Int)] 142)) = .ok (.tuple #[.agg #[],.bool R]) (w2.alloc (Obj.cells #[.pointer p,.int .i64 (m : Int)] 142))) :=
     look_pl uPlace zeroEp Tryz.underlying142 (fun _ _ => rfl) rfl (fun e => check_pl _ e (p,m)) (HST2.out.below al3) (HTD.out _ hb3) R (HR.out.trans mem_plV.symm)
    cases R with
    | true =>
     have hes : t.es ∈ M := by
      obtain ⟨ve,hve,e⟩ := List.mem_map.1 (HR.out.1 rfl);obtain ⟨m',hm',g1,g2⟩ := HSD.out.mem hve;rw [pl_uniq HE.out.1 g1 (by rw [HPM.out,e])];exact hm'
     have HES : Hid (t.es ∈ M) := hes;have q0 := BT.cell 3;clear hes
     go_wp2_with (first | (at_lookup; refine wpList_lookup_pl rfl _ _ rfl rfl rfl HLK.out ?_) | fail)
     go_roundw
     case rel => exact ⟨i + 1,k,oa,oc,ves,M,by go_num,rfl,by omega,by omega,HSD,(by rw [HTK.out]; exact HMS.out.old HK.out HES.out : MsgS (ts.take (i + 1)) M),HST2.out.below al4,own_below HO2.out al4,hb4⟩
     case measure => simp [intOf]; omega
    | false =>
     obtain ⟨w5,r1,r2,r3,r4⟩ := update_pl (MT := 140) (E := 129) (w := ((w2.alloc (Obj.cells #[.pointer p,.int .i64 (m : Int)] 142)).alloc (Obj.cells #[] 129))) uPlace Tryz.underlying142 (fun _ _ => rfl) rfl (fun e => check_pl _ e (p,m)) (HST2.out.below al4) (HTD.out _ hb4) (fun h => by have := HR.out.2 (mem_plV.1 h); cases this);have HUP : Hid _ := r1;have BT5 : Blk w5 bt #[.int .i64 3,.int .i64 Tn,.string Ts,.slice ea El ec,.slice ra Rl rc] 30 := (BT.below al4).kp r3 (fun e => (HST2.out.below al4).neB (BT.below al4) e);have hO5 : w5.ownsRow (w.heap.size + 1) 27 1 (.slice oa k oc) k ves := own_kpV (own_below HO2.out al4) r3 (fun q hq e => by have := (own_lt (own_below HO2.out al4) hq).1; omega);have hb5 : Below w.heap.size w w5 := hb4.trans (r3.toBelow hb4.size (fun q e => by omega))
     have HST5 : Hid (PlSet w5 w.heap.size (((ves ++ [Value.slice ea El ec]).map plOf).map plV)) := by
      show PlSet _ _ _
      rw [List.map_append,List.map_append,List.map_cons,List.map_nil,HPM.out];exact r2
     have al6 : Below w5.heap.size w5 (w5.alloc (Obj.cells #[.slice ea El ec] 27)) := bra _;have BE : Blk (w5.alloc (Obj.cells #[.slice ea El ec] 27)) w5.heap.size #[.slice ea El ec] 27 := Blk.new w5 _ _;have hb6 : Below w.heap.size w (w5.alloc (Obj.cells #[.slice ea El ec] 27)) := hb5.trans (al6.mono hb5.size);have q3 := (BT5.cell 3).trans rfl;obtain ⟨i0,hi0,hz0,hz1,hz2⟩ := info_parts infoSl
     obtain ⟨v',W7,s1,s2,s3,_,s5⟩ := run_append_own_at (w5.alloc (Obj.cells #[.slice ea El ec] 27)) (w.heap.size + 1) 95 95 27 i0 _ 1 24 Tryz.underlying95 hi0 hz0 hz1 hz2 rfl (by decide) (.slice oa k oc) k _ (own_below hO5 al6) ⟨w5.heap.size,0,none⟩ 1 1 [.slice ea El ec] rfl (fun j u hu => by
      have := BE.cell j;rw [Addr.add_lit,Nat.zero_add,this]
      simpa using hu) (fun u hu => by
      simp only [List.mem_cons,List.not_mem_nil,or_false] at hu
      subst hu; rfl) (by unfold maxLen; omega) (by omega) (by have := hb6.size; have := HST5.out.lt; have := al6.size; omega)
     have HRUN : Hid _ := s1
     have HST7 : Hid (PlSet W7 w.heap.size (((ves ++ [Value.slice ea El ec]).map plOf).map plV)) := by
      have h6 := HST5.out.below al6;have hl6 := h6.lt;obtain ⟨es,c,g1,g2⟩ := h6;refine ⟨es,c,(s3.block _ hl6 (fun e => ?_)).trans g1,g2⟩;have := (own_lt hO5 e.symm).1
      omega
     have hb7 : Below w.heap.size w W7 := hb6.grown s3 hb6.size (fun q hq => by have := (own_lt hO5 hq).1; omega);obtain ⟨na,nc,hv'⟩ := own_form s2;subst hv';have HO7 : Hid (W7.ownsRow (w.heap.size + 1) 27 1 (.slice na (k + 1) nc) (k + 1) (ves ++ [Value.slice ea El ec])) := s2;have HSD7 : Hid (Side n w (ves ++ [Value.slice ea El ec]) (M ++ [t.es])) := HSD.out.snoc HE.out.1 HE.out.2;have q0 := (BT.cell 3).trans rfl;clear r1 r2 r3 r4 s1 s2 s3 s5 hO5 BE HTD HR HSD HST2 HO2 HST5 hi0 hz0 hz1 hz2
     go_wp2_with (first | (at_lookup; refine wpList_lookup_pl rfl _ _ rfl rfl rfl HLK.out ?_) | (at_mapUpdate; refine wpList_update_pl rfl _ _ _ rfl rfl rfl rfl HUP.out ?_) | (at_builtin; refine wpList_ran rfl (append_run rfl rfl rfl HRUN.out) ?_) | fail)
     go_roundw
     case rel => exact ⟨i + 1,k + 1,na,nc,_,_,by go_num,rfl,by omega,by omega,HSD7,(by rw [HTK.out]; exact HMS.out.new HK.out : MsgS (ts.take (i + 1)) (M ++ [t.es])),HST7,HO7,hb7⟩
     case measure => simp [intOf]; omega
   ·have hd : (K != 3) = true := by simpa using h3
    go_wp2_with fail;have hb2 : Below w.heap.size w (wr.alloc (Obj.cells #[.int .i64 K,.int .i64 Tn,.string Ts,.slice ea El ec,.slice ra Rl rc] 30)) := hbel.alloc hbel.size _;have hal : Below wr.heap.size wr (wr.alloc (Obj.cells #[.int .i64 K,.int .i64 Tn,.string Ts,.slice ea El ec,.slice ra Rl rc] 30)) := bra _
    go_roundw
    case rel => exact ⟨i + 1,k,oa,oc,ves,M,by go_num,rfl,by omega,by omega,HSD,(by rw [HTK.out]; exact HMS.out.skip (by rw [HK.out]; exact h3) : MsgS (ts.take (i + 1)) M),HST.out.below hal,own_below HO.out hal,hb2⟩
    case measure => simp [intOf]; omega
  ·go_wp2_with fail;go_ret;have h5 := HMS.out;rw [List.take_of_length_le (by rw [HN.out]; omega)] at h5;exact ⟨_,M,rfl,HSD.out.row hbel HO.out,h5,hbel⟩
theorem infoTq : (Tryz.prog.info? 30).map (fun i => (i.zero,i.size,i.bytes)) = some (some (.agg #[.int .i64 0,.int .i64 0,.string ⟨#[]⟩,.slice none 0 0,.slice none 0 0]),5,80) := by kernel_rfl
def SideT (n : Nat) (w : World) (rows : List (List Value)) (ts : List Tr) : Prop := rows.length = ts.length ∧ ∀ (i : Nat) (r : List Value) (t : Tr),rows[i]? = some r → ts[i]? = some t → TrQ n w r t
theorem SideT.append {n : Nat} {w : World} {rows rs : List (List Value)} {ts us : List Tr} (h : SideT n w rows ts) (k : SideT n w rs us) : SideT n w (rows ++ rs) (ts ++ us) := by
 refine ⟨by simp [h.1,k.1],fun i r t hr ht => ?_⟩
 by_cases hi : i < rows.length
 ·rw [List.getElem?_append_left hi] at hr;rw [List.getElem?_append_left (by rw [← h.1]; exact hi)] at ht;exact h.2 i r t hr ht
 ·rw [List.getElem?_append_right (by omega)] at hr;rw [List.getElem?_append_right (by rw [← h.1]; omega),← h.1] at ht;exact k.2 _ r t hr ht
theorem SideT.below {n : Nat} {w w1 : World} {rows : List (List Value)} {ts : List Tr} (h : SideT n w rows ts) (hb : Below w.heap.size w w1) : SideT n w1 rows ts := ⟨h.1,fun i r t hr ht => (h.2 i r t hr ht).below hb⟩
theorem TrQ.five {n : Nat} {w : World} {r : List Value} {t : Tr} (h : TrQ n w r t) : r.length = 5 ∧ ∀ u ∈ r,u.oneCell' = true := by
 cases n with
 | zero => exact h.elim
 | succ n =>
  obtain ⟨ve,vr,rfl,_,_,_,_,h6,h7,_⟩ := h;obtain ⟨a1,c1,rfl,_⟩ := RowP.open h7;obtain ⟨a2,c2,rfl,_⟩ := h6.form2;refine ⟨rfl,fun u hu => ?_⟩;simp only [List.mem_cons,List.not_mem_nil,or_false] at hu
  rcases hu with rfl | rfl | rfl | rfl | rfl <;> rfl
theorem SideT.rows {n : Nat} {w : World} {rows : List (List Value)} {ts : List Tr} (h : SideT n w rows ts) : (∀ r ∈ rows,r.length = 5) ∧ ∀ u ∈ rows.flatten,u.oneCell' = true := by
 have each : ∀ r ∈ rows,r.length = 5 ∧ ∀ u ∈ r,u.oneCell' = true := fun r hr => by
  obtain ⟨i,hi,e⟩ := List.getElem_of_mem hr;have ht : ts[i]? = some (ts[i]'(by rw [← h.1]; exact hi)) := List.getElem?_eq_getElem _;exact (h.2 i r _ (by rw [List.getElem?_eq_getElem hi,e]) ht).five
 refine ⟨fun r hr => (each r hr).1,fun u hu => ?_⟩;obtain ⟨r,hr,hu⟩ := List.mem_flatten.1 hu;exact (each r hr).2 u hu
theorem TrsQ_side {n : Nat} {w : World} {v : Value} {ts : List Tr} (h : TrsQ n w v ts) : ∃ rows,RowG w v 5 rows ∧ SideT n w rows ts := by
 obtain ⟨rows,h1,h2,h3⟩ := h;refine ⟨rows,h1,h2,fun i r t hr ht => ?_⟩;obtain ⟨r',e,hp⟩ := h3 i t ht;rw [hr] at e
 cases e
 exact hp
theorem SideT.row {n : Nat} {w : World} {rows : List (List Value)} {ts : List Tr} (h : SideT n w rows ts) {B k : Nat} {v : Value} (ho : w.ownsRow B 30 5 v k rows.flatten) : TrsQ n w v ts := by
 refine ⟨rows,(RowG.own h.rows.1 (by decide) ho).1,h.1,fun i t ht => ?_⟩;obtain ⟨r,hr⟩ : ∃ r,rows[i]? = some r := ⟨_,List.getElem?_eq_getElem (by rw [h.1]; exact (List.getElem?_eq_some_iff.1 ht).1)⟩;exact ⟨r,hr,h.2 i r t hr ht⟩
def subsL (M : List (List (Int × List Tr))) : List Tr := M.flatMap subs
theorem subs_snoc (es : List (Int × List Tr)) (e : Int × List Tr) : subs (es ++ [e]) = subs es ++ e.2 := by simp [subs,List.flatMap_append]
theorem subsL_snoc (M : List (List (Int × List Tr))) (m : List (Int × List Tr)) : subsL (M ++ [m]) = subsL M ++ subs m := by simp [subsL,List.flatMap_append]
theorem take_atQ {α : Type} {l : List α} {i : Nat} {x : α} (h : l[i]? = some x) : l.take (i + 1) = l.take i ++ [x] := by
 obtain ⟨hl,rfl⟩ := List.getElem?_eq_some_iff.1 h;rw [List.take_succ_eq_append_getElem hl]
theorem subs_take_le (m : List (Int × List Tr)) (j : Nat) : (subs (m.take j)).length ≤ (subs m).length := by
 have : subs m = subs (m.take j) ++ subs (m.drop j) := by rw [subs,subs,subs,← List.flatMap_append,List.take_append_drop]
 rw [this,List.length_append]
 omega
theorem subsL_take_le (M : List (List (Int × List Tr))) (j : Nat) : (subsL (M.take j)).length ≤ (subsL M).length := by
 have : subsL M = subsL (M.take j) ++ subsL (M.drop j) := by rw [subsL,subsL,subsL,← List.flatMap_append,List.take_append_drop]
 rw [this,List.length_append]
 omega
theorem acc_le {M : List (List (Int × List Tr))} {m : List (Int × List Tr)} {i j : Nat} (h : M[i]? = some m) : (subsL (M.take i) ++ subs (m.take j)).length ≤ (subsL M).length := by
 refine Nat.le_trans ?_ (subsL_take_le M (i + 1));rw [take_atQ h,subsL_snoc,List.length_append,List.length_append];have := subs_take_le m j
 omega
def InsP (n : Nat) (M : List (List (Int × List Tr))) (w : World) (e : Ending) (w' : World) : Prop := ∃ v,e = .returned v ∧ TrsQ n w' v (subsL M) ∧ Below w.heap.size w w'
theorem inside_any (n : Nat) (v : Value) (M : List (List (Int × List Tr))) (w : World) (h : LvQ n w v M) (hl : (subsL M).length ≤ 5000) :
  Calls Tryz.prog 41 #[v] w (InsP n M w) := by
 obtain ⟨a,cap,rfl,h1,h2, -⟩ := RowP.open h;obtain ⟨N,hN⟩ : ∃ N,M.length = N := ⟨_,rfl⟩;rw [hN] at h1 ⊢;have HH : Hid (LvQ n w (.slice a N cap) M) := hid (by rw [← hN]; exact h);have HN : Hid (M.length = N) := hN;have HL : Hid ((subsL M).length ≤ 5000) := hl;unfold maxLen at h2;clear h hN hl
 go_enter Tryz.func41,Tryz.ntmps41
 go_wp2_with fail
 go_loopw [3,10] (fun ov iv wr => ∃ (i k : Nat) (oa : Option Addr) (oc : Nat) (rows : List (List Value)),iv = .int .i64 (i : Int) ∧ ov = .slice oa k oc ∧ i ≤ N ∧ Hid (SideT n w rows (subsL (M.take i))) ∧ Hid (wr.ownsRow w.heap.size 30 5 (.slice oa k oc) k rows.flatten) ∧ Below w.heap.size w wr) (fun _ iv _ => N - (intOf iv).toNat)
 case atStart => exact ⟨0,0,none,0,[],rfl,rfl,by omega,(⟨rfl,by simp⟩ : SideT n w [] (subsL (M.take 0))),World.ownsRow_nil _ _ _ _,Below.refl _ _⟩
 case round =>
  obtain ⟨i,k,oa,oc,rows,rfl,rfl,hi,HS,HO,hbel⟩ := hrel
  by_cases hlt : i < N
  ·obtain ⟨m,hm⟩ : ∃ r,M[i]? = some r := ⟨_,List.getElem?_eq_getElem (by rw [HN.out]; exact hlt)⟩;obtain ⟨g,off,rfl,r,⟨ve,rfl,he,hp⟩,hc⟩ := HH.out.get hm;obtain ⟨ea,ec,rfl,e1,e2, -⟩ := RowP.open he;have c0 := (hbel.cell (World.block_lt_of_cell? _ _ (hc 0 _ rfl))).trans (hc 0 _ rfl);simp only [Nat.mul_one,Nat.add_zero] at c0;obtain ⟨El,hEl⟩ : ∃ N,m.length = N := ⟨_,rfl⟩;rw [hEl] at e1 c0;have HE : Hid (EnsQ n w (.slice ea El ec) m) := hid (by rw [← hEl]; exact he);have HEl : Hid (m.length = El) := hEl;have HM : Hid (M[i]? = some m) := hm;unfold maxLen at e2;clear hc he hp hm hEl;go_wp2_with fail;clear c0
   go_loopw [3,16] (fun ov jv wz => ∃ (j k : Nat) (oa : Option Addr) (oc : Nat) (rows : List (List Value)),jv = .int .i64 (j : Int) ∧ ov = .slice oa k oc ∧ j ≤ El ∧ Hid (SideT n w rows (subsL (M.take i) ++ subs (m.take j))) ∧ Hid (wz.ownsRow w.heap.size 30 5 (.slice oa k oc) k rows.flatten) ∧ Below w.heap.size w wz) (fun _ jv _ => El - (intOf jv).toNat)
   case atStart => exact ⟨0,k,oa,oc,rows,rfl,rfl,by omega,(by simpa [subs] using HS.out : SideT n w rows (subsL (M.take i) ++ subs (m.take 0))),HO,hbel⟩
   case round =>
    clear HS HO hbel;obtain ⟨j,k,oa,oc,rows,rfl,rfl,hj,HS,HO,hbel⟩ := hrel
    by_cases hlt2 : j < El
    ·obtain ⟨x,hx⟩ : ∃ r,m[j]? = some r := ⟨_,List.getElem?_eq_getElem (by rw [HEl.out]; exact hlt2)⟩;obtain ⟨ge,offe,rfl,r,⟨vt,rfl, -,ht⟩,hc⟩ := HE.out.get hx;obtain ⟨ta,tc,rfl, -⟩ := RowP.open ht;have c0 := (hbel.cell (World.block_lt_of_cell? _ _ (hc 0 _ rfl))).trans (hc 0 _ rfl);have c1 := (hbel.cell (World.block_lt_of_cell? _ _ (hc 1 _ rfl))).trans (hc 1 _ rfl);simp only [Nat.add_zero] at c0;obtain ⟨rs,hrg,hsd⟩ := TrsQ_side ht;have hal : Below wr.heap.size wr (wr.alloc (Obj.cells #[.int .i64 x.1,.slice ta x.2.length tc] 69)) := bra _;have hb2 : Below w.heap.size w (wr.alloc (Obj.cells #[.int .i64 x.1,.slice ta x.2.length tc] 69)) := hbel.trans (hal.mono hbel.size)
     have hlen : k + rs.length ≤ 5000 := by
      have h1 := acc_le (j := j + 1) HM.out;rw [take_atQ hx,subs_snoc] at h1;have h2 := HL.out;have h3 := HS.out.1;have h4 := hsd.1;have h5 := (RowG.own HS.out.rows.1 (by decide) HO.out).2;simp only [List.length_append] at h1 h3
      omega
     obtain ⟨v',W4,r1,r2,r3⟩ := run_joinG (w := wr.alloc (Obj.cells #[.int .i64 x.1,.slice ta x.2.length tc] 69)) 67 67 30 5 80 _ Tryz.underlying67 infoTq rfl (by decide) w.heap.size (.slice oa k oc) k rows.flatten (own_below HO.out hal) (.slice ta x.2.length tc) rs (hrg.below hb2) hsd.rows.1 hsd.rows.2 (by omega) (by decide) hb2.size;have HRUN : Hid _ := r1;have HS4 : Hid (SideT n w (rows ++ rs) (subsL (M.take i) ++ subs (m.take (j + 1)))) := hid (by rw [take_atQ hx,subs_snoc,← List.append_assoc]; exact HS.out.append hsd);have hb4 : Below w.heap.size w W4 := hb2.grown r3 hb2.size (fun q hq => (own_lt HO.out hq).1);rw [← List.flatten_append] at r2;obtain ⟨na,nc,hv'⟩ := own_form r2;subst hv';have HO4 : Hid (W4.ownsRow w.heap.size 30 5 (.slice na (k + rs.length) nc) (k + rs.length) (rows ++ rs).flatten) := r2;clear r1 r2 r3 hrg hsd hc ht hx HS HO;generalize x.2.length = Xl at *;generalize x.1 = xt at *;generalize k + rs.length = k2 at *
     go_wp2_with (first | (at_builtin; refine wpList_ran rfl (append_run rfl rfl rfl HRUN.out) ?_) | fail)
     clear HRUN c0 c1 hal hb2 hbel
     go_roundw
     case rel => exact ⟨j + 1,k2,na,nc,_,by go_num,rfl,by omega,HS4,HO4,hb4⟩
     case measure => simp [intOf]; omega
    ·have HS5 : Hid (SideT n w rows (subsL (M.take (i + 1)))) := hid (by
      have := HS.out;rw [List.take_of_length_le (l := m) (by rw [HEl.out]; omega)] at this;rw [take_atQ HM.out,subsL_snoc]
      exact this)
     clear HS;go_wp2_with fail
     go_roundw
     case rel => exact ⟨i + 1,k,oa,oc,rows,by go_num,rfl,by omega,HS5,HO,hbel⟩
     case measure => simp [intOf]; omega
  ·go_wp2_with fail;go_ret;have h5 := HS.out;rw [List.take_of_length_le (by rw [HN.out]; omega)] at h5;exact ⟨_,rfl,(h5.below hbel).row HO.out,hbel⟩
def LowT (n m : Nat) (w : World) (x : Tr) : Prop := ∀ r,TrC n w r x → TrC m w r x
def cntL (m : Nat) (ts : List Tr) : Nat := (ts.map (cntN m)).sum
def cntE (m : Nat) (es : List (Int × List Tr)) : Nat := cntL m (subs es)
theorem cntE_snoc (m : Nat) (es : List (Int × List Tr)) (e : Int × List Tr) : cntE m (es ++ [e]) = cntE m es + cntL m e.2 := by
 simp [cntE,cntL,subs,List.flatMap_append,List.map_append,List.sum_append]
theorem cntL_snoc (m : Nat) (ts : List Tr) (t : Tr) : cntL m (ts ++ [t]) = cntL m ts + cntN m t := by
 simp [cntL,List.map_append,List.sum_append]
theorem take_snocT {α : Type} {l : List α} {i : Nat} {x : α} (h : l[i]? = some x) : l.take (i + 1) = l.take i ++ [x] := by
 obtain ⟨hl,rfl⟩ := List.getElem?_eq_some_iff.1 h;rw [List.take_succ_eq_append_getElem hl]
theorem low_up {n m : Nat} {w : World} {t : Tr} (h : ∀ e ∈ t.es,∀ x ∈ e.2,LowT n m w x) : LowT (n + 1) (m + 1) w t := by
 intro r hr;obtain ⟨ve,vr,h1,h2,h3,h4,h5,h6,h7⟩ := hr;refine ⟨ve,vr,h1,h2,h3,h4,h5,h6,h7.imp fun r x hx hp => ?_⟩;obtain ⟨vt,g1,g2,g3⟩ := hp;exact ⟨vt,g1,g2,g3.imp fun r y hy hp => h x hx y hy r hp⟩
theorem kp_set_alloc (w : World) (g i : Nat) (u : Value) (o : Obj) : Kp (fun b => b = g) w ((w.setCell ⟨g,i,none⟩ u).alloc o) := Kp.alloc (Kp.setCell (S := fun b => b = g) (p := ⟨g,i,none⟩) (Kp.refl (fun b => b = g) w) (fun _ => (rfl : g = g)) u) o
theorem blk_new2T (w : World) (o : Obj) (cs : Array Value) (t : TypeId) : Blk ((w.alloc o).alloc (.cells cs t)) (w.heap.size + 1) cs t := by
 have := Blk.new (w.alloc o) cs t
 rwa [show (w.alloc o).heap.size = w.heap.size + 1 from by simp] at this
def SmlP (n d : Nat) (t : Tr) (g : Nat) (c : Nat) (w0 w : World) (e : Ending) (w' : World) : Prop :=
 ∃ (r : Bool) (c' : Nat),e = .returned (.bool r) ∧ Blk w' g #[.int .i64 (c' : Int)] 3 ∧ c' ≤ 201 ∧ Kp (fun b => b = g) w w' ∧ (r = true → ∃ m,d + (m + 1) = 14 ∧ SmN (m + 1) t ∧ c' = c + cntN (m + 1) t ∧ c' ≤ 200 ∧ LowT n (m + 1) w0 t)
theorem sml_no {n d g c : Nat} {t : Tr} {w0 w w' : World} {c' : Nat} (h1 : Blk w' g #[.int .i64 (c' : Int)] 3) (h2 : c' ≤ 201) (h3 : Kp (fun b => b = g) w w') : SmlP n d t g c w0 w (.returned (.bool false)) w' :=
 ⟨false,c',rfl,h1,h2,h3,by simp⟩
theorem small_step (n : Nat) (w0 : World)
  (IH : ∀ (t : Tr) (v : Value) (d g c : Nat) (w : World),TrIn n w0 v t → Below w0.heap.size w0 w → w0.heap.size ≤ g → Blk w g #[.int .i64 (c : Int)] 3 → c ≤ 200 → d ≤ 14 → Calls Tryz.prog 18 #[v,.int .i64 (d : Int),.pointer (some ⟨g,0,none⟩)] w (SmlP n d t g c w0 w))
  (t : Tr) (v : Value) (d g c : Nat) (w : World) (ht : TrIn (n + 1) w0 v t) (hb0 : Below w0.heap.size w0 w) (hg0 : w0.heap.size ≤ g) (hB : Blk w g #[.int .i64 (c : Int)] 3) (hc : c ≤ 200) (hd : d ≤ 14) :
  Calls Tryz.prog 18 #[v,.int .i64 (d : Int),.pointer (some ⟨g,0,none⟩)] w (SmlP (n + 1) d t g c w0 w) := by
 obtain ⟨n',ve,vr,e0,rfl,ka,na,sa,fa,ra,ea⟩ := ht.open
 obtain rfl : n' = n := by omega
 clear e0 ht;obtain ⟨pe,ce,rfl,u1,u2, -⟩ := ea.open;obtain ⟨pr,cr,rfl,x1,x2, -⟩ := rest_holds ra;unfold maxLen at u2 x2;obtain ⟨Ke,hKe⟩ : ∃ K,t.es.length = K := ⟨_,rfl⟩;obtain ⟨Kr,hKr⟩ : ∃ K,t.rest.length = K := ⟨_,rfl⟩;rw [hKe] at u1 ⊢;rw [hKr] at x1 ⊢;have EA : Hid (EnsIn n' w0 (.slice pe Ke ce) t.es) := hid (by rw [← hKe]; exact ea);have RA : Hid (RowG w0 (.slice pr Kr cr) 4 (fdRows t.rest)) := hid (by rw [← hKr]; exact ra);have HKe : Hid (t.es.length = Ke) := hKe;have HKr : Hid (t.rest.length = Kr) := hKr;have HFA : Hid (∀ f ∈ t.rest,f.b.size ≤ 140737488351232) := fun f hf => (fa f hf).2.2.2
 clear hKe hKr ea ra fa ka na;obtain ⟨K,hK⟩ : ∃ K,t.kind = K := ⟨_,rfl⟩;obtain ⟨N,hN⟩ : ∃ K,t.n = K := ⟨_,rfl⟩;obtain ⟨S,hS⟩ : ∃ K,t.s = K := ⟨_,rfl⟩;rw [hS] at sa;rw [hK,hN,hS];have HS : Hid (t.s = S) := hS;clear hK hN hS;have hgw := hB.lt;have cB := hB.cell 0;have fB := hB.froz 0
 simp at cB
 have HB : Hid (Blk w g #[.int .i64 (c : Int)] 3) := hB;clear hB
 by_cases h1 : c < 200
 ·have d1 : decide (200 < (c : Int) + 1) = false := by simp; omega
  by_cases h2 : d ≤ 13
  ·have d2 : decide (13 < (d : Int)) = false := by simp; omega
   by_cases h3 : S.size ≤ 5000
   ·have d3 : decide (5000 < (S.size : Int)) = false := by simp; omega
    by_cases h4 : Kr ≤ 40
    ·have d4 : decide (40 < (Kr : Int)) = false := by simp; omega
     by_cases h5 : Ke ≤ 40
     ·have d5 : decide (40 < (Ke : Int)) = false := by simp; omega
      go_enter Tryz.func18,Tryz.ntmps18
      go_wp2_with fail;have hBg : Blk ((w.setCell ⟨g,0,none⟩ (.int .i64 ((c : Int) + 1))).alloc (Obj.cells #[.int .i64 K,.int .i64 N,.string S,.slice pe Ke ce,.slice pr Kr cr] 30)) g #[.int .i64 ((c + 1 : Nat) : Int)] 3 := (HB.out.set 0 (.int .i64 ((c : Int) + 1)) (by simp)).below (bra _)
      have hBox : Blk ((w.setCell ⟨g,0,none⟩ (.int .i64 ((c : Int) + 1))).alloc (Obj.cells #[.int .i64 K,.int .i64 N,.string S,.slice pe Ke ce,.slice pr Kr cr] 30)) w.heap.size #[.int .i64 K,.int .i64 N,.string S,.slice pe Ke ce,.slice pr Kr cr] 30 := by
       have := Blk.new (w.setCell ⟨g,0,none⟩ (.int .i64 ((c : Int) + 1))) #[.int .i64 K,.int .i64 N,.string S,.slice pe Ke ce,.slice pr Kr cr] 30
       rwa [show (w.setCell ⟨g,0,none⟩ (.int .i64 ((c : Int) + 1))).heap.size = w.heap.size from by simp [World.setCell]] at this
      have hKp : Kp (fun b => b = g) w ((w.setCell ⟨g,0,none⟩ (.int .i64 ((c : Int) + 1))).alloc (Obj.cells #[.int .i64 K,.int .i64 N,.string S,.slice pe Ke ce,.slice pr Kr cr] 30)) := kp_set_alloc _ _ _ _ _;generalize ((w.setCell ⟨g,0,none⟩ (.int .i64 ((c : Int) + 1))).alloc (Obj.cells #[.int .i64 K,.int .i64 N,.string S,.slice pe Ke ce,.slice pr Kr cr] 30)) = W at hBg hBox hKp ⊢;clear cB fB HB d1 d2 d3 d4 d5;have hbW : Below w0.heap.size w0 W := hb0.trans (hKp.toBelow hb0.size (fun k hk => by omega))
      have hHg : w.heap.size ≠ g := by omega
      have HBG : Hid (Blk W g #[.int .i64 ((c + 1 : Nat) : Int)] 3) := hBg;have HBX : Hid (Blk W w.heap.size #[.int .i64 K,.int .i64 N,.string S,.slice pe Ke ce,.slice pr Kr cr] 30) := hBox;have q4 := hBox.cell 4;have q3 := hBox.cell 3
      simp at q4 q3
      clear hBg hBox
      go_loop [7] (fun iv => ∃ i : Nat,iv = .int .i64 (i : Int) ∧ i ≤ Kr ∧ Hid (∀ j f,j < i → t.rest[j]? = some f → f.b.size ≤ 5000)) (fun iv => Kr - (intOf iv).toNat)
      case atStart => exact ⟨0,rfl,by omega,(fun j f hj => absurd hj (by omega) : ∀ j f,j < 0 → t.rest[j]? = some f → f.b.size ≤ 5000)⟩
      case round =>
       obtain ⟨i,rfl,hi,HJ⟩ := hrel
       by_cases hlt : i < Kr
       ·obtain ⟨r,hr⟩ : ∃ r,t.rest[i]? = some r := ⟨_,List.getElem?_eq_getElem (by rw [HKr.out]; exact hlt)⟩;obtain ⟨gr,off,rfl,c1⟩ := (RA.out.below hbW).get (show (fdRows t.rest)[i]? = some r.cells by simp [fdRows,hr]);have p3 := c1 3 _ rfl;have hbs := HFA.out r (List.mem_of_getElem? hr);have HR : Hid (t.rest[i]? = some r) := hr;obtain ⟨rt,rk,rn,rb⟩ := r;simp only at p3 hbs;clear c1 hr q3
        by_cases hbl : rb.size ≤ 5000
        ·have d6 : decide (5000 < (rb.size : Int)) = false := by simp; omega
         go_wp2_with fail
         go_round
         case rel => exact ⟨i + 1,by go_num,by omega,(fun j f hj hf => by
          rcases Nat.lt_or_eq_of_le (Nat.le_of_lt_succ hj) with h | h
          ·exact HJ.out j f h hf
          ·subst h; rw [HR.out] at hf; cases hf; exact hbl : ∀ j f,j < i + 1 → t.rest[j]? = some f → f.b.size ≤ 5000)⟩
         case measure => simp [intOf]; omega
        ·have d6 : decide (5000 < (rb.size : Int)) = true := by simp; omega
         go_wp2_with fail;go_ret;exact sml_no HBG.out (by omega) hKp
       ·have hrs : ∀ f ∈ t.rest,f.b.size ≤ 5000 := fun f hf => by
         obtain ⟨j,hj,e⟩ := List.getElem_of_mem hf;exact HJ.out j f (by rw [HKr.out] at hj; omega) (by rw [List.getElem?_eq_getElem hj,e])
        have HRS : Hid (∀ f ∈ t.rest,f.b.size ≤ 5000) := hrs;clear HJ hrs RA;obtain ⟨m,hm⟩ : ∃ m,d + (m + 1) = 14 := ⟨13 - d,by omega⟩;have HM : Hid (d + (m + 1) = 14) := hm;clear hm;go_wp2_with fail;clear q3 q4
        go_loopw [8] (fun iv wr => ∃ i c1 : Nat,iv = .int .i64 (i : Int) ∧ i ≤ Ke ∧ c1 ≤ 200 ∧ Hid (c1 = c + 1 + cntE m (t.es.take i)) ∧ Hid (∀ e ∈ t.es.take i,e.2.length ≤ 70 ∧ ∀ x ∈ e.2,SmN m x ∧ LowT n' m w0 x) ∧ Hid (Blk wr g #[.int .i64 (c1 : Int)] 3) ∧ Hid (Blk wr w.heap.size #[.int .i64 K,.int .i64 N,.string S,.slice pe Ke ce,.slice pr Kr cr] 30) ∧ Kp (fun b => b = g) w wr) (fun iv _ => Ke - (intOf iv).toNat)
        case atStart => exact ⟨0,c + 1,rfl,by omega,by omega,(by simp [cntE,cntL,subs] : c + 1 = c + 1 + cntE m (t.es.take 0)),(by simp : ∀ e ∈ t.es.take 0,e.2.length ≤ 70 ∧ ∀ x ∈ e.2,SmN m x ∧ LowT n' m w0 x),HBG,HBX,hKp⟩
        case round =>
         clear hi hlt HBG HBX hKp hbW;obtain ⟨i,c1,rfl,hi,hc1,HC,HE,HBG,HBX,hKp⟩ := hrel;have hbW : Below w0.heap.size w0 wr := hb0.trans (hKp.toBelow hb0.size (fun k hk => by omega));have q3 := HBX.out.cell 3
         simp at q3
         by_cases hlt : i < Ke
         ·obtain ⟨x,hx⟩ : ∃ r,t.es[i]? = some r := ⟨_,List.getElem?_eq_getElem (by rw [HKe.out]; exact hlt)⟩;obtain ⟨ge,off,rfl,cc⟩ := (EA.out.belowE hbW).get hx;obtain ⟨vt,p0,p1,p2,p3⟩ := ens_at cc;obtain ⟨ge',off',ee,cc'⟩ := EA.out.get hx
          obtain ⟨rfl,rfl⟩ : ge = ge' ∧ off = off' := by simpa using ee
          obtain ⟨vt',p0',p1',p2',p3'⟩ := ens_at cc'
          obtain rfl : vt = vt' := by
           have := p1;rw [hbW.cell (World.block_lt_of_cell? _ _ p1'),p1'] at this;exact (Option.some.inj this).symm
          obtain ⟨pt,ct,rfl,t1,t2,t3,t4,t5⟩ := p3'.open;unfold maxLen at t2;have HX : Hid (t.es[i]? = some x) := hx;obtain ⟨xt,xl⟩ := x;simp only at p1 p1' t1 p3';obtain ⟨Kt,hKt⟩ : ∃ K,xl.length = K := ⟨_,rfl⟩;rw [hKt] at p1 t1;have T1 : Hid (TrsIn n' w0 (.slice pt Kt ct) xl) := hid (by rw [← hKt]; exact p3');have HKt : Hid (xl.length = Kt) := hKt;rw [hKt] at p1';have PV : Hid (w0.cell? ⟨ge,off + i * 2 + 1,none⟩ = some (.slice pt Kt ct)) := p1';clear t3 t4 t5 hx cc cc' p0 p2 p3 p0' p1' p2' p3' hKt ee
          by_cases hkt : Kt ≤ 70
          ·have d7 : decide (70 < (Kt : Int)) = false := by simp; omega
           go_wp2_with fail;clear q3 p1
           go_loopw [9] (fun iv wz => ∃ j c2 : Nat,iv = .int .i64 (j : Int) ∧ j ≤ Kt ∧ c2 ≤ 200 ∧ Hid (c2 = c1 + cntL m (xl.take j)) ∧ Hid (∀ x ∈ xl.take j,SmN m x ∧ LowT n' m w0 x) ∧ Hid (Blk wz g #[.int .i64 (c2 : Int)] 3) ∧ Hid (Blk wz w.heap.size #[.int .i64 K,.int .i64 N,.string S,.slice (some ⟨ge,off,none⟩) Ke ce,.slice pr Kr cr] 30) ∧ Kp (fun b => b = g) w wz) (fun iv _ => Kt - (intOf iv).toNat)
           case atStart => exact ⟨0,c1,rfl,by omega,by omega,(by simp [cntL] : c1 = c1 + cntL m (xl.take 0)),(by simp : ∀ x ∈ xl.take 0,SmN m x ∧ LowT n' m w0 x),HBG,HBX,hKp⟩
           case round =>
            clear HBG HBX hKp hbW;obtain ⟨j,c2,rfl,hj,hc2,HD,HL,HBG,HBX,hKp⟩ := hrel;have hbW : Below w0.heap.size w0 wr := hb0.trans (hKp.toBelow hb0.size (fun k hk => by omega));have q3 := HBX.out.cell 3
            simp at q3
            obtain ⟨ge',off',ee,cc'⟩ := EA.out.get HX.out
            obtain ⟨rfl,rfl⟩ : ge = ge' ∧ off = off' := by simpa using ee
            obtain ⟨vt',p0',p1',p2',p3'⟩ := ens_at cc'
            obtain rfl : vt' = .slice pt Kt ct := by
             have := PV.out;rw [p1'] at this;exact Option.some.inj this
            have p1 : wr.cell? ⟨ge,off + i * 2 + 1,none⟩ = some (.slice pt Kt ct) := by rw [hbW.cell (World.block_lt_of_cell? _ _ p1')]; exact p1'
            clear p0' p1' p2' p3' cc' ee
            by_cases hlt2 : j < Kt
            ·obtain ⟨x,hx⟩ : ∃ r,xl[j]? = some r := ⟨_,List.getElem?_eq_getElem (by rw [HKt.out]; exact hlt2)⟩;obtain ⟨g3,off3,rfl,k1⟩ := T1.out.get hx;obtain ⟨z1,n1,e1,z2,n2,e2,y0,y1,y2,y3,y4,y5⟩ := trs_get k1;have r0 := (hbW.cell (World.block_lt_of_cell? _ _ y0)).trans y0;have r1 := (hbW.cell (World.block_lt_of_cell? _ _ y1)).trans y1;have r2 := (hbW.cell (World.block_lt_of_cell? _ _ y2)).trans y2;have r3 := (hbW.cell (World.block_lt_of_cell? _ _ y3)).trans y3;have r4 := (hbW.cell (World.block_lt_of_cell? _ _ y4)).trans y4;have HX2 : Hid (xl[j]? = some x) := hx;have HC3 : Hid (Calls Tryz.prog 18 #[.agg #[.int .i64 x.kind,.int .i64 x.n,.string x.s,.slice z1 n1 e1,.slice z2 n2 e2],.int .i64 ((d + 1 : Nat) : Int),.pointer (some ⟨g,0,none⟩)] wr (SmlP n' (d + 1) x g c2 w0 wr)) := IH x _ (d + 1) g c2 wr y5 hbW hg0 HBG.out hc2 (by omega);clear y0 y1 y2 y3 y4 y5 k1 hx;go_wp2_with fail;refine HC3.out.mono ?_;rintro e w5 ⟨rr,c3,rfl,hB5,hc3,hKp5,hyes⟩;have hKp6 : Kp (fun b => b = g) w w5 := hKp.trans hKp5;have HBX5 : Hid (Blk w5 w.heap.size #[.int .i64 K,.int .i64 N,.string S,.slice (some ⟨ge,off,none⟩) Ke ce,.slice pr Kr cr] 30) := HBX.out.kp hKp5 hHg;have HB5 : Hid (Blk w5 g #[.int .i64 (c3 : Int)] 3) := hB5;clear hB5 hKp hKp5 HBX HBG q3 p1 r0 r1 r2 r3 r4 HC3
             cases rr with
             | false =>
              clear hyes;go_wp2_with fail;go_ret;exact sml_no HB5.out hc3 hKp6
             | true =>
              obtain ⟨m',hm',s1,s2,s3,s4⟩ := hyes rfl
              have hmm : m = m' + 1 := by have := HM.out; omega
              rw [← hmm] at s1 s2 s4;have HD2 : Hid (c3 = c1 + cntL m (xl.take (j + 1))) := hid (by rw [take_snocT HX2.out,cntL_snoc,s2,HD.out]; omega)
              have HL2 : Hid (∀ x ∈ xl.take (j + 1),SmN m x ∧ LowT n' m w0 x) := hid (by
               intro y hy;rw [take_snocT HX2.out,List.mem_append] at hy
               rcases hy with hy | hy
               ·exact HL.out y hy
               ·obtain rfl : y = x := by simpa using hy
                exact ⟨s1,s4⟩)
              clear hyes hm' hmm s1 s2 s4 HD HL;go_wp2_with fail
              go_roundw
              case rel => exact ⟨j + 1,c3,by go_num,by omega,s3,HD2,HL2,HB5,HBX5,hKp6⟩
              case measure => simp [intOf]; omega
            ·have htk : xl.take j = xl := List.take_of_length_le (by rw [HKt.out]; omega);have HC4 : Hid (c2 = c + 1 + cntE m (t.es.take (i + 1))) := hid (by rw [take_snocT HX.out,cntE_snoc,HD.out,htk,HC.out]; dsimp only; omega)
             have HE4 : Hid (∀ e ∈ t.es.take (i + 1),e.2.length ≤ 70 ∧ ∀ x ∈ e.2,SmN m x ∧ LowT n' m w0 x) := hid (by
              intro y hy;rw [take_snocT HX.out,List.mem_append] at hy
              rcases hy with hy | hy
              ·exact HE.out y hy
              ·obtain rfl : y = (xt,xl) := by simpa using hy
               have := HL.out;rw [htk] at this
               exact ⟨by rw [HKt.out]; exact hkt,this⟩)
             clear htk HD HL HC HE;go_wp2_with fail
             go_roundw
             case rel => exact ⟨i + 1,c2,by go_num,by omega,hc2,HC4,HE4,HBG,HBX,hKp⟩
             case measure => simp [intOf]; omega
          ·have d7 : decide (70 < (Kt : Int)) = true := by simp; omega
           go_wp2_with fail;go_ret;exact sml_no HBG.out (by omega) hKp
         ·have hfin : SmN (m + 1) t ∧ c1 = c + cntN (m + 1) t ∧ LowT (n' + 1) (m + 1) w0 t := by
           have htk : t.es.take i = t.es := List.take_of_length_le (by rw [HKe.out]; omega);have hC := HC.out;have hE := HE.out;rw [htk] at hC hE;refine ⟨⟨by rw [HS.out]; exact h3,by rw [HKr.out]; omega,by rw [HKe.out]; omega,HRS.out,fun e he => ⟨(hE e he).1,fun y hy => ((hE e he).2 y hy).1⟩⟩,?_,low_up fun e he y hy => ((hE e he).2 y hy).2⟩;rw [hC]
           show c + 1 + cntE m t.es = c + (1 + cntE m t.es)
           omega
          have HF : Hid _ := hfin;clear hfin HC HE;go_wp2_with fail;go_ret;exact ⟨true,c1,rfl,HBG.out,by omega,hKp,fun _ => ⟨m,HM.out,HF.out.1,HF.out.2.1,hc1,HF.out.2.2⟩⟩
     ·have d5 : decide (40 < (Ke : Int)) = true := by simp; omega
      have hx := d5
      go_enter Tryz.func18,Tryz.ntmps18
      go_wp2_with fail;go_ret;exact sml_no (c' := c + 1) ((HB.out.set 0 (.int .i64 ((c : Int) + 1)) (by simp)).below (bra _)) (by omega) (kp_set_alloc _ _ _ _ _)
    ·have d4 : decide (40 < (Kr : Int)) = true := by simp; omega
     have hx := d4
     go_enter Tryz.func18,Tryz.ntmps18
     go_wp2_with fail;go_ret;exact sml_no (c' := c + 1) ((HB.out.set 0 (.int .i64 ((c : Int) + 1)) (by simp)).below (bra _)) (by omega) (kp_set_alloc _ _ _ _ _)
   ·have d3 : decide (5000 < (S.size : Int)) = true := by simp; omega
    have hx := d3
    go_enter Tryz.func18,Tryz.ntmps18
    go_wp2_with fail;go_ret;exact sml_no (c' := c + 1) ((HB.out.set 0 (.int .i64 ((c : Int) + 1)) (by simp)).below (bra _)) (by omega) (kp_set_alloc _ _ _ _ _)
  ·have d2 : decide (13 < (d : Int)) = true := by simp; omega
   have hx := d2
   go_enter Tryz.func18,Tryz.ntmps18
   go_wp2_with fail;go_ret;exact sml_no (c' := c + 1) ((HB.out.set 0 (.int .i64 ((c : Int) + 1)) (by simp)).below (bra _)) (by omega) (kp_set_alloc _ _ _ _ _)
 ·have d1 : decide (200 < (c : Int) + 1) = true := by simp; omega
  have hx := d1
  go_enter Tryz.func18,Tryz.ntmps18
  go_wp2_with fail;go_ret;exact sml_no (c' := c + 1) ((HB.out.set 0 (.int .i64 ((c : Int) + 1)) (by simp)).below (bra _)) (by omega) (kp_set_alloc _ _ _ _ _)
theorem small_rec (w0 : World) : ∀ (n : Nat) (t : Tr) (v : Value) (d g c : Nat) (w : World),TrIn n w0 v t → Below w0.heap.size w0 w → w0.heap.size ≤ g → Blk w g #[.int .i64 (c : Int)] 3 → c ≤ 200 → d ≤ 14 → Calls Tryz.prog 18 #[v,.int .i64 (d : Int),.pointer (some ⟨g,0,none⟩)] w (SmlP n d t g c w0 w)
 | 0,t,v,d,g,c,w,h,_,_,_,_,_ => by obtain ⟨r,_,h⟩ := h; exact h.elim
 | n + 1,t,v,d,g,c,w,h,h1,h2,h3,h4,h5 => small_step n w0 (fun t v d g c w => small_rec w0 n t v d g c w) t v d g c w h h1 h2 h3 h4 h5
def SmallP (t : Tr) (v : Value) (w : World) (e : Ending) : Prop := ∃ r : Bool,e = .returned (.bool r) ∧ (r = true → SmN 14 t ∧ cntN 14 t ≤ 200 ∧ TrIn 14 w v t)
theorem small_any (n : Nat) (t : Tr) (v : Value) (w : World) (h : TrIn n w v t) : Calls Tryz.prog 6 #[v] w fun e w' => SmallP t v w e ∧ Below w.heap.size w w' := by
 obtain ⟨m,ve,vr, -,rfl, -, -, -, -,ra,ea⟩ := h.open;obtain ⟨pe,ce,rfl, -⟩ := ea.open;obtain ⟨pr,cr,rfl, -⟩ := rest_holds ra;have HH : Hid _ := h;have hs := fun W hW hg hB => small_rec w n t _ 0 (w.heap.size + 1) 0 W h hW hg hB (by omega) (by omega)
 have HS : Hid _ := hs;clear hs ra ea h;generalize t.es.length = Ke at *;generalize t.rest.length = Kr at *;generalize t.kind = K at *;generalize t.n = N at *;generalize t.s = S at *
 go_enter Tryz.func6,Tryz.ntmps6
 go_wp2_with fail;refine (HS.out _ ((bra _).alloc (by simp) _) (by omega) (blk_new2T w _ _ _)).mono ?_;rintro e w1 ⟨r,c',rfl,h1,h2,h3,h4⟩;have hb : Below w.heap.size w w1 := ((bra _).alloc (by simp) _).trans (h3.toBelow (by simp; omega) (fun k hk => by omega));have H4 : Hid _ := h4;clear h1 h2 h3 h4 HS;go_wp2_with fail;go_ret;refine ⟨⟨r,rfl,fun hr => ?_⟩,hb⟩;obtain ⟨m,hm,s1,s2,s3,s4⟩ := H4.out hr
 obtain rfl : m = 13 := by omega
 refine ⟨s1,(by omega : cntN (13 + 1) t ≤ 200),?_⟩;obtain ⟨q,hq,hq2⟩ := HH.out;exact ⟨q,hq,s4 q hq2⟩
end
end Go.Proofs.YtmgbhicogmclgaaGreat

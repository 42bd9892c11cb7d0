/- Part 14 of what the proof stands on. -/
import Derived.Test.YtmgbhicogmclgaaPkFAM
namespace Go.Proofs.Ytmgbhicogmclgaa
set_option maxHeartbeats 8000000
set_option linter.unusedVariables false
set_option linter.unusedSimpArgs false
set_option maxRecDepth 20000
open Go.ChangeShapes Go.WideShapes Go.ChangeAt Go.RowKit
theorem kindOf_any (k : Int) (nm : ByteArray) (w : World) : Calls Try.prog 108 #[.agg #[.int .i64 k,.string nm]] w fun e w' => e = .returned (.int .i64 (kindT k)) ∧ Below w.heap.size w w' := by
 have hb : Below w.heap.size w (w.alloc (Obj.cells #[.int .i64 k,.string nm] 52)) := (Below.refl _ _).alloc (Nat.le_refl _) _
 have key : ∀ (a : Int),k = a → (a = 1 ∨ a = 2 ∨ a = 3 ∨ a = 4 ∨ a = 5 ∨ a = 6 ∨ a = 7) → Calls Try.prog 108 #[.agg #[.int .i64 k,.string nm]] w fun e w' => e = .returned (.int .i64 (kindT k)) ∧ Below w.heap.size w w' := by
  intro a ha hc;subst ha
  rcases hc with rfl | rfl | rfl | rfl | rfl | rfl | rfl <;>
  ·go_enter Try.func108,Try.ntmps108
   go_wp2_with fail;go_ret;exact ⟨rfl,hb⟩
 by_cases h1 : k = 1
 ·exact key 1 h1 (by simp)
 by_cases h2 : k = 2
 ·exact key 2 h2 (by simp)
 by_cases h3 : k = 3
 ·exact key 3 h3 (by simp)
 by_cases h4 : k = 4
 ·exact key 4 h4 (by simp)
 by_cases h5 : k = 5
 ·exact key 5 h5 (by simp)
 by_cases h6 : k = 6
 ·exact key 6 h6 (by simp)
 by_cases h7 : k = 7
 ·exact key 7 h7 (by simp)
 have hk : kindT k = 0 := by simp [kindT,h1,h2,h3,h4,h5,h6,h7]
 rw [hk]
 have d1 : (k == 1) = false := by simpa using h1
 have d2 : (k == 2) = false := by simpa using h2
 have d3 : (k == 3) = false := by simpa using h3
 have d4 : (k == 4) = false := by simpa using h4
 have d5 : (k == 5) = false := by simpa using h5
 have d6 : (k == 6) = false := by simpa using h6
 have d7 : (k == 7) = false := by simpa using h7
 clear key h1 h2 h3 h4 h5 h6 h7 hk
 go_enter Try.func108,Try.ntmps108
 go_wp2_with fail;go_ret;exact ⟨rfl,hb⟩
theorem placeE_any (a : Option Addr) (N cap : Nat) (w : World) (h1 : N ≤ cap) (h2 : cap ≤ maxLen) (h3 : N = 0 ∨ ∃ g off,a = some ⟨g,off,none⟩) :
  Calls Try.prog 86 #[.slice a N cap] w fun e w' => e = .returned (plV (plOf (.slice a N cap))) ∧ Below w.heap.size w w' := by
 unfold maxLen at h2
 by_cases hN : N = 0
 ·subst hN
  go_enter Try.func86,Try.ntmps86
  go_wp2_with fail;refine bodyPost_ret (results_cell rfl _ _ _ ⟨w.heap.size,0,none⟩ (.agg #[.pointer none,.int .i64 0]) (by go_simp) (by go_simp)) rfl ⟨by simp [plV,plOf],(Below.refl _ _).alloc (Nat.le_refl _) _⟩
 ·obtain ⟨g,off,rfl⟩ : ∃ g off,a = some ⟨g,off,none⟩ := by
   rcases h3 with h | h
   ·exact absurd h hN
   ·exact h
  have hd : ((N : Int) == 0) = false := by simp; omega
  have hp : 0 < N := by omega
  go_enter Try.func86,Try.ntmps86
  go_wp2_with fail;refine bodyPost_ret (results_cell rfl _ _ _ ⟨w.heap.size,0,none⟩ (.agg #[.pointer (some ⟨g,off,none⟩),.int .i64 (N : Int)]) (by go_simp) (by go_simp)) rfl ⟨by simp [plV,plOf,hN],(Below.refl _ _).alloc (Nat.le_refl _) _⟩
theorem placeR_any (a : Option Addr) (N cap : Nat) (w : World) (h1 : N ≤ cap) (h2 : cap ≤ maxLen) (h3 : N = 0 ∨ ∃ g off,a = some ⟨g,off,none⟩) :
  Calls Try.prog 87 #[.slice a N cap] w fun e w' => e = .returned (plV (plOf (.slice a N cap))) ∧ Below w.heap.size w w' := by
 unfold maxLen at h2
 by_cases hN : N = 0
 ·subst hN
  go_enter Try.func87,Try.ntmps87
  go_wp2_with fail;refine bodyPost_ret (results_cell rfl _ _ _ ⟨w.heap.size,0,none⟩ (.agg #[.pointer none,.int .i64 0]) (by go_simp) (by go_simp)) rfl ⟨by simp [plV,plOf],(Below.refl _ _).alloc (Nat.le_refl _) _⟩
 ·obtain ⟨g,off,rfl⟩ : ∃ g off,a = some ⟨g,off,none⟩ := by
   rcases h3 with h | h
   ·exact absurd h hN
   ·exact h
  have hd : ((N : Int) == 0) = false := by simp; omega
  have hp : 0 < N := by omega
  go_enter Try.func87,Try.ntmps87
  go_wp2_with fail;refine bodyPost_ret (results_cell rfl _ _ _ ⟨w.heap.size,0,none⟩ (.agg #[.pointer (some ⟨g,off,none⟩),.int .i64 (N : Int)]) (by go_simp) (by go_simp)) rfl ⟨by simp [plV,plOf,hN],(Below.refl _ _).alloc (Nat.le_refl _) _⟩
theorem identity_any (K N : Int) (S : ByteArray) (a1 a2 : Option Addr) (n1 c1 n2 c2 : Nat) (w : World) (h1 : n1 ≤ c1) (h2 : c1 ≤ maxLen) (h3 : n1 = 0 ∨ ∃ g off,a1 = some ⟨g,off,none⟩) (h4 : n2 ≤ c2) (h5 : c2 ≤ maxLen) (h6 : n2 = 0 ∨ ∃ g off,a2 = some ⟨g,off,none⟩) :
  Calls Try.prog 49 #[.agg #[.int .i64 K,.int .i64 N,.string S,.slice a1 n1 c1,.slice a2 n2 c2]] w fun e w' => e = .returned (.agg (idC ⟨K,N,S,plOf (.slice a1 n1 c1),plOf (.slice a2 n2 c2)⟩).toArray) ∧ Below w.heap.size w w' := by
 obtain ⟨⟨p1,m1⟩,hp1⟩ : ∃ x,plOf (.slice a1 n1 c1) = x := ⟨_,rfl⟩;obtain ⟨⟨p2,m2⟩,hp2⟩ : ∃ x,plOf (.slice a2 n2 c2) = x := ⟨_,rfl⟩
 have HE : Hid (∀ W,Calls Try.prog 86 #[.slice a1 n1 c1] W fun e w' => e = .returned (.agg #[.pointer p1,.int .i64 (m1 : Int)]) ∧ Below W.heap.size W w') := fun W => by
  have := placeE_any a1 n1 c1 W h1 h2 h3;rw [hp1] at this;exact this
 have HR : Hid (∀ W,Calls Try.prog 87 #[.slice a2 n2 c2] W fun e w' => e = .returned (.agg #[.pointer p2,.int .i64 (m2 : Int)]) ∧ Below W.heap.size W w') := fun W => by
  have := placeR_any a2 n2 c2 W h4 h5 h6;rw [hp2] at this;exact this
 rw [hp1,hp2];clear hp1 hp2 h1 h2 h3 h4 h5 h6;have B0 : Blk ((w.alloc (Obj.cells #[.int .i64 K,.int .i64 N,.string S,.slice a1 n1 c1,.slice a2 n2 c2] 30)).alloc (Obj.cells #[.int .i64 0,.int .i64 0,.string ⟨#[]⟩,.pointer none,.int .i64 0,.pointer none,.int .i64 0] 124)) w.heap.size #[.int .i64 K,.int .i64 N,.string S,.slice a1 n1 c1,.slice a2 n2 c2] 30 := (Blk.new w _ _).below ((Below.refl _ _).alloc (Nat.le_refl _) _)
 have B1 : Blk ((w.alloc (Obj.cells #[.int .i64 K,.int .i64 N,.string S,.slice a1 n1 c1,.slice a2 n2 c2] 30)).alloc (Obj.cells #[.int .i64 0,.int .i64 0,.string ⟨#[]⟩,.pointer none,.int .i64 0,.pointer none,.int .i64 0] 124)) (w.heap.size + 1) #[.int .i64 0,.int .i64 0,.string ⟨#[]⟩,.pointer none,.int .i64 0,.pointer none,.int .i64 0] 124 := by
  have := Blk.new (w.alloc (Obj.cells #[.int .i64 K,.int .i64 N,.string S,.slice a1 n1 c1,.slice a2 n2 c2] 30)) #[.int .i64 0,.int .i64 0,.string ⟨#[]⟩,.pointer none,.int .i64 0,.pointer none,.int .i64 0] 124
  rwa [show (w.alloc (Obj.cells #[.int .i64 K,.int .i64 N,.string S,.slice a1 n1 c1,.slice a2 n2 c2] 30)).heap.size = w.heap.size + 1 from by simp] at this
 have hb : Below w.heap.size w ((w.alloc (Obj.cells #[.int .i64 K,.int .i64 N,.string S,.slice a1 n1 c1,.slice a2 n2 c2] 30)).alloc (Obj.cells #[.int .i64 0,.int .i64 0,.string ⟨#[]⟩,.pointer none,.int .i64 0,.pointer none,.int .i64 0] 124)) := ((Below.refl _ _).alloc (Nat.le_refl _) _).alloc (by simp) _
 go_enter Try.func49,Try.ntmps49
 go_wp2_with fail;generalize ((w.alloc (Obj.cells #[.int .i64 K,.int .i64 N,.string S,.slice a1 n1 c1,.slice a2 n2 c2] 30)).alloc (Obj.cells #[.int .i64 0,.int .i64 0,.string ⟨#[]⟩,.pointer none,.int .i64 0,.pointer none,.int .i64 0] 124)) = W0 at *;obtain ⟨b0,hb0⟩ : ∃ b,w.heap.size = b := ⟨_,rfl⟩;have HBZ : Hid (w.heap.size = b0) := hb0;rw [hb0] at B0 B1;simp only [hb0];clear hb0;have hTb : ∀ W,Below W0.heap.size W0 W → W.cell? ⟨b0,0,none⟩ = some (.int .i64 K) ∧ W.cell? ⟨b0,1,none⟩ = some (.int .i64 N) ∧ W.cell? ⟨b0,2,none⟩ = some (.string S) ∧ W.cell? ⟨b0,3,none⟩ = some (.slice a1 n1 c1) ∧ W.cell? ⟨b0,4,none⟩ = some (.slice a2 n2 c2) := fun W hW => ⟨(B0.below hW).cell 0,(B0.below hW).cell 1,(B0.below hW).cell 2,(B0.below hW).cell 3,(B0.below hW).cell 4⟩
 refine M_region (T := fun W => W.cell? ⟨b0,0,none⟩ = some (.int .i64 K) ∧ W.cell? ⟨b0,1,none⟩ = some (.int .i64 N) ∧ W.cell? ⟨b0,2,none⟩ = some (.string S) ∧ W.cell? ⟨b0,3,none⟩ = some (.slice a1 n1 c1) ∧ W.cell? ⟨b0,4,none⟩ = some (.slice a2 n2 c2)) (m := 13) (by kernel_rfl) ?_;have hd : Below W0.heap.size W0 W0.drew := (Below.refl _ _).drew;have hS := hTb _ hd;refine M_take 0 3 (.pointer (some ⟨b0,0,none⟩)) _ rfl rfl (by kernel_rfl) (by kernel_rfl) (by kernel_rfl) (by kernel_rfl) (by kernel_rfl) (fun _ _ _ h => h) (by rfl) (fun w' hw' => ?_) hS (listed' := bts 14 1) (by kernel_rfl) rfl ?_
 ·go_simp
 simp only [zsA,zsZ,zsS];refine M_take 1 4 (.int .i64 K) _ rfl rfl (by kernel_rfl) (by kernel_rfl) (by kernel_rfl) (by kernel_rfl) (by kernel_rfl) (fun _ _ _ h => h) (by rfl) (fun w' hw' => ?_) hS (listed' := bts 14 3) (by kernel_rfl) rfl ?_
 ·obtain ⟨f0,f1,f2,f3,f4⟩ := hw'; go_simp
 simp only [zsA,zsZ,zsS];refine M_take 2 5 (.pointer (some ⟨b0,1,none⟩)) _ rfl rfl (by kernel_rfl) (by kernel_rfl) (by kernel_rfl) (by kernel_rfl) (by kernel_rfl) (fun _ _ _ h => h) (by rfl) (fun w' hw' => ?_) hS (listed' := bts 14 7) (by kernel_rfl) rfl ?_
 ·go_simp
 simp only [zsA,zsZ,zsS];refine M_take 3 6 (.int .i64 N) _ rfl rfl (by kernel_rfl) (by kernel_rfl) (by kernel_rfl) (by kernel_rfl) (by kernel_rfl) (fun _ _ _ h => h) (by rfl) (fun w' hw' => ?_) hS (listed' := bts 14 15) (by kernel_rfl) rfl ?_
 ·obtain ⟨f0,f1,f2,f3,f4⟩ := hw'; go_simp
 simp only [zsA,zsZ,zsS];refine M_take 4 7 (.pointer (some ⟨b0,2,none⟩)) _ rfl rfl (by kernel_rfl) (by kernel_rfl) (by kernel_rfl) (by kernel_rfl) (by kernel_rfl) (fun _ _ _ h => h) (by rfl) (fun w' hw' => ?_) hS (listed' := bts 14 31) (by kernel_rfl) rfl ?_
 ·go_simp
 simp only [zsA,zsZ,zsS];refine M_take 5 8 (.string S) _ rfl rfl (by kernel_rfl) (by kernel_rfl) (by kernel_rfl) (by kernel_rfl) (by kernel_rfl) (fun _ _ _ h => h) (by rfl) (fun w' hw' => ?_) hS (listed' := bts 14 63) (by kernel_rfl) rfl ?_
 ·obtain ⟨f0,f1,f2,f3,f4⟩ := hw'; go_simp
 simp only [zsA,zsZ,zsS];refine M_take 6 9 (.pointer (some ⟨b0,3,none⟩)) _ rfl rfl (by kernel_rfl) (by kernel_rfl) (by kernel_rfl) (by kernel_rfl) (by kernel_rfl) (fun _ _ _ h => h) (by rfl) (fun w' hw' => ?_) hS (listed' := bts 14 127) (by kernel_rfl) rfl ?_
 ·go_simp
 simp only [zsA,zsZ,zsS];refine M_take 7 10 (.slice a1 n1 c1) _ rfl rfl (by kernel_rfl) (by kernel_rfl) (by kernel_rfl) (by kernel_rfl) (by kernel_rfl) (fun _ _ _ h => h) (by rfl) (fun w' hw' => ?_) hS (listed' := bts 14 255) (by kernel_rfl) rfl ?_
 ·obtain ⟨f0,f1,f2,f3,f4⟩ := hw'; go_simp
 simp only [zsA,zsZ,zsS];refine M_take 9 12 (.pointer (some ⟨b0,4,none⟩)) _ rfl rfl (by kernel_rfl) (by kernel_rfl) (by kernel_rfl) (by kernel_rfl) (by kernel_rfl) (fun _ _ _ h => h) (by rfl) (fun w' hw' => ?_) hS (listed' := bts 14 767) (by kernel_rfl) rfl ?_
 ·go_simp
 simp only [zsA,zsZ,zsS];refine M_take 10 13 (.slice a2 n2 c2) _ rfl rfl (by kernel_rfl) (by kernel_rfl) (by kernel_rfl) (by kernel_rfl) (by kernel_rfl) (fun _ _ _ h => h) (by rfl) (fun w' hw' => ?_) hS (listed' := bts 14 1791) (by kernel_rfl) rfl ?_
 ·obtain ⟨f0,f1,f2,f3,f4⟩ := hw'; go_simp
 simp only [zsA,zsZ,zsS];refine M_call 8 11 86 #[.slice a1 n1 c1] rfl rfl (by kernel_rfl) (by rfl) (listed' := bts 14 2047) (by kernel_rfl) (fun W => by go_simp) ?_;refine (HE.out _).mono ?_;rintro e W1 ⟨rfl,hb1⟩;have hd1 : Below W0.heap.size W0 W1 := hd.trans (hb1.mono hd.size);have hS := hTb _ hd1;refine ⟨_,rfl,hS,?_⟩;simp only [zsA,zsZ,zsS];refine M_call 11 14 87 #[.slice a2 n2 c2] rfl rfl (by kernel_rfl) (by rfl) (listed' := bts 14 4095) (by kernel_rfl) (fun W => by go_simp) ?_;refine (HR.out _).mono ?_;rintro e W2 ⟨rfl,hb2⟩;have hd2 : Below W0.heap.size W0 W2 := hd1.trans (hb2.mono hd1.size);have hS := hTb _ hd2;refine ⟨_,rfl,hS,?_⟩;simp only [zsA,zsZ,zsS];refine M_take 12 15 (.agg #[.int .i64 K,.int .i64 N,.string S,.pointer p1,.int .i64 (m1 : Int),.pointer p2,.int .i64 (m2 : Int)]) _ rfl rfl (by kernel_rfl) (by kernel_rfl) (by kernel_rfl) (by kernel_rfl) (by kernel_rfl) (fun _ _ _ h => h) (by rfl) (fun w' hw' => ?_) hS (listed' := bts 14 8191) (by kernel_rfl) rfl ?_
 ·go_simp
 simp only [zsA,zsZ,zsS];have BR := B1.below hd2;have r0 := (BR.cell 0).trans rfl;have z0 := BR.froz 0;have r1 := (BR.cell 1).trans rfl;have z1 := BR.froz 1;have r2 := (BR.cell 2).trans rfl;have z2 := BR.froz 2;have r3 := (BR.cell 3).trans rfl;have z3 := BR.froz 3;have r4 := (BR.cell 4).trans rfl;have z4 := BR.froz 4;have r5 := (BR.cell 5).trans rfl;have z5 := BR.froz 5;have r6 := (BR.cell 6).trans rfl;have z6 := BR.froz 6;refine M_store 13 (((((((W2.setCell ⟨b0 + 1,0,none⟩ (.int .i64 K)).setCell ⟨b0 + 1,1,none⟩ (.int .i64 N)).setCell ⟨b0 + 1,2,none⟩ (.string S)).setCell ⟨b0 + 1,3,none⟩ (.pointer p1)).setCell ⟨b0 + 1,4,none⟩ (.int .i64 (m1 : Int))).setCell ⟨b0 + 1,5,none⟩ (.pointer p2)).setCell ⟨b0 + 1,6,none⟩ (.int .i64 (m2 : Int))) rfl rfl (by kernel_rfl) (by rfl) (listed' := bts 14 16383) (by kernel_rfl) (by go_simp) (by kernel_rfl) ?_;refine M_done (by kernel_rfl) ?_ _;have BR0 : Blk (W2.setCell ⟨b0 + 1,0,none⟩ (.int .i64 K)) (b0 + 1) #[.int .i64 K,.int .i64 0,.string ⟨#[]⟩,.pointer none,.int .i64 0,.pointer none,.int .i64 0] 124 := BR.set 0 _ rfl;have BR1 : Blk ((W2.setCell ⟨b0 + 1,0,none⟩ (.int .i64 K)).setCell ⟨b0 + 1,1,none⟩ (.int .i64 N)) (b0 + 1) #[.int .i64 K,.int .i64 N,.string ⟨#[]⟩,.pointer none,.int .i64 0,.pointer none,.int .i64 0] 124 := BR0.set 1 _ rfl;have BR2 : Blk (((W2.setCell ⟨b0 + 1,0,none⟩ (.int .i64 K)).setCell ⟨b0 + 1,1,none⟩ (.int .i64 N)).setCell ⟨b0 + 1,2,none⟩ (.string S)) (b0 + 1) #[.int .i64 K,.int .i64 N,.string S,.pointer none,.int .i64 0,.pointer none,.int .i64 0] 124 := BR1.set 2 _ rfl;have BR3 : Blk ((((W2.setCell ⟨b0 + 1,0,none⟩ (.int .i64 K)).setCell ⟨b0 + 1,1,none⟩ (.int .i64 N)).setCell ⟨b0 + 1,2,none⟩ (.string S)).setCell ⟨b0 + 1,3,none⟩ (.pointer p1)) (b0 + 1) #[.int .i64 K,.int .i64 N,.string S,.pointer p1,.int .i64 0,.pointer none,.int .i64 0] 124 := BR2.set 3 _ rfl;have BR4 : Blk (((((W2.setCell ⟨b0 + 1,0,none⟩ (.int .i64 K)).setCell ⟨b0 + 1,1,none⟩ (.int .i64 N)).setCell ⟨b0 + 1,2,none⟩ (.string S)).setCell ⟨b0 + 1,3,none⟩ (.pointer p1)).setCell ⟨b0 + 1,4,none⟩ (.int .i64 (m1 : Int))) (b0 + 1) #[.int .i64 K,.int .i64 N,.string S,.pointer p1,.int .i64 (m1 : Int),.pointer none,.int .i64 0] 124 := BR3.set 4 _ rfl;have BR5 : Blk ((((((W2.setCell ⟨b0 + 1,0,none⟩ (.int .i64 K)).setCell ⟨b0 + 1,1,none⟩ (.int .i64 N)).setCell ⟨b0 + 1,2,none⟩ (.string S)).setCell ⟨b0 + 1,3,none⟩ (.pointer p1)).setCell ⟨b0 + 1,4,none⟩ (.int .i64 (m1 : Int))).setCell ⟨b0 + 1,5,none⟩ (.pointer p2)) (b0 + 1) #[.int .i64 K,.int .i64 N,.string S,.pointer p1,.int .i64 (m1 : Int),.pointer p2,.int .i64 0] 124 := BR4.set 5 _ rfl;have BR6 : Blk (((((((W2.setCell ⟨b0 + 1,0,none⟩ (.int .i64 K)).setCell ⟨b0 + 1,1,none⟩ (.int .i64 N)).setCell ⟨b0 + 1,2,none⟩ (.string S)).setCell ⟨b0 + 1,3,none⟩ (.pointer p1)).setCell ⟨b0 + 1,4,none⟩ (.int .i64 (m1 : Int))).setCell ⟨b0 + 1,5,none⟩ (.pointer p2)).setCell ⟨b0 + 1,6,none⟩ (.int .i64 (m2 : Int))) (b0 + 1) #[.int .i64 K,.int .i64 N,.string S,.pointer p1,.int .i64 (m1 : Int),.pointer p2,.int .i64 (m2 : Int)] 124 := BR5.set 6 _ rfl;have hbe : Below w.heap.size w W2 := hb.trans (hd2.mono hb.size);have hbe0 : Below w.heap.size w (W2.setCell ⟨b0 + 1,0,none⟩ (.int .i64 K)) := Below.setCell (p := ⟨b0 + 1,0,none⟩) hbe (by have := HBZ.out; show w.heap.size ≤ b0 + 1; omega) _;have hbe1 : Below w.heap.size w ((W2.setCell ⟨b0 + 1,0,none⟩ (.int .i64 K)).setCell ⟨b0 + 1,1,none⟩ (.int .i64 N)) := Below.setCell (p := ⟨b0 + 1,1,none⟩) hbe0 (by have := HBZ.out; show w.heap.size ≤ b0 + 1; omega) _;have hbe2 : Below w.heap.size w (((W2.setCell ⟨b0 + 1,0,none⟩ (.int .i64 K)).setCell ⟨b0 + 1,1,none⟩ (.int .i64 N)).setCell ⟨b0 + 1,2,none⟩ (.string S)) := Below.setCell (p := ⟨b0 + 1,2,none⟩) hbe1 (by have := HBZ.out; show w.heap.size ≤ b0 + 1; omega) _;have hbe3 : Below w.heap.size w ((((W2.setCell ⟨b0 + 1,0,none⟩ (.int .i64 K)).setCell ⟨b0 + 1,1,none⟩ (.int .i64 N)).setCell ⟨b0 + 1,2,none⟩ (.string S)).setCell ⟨b0 + 1,3,none⟩ (.pointer p1)) := Below.setCell (p := ⟨b0 + 1,3,none⟩) hbe2 (by have := HBZ.out; show w.heap.size ≤ b0 + 1; omega) _;have hbe4 : Below w.heap.size w (((((W2.setCell ⟨b0 + 1,0,none⟩ (.int .i64 K)).setCell ⟨b0 + 1,1,none⟩ (.int .i64 N)).setCell ⟨b0 + 1,2,none⟩ (.string S)).setCell ⟨b0 + 1,3,none⟩ (.pointer p1)).setCell ⟨b0 + 1,4,none⟩ (.int .i64 (m1 : Int))) := Below.setCell (p := ⟨b0 + 1,4,none⟩) hbe3 (by have := HBZ.out; show w.heap.size ≤ b0 + 1; omega) _;have hbe5 : Below w.heap.size w ((((((W2.setCell ⟨b0 + 1,0,none⟩ (.int .i64 K)).setCell ⟨b0 + 1,1,none⟩ (.int .i64 N)).setCell ⟨b0 + 1,2,none⟩ (.string S)).setCell ⟨b0 + 1,3,none⟩ (.pointer p1)).setCell ⟨b0 + 1,4,none⟩ (.int .i64 (m1 : Int))).setCell ⟨b0 + 1,5,none⟩ (.pointer p2)) := Below.setCell (p := ⟨b0 + 1,5,none⟩) hbe4 (by have := HBZ.out; show w.heap.size ≤ b0 + 1; omega) _;have hbe6 : Below w.heap.size w (((((((W2.setCell ⟨b0 + 1,0,none⟩ (.int .i64 K)).setCell ⟨b0 + 1,1,none⟩ (.int .i64 N)).setCell ⟨b0 + 1,2,none⟩ (.string S)).setCell ⟨b0 + 1,3,none⟩ (.pointer p1)).setCell ⟨b0 + 1,4,none⟩ (.int .i64 (m1 : Int))).setCell ⟨b0 + 1,5,none⟩ (.pointer p2)).setCell ⟨b0 + 1,6,none⟩ (.int .i64 (m2 : Int))) := Below.setCell (p := ⟨b0 + 1,6,none⟩) hbe5 (by have := HBZ.out; show w.heap.size ≤ b0 + 1; omega) _;clear r0 z0 r1 z1 r2 z2 r3 z3 r4 z4 r5 z5 r6 z6 BR0 hbe0 BR1 hbe1 BR2 hbe2 BR3 hbe3 BR4 hbe4 BR5 hbe5 BR hbe hS;generalize (((((((W2.setCell ⟨b0 + 1,0,none⟩ (.int .i64 K)).setCell ⟨b0 + 1,1,none⟩ (.int .i64 N)).setCell ⟨b0 + 1,2,none⟩ (.string S)).setCell ⟨b0 + 1,3,none⟩ (.pointer p1)).setCell ⟨b0 + 1,4,none⟩ (.int .i64 (m1 : Int))).setCell ⟨b0 + 1,5,none⟩ (.pointer p2)).setCell ⟨b0 + 1,6,none⟩ (.int .i64 (m2 : Int))) = W3 at *;have r0 := (BR6.cell 0).trans rfl;have r1 := (BR6.cell 1).trans rfl;have r2 := (BR6.cell 2).trans rfl;have r3 := (BR6.cell 3).trans rfl;have r4 := (BR6.cell 4).trans rfl;have r5 := (BR6.cell 5).trans rfl;have r6 := (BR6.cell 6).trans rfl;go_wp2_with fail;refine bodyPost_ret (results_cell rfl _ _ _ ⟨b0 + 1,0,none⟩ (.agg #[.int .i64 K,.int .i64 N,.string S,.pointer p1,.int .i64 (m1 : Int),.pointer p2,.int .i64 (m2 : Int)]) (by go_simp) (by go_simp)) rfl ⟨rfl,hbe6⟩
theorem row_slice {w : World} {v : Value} {size : Nat} {rs : List (List Value)} (h : RowG w v size rs) : ∃ a n c,v = .slice a n c := by
 obtain ⟨a,c,e,_⟩ := h.form;exact ⟨a,_,c,e⟩
theorem hasField_any {w : World} {snm : ByteArray} {vf vr : Value} {fs : List FlS} {tag : Int} (hf : RowG w vf 5 (flRows fs)) (hr : ∃ a n c,vr = .slice a n c) :
  Calls Try.prog 53 #[.agg #[.string snm,vf,vr],.int .i64 tag] w fun e w' => e = .returned (.bool (fldOf fs tag).isSome) ∧ Below w.heap.size w w' := by
 obtain ⟨ra,rn,rc,rfl⟩ := hr;obtain ⟨fa,fnn,fc,rfl⟩ := row_slice hf;have al : Below w.heap.size w (w.alloc (Obj.cells #[.string snm,.slice fa fnn fc,.slice ra rn rc] 46)) := (Below.refl _ _).alloc (Nat.le_refl _) _;have HC : Hid (Calls Try.prog 81 #[.agg #[.string snm,.slice fa fnn fc,.slice ra rn rc],.int .i64 tag] (w.alloc (Obj.cells #[.string snm,.slice fa fnn fc,.slice ra rn rc] 46)) fun e w' => e = .returned (.tuple #[flV ((fldOf fs tag).getD zeroF),.bool (fldOf fs tag).isSome]) ∧ Below (w.alloc (Obj.cells #[.string snm,.slice fa fnn fc,.slice ra rn rc] 46)).heap.size (w.alloc (Obj.cells #[.string snm,.slice fa fnn fc,.slice ra rn rc] 46)) w') := cfield_any (hf.below al);clear hf;generalize fldOf fs tag = X at *;generalize X.getD zeroF = Y at *;generalize X.isSome = B at *;obtain ⟨y1,y2,y3,y4,y5⟩ := Y;simp only [flV] at HC
 go_enter Try.func53,Try.ntmps53
 go_wp2_with fail;refine HC.out.mono ?_;rintro e w1 ⟨rfl,hb1⟩;have hbw : Below w.heap.size w w1 := al.trans (hb1.mono al.size);clear HC hb1 al;have hbe : Below w.heap.size w (w1.alloc (Obj.cells #[.string y1,.int .i64 y2,.int .i64 y3,.int .i64 y4,.string y5] 54)) := hbw.alloc hbw.size _;go_wp2_with fail;go_ret;exact ⟨rfl,hbe⟩
theorem restc_any {W : World} {b : Nat} {snm : ByteArray} {vf vr : Value} {fs : List FlS} (x : Fd) (hB : Blk W b #[.string snm,vf,vr] 46) (hf : RowG W vf 5 (flRows fs)) (hr : ∃ a n c,vr = .slice a n c) :
  Calls Try.prog 52 #[.agg #[.int .i64 x.tag,.int .i64 x.wire,.int .i64 x.n,.string x.b],.pointer (some ⟨b,0,none⟩)] W fun e w' => e = .returned (.bool (fldOf fs x.tag).isSome) ∧ Below W.heap.size W w' := by
 obtain ⟨ra,rn,rc,rfl⟩ := hr;obtain ⟨fa,fnn,fc,rfl⟩ := row_slice hf;have al : Below W.heap.size W (W.alloc (Obj.cells #[.int .i64 x.tag,.int .i64 x.wire,.int .i64 x.n,.string x.b] 79)) := (Below.refl _ _).alloc (Nat.le_refl _) _;have q0 := (hB.cell 0).trans rfl;have q1 := (hB.cell 1).trans rfl;have q2 := (hB.cell 2).trans rfl;have hlt := hB.lt;have HC : Hid (Calls Try.prog 53 #[.agg #[.string snm,.slice fa fnn fc,.slice ra rn rc],.int .i64 x.tag] (W.alloc (Obj.cells #[.int .i64 x.tag,.int .i64 x.wire,.int .i64 x.n,.string x.b] 79)) fun e w' => e = .returned (.bool (fldOf fs x.tag).isSome) ∧ Below (W.alloc (Obj.cells #[.int .i64 x.tag,.int .i64 x.wire,.int .i64 x.n,.string x.b] 79)).heap.size (W.alloc (Obj.cells #[.int .i64 x.tag,.int .i64 x.wire,.int .i64 x.n,.string x.b] 79)) w') := hasField_any (hf.below al) ⟨_,_,_,rfl⟩;clear hf hB;generalize (fldOf fs x.tag).isSome = R at *;generalize x.tag = x1 at *;generalize x.wire = x2 at *;generalize x.n = x3 at *;generalize x.b = x4 at *
 go_enter Try.func52,Try.ntmps52
 go_wp2_with fail;refine HC.out.mono ?_;rintro e w1 ⟨rfl,hb1⟩;have hbw : Below W.heap.size W w1 := al.trans (hb1.mono al.size);clear HC hb1 al q0 q1 q2;go_wp2_with fail;go_ret;exact ⟨rfl,hbw⟩
theorem indexR_any (b : Nat) (v : Value) (l : List Fd) (w : World) (p : Fd → Bool) (h : RowG w v 4 (fdRows l)) (hf : ∀ (W : World) (x : Fd),Below w.heap.size w W → x ∈ l → Calls Try.prog 52 #[.agg #[.int .i64 x.tag,.int .i64 x.wire,.int .i64 x.n,.string x.b],.pointer (some ⟨b,0,none⟩)] W fun e w' => e = .returned (.bool (p x)) ∧ Below W.heap.size W w') :
  Calls Try.prog 89 #[v,.func (.func 52) #[] #[.pointer (some ⟨b,0,none⟩)]] w fun e w' => (∃ k : Int,e = .returned (.int .i64 k) ∧ (0 ≤ k ↔ l.any p = true)) ∧ Below w.heap.size w w' := by
 have h0 := h;obtain ⟨a,cap,rfl,h1,h2,h3, -,h5⟩ := rest_holds h;obtain ⟨N,hN⟩ : ∃ N,l.length = N := ⟨_,rfl⟩;rw [hN] at h1 h0 ⊢;have HH : Hid (∀ g off,a = some ⟨g,off,none⟩ → ∀ (i : Nat) (f : Fd),l[i]? = some f → w.cell? ⟨g,off + i * 4,none⟩ = some (.int .i64 f.tag) ∧ w.cell? ⟨g,off + i * 4 + 1,none⟩ = some (.int .i64 f.wire) ∧ w.cell? ⟨g,off + i * 4 + 2,none⟩ = some (.int .i64 f.n) ∧ w.cell? ⟨g,off + i * 4 + 3,none⟩ = some (.string f.b)) := h5;have H3 : Hid (l = [] ∨ ∃ g off,a = some ⟨g,off,none⟩) := h3;have HN : Hid (l.length = N) := hN;have HF : Hid (∀ (W : World) (x : Fd),Below w.heap.size w W → x ∈ l → Calls Try.prog 52 #[.agg #[.int .i64 x.tag,.int .i64 x.wire,.int .i64 x.n,.string x.b],.pointer (some ⟨b,0,none⟩)] W fun e w' => e = .returned (.bool (p x)) ∧ Below W.heap.size W w') := hf;unfold maxLen at h2;clear h h0 hN hf h3 h5
 go_enter Try.func89,Try.ntmps89
 go_wp2_with fail
 go_loopw [8] (fun iv wr => ∃ i : Nat,iv = .int .i64 (i : Int) ∧ i ≤ N ∧ Hid (∀ x ∈ l.take i,p x = false) ∧ Below w.heap.size w wr) (fun iv _ => N - (intOf iv).toNat)
 case atStart => exact ⟨0,rfl,by omega,(by simp : ∀ x ∈ l.take 0,p x = false),Below.refl _ _⟩
 case round =>
  obtain ⟨i,rfl,hi,HI,hbel⟩ := hrel
  by_cases hlt : i < N
  ·obtain ⟨t,ht⟩ : ∃ r,l[i]? = some r := ⟨_,List.getElem?_eq_getElem (by rw [HN.out]; exact hlt)⟩
   obtain ⟨g,off,rfl⟩ : ∃ g off,a = some ⟨g,off,none⟩ := by
    rcases H3.out with h | h
    ·rw [h] at ht; simp at ht
    ·exact h
   obtain ⟨p0,p1,p2,p3⟩ := HH.out g off rfl i t ht;have c0 := (hbel.cell (World.block_lt_of_cell? _ _ p0)).trans p0;have c1 := (hbel.cell (World.block_lt_of_cell? _ _ p1)).trans p1;have c2 := (hbel.cell (World.block_lt_of_cell? _ _ p2)).trans p2;have c3 := (hbel.cell (World.block_lt_of_cell? _ _ p3)).trans p3;have HCC : Hid (Calls Try.prog 52 #[.agg #[.int .i64 t.tag,.int .i64 t.wire,.int .i64 t.n,.string t.b],.pointer (some ⟨b,0,none⟩)] wr fun e w' => e = .returned (.bool (p t)) ∧ Below wr.heap.size wr w') := HF.out wr t hbel (List.mem_of_getElem? ht);have HT : Hid (l.take (i + 1) = l.take i ++ [t]) := (by obtain ⟨hl',e⟩ := List.getElem?_eq_some_iff.1 ht; rw [List.take_succ_eq_append_getElem hl',e] : l.take (i + 1) = l.take i ++ [t]);have HTM : Hid (t ∈ l) := List.mem_of_getElem? ht;clear ht p0 p1 p2 p3;obtain ⟨R,hR⟩ : ∃ R,p t = R := ⟨_,rfl⟩;have HR : Hid (p t = R) := hR;rw [hR] at HCC;clear hR;generalize t.tag = x1 at *;generalize t.wire = x2 at *;generalize t.n = x3 at *;generalize t.b = x4 at *;go_wp2_with fail;refine Calls.mono HCC.out ?_;rintro e w2 ⟨rfl,hb2⟩;have hbw : Below w.heap.size w w2 := hbel.trans (hb2.mono hbel.size);clear HCC hb2 c0 c1 c2 c3 hbel
   cases R with
   | true =>
    go_wp2_with fail;go_ret;exact ⟨⟨_,rfl,by simp only [Int.natCast_nonneg,true_iff]; exact List.any_eq_true.2 ⟨t,HTM.out,HR.out⟩⟩,hbw⟩
   | false =>
    go_wp2_with fail
    go_roundw
    case rel => exact ⟨i + 1,by go_num,by omega,(by
     rw [HT.out];intro x hx
     rcases List.mem_append.1 hx with hx | hx
     ·exact HI.out x hx
     ·obtain rfl : x = t := by simpa using hx
      exact HR.out : ∀ x ∈ l.take (i + 1),p x = false),hbw⟩
    case measure => simp [intOf]; omega
  ·go_wp2_with fail;go_ret;have h5 := HI.out;rw [List.take_of_length_le (by rw [HN.out]; omega)] at h5;refine ⟨⟨-1,rfl,?_⟩,hbel⟩
   have : l.any p = false := by rw [List.any_eq_false]; intro x hx; rw [h5 x hx]; simp
   rw [this]
   simp
theorem containsR_any (b : Nat) (v : Value) (l : List Fd) (w : World) (p : Fd → Bool) (h : RowG w v 4 (fdRows l)) (hf : ∀ (W : World) (x : Fd),Below w.heap.size w W → x ∈ l → Calls Try.prog 52 #[.agg #[.int .i64 x.tag,.int .i64 x.wire,.int .i64 x.n,.string x.b],.pointer (some ⟨b,0,none⟩)] W fun e w' => e = .returned (.bool (p x)) ∧ Below W.heap.size W w') :
  Calls Try.prog 51 #[v,.func (.func 52) #[] #[.pointer (some ⟨b,0,none⟩)]] w fun e w' => e = .returned (.bool (l.any p)) ∧ Below w.heap.size w w' := by
 have HI : Hid (Calls Try.prog 89 #[v,.func (.func 52) #[] #[.pointer (some ⟨b,0,none⟩)]] w fun e w' => (∃ k : Int,e = .returned (.int .i64 k) ∧ (0 ≤ k ↔ l.any p = true)) ∧ Below w.heap.size w w') := indexR_any b v l w p h hf;obtain ⟨a,n,cap,rfl⟩ := row_slice h;clear h hf;obtain ⟨R,hR⟩ : ∃ R,l.any p = R := ⟨_,rfl⟩;rw [hR] at HI ⊢;clear hR
 go_enter Try.func51,Try.ntmps51
 go_wp2_with fail;refine Calls.mono HI.out ?_;rintro e w2 ⟨⟨k,rfl,hk⟩,hb⟩;clear HI
 have hd : decide (0 ≤ k) = R := by
  cases R
  ·simpa using hk
  ·simpa using hk
 clear hk;go_wp2_with fail;go_ret;exact ⟨rfl,hb⟩
def MesP (s : ScS) (X : Int) (b : Nat) (w : World) (e : Ending) (w' : World) : Prop := e = .returned (.int .i64 X) ∧ Kp (fun q => q = b) w w' ∧ KnS s w' b
theorem MesP.of {s : ScS} {X Y : Int} {b : Nat} {w w' : World} (hX : Y = X) (h : Kp (fun q => q = b) w w') (hk : KnS s w' b) : MesP s X b w (.returned (.int .i64 Y)) w' := ⟨by rw [hX],h,hk⟩
theorem kept_cellW {w : World} {a : Addr} {u : Value} (h : w.cell? a = some u) (x : Kept w.heap.size w) : x.w.cell? a = some u := by
 rw [x.below.cell (World.block_lt_of_cell? _ _ h)]; exact h
theorem blk3a (w : World) (c1 c2 c3 : Array Value) (t1 t2 t3 : TypeId) : Blk (((w.alloc (Obj.cells c1 t1)).alloc (Obj.cells c2 t2)).alloc (Obj.cells c3 t3)) w.heap.size c1 t1 := ((Blk.new w _ _).below ((Below.refl _ _).alloc (Nat.le_refl _) _)).below ((Below.refl _ _).alloc (Nat.le_refl _) _)
theorem blk3b (w : World) (c1 c2 c3 : Array Value) (t1 t2 t3 : TypeId) : Blk (((w.alloc (Obj.cells c1 t1)).alloc (Obj.cells c2 t2)).alloc (Obj.cells c3 t3)) (w.heap.size + 1) c2 t2 := by
 have := (Blk.new (w.alloc (Obj.cells c1 t1)) c2 t2).below ((Below.refl _ _).alloc (Nat.le_refl _) (Obj.cells c3 t3))
 rwa [show (w.alloc (Obj.cells c1 t1)).heap.size = w.heap.size + 1 from by simp] at this
theorem blk3c (w : World) (c1 c2 c3 : Array Value) (t1 t2 t3 : TypeId) : Blk (((w.alloc (Obj.cells c1 t1)).alloc (Obj.cells c2 t2)).alloc (Obj.cells c3 t3)) (w.heap.size + 2) c3 t3 := by
 have := Blk.new ((w.alloc (Obj.cells c1 t1)).alloc (Obj.cells c2 t2)) c3 t3
 rwa [show ((w.alloc (Obj.cells c1 t1)).alloc (Obj.cells c2 t2)).heap.size = w.heap.size + 2 from by simp] at this
theorem blk3w (w : World) (c1 c2 c3 : Array Value) (t1 t2 t3 : TypeId) : Below w.heap.size w (((w.alloc (Obj.cells c1 t1)).alloc (Obj.cells c2 t2)).alloc (Obj.cells c3 t3)) := (((Below.refl _ _).alloc (Nat.le_refl _) _).alloc (by simp) _).alloc (by simp; omega) _
theorem tree_step (s : ScS) (sn : ByteArray) (ma ea ta : Option Addr) (mn mc en ec tn tc b : Nat) (n : Nat) (IH : ∀ t nm v w,TrW n w v t → KnS s w b → ScIn w (.agg #[.string sn,.slice ma mn mc,.slice ea en ec,.slice ta tn tc]) s → Calls Try.prog 27 #[.agg #[.string sn,.slice ma mn mc,.slice ea en ec,.slice ta tn tc,.map (some b)],.string nm,v] w (MesP s (msgV n s nm t) b w))
  (t : Tr) (k : Int) (tnm : ByteArray) (v : Value) (w : World) (ht : TrW n w v t) (hk : KnS s w b) (hs : ScIn w (.agg #[.string sn,.slice ma mn mc,.slice ea en ec,.slice ta tn tc]) s) : Calls Try.prog 88 #[.agg #[.string sn,.slice ma mn mc,.slice ea en ec,.slice ta tn tc,.map (some b)],.agg #[.int .i64 k,.string tnm],v] w (MesP s (treeV (msgV n s) k tnm t) b w) := by
 obtain ⟨m,a1,c1,a2,c2, -,rfl, -, -,hsz, -⟩ := ht.open;have HM : Hid (∀ W,Below w.heap.size w W → Calls Try.prog 27 #[.agg #[.string sn,.slice ma mn mc,.slice ea en ec,.slice ta tn tc,.map (some b)],.string tnm,.agg #[.int .i64 t.kind,.int .i64 t.n,.string t.s,.slice a1 t.es.length c1,.slice a2 t.rest.length c2]] W (MesP s (msgV n s tnm t) b W)) := fun W hW => IH t tnm _ W (ht.cel (Cel.ofBelow hW)) (hk.below hW) (hs.below hW)
 have HK : Hid (KnS s w b) := hk;have HX : Hid (∃ X,treeV (msgV n s) k tnm t = X) := ⟨_,rfl⟩;obtain ⟨X,hX⟩ := HX.out;have HV : Hid (treeV (msgV n s) k tnm t = X) := hX;rw [hX];clear hX HX ht hk hs;generalize t.es.length = n1 at *;generalize t.rest.length = n2 at *;obtain ⟨K,hK⟩ : ∃ z,t.kind = z := ⟨_,rfl⟩;obtain ⟨N,hN⟩ : ∃ z,t.n = z := ⟨_,rfl⟩;obtain ⟨S,hS⟩ : ∃ z,t.s = z := ⟨_,rfl⟩;have HT : Hid (t.kind = K ∧ t.n = N ∧ t.s = S) := ⟨hK,hN,hS⟩;rw [hK,hN,hS] at HM;rw [hS] at hsz;rw [hK,hN,hS];clear hK hN hS;have BF := blk3a w #[.string sn,.slice ma mn mc,.slice ea en ec,.slice ta tn tc,.map (some b)] #[.int .i64 k,.string tnm] #[.int .i64 K,.int .i64 N,.string S,.slice a1 n1 c1,.slice a2 n2 c2] 82 52 30;have BY := blk3b w #[.string sn,.slice ma mn mc,.slice ea en ec,.slice ta tn tc,.map (some b)] #[.int .i64 k,.string tnm] #[.int .i64 K,.int .i64 N,.string S,.slice a1 n1 c1,.slice a2 n2 c2] 82 52 30;have BT := blk3c w #[.string sn,.slice ma mn mc,.slice ea en ec,.slice ta tn tc,.map (some b)] #[.int .i64 k,.string tnm] #[.int .i64 K,.int .i64 N,.string S,.slice a1 n1 c1,.slice a2 n2 c2] 82 52 30;have hbw := blk3w w #[.string sn,.slice ma mn mc,.slice ea en ec,.slice ta tn tc,.map (some b)] #[.int .i64 k,.string tnm] #[.int .i64 K,.int .i64 N,.string S,.slice a1 n1 c1,.slice a2 n2 c2] 82 52 30;obtain ⟨kt,hkt⟩ : ∃ z,kindT k = z := ⟨_,rfl⟩;have HKT : Hid (kindT k = kt) := hkt
 have HKC : Hid (∀ W,Calls Try.prog 108 #[.agg #[.int .i64 k,.string tnm]] W fun e w' => e = .returned (.int .i64 kt) ∧ Below W.heap.size W w') := fun W => by
  have h1 := kindOf_any k tnm W;rw [hkt] at h1;exact h1
 clear hkt
 go_enter Try.func88,Try.ntmps88
 go_wp2_with fail;obtain ⟨b0,hb0⟩ : ∃ z,w.heap.size = z := ⟨_,rfl⟩;have HBZ : Hid (w.heap.size = b0) := hb0;generalize (((w.alloc (Obj.cells #[.string sn,.slice ma mn mc,.slice ea en ec,.slice ta tn tc,.map (some b)] 82)).alloc (Obj.cells #[.int .i64 k,.string tnm] 52)).alloc (Obj.cells #[.int .i64 K,.int .i64 N,.string S,.slice a1 n1 c1,.slice a2 n2 c2] 30)) = WA at *;rw [hb0] at BF BY BT;simp only [hb0];clear hb0;have t0 := (BT.cell 0).trans rfl;have y0 := (BY.cell 0).trans rfl;have y1 := (BY.cell 1).trans rfl;have k0 := kept_cellW t0;have k1 := kept_cellW y0;have k2 := kept_cellW y1;clear t0 y0 y1
 have HKD : Hid (∀ W1,Below WA.heap.size WA W1 → Calls Try.prog 108 #[.agg #[.int .i64 k,.string tnm]] W1 fun e w' => e = .returned (.int .i64 kt) ∧ Below WA.heap.size WA w') := fun W1 hW1 => by
  refine (HKC.out W1).mono ?_;rintro e W' ⟨rfl,hb⟩;exact ⟨rfl,hW1.trans (hb.mono hW1.size)⟩
 have FIN : Hid (∀ (W : World) (Y : Int),Below WA.heap.size WA W → X = Y → MesP s X b w (.returned (.int .i64 Y)) W) := fun W Y hW hY => by
  have h1 : Below w.heap.size w W := hbw.trans (hW.mono hbw.size);exact MesP.of hY.symm (Kp.ofBelow h1) (HK.out.below h1)
 haveI := nonempty_qb (Below.refl WA.heap.size WA)
 refine wp_region_qb (Below.refl WA.heap.size WA) (by kernel_rfl) (by kernel_rfl) ?_
 repeat (go_big_quiet_step (first | (go_at_call 108; exact qb_call HKD.out)))
 refine wpQuiet_nil ?_;rintro W1 ⟨⟨_,hW1⟩,rfl⟩;clear k0 k1 k2 HKD HKC;have BF1 := BF.below hW1;have BY1 := BY.below hW1;have BT1 := BT.below hW1;have f0 := (BF1.cell 0).trans rfl;have f1 := (BF1.cell 1).trans rfl;have f2 := (BF1.cell 2).trans rfl;have f3 := (BF1.cell 3).trans rfl;have f4 := (BF1.cell 4).trans rfl;have y0 := (BY1.cell 0).trans rfl;have y1 := (BY1.cell 1).trans rfl;have t0 := (BT1.cell 0).trans rfl;have t1 := (BT1.cell 1).trans rfl;have t2 := (BT1.cell 2).trans rfl;have t3 := (BT1.cell 3).trans rfl;have t4 := (BT1.cell 4).trans rfl;clear BF BY BT BF1 BY1 BT1
 by_cases hne : K = kt
 rotate_left
 ·have hq : (K != kt) = true := by simpa using hne
  have hX : X = 8 := by rw [← HV.out,treeV,HT.out.1,HKT.out,if_pos hne]
  have HX : Hid (X = 8) := hX;clear hne hX;go_wp2_with fail;go_ret;exact FIN.out _ _ hW1 HX.out
 ·have hq : (K != kt) = false := by simpa using hne
  by_cases hK1 : K = 1
  ·subst hK1
   have hk4 : ¬ k = 4 := fun h => by have := HKT.out; rw [h,← hne] at this; revert this; decide
   have e4 : (k == 4) = false := by simpa using hk4
   cases hR : nmrB k N with
   | false =>
    have HX : Hid (X = 11) := (by rw [← HV.out,treeV,HT.out.1,HKT.out,if_neg (by simpa using hne),if_pos ⟨rfl,by rw [HT.out.2.1]; exact hR⟩] : X = 11);have HN : Hid (Calls Try.prog 105 #[.agg #[.int .i64 k,.string tnm],.int .i64 N] W1 fun e w' => e = .returned (.bool false) ∧ Below W1.heap.size W1 w') := (by have h1 := number_any k N tnm W1; rw [hR] at h1; exact h1 : Calls Try.prog _ _ W1 _);clear hR hne hk4;go_wp2_with fail;refine HN.out.mono ?_;rintro e W2 ⟨rfl,hb2⟩;have hW2 := hW1.trans (hb2.mono hW1.size);clear HN hb2 f0 f1 f2 f3 f4 y0 y1 t0 t1 t2 t3 t4;go_wp2_with fail;go_ret;exact FIN.out _ _ hW2 HX.out
   | true =>
    have HX : Hid (X = 0) := (by rw [← HV.out,treeV,HT.out.1,HKT.out,if_neg (by simpa using hne),if_neg (by rw [HT.out.2.1,hR]; simp),if_neg (by simp [hk4]),if_neg (by decide)] : X = 0);have HN : Hid (Calls Try.prog 105 #[.agg #[.int .i64 k,.string tnm],.int .i64 N] W1 fun e w' => e = .returned (.bool true) ∧ Below W1.heap.size W1 w') := (by have h1 := number_any k N tnm W1; rw [hR] at h1; exact h1 : Calls Try.prog _ _ W1 _);clear hR hne hk4;go_wp2_with fail;refine HN.out.mono ?_;rintro e W2 ⟨rfl,hb2⟩;have hW2 := hW1.trans (hb2.mono hW1.size);have y0 := (hb2.cell (World.block_lt_of_cell? _ _ y0)).trans y0;have t0 := (hb2.cell (World.block_lt_of_cell? _ _ t0)).trans t0;clear HN hb2 f0 f1 f2 f3 f4 y1 t1 t2 t3 t4;go_wp2_with fail;go_ret;exact FIN.out _ _ hW2 HX.out
  ·have e1 : (K == 1) = false := by simpa using hK1
   by_cases hk4 : k = 4
   ·subst hk4
    have h3 : (K == 3) = false := by have := HKT.out; rw [← hne] at this; rw [← this]; decide
    cases hR : validB S.data.toList with
    | false =>
     have HX : Hid (X = 9) := (by rw [← HV.out,treeV,HT.out.1,HKT.out,if_neg (by simpa using hne),if_neg (by simp [hK1]),if_pos ⟨rfl,by rw [HT.out.2.2]; exact hR⟩] : X = 9);have HN : Hid (Calls Try.prog 106 #[.string S] W1 fun e w' => e = .returned (.bool false) ∧ Below W1.heap.size W1 w') := (by have h1 := valid_any S W1 hsz; rw [hR] at h1; exact h1 : Calls Try.prog _ _ W1 _);clear hR hne hK1;go_wp2_with fail;refine HN.out.mono ?_;rintro e W2 ⟨rfl,hb2⟩;have hW2 := hW1.trans (hb2.mono hW1.size);clear HN hb2 f0 f1 f2 f3 f4 y0 y1 t0 t1 t2 t3 t4;go_wp2_with fail;go_ret;exact FIN.out _ _ hW2 HX.out
    | true =>
     have HX : Hid (X = 0) := (by rw [← HV.out,treeV,HT.out.1,HKT.out,if_neg (by simpa using hne),if_neg (by simp [hK1]),if_neg (by rw [HT.out.2.2,hR]; simp),if_neg (by simpa using h3)] : X = 0);have HN : Hid (Calls Try.prog 106 #[.string S] W1 fun e w' => e = .returned (.bool true) ∧ Below W1.heap.size W1 w') := (by have h1 := valid_any S W1 hsz; rw [hR] at h1; exact h1 : Calls Try.prog _ _ W1 _);clear hR hne hK1;go_wp2_with fail;refine HN.out.mono ?_;rintro e W2 ⟨rfl,hb2⟩;have hW2 := hW1.trans (hb2.mono hW1.size);have t0 := (hb2.cell (World.block_lt_of_cell? _ _ t0)).trans t0;clear HN hb2 f0 f1 f2 f3 f4 y0 y1 t1 t2 t3 t4;go_wp2_with fail;go_ret;exact FIN.out _ _ hW2 HX.out
   ·have e4 : (k == 4) = false := by simpa using hk4
    by_cases hK3 : K = 3
    ·subst hK3;have HX : Hid (X = msgV n s tnm t) := (by rw [← HV.out,treeV,HT.out.1,HKT.out,if_neg (by simpa using hne),if_neg (by simp),if_neg (by simp [hk4]),if_pos rfl] : X = msgV n s tnm t);have hbW1 := hbw.trans (hW1.mono hbw.size);have HN := HM.out W1 hbW1;rw [← HX.out] at HN;have HN2 : Hid (Calls Try.prog 27 #[.agg #[.string sn,.slice ma mn mc,.slice ea en ec,.slice ta tn tc,.map (some b)],.string tnm,.agg #[.int .i64 3,.int .i64 N,.string S,.slice a1 n1 c1,.slice a2 n2 c2]] W1 (MesP s X b W1)) := HN;clear HN hne hK1 hk4 HX;go_wp2_with fail;refine Calls.mono HN2.out ?_;rintro e W2 ⟨rfl,hk2,hn2⟩;have HF : Hid (MesP s X b w (.returned (.int .i64 X)) W2) := MesP.of rfl ((Kp.ofBelow hbW1).trans hk2) hn2;clear HN2 hk2 hn2 f0 f1 f2 f3 f4 y0 y1 t0 t1 t2 t3 t4;go_wp2_with fail;go_ret;exact HF.out
    ·have e3 : (K == 3) = false := by simpa using hK3
     have HX : Hid (X = 0) := (by rw [← HV.out,treeV,HT.out.1,HKT.out,if_neg (by simpa using hne),if_neg (by simp [hK1]),if_neg (by simp [hk4]),if_neg hK3] : X = 0);clear hne hK1 hk4 hK3;go_wp2_with fail;go_ret;exact FIN.out _ _ hW1 HX.out
theorem entry_step (s : ScS) (sn : ByteArray) (ma ea ta : Option Addr) (mn mc en ec tn tc b : Nat) (n : Nat) (IH : ∀ t nm v w,TrW n w v t → KnS s w b → ScIn w (.agg #[.string sn,.slice ma mn mc,.slice ea en ec,.slice ta tn tc]) s → Calls Try.prog 27 #[.agg #[.string sn,.slice ma mn mc,.slice ea en ec,.slice ta tn tc,.map (some b)],.string nm,v] w (MesP s (msgV n s nm t) b w))
  (e : Int × List Tr) (fs : List FlS) (mnm : ByteArray) (fa ra xa : Option Addr) (fl fc rl rc xc : Nat) (w : World) (hx : TrsR n w (.slice xa e.2.length xc) e.2) (hxc : e.2.length ≤ xc) (hxm : xc ≤ maxLen) (hf : RowG w (.slice fa fl fc) 5 (flRows fs)) (hk : KnS s w b) (hs : ScIn w (.agg #[.string sn,.slice ma mn mc,.slice ea en ec,.slice ta tn tc]) s) :
  Calls Try.prog 50 #[.agg #[.string sn,.slice ma mn mc,.slice ea en ec,.slice ta tn tc,.map (some b)],.agg #[.string mnm,.slice fa fl fc,.slice ra rl rc],.agg #[.int .i64 e.1,.slice xa e.2.length xc]] w (MesP s (entV (msgV n s) fs e) b w) := by
 obtain ⟨Xl,hXl⟩ : ∃ z,e.2.length = z := ⟨_,rfl⟩;obtain ⟨e1,he1⟩ : ∃ z,e.1 = z := ⟨_,rfl⟩;rw [hXl] at hxc hx ⊢;rw [he1];unfold maxLen at hxm;have HXL : Hid (e.2.length = Xl) := hXl;have HE1 : Hid (e.1 = e1) := he1;clear hXl he1;have BF := blk3a w #[.string sn,.slice ma mn mc,.slice ea en ec,.slice ta tn tc,.map (some b)] #[.string mnm,.slice fa fl fc,.slice ra rl rc] #[.int .i64 e1,.slice xa Xl xc] 82 46 57;have BE := blk3c w #[.string sn,.slice ma mn mc,.slice ea en ec,.slice ta tn tc,.map (some b)] #[.string mnm,.slice fa fl fc,.slice ra rl rc] #[.int .i64 e1,.slice xa Xl xc] 82 46 57;have hbw := blk3w w #[.string sn,.slice ma mn mc,.slice ea en ec,.slice ta tn tc,.map (some b)] #[.string mnm,.slice fa fl fc,.slice ra rl rc] #[.int .i64 e1,.slice xa Xl xc] 82 46 57;obtain ⟨X,hX⟩ : ∃ X,entV (msgV n s) fs e = X := ⟨_,rfl⟩;have HV : Hid (entV (msgV n s) fs e = X) := hX;rw [hX];clear hX;have HK : Hid (KnS s w b) := hk;have HX : Hid (TrsR n w (.slice xa Xl xc) e.2) := hx;have HS : Hid (ScIn w (.agg #[.string sn,.slice ma mn mc,.slice ea en ec,.slice ta tn tc]) s) := hs;have HFC : Hid (Calls Try.prog 81 #[.agg #[.string mnm,.slice fa fl fc,.slice ra rl rc],.int .i64 e1] (((w.alloc (Obj.cells #[.string sn,.slice ma mn mc,.slice ea en ec,.slice ta tn tc,.map (some b)] 82)).alloc (Obj.cells #[.string mnm,.slice fa fl fc,.slice ra rl rc] 46)).alloc (Obj.cells #[.int .i64 e1,.slice xa Xl xc] 57)) fun e' w' => e' = .returned (.tuple #[flV ((fldOf fs e1).getD zeroF),.bool (fldOf fs e1).isSome]) ∧ Below (((w.alloc (Obj.cells #[.string sn,.slice ma mn mc,.slice ea en ec,.slice ta tn tc,.map (some b)] 82)).alloc (Obj.cells #[.string mnm,.slice fa fl fc,.slice ra rl rc] 46)).alloc (Obj.cells #[.int .i64 e1,.slice xa Xl xc] 57)).heap.size (((w.alloc (Obj.cells #[.string sn,.slice ma mn mc,.slice ea en ec,.slice ta tn tc,.map (some b)] 82)).alloc (Obj.cells #[.string mnm,.slice fa fl fc,.slice ra rl rc] 46)).alloc (Obj.cells #[.int .i64 e1,.slice xa Xl xc] 57)) w') := cfield_any (hf.below hbw);clear hk hx hs hf
 cases hfo : fldOf fs e1 with
 | none =>
  have HX7 : Hid (7 = X) := (by rw [← HV.out,entV,HE1.out,hfo] : 7 = X);rw [hfo] at HFC;simp only [flV,zeroF,Option.getD_none,Option.isSome_none] at HFC;clear hfo BF BE
  go_enter Try.func50,Try.ntmps50
  go_wp2_with fail;refine HFC.out.mono ?_;rintro ee w1 ⟨rfl,hb1⟩;have hbw1 : Below w.heap.size w w1 := hbw.trans (hb1.mono hbw.size);have hbw2 : Below w.heap.size w (w1.alloc (Obj.cells #[.string ⟨#[]⟩,.int .i64 0,.int .i64 0,.int .i64 0,.string ⟨#[]⟩] 54)) := hbw1.alloc hbw1.size _;clear HFC hb1 hbw hbw1;go_wp2_with fail;go_ret;exact MesP.of HX7.out (Kp.ofBelow hbw2) (HK.out.below hbw2)
 | some f =>
  have HFO : Hid (fldOf fs e.1 = some f) := (by rw [HE1.out]; exact hfo : fldOf fs e.1 = some f);rw [hfo] at HFC;simp only [flV,Option.getD_some,Option.isSome_some] at HFC;clear hfo;obtain ⟨f1,f2,lb,fk,ft⟩ := f;simp only at HFC;obtain ⟨b0,hb0⟩ : ∃ z,w.heap.size = z := ⟨_,rfl⟩;have HBZ : Hid (w.heap.size = b0) := hb0
  go_enter Try.func50,Try.ntmps50
  go_wp2_with fail;refine HFC.out.mono ?_;rintro ee w1 ⟨rfl,hb1⟩;have hbw1 : Below w.heap.size w w1 := hbw.trans (hb1.mono hbw.size);have al2 : Below w1.heap.size w1 (w1.alloc (Obj.cells #[.string f1,.int .i64 f2,.int .i64 lb,.int .i64 fk,.string ft] 54)) := (Below.refl _ _).alloc (Nat.le_refl _) _;have hbw2 : Below w.heap.size w (w1.alloc (Obj.cells #[.string f1,.int .i64 f2,.int .i64 lb,.int .i64 fk,.string ft] 54)) := hbw1.trans (al2.mono hbw1.size);have BF2 : Blk (w1.alloc (Obj.cells #[.string f1,.int .i64 f2,.int .i64 lb,.int .i64 fk,.string ft] 54)) w.heap.size #[.string sn,.slice ma mn mc,.slice ea en ec,.slice ta tn tc,.map (some b)] 82 := (BF.below hb1).below al2;have BE2 : Blk (w1.alloc (Obj.cells #[.string f1,.int .i64 f2,.int .i64 lb,.int .i64 fk,.string ft] 54)) (w.heap.size + 2) #[.int .i64 e1,.slice xa Xl xc] 57 := (BE.below hb1).below al2;have BL2 : Blk (w1.alloc (Obj.cells #[.string f1,.int .i64 f2,.int .i64 lb,.int .i64 fk,.string ft] 54)) w1.heap.size #[.string f1,.int .i64 f2,.int .i64 lb,.int .i64 fk,.string ft] 54 := Blk.new w1 _ _;have HK2 : Hid (KnS s (w1.alloc (Obj.cells #[.string f1,.int .i64 f2,.int .i64 lb,.int .i64 fk,.string ft] 54)) b) := HK.out.below hbw2;have HX2 : Hid (TrsR n (w1.alloc (Obj.cells #[.string f1,.int .i64 f2,.int .i64 lb,.int .i64 fk,.string ft] 54)) (.slice xa Xl xc) e.2) := HX.out.celT (Cel.ofBelow hbw2);have HS2 : Hid (ScIn (w1.alloc (Obj.cells #[.string f1,.int .i64 f2,.int .i64 lb,.int .i64 fk,.string ft] 54)) (.agg #[.string sn,.slice ma mn mc,.slice ea en ec,.slice ta tn tc]) s) := HS.out.below hbw2;have HKW : Hid (Kp (fun q => q = b) w (w1.alloc (Obj.cells #[.string f1,.int .i64 f2,.int .i64 lb,.int .i64 fk,.string ft] 54))) := Kp.ofBelow hbw2;have q1 := (BE2.cell 1).trans rfl;have r2 := (BL2.cell 2).trans rfl;clear HFC hb1 hbw hbw1 al2 BF BE HK HX HS;simp only [hb0] at BF2 BE2 q1 ⊢;clear hb0
  by_cases h4 : lb ≠ 3 ∧ 1 < Xl
  ·have d1 : (lb != 3) = true := by simpa using h4.1
   have d2 : decide (1 < (Xl : Int)) = true := by simp; omega
   have HX4 : Hid (4 = X) := (by rw [← HV.out,entV,HFO.out]; simp only [HXL.out]; rw [if_pos h4] : 4 = X);clear h4;go_wp2_with fail;go_ret;exact MesP.of HX4.out HKW.out HK2.out
  ·have HXE : Hid (X = errF (e.2.map (oneV (msgV n s) ⟨f1,f2,lb,fk,ft⟩))) := (by rw [← HV.out,entV,HFO.out]; simp only [HXL.out]; rw [if_neg h4] : X = errF (e.2.map (oneV (msgV n s) ⟨f1,f2,lb,fk,ft⟩)))
   rcases Decidable.em (lb = 3) with h3 | h3
   ·have d1 : (lb != 3) = false := by simpa using h3
    clear h3 h4;go_wp2_with fail;generalize (w1.alloc (Obj.cells #[.string f1,.int .i64 f2,.int .i64 lb,.int .i64 fk,.string ft] 54)) = W2 at *;obtain ⟨bL,hbL⟩ : ∃ z,w1.heap.size = z := ⟨_,rfl⟩;rw [hbL] at BL2;simp only [hbL];clear hbL d1;clear q1 r2
    go_loopw [33] (fun iv wr => ∃ i : Nat,iv = .int .i64 (i : Int) ∧ i ≤ Xl ∧ Hid (errF ((e.2.take i).map (oneV (msgV n s) ⟨f1,f2,lb,fk,ft⟩)) = 0) ∧ Kp (fun q => q = b) W2 wr ∧ Hid (KnS s wr b)) (fun iv _ => Xl - (intOf iv).toNat)
    case atStart => exact ⟨0,rfl,by omega,(by simp [errF] : errF ((e.2.take 0).map (oneV (msgV n s) ⟨f1,f2,lb,fk,ft⟩)) = 0),Kp.refl _ _,HK2⟩
    case round =>
     obtain ⟨i,rfl,hi,HI,hkp,HKR⟩ := hrel;have hcel : Cel W2 wr := HK2.out.cel hkp;have BFr := BF2.cel hcel;have BLr := BL2.cel hcel
     by_cases hlt : i < Xl
     ·obtain ⟨x,hx⟩ : ∃ r,e.2[i]? = some r := ⟨_,List.getElem?_eq_getElem (by rw [HXL.out]; exact hlt)⟩;obtain ⟨gx,ox,a1,n1,c1,a2,n2,c2,rfl,x0,x1,x2,x3,x4,hxw⟩ := trsR_get (HX2.out.celT hcel) hx;obtain ⟨K,hK⟩ : ∃ z,x.kind = z := ⟨_,rfl⟩;obtain ⟨N,hN⟩ : ∃ z,x.n = z := ⟨_,rfl⟩;obtain ⟨S,hS⟩ : ∃ z,x.s = z := ⟨_,rfl⟩;rw [hK] at x0;rw [hN] at x1;rw [hS] at x2;rw [hK,hN,hS] at hxw;have al : Below wr.heap.size wr (wr.alloc (Obj.cells #[.int .i64 K,.int .i64 N,.string S,.slice a1 n1 c1,.slice a2 n2 c2] 30)) := (Below.refl _ _).alloc (Nat.le_refl _) _;have HPT : Hid (x.kind = K ∧ x.n = N ∧ x.s = S ∧ x.es.length = n1 ∧ x.rest.length = n2) := hxw.parts;obtain ⟨Y,hY⟩ : ∃ z,treeV (msgV n s) fk ft x = z := ⟨_,rfl⟩;have HY : Hid (treeV (msgV n s) fk ft x = Y) := hY
      have HTC : Hid (Calls Try.prog 88 #[.agg #[.string sn,.slice ma mn mc,.slice ea en ec,.slice ta tn tc,.map (some b)],.agg #[.int .i64 fk,.string ft],.agg #[.int .i64 K,.int .i64 N,.string S,.slice a1 n1 c1,.slice a2 n2 c2]] (wr.alloc (Obj.cells #[.int .i64 K,.int .i64 N,.string S,.slice a1 n1 c1,.slice a2 n2 c2] 30)) (MesP s Y b (wr.alloc (Obj.cells #[.int .i64 K,.int .i64 N,.string S,.slice a1 n1 c1,.slice a2 n2 c2] 30)))) := (by
       have h1 := tree_step s sn ma ea ta mn mc en ec tn tc b n IH x fk ft _ (wr.alloc (Obj.cells #[.int .i64 K,.int .i64 N,.string S,.slice a1 n1 c1,.slice a2 n2 c2] 30)) (hxw.cel (Cel.ofBelow al)) (HKR.out.below al) ((HS2.out.cel hcel).below al);rw [hY] at h1
       exact h1 : Calls Try.prog _ _ (wr.alloc (Obj.cells #[.int .i64 K,.int .i64 N,.string S,.slice a1 n1 c1,.slice a2 n2 c2] 30)) _)
      have HIX : Hid (e.2[i]? = some x) := hx;have BX : Blk (wr.alloc (Obj.cells #[.int .i64 K,.int .i64 N,.string S,.slice a1 n1 c1,.slice a2 n2 c2] 30)) wr.heap.size #[.int .i64 K,.int .i64 N,.string S,.slice a1 n1 c1,.slice a2 n2 c2] 30 := Blk.new wr _ _;have BFx := BFr.below al;have BLx := BLr.below al;have g0 := (BFx.cell 0).trans rfl;have g1 := (BFx.cell 1).trans rfl;have g2 := (BFx.cell 2).trans rfl;have g3 := (BFx.cell 3).trans rfl;have g4 := (BFx.cell 4).trans rfl;have l3 := (BLx.cell 3).trans rfl;have l4 := (BLx.cell 4).trans rfl;clear hK hN hS hY hx hxw;go_wp2_with fail;refine Calls.mono HTC.out ?_;rintro ee W4 ⟨rfl,hk4,hn4⟩;have hcx : Cel (wr.alloc (Obj.cells #[.int .i64 K,.int .i64 N,.string S,.slice a1 n1 c1,.slice a2 n2 c2] 30)) W4 := (HKR.out.below al).cel hk4;have BX4 := BX.cel hcx;have BL4 := BLx.cel hcx;have hkp4 : Kp (fun q => q = b) W2 W4 := (hkp.trans (Kp.ofBelow al)).trans hk4;have HN4 : Hid (KnS s W4 b) := hn4;have HKW4 : Hid (Kp (fun q => q = b) w W4) := HKW.out.trans hkp4;clear HTC hk4 hn4 hcx BX BFx BLx g0 g1 g2 g3 g4 l3 l4 x0 x1 x2 x3 x4 al BFr BLr hkp HKR;obtain ⟨bx,hbx⟩ : ∃ z,wr.heap.size = z := ⟨_,rfl⟩;rw [hbx] at BX4;simp only [hbx];clear hbx;have j0 := (BX4.cell 0).trans rfl;have j1 := (BX4.cell 1).trans rfl;have j2 := (BX4.cell 2).trans rfl;have j3 := (BX4.cell 3).trans rfl;have j4 := (BX4.cell 4).trans rfl;have l2 := (BL4.cell 2).trans rfl
      by_cases hY0 : Y = 0
      ·subst hY0
       by_cases hl1 : lb = 1
       ·have d5 : (lb == 1) = true := by simpa using hl1
        cases hZ : zroB x with
        | true =>
         have HZ : Hid (Calls Try.prog 85 #[.agg #[.int .i64 K,.int .i64 N,.string S,.slice a1 n1 c1,.slice a2 n2 c2]] W4 fun e w' => e = .returned (.bool true) ∧ Below W4.heap.size W4 w') := (by
          obtain ⟨p1,p2,p3,p4,p5⟩ := HPT.out;have h1 := zero_any x a1 a2 n1 c1 n2 c2 W4 p4.symm p5.symm;rw [p1,p2,p3,hZ] at h1
          exact h1 : Calls Try.prog _ _ W4 _)
         have HX12 : Hid (12 = X) := (by
          have h1 : oneV (msgV n s) ⟨f1,f2,lb,fk,ft⟩ x = 12 := by
           rw [oneV,if_neg (by simp [HY.out]),if_pos ⟨hl1,hZ⟩]
          rw [HXE.out,errF_hit HIX.out HI.out (by rw [h1]; decide),h1] : 12 = X)
         clear hZ hl1;go_wp2_with fail;refine HZ.out.mono ?_;rintro ee W5 ⟨rfl,hb5⟩;have HF : Hid (MesP s X b w (.returned (.int .i64 12)) W5) := MesP.of HX12.out (HKW4.out.trans (Kp.ofBelow hb5)) (HN4.out.below hb5);clear HZ hb5 j0 j1 j2 j3 j4 l2;go_wp2_with fail;go_ret;exact HF.out
        | false =>
         have HZ : Hid (Calls Try.prog 85 #[.agg #[.int .i64 K,.int .i64 N,.string S,.slice a1 n1 c1,.slice a2 n2 c2]] W4 fun e w' => e = .returned (.bool false) ∧ Below W4.heap.size W4 w') := (by
          obtain ⟨p1,p2,p3,p4,p5⟩ := HPT.out;have h1 := zero_any x a1 a2 n1 c1 n2 c2 W4 p4.symm p5.symm;rw [p1,p2,p3,hZ] at h1
          exact h1 : Calls Try.prog _ _ W4 _)
         have HI2 : Hid (errF ((e.2.take (i + 1)).map (oneV (msgV n s) ⟨f1,f2,lb,fk,ft⟩)) = 0) := errF_on HIX.out HI.out (by rw [oneV,if_neg (by simp [HY.out]),if_neg (by rw [hZ]; simp)]);clear hZ hl1;go_wp2_with fail;refine HZ.out.mono ?_;rintro ee W5 ⟨rfl,hb5⟩;have HN5 : Hid (KnS s W5 b) := HN4.out.below hb5;have hkp5 : Kp (fun q => q = b) W2 W5 := hkp4.trans (Kp.ofBelow hb5);clear HZ hb5 j0 j1 j2 j3 j4 l2 HI HN4 hkp4 HKW4;go_wp2_with fail
         go_roundw
         case rel => exact ⟨i + 1,by go_num,by omega,HI2,hkp5,HN5⟩
         case measure => simp [intOf]; omega
       ·have d5 : (lb == 1) = false := by simpa using hl1
        have HI2 : Hid (errF ((e.2.take (i + 1)).map (oneV (msgV n s) ⟨f1,f2,lb,fk,ft⟩)) = 0) := errF_on HIX.out HI.out (by rw [oneV,if_neg (by simp [HY.out]),if_neg (by simp [hl1])]);clear hl1;go_wp2_with fail;clear j0 j1 j2 j3 j4 l2 HI d5
        go_roundw
        case rel => exact ⟨i + 1,by go_num,by omega,HI2,hkp4,HN4⟩
        case measure => simp [intOf]; omega
      ·have d4 : (Y != 0) = true := by simpa using hY0
       have HXY : Hid (Y = X) := (by
        have h1 : oneV (msgV n s) ⟨f1,f2,lb,fk,ft⟩ x = Y := by
         rw [oneV,if_pos (by simpa [HY.out] using hY0)];exact HY.out
        rw [HXE.out,errF_hit HIX.out HI.out (by rw [h1]; exact hY0),h1] : Y = X)
       clear hY0;go_wp2_with fail;go_ret;exact MesP.of HXY.out HKW4.out HN4.out
     ·have HX0 : Hid (0 = X) := (by
       have h1 := HI.out;rw [List.take_of_length_le (by rw [HXL.out]; omega)] at h1
       rw [HXE.out,h1] : 0 = X)
      clear BFr BLr HI;go_wp2_with fail;go_ret;exact MesP.of HX0.out (HKW.out.trans hkp) HKR.out
   ·have d1 : (lb != 3) = true := by simpa using h3
    have d2 : decide (1 < (Xl : Int)) = false := by simp; have := fun h => h4 ⟨h3,h⟩; omega
    clear h3 h4;go_wp2_with fail;generalize (w1.alloc (Obj.cells #[.string f1,.int .i64 f2,.int .i64 lb,.int .i64 fk,.string ft] 54)) = W2 at *;obtain ⟨bL,hbL⟩ : ∃ z,w1.heap.size = z := ⟨_,rfl⟩;rw [hbL] at BL2;simp only [hbL];clear hbL d1;clear d2;clear q1 r2
    go_loopw [33] (fun iv wr => ∃ i : Nat,iv = .int .i64 (i : Int) ∧ i ≤ Xl ∧ Hid (errF ((e.2.take i).map (oneV (msgV n s) ⟨f1,f2,lb,fk,ft⟩)) = 0) ∧ Kp (fun q => q = b) W2 wr ∧ Hid (KnS s wr b)) (fun iv _ => Xl - (intOf iv).toNat)
    case atStart => exact ⟨0,rfl,by omega,(by simp [errF] : errF ((e.2.take 0).map (oneV (msgV n s) ⟨f1,f2,lb,fk,ft⟩)) = 0),Kp.refl _ _,HK2⟩
    case round =>
     obtain ⟨i,rfl,hi,HI,hkp,HKR⟩ := hrel;have hcel : Cel W2 wr := HK2.out.cel hkp;have BFr := BF2.cel hcel;have BLr := BL2.cel hcel
     by_cases hlt : i < Xl
     ·obtain ⟨x,hx⟩ : ∃ r,e.2[i]? = some r := ⟨_,List.getElem?_eq_getElem (by rw [HXL.out]; exact hlt)⟩;obtain ⟨gx,ox,a1,n1,c1,a2,n2,c2,rfl,x0,x1,x2,x3,x4,hxw⟩ := trsR_get (HX2.out.celT hcel) hx;obtain ⟨K,hK⟩ : ∃ z,x.kind = z := ⟨_,rfl⟩;obtain ⟨N,hN⟩ : ∃ z,x.n = z := ⟨_,rfl⟩;obtain ⟨S,hS⟩ : ∃ z,x.s = z := ⟨_,rfl⟩;rw [hK] at x0;rw [hN] at x1;rw [hS] at x2;rw [hK,hN,hS] at hxw;have al : Below wr.heap.size wr (wr.alloc (Obj.cells #[.int .i64 K,.int .i64 N,.string S,.slice a1 n1 c1,.slice a2 n2 c2] 30)) := (Below.refl _ _).alloc (Nat.le_refl _) _;have HPT : Hid (x.kind = K ∧ x.n = N ∧ x.s = S ∧ x.es.length = n1 ∧ x.rest.length = n2) := hxw.parts;obtain ⟨Y,hY⟩ : ∃ z,treeV (msgV n s) fk ft x = z := ⟨_,rfl⟩;have HY : Hid (treeV (msgV n s) fk ft x = Y) := hY
      have HTC : Hid (Calls Try.prog 88 #[.agg #[.string sn,.slice ma mn mc,.slice ea en ec,.slice ta tn tc,.map (some b)],.agg #[.int .i64 fk,.string ft],.agg #[.int .i64 K,.int .i64 N,.string S,.slice a1 n1 c1,.slice a2 n2 c2]] (wr.alloc (Obj.cells #[.int .i64 K,.int .i64 N,.string S,.slice a1 n1 c1,.slice a2 n2 c2] 30)) (MesP s Y b (wr.alloc (Obj.cells #[.int .i64 K,.int .i64 N,.string S,.slice a1 n1 c1,.slice a2 n2 c2] 30)))) := (by
       have h1 := tree_step s sn ma ea ta mn mc en ec tn tc b n IH x fk ft _ (wr.alloc (Obj.cells #[.int .i64 K,.int .i64 N,.string S,.slice a1 n1 c1,.slice a2 n2 c2] 30)) (hxw.cel (Cel.ofBelow al)) (HKR.out.below al) ((HS2.out.cel hcel).below al);rw [hY] at h1
       exact h1 : Calls Try.prog _ _ (wr.alloc (Obj.cells #[.int .i64 K,.int .i64 N,.string S,.slice a1 n1 c1,.slice a2 n2 c2] 30)) _)
      have HIX : Hid (e.2[i]? = some x) := hx;have BX : Blk (wr.alloc (Obj.cells #[.int .i64 K,.int .i64 N,.string S,.slice a1 n1 c1,.slice a2 n2 c2] 30)) wr.heap.size #[.int .i64 K,.int .i64 N,.string S,.slice a1 n1 c1,.slice a2 n2 c2] 30 := Blk.new wr _ _;have BFx := BFr.below al;have BLx := BLr.below al;have g0 := (BFx.cell 0).trans rfl;have g1 := (BFx.cell 1).trans rfl;have g2 := (BFx.cell 2).trans rfl;have g3 := (BFx.cell 3).trans rfl;have g4 := (BFx.cell 4).trans rfl;have l3 := (BLx.cell 3).trans rfl;have l4 := (BLx.cell 4).trans rfl;clear hK hN hS hY hx hxw;go_wp2_with fail;refine Calls.mono HTC.out ?_;rintro ee W4 ⟨rfl,hk4,hn4⟩;have hcx : Cel (wr.alloc (Obj.cells #[.int .i64 K,.int .i64 N,.string S,.slice a1 n1 c1,.slice a2 n2 c2] 30)) W4 := (HKR.out.below al).cel hk4;have BX4 := BX.cel hcx;have BL4 := BLx.cel hcx;have hkp4 : Kp (fun q => q = b) W2 W4 := (hkp.trans (Kp.ofBelow al)).trans hk4;have HN4 : Hid (KnS s W4 b) := hn4;have HKW4 : Hid (Kp (fun q => q = b) w W4) := HKW.out.trans hkp4;clear HTC hk4 hn4 hcx BX BFx BLx g0 g1 g2 g3 g4 l3 l4 x0 x1 x2 x3 x4 al BFr BLr hkp HKR;obtain ⟨bx,hbx⟩ : ∃ z,wr.heap.size = z := ⟨_,rfl⟩;rw [hbx] at BX4;simp only [hbx];clear hbx;have j0 := (BX4.cell 0).trans rfl;have j1 := (BX4.cell 1).trans rfl;have j2 := (BX4.cell 2).trans rfl;have j3 := (BX4.cell 3).trans rfl;have j4 := (BX4.cell 4).trans rfl;have l2 := (BL4.cell 2).trans rfl
      by_cases hY0 : Y = 0
      ·subst hY0
       by_cases hl1 : lb = 1
       ·have d5 : (lb == 1) = true := by simpa using hl1
        cases hZ : zroB x with
        | true =>
         have HZ : Hid (Calls Try.prog 85 #[.agg #[.int .i64 K,.int .i64 N,.string S,.slice a1 n1 c1,.slice a2 n2 c2]] W4 fun e w' => e = .returned (.bool true) ∧ Below W4.heap.size W4 w') := (by
          obtain ⟨p1,p2,p3,p4,p5⟩ := HPT.out;have h1 := zero_any x a1 a2 n1 c1 n2 c2 W4 p4.symm p5.symm;rw [p1,p2,p3,hZ] at h1
          exact h1 : Calls Try.prog _ _ W4 _)
         have HX12 : Hid (12 = X) := (by
          have h1 : oneV (msgV n s) ⟨f1,f2,lb,fk,ft⟩ x = 12 := by
           rw [oneV,if_neg (by simp [HY.out]),if_pos ⟨hl1,hZ⟩]
          rw [HXE.out,errF_hit HIX.out HI.out (by rw [h1]; decide),h1] : 12 = X)
         clear hZ hl1;go_wp2_with fail;refine HZ.out.mono ?_;rintro ee W5 ⟨rfl,hb5⟩;have HF : Hid (MesP s X b w (.returned (.int .i64 12)) W5) := MesP.of HX12.out (HKW4.out.trans (Kp.ofBelow hb5)) (HN4.out.below hb5);clear HZ hb5 j0 j1 j2 j3 j4 l2;go_wp2_with fail;go_ret;exact HF.out
        | false =>
         have HZ : Hid (Calls Try.prog 85 #[.agg #[.int .i64 K,.int .i64 N,.string S,.slice a1 n1 c1,.slice a2 n2 c2]] W4 fun e w' => e = .returned (.bool false) ∧ Below W4.heap.size W4 w') := (by
          obtain ⟨p1,p2,p3,p4,p5⟩ := HPT.out;have h1 := zero_any x a1 a2 n1 c1 n2 c2 W4 p4.symm p5.symm;rw [p1,p2,p3,hZ] at h1
          exact h1 : Calls Try.prog _ _ W4 _)
         have HI2 : Hid (errF ((e.2.take (i + 1)).map (oneV (msgV n s) ⟨f1,f2,lb,fk,ft⟩)) = 0) := errF_on HIX.out HI.out (by rw [oneV,if_neg (by simp [HY.out]),if_neg (by rw [hZ]; simp)]);clear hZ hl1;go_wp2_with fail;refine HZ.out.mono ?_;rintro ee W5 ⟨rfl,hb5⟩;have HN5 : Hid (KnS s W5 b) := HN4.out.below hb5;have hkp5 : Kp (fun q => q = b) W2 W5 := hkp4.trans (Kp.ofBelow hb5);clear HZ hb5 j0 j1 j2 j3 j4 l2 HI HN4 hkp4 HKW4;go_wp2_with fail
         go_roundw
         case rel => exact ⟨i + 1,by go_num,by omega,HI2,hkp5,HN5⟩
         case measure => simp [intOf]; omega
       ·have d5 : (lb == 1) = false := by simpa using hl1
        have HI2 : Hid (errF ((e.2.take (i + 1)).map (oneV (msgV n s) ⟨f1,f2,lb,fk,ft⟩)) = 0) := errF_on HIX.out HI.out (by rw [oneV,if_neg (by simp [HY.out]),if_neg (by simp [hl1])]);clear hl1;go_wp2_with fail;clear j0 j1 j2 j3 j4 l2 HI d5
        go_roundw
        case rel => exact ⟨i + 1,by go_num,by omega,HI2,hkp4,HN4⟩
        case measure => simp [intOf]; omega
      ·have d4 : (Y != 0) = true := by simpa using hY0
       have HXY : Hid (Y = X) := (by
        have h1 : oneV (msgV n s) ⟨f1,f2,lb,fk,ft⟩ x = Y := by
         rw [oneV,if_pos (by simpa [HY.out] using hY0)];exact HY.out
        rw [HXE.out,errF_hit HIX.out HI.out (by rw [h1]; exact hY0),h1] : Y = X)
       clear hY0;go_wp2_with fail;go_ret;exact MesP.of HXY.out HKW4.out HN4.out
     ·have HX0 : Hid (0 = X) := (by
       have h1 := HI.out;rw [List.take_of_length_le (by rw [HXL.out]; omega)] at h1
       rw [HXE.out,h1] : 0 = X)
      clear BFr BLr HI;go_wp2_with fail;go_ret;exact MesP.of HX0.out (HKW.out.trans hkp) HKR.out
theorem TrW.trI {n : Nat} {w : World} {t : Tr} {K N : Int} {S : ByteArray} {a1 a2 : Option Addr} {n1 c1 n2 c2 : Nat} (h : TrW n w (.agg #[.int .i64 K,.int .i64 N,.string S,.slice a1 n1 c1,.slice a2 n2 c2]) t) : TrI n w ⟨K,N,S,plOf (.slice a1 n1 c1),plOf (.slice a2 n2 c2)⟩ t := by
 obtain ⟨p1,p2,p3,p4,p5⟩ := h.parts;obtain ⟨r,e,h⟩ := h
 have e1 : r = [.int .i64 K,.int .i64 N,.string S,.slice a1 n1 c1,.slice a2 n2 c2] := by simpa using congrArg (fun v => match v with | .agg a => a.toList | _ => []) e.symm
 subst e1;refine ⟨.slice a1 n1 c1,.slice a2 n2 c2,by rw [idOf,p1,p2,p3],?_⟩;rw [p1,p2,p3];exact h
theorem flr_len5 (fs : List FlS) : ∀ r ∈ flRows fs,r.length = 5 := fun r hr => by
 simp only [flRows,List.mem_map] at hr;obtain ⟨_,_,rfl⟩ := hr
 rfl
theorem message_step (s : ScS) (sn : ByteArray) (ma ea ta : Option Addr) (mn mc en ec tn tc b : Nat) (hl : ∀ m ∈ s.msgs,m.fields.length ≤ 20 ∧ m.reserved.length ≤ 40) (n : Nat) (IH : ∀ t nm v w,TrW n w v t → KnS s w b → ScIn w (.agg #[.string sn,.slice ma mn mc,.slice ea en ec,.slice ta tn tc]) s → Calls Try.prog 27 #[.agg #[.string sn,.slice ma mn mc,.slice ea en ec,.slice ta tn tc,.map (some b)],.string nm,v] w (MesP s (msgV n s nm t) b w))
  (t : Tr) (nm : ByteArray) (v : Value) (w : World) (ht : TrW (n + 1) w v t) (hk : KnS s w b) (hs : ScIn w (.agg #[.string sn,.slice ma mn mc,.slice ea en ec,.slice ta tn tc]) s) : Calls Try.prog 27 #[.agg #[.string sn,.slice ma mn mc,.slice ea en ec,.slice ta tn tc,.map (some b)],.string nm,v] w (MesP s (msgV (n + 1) s nm t) b w) := by
 have hmf : ∀ (fn : Fn) (first cap : Array Value) (w : World),(Instr.makeFunc fn first cap).run Try.prog w = .ok (.func fn first cap) w := fun _ _ _ _ => rfl
 obtain ⟨m,a1,c1,a2,c2,hmn,rfl, -, -, -,u1,u2,x1,x2,x3,x4,hr,he,hp1,hp2⟩ := ht.open
 obtain rfl : m = n := by omega
 obtain ⟨X,hX⟩ : ∃ X,msgV (m + 1) s nm t = X := ⟨_,rfl⟩;have HV : Hid (msgV (m + 1) s nm t = X) := hX;rw [hX];obtain ⟨K,hK⟩ : ∃ z,t.kind = z := ⟨_,rfl⟩;obtain ⟨N,hN⟩ : ∃ z,t.n = z := ⟨_,rfl⟩;obtain ⟨S,hS⟩ : ∃ z,t.s = z := ⟨_,rfl⟩;obtain ⟨n1,hn1⟩ : ∃ z,t.es.length = z := ⟨_,rfl⟩;obtain ⟨n2,hn2⟩ : ∃ z,t.rest.length = z := ⟨_,rfl⟩;rw [hK,hN,hS,hn1,hn2] at ht ⊢;rw [hn1] at he u1 x3;rw [hn2] at hr x1 x4;have HL : Hid (t.es.length = n1 ∧ t.rest.length = n2) := ⟨hn1,hn2⟩;obtain ⟨⟨p1,m1⟩,hp1'⟩ : ∃ x,plOf (.slice a1 n1 c1) = x := ⟨_,rfl⟩;obtain ⟨⟨p2,m2⟩,hp2'⟩ : ∃ x,plOf (.slice a2 n2 c2) = x := ⟨_,rfl⟩;have HTI : Hid (TrI (m + 1) w ⟨K,N,S,(p1,m1),(p2,m2)⟩ t) := (by have h1 := ht.trI; rw [hp1',hp2'] at h1; exact h1 : TrI (m + 1) w ⟨K,N,S,(p1,m1),(p2,m2)⟩ t)
 have HIC : Hid (∀ W,Calls Try.prog 49 #[.agg #[.int .i64 K,.int .i64 N,.string S,.slice a1 n1 c1,.slice a2 n2 c2]] W fun e w' => e = .returned (.agg #[.int .i64 K,.int .i64 N,.string S,.pointer p1,.int .i64 (m1 : Int),.pointer p2,.int .i64 (m2 : Int)]) ∧ Below W.heap.size W w') := fun W => by
  have h1 := identity_any K N S a1 a2 n1 c1 n2 c2 W u1 u2 x3 x1 x2 x4;rw [hp1',hp2'] at h1;exact h1
 have HK : Hid (KnS s w b) := hk;have HS : Hid (ScIn w (.agg #[.string sn,.slice ma mn mc,.slice ea en ec,.slice ta tn tc]) s) := hs;have HE : Hid (EnsR m w (.slice a1 n1 c1) t.es) := he;have HR : Hid (RowG w (.slice a2 n2 c2) 4 (fdRows t.rest)) := hr;unfold maxLen at u2 x2;have BF : Blk ((w.alloc (Obj.cells #[.string sn,.slice ma mn mc,.slice ea en ec,.slice ta tn tc,.map (some b)] 82)).alloc (Obj.cells #[.int .i64 K,.int .i64 N,.string S,.slice a1 n1 c1,.slice a2 n2 c2] 30)) w.heap.size #[.string sn,.slice ma mn mc,.slice ea en ec,.slice ta tn tc,.map (some b)] 82 := (Blk.new w _ _).below ((Below.refl _ _).alloc (Nat.le_refl _) _)
 have BT : Blk ((w.alloc (Obj.cells #[.string sn,.slice ma mn mc,.slice ea en ec,.slice ta tn tc,.map (some b)] 82)).alloc (Obj.cells #[.int .i64 K,.int .i64 N,.string S,.slice a1 n1 c1,.slice a2 n2 c2] 30)) (w.heap.size + 1) #[.int .i64 K,.int .i64 N,.string S,.slice a1 n1 c1,.slice a2 n2 c2] 30 := by
  have := Blk.new (w.alloc (Obj.cells #[.string sn,.slice ma mn mc,.slice ea en ec,.slice ta tn tc,.map (some b)] 82)) #[.int .i64 K,.int .i64 N,.string S,.slice a1 n1 c1,.slice a2 n2 c2] 30
  rwa [show (w.alloc (Obj.cells #[.string sn,.slice ma mn mc,.slice ea en ec,.slice ta tn tc,.map (some b)] 82)).heap.size = w.heap.size + 1 from by simp] at this
 have hbw : Below w.heap.size w ((w.alloc (Obj.cells #[.string sn,.slice ma mn mc,.slice ea en ec,.slice ta tn tc,.map (some b)] 82)).alloc (Obj.cells #[.int .i64 K,.int .i64 N,.string S,.slice a1 n1 c1,.slice a2 n2 c2] 30)) := ((Below.refl _ _).alloc (Nat.le_refl _) _).alloc (by simp) _;clear hX hK hN hS hn1 hn2 hp1' hp2' hp1 hp2 x3 x4 hr he hk hs ht hmn
 go_enter Try.func27,Try.ntmps27
 go_wp2_with fail;refine (HIC.out _).mono ?_;rintro ee w1 ⟨rfl,hb1⟩;have hbw1 : Below w.heap.size w w1 := hbw.trans (hb1.mono hbw.size);have al2 : Below w1.heap.size w1 (w1.alloc (Obj.cells #[.string nm,.int .i64 K,.int .i64 N,.string S,.pointer p1,.int .i64 (m1 : Int),.pointer p2,.int .i64 (m2 : Int)] 127)) := (Below.refl _ _).alloc (Nat.le_refl _) _;have al3 : Below w1.heap.size w1 ((w1.alloc (Obj.cells #[.string nm,.int .i64 K,.int .i64 N,.string S,.pointer p1,.int .i64 (m1 : Int),.pointer p2,.int .i64 (m2 : Int)] 127)).alloc (Obj.cells #[] 128)) := al2.alloc al2.size _;have hbw2 : Below w.heap.size w (w1.alloc (Obj.cells #[.string nm,.int .i64 K,.int .i64 N,.string S,.pointer p1,.int .i64 (m1 : Int),.pointer p2,.int .i64 (m2 : Int)] 127)) := hbw1.trans (al2.mono hbw1.size);have hbw3 : Below w.heap.size w ((w1.alloc (Obj.cells #[.string nm,.int .i64 K,.int .i64 N,.string S,.pointer p1,.int .i64 (m1 : Int),.pointer p2,.int .i64 (m2 : Int)] 127)).alloc (Obj.cells #[] 128)) := hbw1.trans (al3.mono hbw1.size);have BF2 : Blk (w1.alloc (Obj.cells #[.string nm,.int .i64 K,.int .i64 N,.string S,.pointer p1,.int .i64 (m1 : Int),.pointer p2,.int .i64 (m2 : Int)] 127)) w.heap.size #[.string sn,.slice ma mn mc,.slice ea en ec,.slice ta tn tc,.map (some b)] 82 := (BF.below hb1).below al2;have BC2 : Blk (w1.alloc (Obj.cells #[.string nm,.int .i64 K,.int .i64 N,.string S,.pointer p1,.int .i64 (m1 : Int),.pointer p2,.int .i64 (m2 : Int)] 127)) w1.heap.size #[.string nm,.int .i64 K,.int .i64 N,.string S,.pointer p1,.int .i64 (m1 : Int),.pointer p2,.int .i64 (m2 : Int)] 127 := Blk.new w1 _ _;have BF3 : Blk ((w1.alloc (Obj.cells #[.string nm,.int .i64 K,.int .i64 N,.string S,.pointer p1,.int .i64 (m1 : Int),.pointer p2,.int .i64 (m2 : Int)] 127)).alloc (Obj.cells #[] 128)) w.heap.size #[.string sn,.slice ma mn mc,.slice ea en ec,.slice ta tn tc,.map (some b)] 82 := (BF.below hb1).below al3;have BT3 : Blk ((w1.alloc (Obj.cells #[.string nm,.int .i64 K,.int .i64 N,.string S,.pointer p1,.int .i64 (m1 : Int),.pointer p2,.int .i64 (m2 : Int)] 127)).alloc (Obj.cells #[] 128)) (w.heap.size + 1) #[.int .i64 K,.int .i64 N,.string S,.slice a1 n1 c1,.slice a2 n2 c2] 30 := (BT.below hb1).below al3;have BC3 : Blk ((w1.alloc (Obj.cells #[.string nm,.int .i64 K,.int .i64 N,.string S,.pointer p1,.int .i64 (m1 : Int),.pointer p2,.int .i64 (m2 : Int)] 127)).alloc (Obj.cells #[] 128)) w1.heap.size #[.string nm,.int .i64 K,.int .i64 N,.string S,.pointer p1,.int .i64 (m1 : Int),.pointer p2,.int .i64 (m2 : Int)] 127 := BC2.below ((Below.refl _ _).alloc (Nat.le_refl _) _);obtain ⟨R,hlk,hR⟩ := (HK.out.below hbw2).look (nm := nm) (HTI.out.cel (Cel.ofBelow hbw2))
 have HR0 : Hid (R = true → X = 0) := fun h => by rw [← HV.out]; exact hR h
 have HLK : Hid ((Instr.lookup 80 (.map (some b)) (.agg #[.string nm,.int .i64 K,.int .i64 N,.string S,.pointer p1,.int .i64 (m1 : Int),.pointer p2,.int .i64 (m2 : Int)]) true).run Try.prog (w1.alloc (Obj.cells #[.string nm,.int .i64 K,.int .i64 N,.string S,.pointer p1,.int .i64 (m1 : Int),.pointer p2,.int .i64 (m2 : Int)] 127)) = .ok (.tuple #[.agg #[],.bool R]) (w1.alloc (Obj.cells #[.string nm,.int .i64 K,.int .i64 N,.string S,.pointer p1,.int .i64 (m1 : Int),.pointer p2,.int .i64 (m2 : Int)] 127))) := hlk;have HK3 : Hid (KnS s ((w1.alloc (Obj.cells #[.string nm,.int .i64 K,.int .i64 N,.string S,.pointer p1,.int .i64 (m1 : Int),.pointer p2,.int .i64 (m2 : Int)] 127)).alloc (Obj.cells #[] 128)) b) := HK.out.below hbw3;have HS3 : Hid (ScIn ((w1.alloc (Obj.cells #[.string nm,.int .i64 K,.int .i64 N,.string S,.pointer p1,.int .i64 (m1 : Int),.pointer p2,.int .i64 (m2 : Int)] 127)).alloc (Obj.cells #[] 128)) (.agg #[.string sn,.slice ma mn mc,.slice ea en ec,.slice ta tn tc]) s) := HS.out.below hbw3;have HE3 : Hid (EnsR m ((w1.alloc (Obj.cells #[.string nm,.int .i64 K,.int .i64 N,.string S,.pointer p1,.int .i64 (m1 : Int),.pointer p2,.int .i64 (m2 : Int)] 127)).alloc (Obj.cells #[] 128)) (.slice a1 n1 c1) t.es) := HE.out.celE (Cel.ofBelow hbw3);have HRR3 : Hid (RowG ((w1.alloc (Obj.cells #[.string nm,.int .i64 K,.int .i64 N,.string S,.pointer p1,.int .i64 (m1 : Int),.pointer p2,.int .i64 (m2 : Int)] 127)).alloc (Obj.cells #[] 128)) (.slice a2 n2 c2) 4 (fdRows t.rest)) := HR.out.below hbw3;have HTI3 : Hid (TrI (m + 1) ((w1.alloc (Obj.cells #[.string nm,.int .i64 K,.int .i64 N,.string S,.pointer p1,.int .i64 (m1 : Int),.pointer p2,.int .i64 (m2 : Int)] 127)).alloc (Obj.cells #[] 128)) ⟨K,N,S,(p1,m1),(p2,m2)⟩ t) := HTI.out.cel (Cel.ofBelow hbw3);have HKW : Hid (Kp (fun q => q = b) w ((w1.alloc (Obj.cells #[.string nm,.int .i64 K,.int .i64 N,.string S,.pointer p1,.int .i64 (m1 : Int),.pointer p2,.int .i64 (m2 : Int)] 127)).alloc (Obj.cells #[] 128))) := Kp.ofBelow hbw3;have g4 := (BF2.cell 4).trans rfl;have j0 := (BC2.cell 0).trans rfl;have j1 := (BC2.cell 1).trans rfl;have j2 := (BC2.cell 2).trans rfl;have j3 := (BC2.cell 3).trans rfl;have j4 := (BC2.cell 4).trans rfl;have j5 := (BC2.cell 5).trans rfl;have j6 := (BC2.cell 6).trans rfl;have j7 := (BC2.cell 7).trans rfl;clear hlk hR hb1 hbw hbw1 hbw2 hbw3 al2 al3 HK HS HE HR HTI HIC BF BT BF2 BC2
 cases R with
 | true =>
  have HX0 : Hid (0 = X) := (HR0.out rfl).symm
  go_wp2_with (first | (at_lookup; refine wpList_lookup_pl rfl _ _ rfl rfl rfl HLK.out ?_) | fail)
  go_ret;exact MesP.of HX0.out HKW.out HK3.out
 | false =>
  obtain ⟨vm,ve,vt,hse,hms, -, -⟩ := HS3.out;simp only [Value.agg.injEq,Array.mk.injEq,List.cons.injEq,and_true] at hse;obtain ⟨hse0,rfl,rfl,rfl⟩ := hse;have HMC : Hid (Calls Try.prog 22 #[.agg #[.string sn,.slice ma mn mc,.slice ea en ec,.slice ta tn tc],.string nm] ((w1.alloc (Obj.cells #[.string nm,.int .i64 K,.int .i64 N,.string S,.pointer p1,.int .i64 (m1 : Int),.pointer p2,.int .i64 (m2 : Int)] 127)).alloc (Obj.cells #[] 128)) fun e w' => ∃ vf vr,e = .returned (.tuple #[.agg #[.string ((msgOf s nm).getD zMs).name,vf,vr],.bool (msgOf s nm).isSome]) ∧ w'.ownsRow ((w1.alloc (Obj.cells #[.string nm,.int .i64 K,.int .i64 N,.string S,.pointer p1,.int .i64 (m1 : Int),.pointer p2,.int .i64 (m2 : Int)] 127)).alloc (Obj.cells #[] 128)).heap.size 54 5 vf ((msgOf s nm).getD zMs).fields.length (flRows ((msgOf s nm).getD zMs).fields).flatten ∧ w'.ownsRow ((w1.alloc (Obj.cells #[.string nm,.int .i64 K,.int .i64 N,.string S,.pointer p1,.int .i64 (m1 : Int),.pointer p2,.int .i64 (m2 : Int)] 127)).alloc (Obj.cells #[] 128)).heap.size 3 1 vr ((msgOf s nm).getD zMs).reserved.length (inRows ((msgOf s nm).getD zMs).reserved).flatten ∧ Below ((w1.alloc (Obj.cells #[.string nm,.int .i64 K,.int .i64 N,.string S,.pointer p1,.int .i64 (m1 : Int),.pointer p2,.int .i64 (m2 : Int)] 127)).alloc (Obj.cells #[] 128)).heap.size ((w1.alloc (Obj.cells #[.string nm,.int .i64 K,.int .i64 N,.string S,.pointer p1,.int .i64 (m1 : Int),.pointer p2,.int .i64 (m2 : Int)] 127)).alloc (Obj.cells #[] 128)) w') := cmessage_any hms hl;clear hse0 hms;have q0 := (BF3.cell 0).trans rfl;have q1 := (BF3.cell 1).trans rfl;have q2 := (BF3.cell 2).trans rfl;have q3 := (BF3.cell 3).trans rfl;obtain ⟨fs,hfs⟩ : ∃ z,((msgOf s nm).getD zMs).fields = z := ⟨_,rfl⟩;obtain ⟨mnm,hmnm⟩ : ∃ z,((msgOf s nm).getD zMs).name = z := ⟨_,rfl⟩;rw [hfs,hmnm] at HMC;have HFS : Hid (((msgOf s nm).getD zMs).fields = fs) := hfs;clear hfs hmnm;generalize (msgOf s nm).isSome = okM at *
  go_wp2_with (first | (at_lookup; refine wpList_lookup_pl rfl _ _ rfl rfl rfl HLK.out ?_) | fail)
  refine HMC.out.mono ?_;rintro ee w4 ⟨vf,vr,rfl,hof,hor,hb4⟩;have hrf : RowG w4 vf 5 (flRows fs) := (RowG.own (flr_len5 fs) (by decide) hof).1;obtain ⟨fa,fl,fc,rfl⟩ := row_slice hrf;obtain ⟨ra,rc,hvr⟩ := own_form hor;subst hvr;obtain ⟨rl,hrl⟩ : ∃ z,((msgOf s nm).getD zMs).reserved.length = z := ⟨_,rfl⟩;rw [hrl];have al5 : Below w4.heap.size w4 (w4.alloc (Obj.cells #[.string mnm,.slice fa fl fc,.slice ra rl rc] 46)) := (Below.refl _ _).alloc (Nat.le_refl _) _;have hb35 : Below ((w1.alloc (Obj.cells #[.string nm,.int .i64 K,.int .i64 N,.string S,.pointer p1,.int .i64 (m1 : Int),.pointer p2,.int .i64 (m2 : Int)] 127)).alloc (Obj.cells #[] 128)).heap.size ((w1.alloc (Obj.cells #[.string nm,.int .i64 K,.int .i64 N,.string S,.pointer p1,.int .i64 (m1 : Int),.pointer p2,.int .i64 (m2 : Int)] 127)).alloc (Obj.cells #[] 128)) (w4.alloc (Obj.cells #[.string mnm,.slice fa fl fc,.slice ra rl rc] 46)) := hb4.trans (al5.mono hb4.size);have BF5 : Blk (w4.alloc (Obj.cells #[.string mnm,.slice fa fl fc,.slice ra rl rc] 46)) w.heap.size #[.string sn,.slice ma mn mc,.slice ea en ec,.slice ta tn tc,.map (some b)] 82 := BF3.below hb35;have BT5 : Blk (w4.alloc (Obj.cells #[.string mnm,.slice fa fl fc,.slice ra rl rc] 46)) (w.heap.size + 1) #[.int .i64 K,.int .i64 N,.string S,.slice a1 n1 c1,.slice a2 n2 c2] 30 := BT3.below hb35;have BC5 : Blk (w4.alloc (Obj.cells #[.string mnm,.slice fa fl fc,.slice ra rl rc] 46)) w1.heap.size #[.string nm,.int .i64 K,.int .i64 N,.string S,.pointer p1,.int .i64 (m1 : Int),.pointer p2,.int .i64 (m2 : Int)] 127 := BC3.below hb35;have BM5 : Blk (w4.alloc (Obj.cells #[.string mnm,.slice fa fl fc,.slice ra rl rc] 46)) w4.heap.size #[.string mnm,.slice fa fl fc,.slice ra rl rc] 46 := Blk.new w4 _ _;have HK5 : Hid (KnS s (w4.alloc (Obj.cells #[.string mnm,.slice fa fl fc,.slice ra rl rc] 46)) b) := HK3.out.below hb35;have HS5 : Hid (ScIn (w4.alloc (Obj.cells #[.string mnm,.slice fa fl fc,.slice ra rl rc] 46)) (.agg #[.string sn,.slice ma mn mc,.slice ea en ec,.slice ta tn tc]) s) := HS3.out.below hb35;have HE5 : Hid (EnsR m (w4.alloc (Obj.cells #[.string mnm,.slice fa fl fc,.slice ra rl rc] 46)) (.slice a1 n1 c1) t.es) := HE3.out.celE (Cel.ofBelow hb35);have HRR5 : Hid (RowG (w4.alloc (Obj.cells #[.string mnm,.slice fa fl fc,.slice ra rl rc] 46)) (.slice a2 n2 c2) 4 (fdRows t.rest)) := HRR3.out.below hb35;have HTI5 : Hid (TrI (m + 1) (w4.alloc (Obj.cells #[.string mnm,.slice fa fl fc,.slice ra rl rc] 46)) ⟨K,N,S,(p1,m1),(p2,m2)⟩ t) := HTI3.out.cel (Cel.ofBelow hb35);have HRF5 : Hid (RowG (w4.alloc (Obj.cells #[.string mnm,.slice fa fl fc,.slice ra rl rc] 46)) (.slice fa fl fc) 5 (flRows fs)) := hrf.below al5;have HKW5 : Hid (Kp (fun q => q = b) w (w4.alloc (Obj.cells #[.string mnm,.slice fa fl fc,.slice ra rl rc] 46))) := HKW.out.trans (Kp.ofBelow hb35);have q3 := (BT5.cell 3).trans rfl;have HVX : Hid (X = if errF (t.es.map (entV (msgV m s) fs)) ≠ 0 then errF (t.es.map (entV (msgV m s) fs)) else if (t.rest.any fun f => (fldOf fs f.tag).isSome) = true then 7 else 0) := (by rw [← HV.out,msgV,HFS.out] : X = _);clear hrl hof hor hrf hb4 al5 hb35 BF3 BT3 BC3 HK3 HS3 HE3 HRR3 HTI3 HMC HLK q0 q1 q2 g4 j0 j1 j2 j3 j4 j5 j6 j7 HKW;obtain ⟨b0,hb0⟩ : ∃ z,w.heap.size = z := ⟨_,rfl⟩;simp only [hb0] at BF5 BT5 q3 ⊢;go_wp2_with fail;clear q3;generalize (w4.alloc (Obj.cells #[.string mnm,.slice fa fl fc,.slice ra rl rc] 46)) = W5 at *;obtain ⟨bM,hbM⟩ : ∃ z,w4.heap.size = z := ⟨_,rfl⟩;obtain ⟨bC,hbC⟩ : ∃ z,w1.heap.size = z := ⟨_,rfl⟩;rw [hbM] at BM5;rw [hbC] at BC5;simp only [hbM,hbC];clear hbM hbC hb0
  go_loopw [37] (fun iv wr => ∃ i : Nat,iv = .int .i64 (i : Int) ∧ i ≤ n1 ∧ Hid (errF ((t.es.take i).map (entV (msgV m s) fs)) = 0) ∧ Kp (fun q => q = b) W5 wr ∧ Hid (KnS s wr b)) (fun iv _ => n1 - (intOf iv).toNat)
  case atStart => exact ⟨0,rfl,by omega,(by simp [errF] : errF ((t.es.take 0).map (entV (msgV m s) fs)) = 0),Kp.refl _ _,HK5⟩
  case round =>
   obtain ⟨i,rfl,hi,HI,hkp,HKR⟩ := hrel;have hcel : Cel W5 wr := HK5.out.cel hkp;have BFr := BF5.cel hcel;have BMr := BM5.cel hcel;have BTr := BT5.cel hcel;have BCr := BC5.cel hcel
   by_cases hlt : i < n1
   ·obtain ⟨e,hx⟩ : ∃ r,t.es[i]? = some r := ⟨_,List.getElem?_eq_getElem (by rw [HL.out.1]; exact hlt)⟩;obtain ⟨gx,ox,xa,xc,rfl,y0,y1, -,hxt,hxc,hxm⟩ := ensR_get (HE5.out.celE hcel) hx;have al : Below wr.heap.size wr (wr.alloc (Obj.cells #[.int .i64 e.1,.slice xa e.2.length xc] 57)) := (Below.refl _ _).alloc (Nat.le_refl _) _;have htc := entry_step s sn ma ea ta mn mc en ec tn tc b m IH e fs mnm fa ra xa fl fc rl rc xc _ (hxt.celT (Cel.ofBelow al)) hxc hxm ((HRF5.out.cel hcel).below al) (HKR.out.below al) ((HS5.out.cel hcel).below al);obtain ⟨Y,hY⟩ : ∃ z,entV (msgV m s) fs e = z := ⟨_,rfl⟩;have HY : Hid (entV (msgV m s) fs e = Y) := hY;rw [hY] at htc;obtain ⟨e1,he1⟩ : ∃ z,e.1 = z := ⟨_,rfl⟩;obtain ⟨Xl,hXl⟩ : ∃ z,e.2.length = z := ⟨_,rfl⟩;rw [he1,hXl] at htc al;rw [he1] at y0;rw [hXl] at y1;have HTC : Hid (Calls Try.prog 50 #[.agg #[.string sn,.slice ma mn mc,.slice ea en ec,.slice ta tn tc,.map (some b)],.agg #[.string mnm,.slice fa fl fc,.slice ra rl rc],.agg #[.int .i64 e1,.slice xa Xl xc]] (wr.alloc (Obj.cells #[.int .i64 e1,.slice xa Xl xc] 57)) (MesP s Y b (wr.alloc (Obj.cells #[.int .i64 e1,.slice xa Xl xc] 57)))) := htc;have HIX : Hid (t.es[i]? = some e) := hx;have BFx := BFr.below al;have BMx := BMr.below al;have g0 := (BFx.cell 0).trans rfl;have g1 := (BFx.cell 1).trans rfl;have g2 := (BFx.cell 2).trans rfl;have g3 := (BFx.cell 3).trans rfl;have g4 := (BFx.cell 4).trans rfl;have l0 := (BMx.cell 0).trans rfl;have l1 := (BMx.cell 1).trans rfl;have l2 := (BMx.cell 2).trans rfl;clear hY he1 hXl hx hxt htc hxc hxm;go_wp2_with fail;refine Calls.mono HTC.out ?_;rintro ee W6 ⟨rfl,hk6,hn6⟩;have hkp6 : Kp (fun q => q = b) W5 W6 := (hkp.trans (Kp.ofBelow al)).trans hk6;have HN6 : Hid (KnS s W6 b) := hn6;have HKW6 : Hid (Kp (fun q => q = b) w W6) := HKW5.out.trans hkp6;clear HTC hk6 hn6 BFx BMx g0 g1 g2 g3 g4 l0 l1 l2 y0 y1 al BFr BMr BTr BCr hkp HKR
    by_cases hY0 : Y = 0
    ·subst hY0;have HI2 : Hid (errF ((t.es.take (i + 1)).map (entV (msgV m s) fs)) = 0) := errF_on HIX.out HI.out HY.out;clear HI;go_wp2_with fail
     go_roundw
     case rel => exact ⟨i + 1,by go_num,by omega,HI2,hkp6,HN6⟩
     case measure => simp [intOf]; omega
    ·have d4 : (Y != 0) = true := by simpa using hY0
     have HXY : Hid (Y = X) := (by
      have h1 : errF (t.es.map (entV (msgV m s) fs)) = Y := by rw [errF_hit HIX.out HI.out (by rw [HY.out]; exact hY0),HY.out]
      rw [HVX.out,h1,if_pos hY0] : Y = X)
     clear hY0;go_wp2_with fail;go_ret;exact MesP.of HXY.out HKW6.out HN6.out
   ·have HE0 : Hid (errF (t.es.map (entV (msgV m s) fs)) = 0) := (by
     have h1 := HI.out;rw [List.take_of_length_le (by rw [HL.out.1]; omega)] at h1
     exact h1 : errF (t.es.map (entV (msgV m s) fs)) = 0)
    have z4 := (BTr.cell 4).trans rfl;obtain ⟨B,hB⟩ : ∃ z,(t.rest.any fun f => (fldOf fs f.tag).isSome) = z := ⟨_,rfl⟩;have HB : Hid ((t.rest.any fun f => (fldOf fs f.tag).isSome) = B) := hB
    have HCO : Hid (Calls Try.prog 51 #[.slice a2 n2 c2,.func (.func 52) #[] #[.pointer (some ⟨bM,0,none⟩)]] wr fun e w' => e = .returned (.bool B) ∧ Below wr.heap.size wr w') := (by
     have h1 := containsR_any bM (.slice a2 n2 c2) t.rest wr (fun f => (fldOf fs f.tag).isSome) (HRR5.out.cel hcel) (fun W x hW _ => restc_any x (BMr.below hW) ((HRF5.out.cel hcel).below hW) ⟨_,_,_,rfl⟩);rw [hB] at h1
     exact h1 : Calls Try.prog _ _ wr _)
    clear hB HI BMr;go_wp2_with fail;refine HCO.out.mono ?_;rintro ee w6 ⟨rfl,hb6⟩;have HN6 : Hid (KnS s w6 b) := HKR.out.below hb6;have HKW6 : Hid (Kp (fun q => q = b) w w6) := (HKW5.out.trans hkp).trans (Kp.ofBelow hb6);have BF6 := BFr.below hb6;have BC6 := BCr.below hb6;have HTI6 : Hid (TrI (m + 1) w6 ⟨K,N,S,(p1,m1),(p2,m2)⟩ t) := (HTI5.out.cel hcel).cel (Cel.ofBelow hb6);clear HCO hb6 z4 BTr BFr BCr hkp HKR hcel
    cases B with
    | true =>
     have HX7 : Hid (7 = X) := (by rw [HVX.out,HE0.out,if_neg (by simp),HB.out,if_pos rfl] : 7 = X);go_wp2_with fail;go_ret;exact MesP.of HX7.out HKW6.out HN6.out
    | false =>
     have HX0 : Hid (0 = X) := (by rw [HVX.out,HE0.out,if_neg (by simp),HB.out,if_neg (by simp)] : 0 = X);obtain ⟨w7,r1,r2,r3⟩ := HN6.out.update (nm := nm) HTI6.out (by rw [HV.out,← HX0.out]);have HUP : Hid ((Instr.mapUpdate 80 (.map (some b)) (.agg #[.string nm,.int .i64 K,.int .i64 N,.string S,.pointer p1,.int .i64 (m1 : Int),.pointer p2,.int .i64 (m2 : Int)]) (.agg #[])).run Try.prog w6 = .ok () w7) := r1;have HN7 : Hid (KnS s w7 b) := r2;have HKW7 : Hid (Kp (fun q => q = b) w w7) := HKW6.out.trans r3;have g4 := (BF6.cell 4).trans rfl;have j0 := (BC6.cell 0).trans rfl;have j1 := (BC6.cell 1).trans rfl;have j2 := (BC6.cell 2).trans rfl;have j3 := (BC6.cell 3).trans rfl;have j4 := (BC6.cell 4).trans rfl;have j5 := (BC6.cell 5).trans rfl;have j6 := (BC6.cell 6).trans rfl;have j7 := (BC6.cell 7).trans rfl;clear r1 r2 r3 BF6 BC6 HN6 HTI6
     go_wp2_with (first | (at_mapUpdate; refine wpList_update_pl rfl _ _ _ rfl rfl rfl rfl HUP.out ?_) | fail)
     go_ret;exact MesP.of HX0.out HKW7.out HN7.out
theorem message_any (s : ScS) (sn : ByteArray) (ma ea ta : Option Addr) (mn mc en ec tn tc b : Nat) (hl : ∀ m ∈ s.msgs,m.fields.length ≤ 20 ∧ m.reserved.length ≤ 40) : ∀ (n : Nat) (t : Tr) (nm : ByteArray) (v : Value) (w : World),TrW n w v t → KnS s w b → ScIn w (.agg #[.string sn,.slice ma mn mc,.slice ea en ec,.slice ta tn tc]) s → Calls Try.prog 27 #[.agg #[.string sn,.slice ma mn mc,.slice ea en ec,.slice ta tn tc,.map (some b)],.string nm,v] w (MesP s (msgV n s nm t) b w)
 | 0,_,_,_,_,h,_,_ => by obtain ⟨r,_,h⟩ := h; exact h.elim
 | n + 1,t,nm,v,w,h,hk,hs => message_step s sn ma ea ta mn mc en ec tn tc b hl n (fun t nm v w h hk hs => message_any s sn ma ea ta mn mc en ec tn tc b hl n t nm v w h hk hs) t nm v w h hk hs
end Go.Proofs.Ytmgbhicogmclgaa

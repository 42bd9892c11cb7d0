/- What placeOf, identityOf, hasField answer; whether a rest has a field's tag. -/
import Derived.WalkKit
import Derived.Below
import Derived.Deep.QuietTactic
import Derived.BigQuiet
import Derived.Deep.RegionWith
import Derived.Test.YtfnjbbaphmmjlaaPkD
import Derived.Test.YtfnjbbaphmmjlaaPkC
namespace Go.Proofs.Ytfnjbbaphmmjlaa
open Go.ChangeShapes Go.WideShapes Go.ChangeAt Go.RowKit
set_option linter.unusedVariables false
set_option linter.unusedSimpArgs false
set_option maxRecDepth 20000

set_option maxHeartbeats 1000000 in
theorem placeE_any (a : Option Addr) (N cap : Nat) (w : World) (h1 : N ≤ cap) (h2 : cap ≤ maxLen) (h3 : N = 0 ∨ ∃ g off, a = some ⟨g, off, none⟩) :
    Calls Try.prog 49 #[.slice a N cap] w fun e w' => e = .returned (plV (plOf (.slice a N cap))) ∧ Below w.heap.size w w' := by
  unfold maxLen at h2
  by_cases hN : N = 0
  · subst hN
    go_enter Try.func49, Try.ntmps49
    go_wp2_with fail
    refine bodyPost_ret (results_cell rfl _ _ _ ⟨w.heap.size, 0, none⟩ (.agg #[.pointer none, .int .i64 0]) (by go_simp) (by go_simp)) rfl ⟨by simp [plV, plOf], (Below.refl _ _).alloc (Nat.le_refl _) _⟩
  · obtain ⟨g, off, rfl⟩ : ∃ g off, a = some ⟨g, off, none⟩ := by
      rcases h3 with h | h
      · exact absurd h hN
      · exact h
    have hd : ((N : Int) == 0) = false := by simp; omega
    have hp : 0 < N := by omega
    go_enter Try.func49, Try.ntmps49
    go_wp2_with fail
    refine bodyPost_ret (results_cell rfl _ _ _ ⟨w.heap.size, 0, none⟩ (.agg #[.pointer (some ⟨g, off, none⟩), .int .i64 (N : Int)]) (by go_simp) (by go_simp)) rfl ⟨by simp [plV, plOf, hN], (Below.refl _ _).alloc (Nat.le_refl _) _⟩
set_option maxHeartbeats 1000000 in
theorem placeR_any (a : Option Addr) (N cap : Nat) (w : World) (h1 : N ≤ cap) (h2 : cap ≤ maxLen) (h3 : N = 0 ∨ ∃ g off, a = some ⟨g, off, none⟩) :
    Calls Try.prog 50 #[.slice a N cap] w fun e w' => e = .returned (plV (plOf (.slice a N cap))) ∧ Below w.heap.size w w' := by
  unfold maxLen at h2
  by_cases hN : N = 0
  · subst hN
    go_enter Try.func50, Try.ntmps50
    go_wp2_with fail
    refine bodyPost_ret (results_cell rfl _ _ _ ⟨w.heap.size, 0, none⟩ (.agg #[.pointer none, .int .i64 0]) (by go_simp) (by go_simp)) rfl ⟨by simp [plV, plOf], (Below.refl _ _).alloc (Nat.le_refl _) _⟩
  · obtain ⟨g, off, rfl⟩ : ∃ g off, a = some ⟨g, off, none⟩ := by
      rcases h3 with h | h
      · exact absurd h hN
      · exact h
    have hd : ((N : Int) == 0) = false := by simp; omega
    have hp : 0 < N := by omega
    go_enter Try.func50, Try.ntmps50
    go_wp2_with fail
    refine bodyPost_ret (results_cell rfl _ _ _ ⟨w.heap.size, 0, none⟩ (.agg #[.pointer (some ⟨g, off, none⟩), .int .i64 (N : Int)]) (by go_simp) (by go_simp)) rfl ⟨by simp [plV, plOf, hN], (Below.refl _ _).alloc (Nat.le_refl _) _⟩
set_option maxHeartbeats 2000000 in
theorem identity_any (K N : Int) (S : ByteArray) (a1 a2 : Option Addr) (n1 c1 n2 c2 : Nat) (w : World) (h1 : n1 ≤ c1) (h2 : c1 ≤ maxLen) (h3 : n1 = 0 ∨ ∃ g off, a1 = some ⟨g, off, none⟩) (h4 : n2 ≤ c2) (h5 : c2 ≤ maxLen) (h6 : n2 = 0 ∨ ∃ g off, a2 = some ⟨g, off, none⟩) :
    Calls Try.prog 28 #[.agg #[.int .i64 K, .int .i64 N, .string S, .slice a1 n1 c1, .slice a2 n2 c2]] w fun e w' => e = .returned (.agg (idC ⟨K, N, S, plOf (.slice a1 n1 c1), plOf (.slice a2 n2 c2)⟩).toArray) ∧ Below w.heap.size w w' := by
  obtain ⟨⟨p1, m1⟩, hp1⟩ : ∃ x, plOf (.slice a1 n1 c1) = x := ⟨_, rfl⟩
  obtain ⟨⟨p2, m2⟩, hp2⟩ : ∃ x, plOf (.slice a2 n2 c2) = x := ⟨_, rfl⟩
  have HE : Hid (∀ W, Calls Try.prog 49 #[.slice a1 n1 c1] W fun e w' => e = .returned (.agg #[.pointer p1, .int .i64 (m1 : Int)]) ∧ Below W.heap.size W w') := fun W => by
    have := placeE_any a1 n1 c1 W h1 h2 h3
    rw [hp1] at this
    exact this
  have HR : Hid (∀ W, Calls Try.prog 50 #[.slice a2 n2 c2] W fun e w' => e = .returned (.agg #[.pointer p2, .int .i64 (m2 : Int)]) ∧ Below W.heap.size W w') := fun W => by
    have := placeR_any a2 n2 c2 W h4 h5 h6
    rw [hp2] at this
    exact this
  rw [hp1, hp2]
  clear hp1 hp2 h1 h2 h3 h4 h5 h6
  have B0 : Blk ((w.alloc (Obj.cells #[.int .i64 K, .int .i64 N, .string S, .slice a1 n1 c1, .slice a2 n2 c2] 30)).alloc (Obj.cells #[.int .i64 0, .int .i64 0, .string ⟨#[]⟩, .pointer none, .int .i64 0, .pointer none, .int .i64 0] 91)) w.heap.size #[.int .i64 K, .int .i64 N, .string S, .slice a1 n1 c1, .slice a2 n2 c2] 30 := (Blk.new w _ _).below ((Below.refl _ _).alloc (Nat.le_refl _) _)
  have B1 : Blk ((w.alloc (Obj.cells #[.int .i64 K, .int .i64 N, .string S, .slice a1 n1 c1, .slice a2 n2 c2] 30)).alloc (Obj.cells #[.int .i64 0, .int .i64 0, .string ⟨#[]⟩, .pointer none, .int .i64 0, .pointer none, .int .i64 0] 91)) (w.heap.size + 1) #[.int .i64 0, .int .i64 0, .string ⟨#[]⟩, .pointer none, .int .i64 0, .pointer none, .int .i64 0] 91 := by
    have := Blk.new (w.alloc (Obj.cells #[.int .i64 K, .int .i64 N, .string S, .slice a1 n1 c1, .slice a2 n2 c2] 30)) #[.int .i64 0, .int .i64 0, .string ⟨#[]⟩, .pointer none, .int .i64 0, .pointer none, .int .i64 0] 91
    rwa [show (w.alloc (Obj.cells #[.int .i64 K, .int .i64 N, .string S, .slice a1 n1 c1, .slice a2 n2 c2] 30)).heap.size = w.heap.size + 1 from by simp] at this
  have hb : Below w.heap.size w ((w.alloc (Obj.cells #[.int .i64 K, .int .i64 N, .string S, .slice a1 n1 c1, .slice a2 n2 c2] 30)).alloc (Obj.cells #[.int .i64 0, .int .i64 0, .string ⟨#[]⟩, .pointer none, .int .i64 0, .pointer none, .int .i64 0] 91)) := ((Below.refl _ _).alloc (Nat.le_refl _) _).alloc (by simp) _
  go_enter Try.func28, Try.ntmps28
  go_wp2_with fail
  generalize ((w.alloc (Obj.cells #[.int .i64 K, .int .i64 N, .string S, .slice a1 n1 c1, .slice a2 n2 c2] 30)).alloc (Obj.cells #[.int .i64 0, .int .i64 0, .string ⟨#[]⟩, .pointer none, .int .i64 0, .pointer none, .int .i64 0] 91)) = W0 at *
  obtain ⟨b0, hb0⟩ : ∃ b, w.heap.size = b := ⟨_, rfl⟩
  have HBZ : Hid (w.heap.size = b0) := hb0
  rw [hb0] at B0 B1
  simp only [hb0]
  clear hb0
  have hTb : ∀ W, Below W0.heap.size W0 W → W.cell? ⟨b0, 0, none⟩ = some (.int .i64 K) ∧ W.cell? ⟨b0, 1, none⟩ = some (.int .i64 N) ∧ W.cell? ⟨b0, 2, none⟩ = some (.string S) ∧ W.cell? ⟨b0, 3, none⟩ = some (.slice a1 n1 c1) ∧ W.cell? ⟨b0, 4, none⟩ = some (.slice a2 n2 c2) := fun W hW => ⟨(B0.below hW).cell 0, (B0.below hW).cell 1, (B0.below hW).cell 2, (B0.below hW).cell 3, (B0.below hW).cell 4⟩
  refine M_region (T := fun W => W.cell? ⟨b0, 0, none⟩ = some (.int .i64 K) ∧ W.cell? ⟨b0, 1, none⟩ = some (.int .i64 N) ∧ W.cell? ⟨b0, 2, none⟩ = some (.string S) ∧ W.cell? ⟨b0, 3, none⟩ = some (.slice a1 n1 c1) ∧ W.cell? ⟨b0, 4, none⟩ = some (.slice a2 n2 c2)) (m := 13) (by kernel_rfl) ?_
  have hd : Below W0.heap.size W0 W0.drew := (Below.refl _ _).drew
  have hS := hTb _ hd
  refine M_take 0 3 (.pointer (some ⟨b0, 0, none⟩)) _ rfl rfl (by kernel_rfl) (by kernel_rfl) (by kernel_rfl) (by kernel_rfl) (by kernel_rfl) (fun _ _ _ h => h) (by rfl) (fun w' hw' => ?_) hS (listed' := #[true, false, false, false, false, false, false, false, false, false, false, false, false, false]) (by kernel_rfl) rfl ?_
  · go_simp
  simp only [List.setIfInBounds_toArray, List.set_cons_zero, List.set_cons_succ]
  refine M_take 1 4 (.int .i64 K) _ rfl rfl (by kernel_rfl) (by kernel_rfl) (by kernel_rfl) (by kernel_rfl) (by kernel_rfl) (fun _ _ _ h => h) (by rfl) (fun w' hw' => ?_) hS (listed' := #[true, true, false, false, false, false, false, false, false, false, false, false, false, false]) (by kernel_rfl) rfl ?_
  · obtain ⟨f0, f1, f2, f3, f4⟩ := hw'; go_simp
  simp only [List.setIfInBounds_toArray, List.set_cons_zero, List.set_cons_succ]
  refine M_take 2 5 (.pointer (some ⟨b0, 1, none⟩)) _ rfl rfl (by kernel_rfl) (by kernel_rfl) (by kernel_rfl) (by kernel_rfl) (by kernel_rfl) (fun _ _ _ h => h) (by rfl) (fun w' hw' => ?_) hS (listed' := #[true, true, true, false, false, false, false, false, false, false, false, false, false, false]) (by kernel_rfl) rfl ?_
  · go_simp
  simp only [List.setIfInBounds_toArray, List.set_cons_zero, List.set_cons_succ]
  refine M_take 3 6 (.int .i64 N) _ rfl rfl (by kernel_rfl) (by kernel_rfl) (by kernel_rfl) (by kernel_rfl) (by kernel_rfl) (fun _ _ _ h => h) (by rfl) (fun w' hw' => ?_) hS (listed' := #[true, true, true, true, false, false, false, false, false, false, false, false, false, false]) (by kernel_rfl) rfl ?_
  · obtain ⟨f0, f1, f2, f3, f4⟩ := hw'; go_simp
  simp only [List.setIfInBounds_toArray, List.set_cons_zero, List.set_cons_succ]
  refine M_take 4 7 (.pointer (some ⟨b0, 2, none⟩)) _ rfl rfl (by kernel_rfl) (by kernel_rfl) (by kernel_rfl) (by kernel_rfl) (by kernel_rfl) (fun _ _ _ h => h) (by rfl) (fun w' hw' => ?_) hS (listed' := #[true, true, true, true, true, false, false, false, false, false, false, false, false, false]) (by kernel_rfl) rfl ?_
  · go_simp
  simp only [List.setIfInBounds_toArray, List.set_cons_zero, List.set_cons_succ]
  refine M_take 5 8 (.string S) _ rfl rfl (by kernel_rfl) (by kernel_rfl) (by kernel_rfl) (by kernel_rfl) (by kernel_rfl) (fun _ _ _ h => h) (by rfl) (fun w' hw' => ?_) hS (listed' := #[true, true, true, true, true, true, false, false, false, false, false, false, false, false]) (by kernel_rfl) rfl ?_
  · obtain ⟨f0, f1, f2, f3, f4⟩ := hw'; go_simp
  simp only [List.setIfInBounds_toArray, List.set_cons_zero, List.set_cons_succ]
  refine M_take 6 9 (.pointer (some ⟨b0, 3, none⟩)) _ rfl rfl (by kernel_rfl) (by kernel_rfl) (by kernel_rfl) (by kernel_rfl) (by kernel_rfl) (fun _ _ _ h => h) (by rfl) (fun w' hw' => ?_) hS (listed' := #[true, true, true, true, true, true, true, false, false, false, false, false, false, false]) (by kernel_rfl) rfl ?_
  · go_simp
  simp only [List.setIfInBounds_toArray, List.set_cons_zero, List.set_cons_succ]
  refine M_take 7 10 (.slice a1 n1 c1) _ rfl rfl (by kernel_rfl) (by kernel_rfl) (by kernel_rfl) (by kernel_rfl) (by kernel_rfl) (fun _ _ _ h => h) (by rfl) (fun w' hw' => ?_) hS (listed' := #[true, true, true, true, true, true, true, true, false, false, false, false, false, false]) (by kernel_rfl) rfl ?_
  · obtain ⟨f0, f1, f2, f3, f4⟩ := hw'; go_simp
  simp only [List.setIfInBounds_toArray, List.set_cons_zero, List.set_cons_succ]
  refine M_take 9 12 (.pointer (some ⟨b0, 4, none⟩)) _ rfl rfl (by kernel_rfl) (by kernel_rfl) (by kernel_rfl) (by kernel_rfl) (by kernel_rfl) (fun _ _ _ h => h) (by rfl) (fun w' hw' => ?_) hS (listed' := #[true, true, true, true, true, true, true, true, false, true, false, false, false, false]) (by kernel_rfl) rfl ?_
  · go_simp
  simp only [List.setIfInBounds_toArray, List.set_cons_zero, List.set_cons_succ]
  refine M_take 10 13 (.slice a2 n2 c2) _ rfl rfl (by kernel_rfl) (by kernel_rfl) (by kernel_rfl) (by kernel_rfl) (by kernel_rfl) (fun _ _ _ h => h) (by rfl) (fun w' hw' => ?_) hS (listed' := #[true, true, true, true, true, true, true, true, false, true, true, false, false, false]) (by kernel_rfl) rfl ?_
  · obtain ⟨f0, f1, f2, f3, f4⟩ := hw'; go_simp
  simp only [List.setIfInBounds_toArray, List.set_cons_zero, List.set_cons_succ]
  refine M_call 8 11 49 #[.slice a1 n1 c1] rfl rfl (by kernel_rfl) (by rfl) (listed' := #[true, true, true, true, true, true, true, true, true, true, true, false, false, false]) (by kernel_rfl) (fun W => by go_simp) ?_
  refine (HE.out _).mono ?_
  rintro e W1 ⟨rfl, hb1⟩
  have hd1 : Below W0.heap.size W0 W1 := hd.trans (hb1.mono hd.size)
  have hS := hTb _ hd1
  refine ⟨_, rfl, hS, ?_⟩
  simp only [List.setIfInBounds_toArray, List.set_cons_zero, List.set_cons_succ]
  refine M_call 11 14 50 #[.slice a2 n2 c2] rfl rfl (by kernel_rfl) (by rfl) (listed' := #[true, true, true, true, true, true, true, true, true, true, true, true, false, false]) (by kernel_rfl) (fun W => by go_simp) ?_
  refine (HR.out _).mono ?_
  rintro e W2 ⟨rfl, hb2⟩
  have hd2 : Below W0.heap.size W0 W2 := hd1.trans (hb2.mono hd1.size)
  have hS := hTb _ hd2
  refine ⟨_, rfl, hS, ?_⟩
  simp only [List.setIfInBounds_toArray, List.set_cons_zero, List.set_cons_succ]
  refine M_take 12 15 (.agg #[.int .i64 K, .int .i64 N, .string S, .pointer p1, .int .i64 (m1 : Int), .pointer p2, .int .i64 (m2 : Int)]) _ rfl rfl (by kernel_rfl) (by kernel_rfl) (by kernel_rfl) (by kernel_rfl) (by kernel_rfl) (fun _ _ _ h => h) (by rfl) (fun w' hw' => ?_) hS (listed' := #[true, true, true, true, true, true, true, true, true, true, true, true, true, false]) (by kernel_rfl) rfl ?_
  · go_simp
  simp only [List.setIfInBounds_toArray, List.set_cons_zero, List.set_cons_succ]
  have BR := B1.below hd2
  have r0 := (BR.cell 0).trans rfl
  have z0 := BR.froz 0
  have r1 := (BR.cell 1).trans rfl
  have z1 := BR.froz 1
  have r2 := (BR.cell 2).trans rfl
  have z2 := BR.froz 2
  have r3 := (BR.cell 3).trans rfl
  have z3 := BR.froz 3
  have r4 := (BR.cell 4).trans rfl
  have z4 := BR.froz 4
  have r5 := (BR.cell 5).trans rfl
  have z5 := BR.froz 5
  have r6 := (BR.cell 6).trans rfl
  have z6 := BR.froz 6
  refine M_store 13 (((((((W2.setCell ⟨b0 + 1, 0, none⟩ (.int .i64 K)).setCell ⟨b0 + 1, 1, none⟩ (.int .i64 N)).setCell ⟨b0 + 1, 2, none⟩ (.string S)).setCell ⟨b0 + 1, 3, none⟩ (.pointer p1)).setCell ⟨b0 + 1, 4, none⟩ (.int .i64 (m1 : Int))).setCell ⟨b0 + 1, 5, none⟩ (.pointer p2)).setCell ⟨b0 + 1, 6, none⟩ (.int .i64 (m2 : Int))) rfl rfl (by kernel_rfl) (by rfl) (listed' := #[true, true, true, true, true, true, true, true, true, true, true, true, true, true]) (by kernel_rfl) (by go_simp) (by kernel_rfl) ?_
  refine M_done (by kernel_rfl) ?_ _
  have BR0 : Blk (W2.setCell ⟨b0 + 1, 0, none⟩ (.int .i64 K)) (b0 + 1) #[.int .i64 K, .int .i64 0, .string ⟨#[]⟩, .pointer none, .int .i64 0, .pointer none, .int .i64 0] 91 := BR.set 0 _ rfl
  have BR1 : Blk ((W2.setCell ⟨b0 + 1, 0, none⟩ (.int .i64 K)).setCell ⟨b0 + 1, 1, none⟩ (.int .i64 N)) (b0 + 1) #[.int .i64 K, .int .i64 N, .string ⟨#[]⟩, .pointer none, .int .i64 0, .pointer none, .int .i64 0] 91 := BR0.set 1 _ rfl
  have BR2 : Blk (((W2.setCell ⟨b0 + 1, 0, none⟩ (.int .i64 K)).setCell ⟨b0 + 1, 1, none⟩ (.int .i64 N)).setCell ⟨b0 + 1, 2, none⟩ (.string S)) (b0 + 1) #[.int .i64 K, .int .i64 N, .string S, .pointer none, .int .i64 0, .pointer none, .int .i64 0] 91 := BR1.set 2 _ rfl
  have BR3 : Blk ((((W2.setCell ⟨b0 + 1, 0, none⟩ (.int .i64 K)).setCell ⟨b0 + 1, 1, none⟩ (.int .i64 N)).setCell ⟨b0 + 1, 2, none⟩ (.string S)).setCell ⟨b0 + 1, 3, none⟩ (.pointer p1)) (b0 + 1) #[.int .i64 K, .int .i64 N, .string S, .pointer p1, .int .i64 0, .pointer none, .int .i64 0] 91 := BR2.set 3 _ rfl
  have BR4 : Blk (((((W2.setCell ⟨b0 + 1, 0, none⟩ (.int .i64 K)).setCell ⟨b0 + 1, 1, none⟩ (.int .i64 N)).setCell ⟨b0 + 1, 2, none⟩ (.string S)).setCell ⟨b0 + 1, 3, none⟩ (.pointer p1)).setCell ⟨b0 + 1, 4, none⟩ (.int .i64 (m1 : Int))) (b0 + 1) #[.int .i64 K, .int .i64 N, .string S, .pointer p1, .int .i64 (m1 : Int), .pointer none, .int .i64 0] 91 := BR3.set 4 _ rfl
  have BR5 : Blk ((((((W2.setCell ⟨b0 + 1, 0, none⟩ (.int .i64 K)).setCell ⟨b0 + 1, 1, none⟩ (.int .i64 N)).setCell ⟨b0 + 1, 2, none⟩ (.string S)).setCell ⟨b0 + 1, 3, none⟩ (.pointer p1)).setCell ⟨b0 + 1, 4, none⟩ (.int .i64 (m1 : Int))).setCell ⟨b0 + 1, 5, none⟩ (.pointer p2)) (b0 + 1) #[.int .i64 K, .int .i64 N, .string S, .pointer p1, .int .i64 (m1 : Int), .pointer p2, .int .i64 0] 91 := BR4.set 5 _ rfl
  have BR6 : Blk (((((((W2.setCell ⟨b0 + 1, 0, none⟩ (.int .i64 K)).setCell ⟨b0 + 1, 1, none⟩ (.int .i64 N)).setCell ⟨b0 + 1, 2, none⟩ (.string S)).setCell ⟨b0 + 1, 3, none⟩ (.pointer p1)).setCell ⟨b0 + 1, 4, none⟩ (.int .i64 (m1 : Int))).setCell ⟨b0 + 1, 5, none⟩ (.pointer p2)).setCell ⟨b0 + 1, 6, none⟩ (.int .i64 (m2 : Int))) (b0 + 1) #[.int .i64 K, .int .i64 N, .string S, .pointer p1, .int .i64 (m1 : Int), .pointer p2, .int .i64 (m2 : Int)] 91 := BR5.set 6 _ rfl
  have hbe : Below w.heap.size w W2 := hb.trans (hd2.mono hb.size)
  have hbe0 : Below w.heap.size w (W2.setCell ⟨b0 + 1, 0, none⟩ (.int .i64 K)) := Below.setCell (p := ⟨b0 + 1, 0, none⟩) hbe (by have := HBZ.out; show w.heap.size ≤ b0 + 1; omega) _
  have hbe1 : Below w.heap.size w ((W2.setCell ⟨b0 + 1, 0, none⟩ (.int .i64 K)).setCell ⟨b0 + 1, 1, none⟩ (.int .i64 N)) := Below.setCell (p := ⟨b0 + 1, 1, none⟩) hbe0 (by have := HBZ.out; show w.heap.size ≤ b0 + 1; omega) _
  have hbe2 : Below w.heap.size w (((W2.setCell ⟨b0 + 1, 0, none⟩ (.int .i64 K)).setCell ⟨b0 + 1, 1, none⟩ (.int .i64 N)).setCell ⟨b0 + 1, 2, none⟩ (.string S)) := Below.setCell (p := ⟨b0 + 1, 2, none⟩) hbe1 (by have := HBZ.out; show w.heap.size ≤ b0 + 1; omega) _
  have hbe3 : Below w.heap.size w ((((W2.setCell ⟨b0 + 1, 0, none⟩ (.int .i64 K)).setCell ⟨b0 + 1, 1, none⟩ (.int .i64 N)).setCell ⟨b0 + 1, 2, none⟩ (.string S)).setCell ⟨b0 + 1, 3, none⟩ (.pointer p1)) := Below.setCell (p := ⟨b0 + 1, 3, none⟩) hbe2 (by have := HBZ.out; show w.heap.size ≤ b0 + 1; omega) _
  have hbe4 : Below w.heap.size w (((((W2.setCell ⟨b0 + 1, 0, none⟩ (.int .i64 K)).setCell ⟨b0 + 1, 1, none⟩ (.int .i64 N)).setCell ⟨b0 + 1, 2, none⟩ (.string S)).setCell ⟨b0 + 1, 3, none⟩ (.pointer p1)).setCell ⟨b0 + 1, 4, none⟩ (.int .i64 (m1 : Int))) := Below.setCell (p := ⟨b0 + 1, 4, none⟩) hbe3 (by have := HBZ.out; show w.heap.size ≤ b0 + 1; omega) _
  have hbe5 : Below w.heap.size w ((((((W2.setCell ⟨b0 + 1, 0, none⟩ (.int .i64 K)).setCell ⟨b0 + 1, 1, none⟩ (.int .i64 N)).setCell ⟨b0 + 1, 2, none⟩ (.string S)).setCell ⟨b0 + 1, 3, none⟩ (.pointer p1)).setCell ⟨b0 + 1, 4, none⟩ (.int .i64 (m1 : Int))).setCell ⟨b0 + 1, 5, none⟩ (.pointer p2)) := Below.setCell (p := ⟨b0 + 1, 5, none⟩) hbe4 (by have := HBZ.out; show w.heap.size ≤ b0 + 1; omega) _
  have hbe6 : Below w.heap.size w (((((((W2.setCell ⟨b0 + 1, 0, none⟩ (.int .i64 K)).setCell ⟨b0 + 1, 1, none⟩ (.int .i64 N)).setCell ⟨b0 + 1, 2, none⟩ (.string S)).setCell ⟨b0 + 1, 3, none⟩ (.pointer p1)).setCell ⟨b0 + 1, 4, none⟩ (.int .i64 (m1 : Int))).setCell ⟨b0 + 1, 5, none⟩ (.pointer p2)).setCell ⟨b0 + 1, 6, none⟩ (.int .i64 (m2 : Int))) := Below.setCell (p := ⟨b0 + 1, 6, none⟩) hbe5 (by have := HBZ.out; show w.heap.size ≤ b0 + 1; omega) _
  clear r0 z0 r1 z1 r2 z2 r3 z3 r4 z4 r5 z5 r6 z6 BR0 hbe0 BR1 hbe1 BR2 hbe2 BR3 hbe3 BR4 hbe4 BR5 hbe5 BR hbe hS
  generalize (((((((W2.setCell ⟨b0 + 1, 0, none⟩ (.int .i64 K)).setCell ⟨b0 + 1, 1, none⟩ (.int .i64 N)).setCell ⟨b0 + 1, 2, none⟩ (.string S)).setCell ⟨b0 + 1, 3, none⟩ (.pointer p1)).setCell ⟨b0 + 1, 4, none⟩ (.int .i64 (m1 : Int))).setCell ⟨b0 + 1, 5, none⟩ (.pointer p2)).setCell ⟨b0 + 1, 6, none⟩ (.int .i64 (m2 : Int))) = W3 at *
  have r0 := (BR6.cell 0).trans rfl
  have r1 := (BR6.cell 1).trans rfl
  have r2 := (BR6.cell 2).trans rfl
  have r3 := (BR6.cell 3).trans rfl
  have r4 := (BR6.cell 4).trans rfl
  have r5 := (BR6.cell 5).trans rfl
  have r6 := (BR6.cell 6).trans rfl
  go_wp2_with fail
  refine bodyPost_ret (results_cell rfl _ _ _ ⟨b0 + 1, 0, none⟩ (.agg #[.int .i64 K, .int .i64 N, .string S, .pointer p1, .int .i64 (m1 : Int), .pointer p2, .int .i64 (m2 : Int)]) (by go_simp) (by go_simp)) rfl ⟨rfl, hbe6⟩
/-- A message's value. -/
def MsV (w : World) (m : MsS) (vf vr : Value) : Prop := RowG w vf 5 (flRows m.fields) ∧ RowG w vr 1 (inRows m.reserved)
theorem row_slice {w : World} {v : Value} {size : Nat} {rs : List (List Value)} (h : RowG w v size rs) : ∃ a n c, v = .slice a n c := by
  obtain ⟨a, c, e, _⟩ := h.form
  exact ⟨a, _, c, e⟩
set_option maxHeartbeats 1000000 in
theorem hasField_any {w : World} {snm : ByteArray} {vf vr : Value} {fs : List FlS} {tag : Int} (hf : RowG w vf 5 (flRows fs)) (hr : ∃ a n c, vr = .slice a n c) :
    Calls Try.prog 46 #[.agg #[.string snm, vf, vr], .int .i64 tag] w fun e w' => e = .returned (.bool (fldOf fs tag).isSome) ∧ Below w.heap.size w w' := by
  obtain ⟨ra, rn, rc, rfl⟩ := hr
  obtain ⟨fa, fnn, fc, rfl⟩ := row_slice hf
  have al : Below w.heap.size w (w.alloc (Obj.cells #[.string snm, .slice fa fnn fc, .slice ra rn rc] 47)) := (Below.refl _ _).alloc (Nat.le_refl _) _
  have HC : Hid (Calls Try.prog 47 #[.agg #[.string snm, .slice fa fnn fc, .slice ra rn rc], .int .i64 tag] (w.alloc (Obj.cells #[.string snm, .slice fa fnn fc, .slice ra rn rc] 47)) fun e w' => e = .returned (.tuple #[flV ((fldOf fs tag).getD zeroF), .bool (fldOf fs tag).isSome]) ∧ Below (w.alloc (Obj.cells #[.string snm, .slice fa fnn fc, .slice ra rn rc] 47)).heap.size (w.alloc (Obj.cells #[.string snm, .slice fa fnn fc, .slice ra rn rc] 47)) w') := cfield_any (hf.below al)
  clear hf
  generalize fldOf fs tag = X at *
  generalize X.getD zeroF = Y at *
  generalize X.isSome = B at *
  obtain ⟨y1, y2, y3, y4, y5⟩ := Y
  simp only [flV] at HC
  go_enter Try.func46, Try.ntmps46
  go_wp2_with fail
  refine HC.out.mono ?_
  rintro e w1 ⟨rfl, hb1⟩
  have hbw : Below w.heap.size w w1 := al.trans (hb1.mono al.size)
  clear HC hb1 al
  have hbe : Below w.heap.size w (w1.alloc (Obj.cells #[.string y1, .int .i64 y2, .int .i64 y3, .int .i64 y4, .string y5] 49)) := hbw.alloc hbw.size _
  go_wp2_with fail
  go_ret
  exact ⟨rfl, hbe⟩
set_option maxHeartbeats 1000000 in
theorem restc_any {W : World} {b : Nat} {snm : ByteArray} {vf vr : Value} {fs : List FlS} (x : Fd) (hB : Blk W b #[.string snm, vf, vr] 47) (hf : RowG W vf 5 (flRows fs)) (hr : ∃ a n c, vr = .slice a n c) :
    Calls Try.prog 45 #[.agg #[.int .i64 x.tag, .int .i64 x.wire, .int .i64 x.n, .string x.b], .pointer (some ⟨b, 0, none⟩)] W fun e w' => e = .returned (.bool (fldOf fs x.tag).isSome) ∧ Below W.heap.size W w' := by
  obtain ⟨ra, rn, rc, rfl⟩ := hr
  obtain ⟨fa, fnn, fc, rfl⟩ := row_slice hf
  have al : Below W.heap.size W (W.alloc (Obj.cells #[.int .i64 x.tag, .int .i64 x.wire, .int .i64 x.n, .string x.b] 70)) := (Below.refl _ _).alloc (Nat.le_refl _) _
  have q0 := (hB.cell 0).trans rfl
  have q1 := (hB.cell 1).trans rfl
  have q2 := (hB.cell 2).trans rfl
  have hlt := hB.lt
  have HC : Hid (Calls Try.prog 46 #[.agg #[.string snm, .slice fa fnn fc, .slice ra rn rc], .int .i64 x.tag] (W.alloc (Obj.cells #[.int .i64 x.tag, .int .i64 x.wire, .int .i64 x.n, .string x.b] 70)) fun e w' => e = .returned (.bool (fldOf fs x.tag).isSome) ∧ Below (W.alloc (Obj.cells #[.int .i64 x.tag, .int .i64 x.wire, .int .i64 x.n, .string x.b] 70)).heap.size (W.alloc (Obj.cells #[.int .i64 x.tag, .int .i64 x.wire, .int .i64 x.n, .string x.b] 70)) w') := hasField_any (hf.below al) ⟨_, _, _, rfl⟩
  clear hf hB
  generalize (fldOf fs x.tag).isSome = R at *
  generalize x.tag = x1 at *
  generalize x.wire = x2 at *
  generalize x.n = x3 at *
  generalize x.b = x4 at *
  go_enter Try.func45, Try.ntmps45
  go_wp2_with fail
  refine HC.out.mono ?_
  rintro e w1 ⟨rfl, hb1⟩
  have hbw : Below W.heap.size W w1 := al.trans (hb1.mono al.size)
  clear HC hb1 al q0 q1 q2
  go_wp2_with fail
  go_ret
  exact ⟨rfl, hbw⟩
set_option maxHeartbeats 2000000 in
theorem indexR_any (b : Nat) (v : Value) (l : List Fd) (w : World) (p : Fd → Bool) (h : RowG w v 4 (fdRows l)) (hf : ∀ (W : World) (x : Fd), Below w.heap.size w W → x ∈ l → Calls Try.prog 45 #[.agg #[.int .i64 x.tag, .int .i64 x.wire, .int .i64 x.n, .string x.b], .pointer (some ⟨b, 0, none⟩)] W fun e w' => e = .returned (.bool (p x)) ∧ Below W.heap.size W w') :
    Calls Try.prog 66 #[v, .func (.func 45) #[] #[.pointer (some ⟨b, 0, none⟩)]] w fun e w' => (∃ k : Int, e = .returned (.int .i64 k) ∧ (0 ≤ k ↔ l.any p = true)) ∧ Below w.heap.size w w' := by
  have h0 := h
  obtain ⟨a, cap, rfl, h1, h2, h3, -, h5⟩ := rest_holds h
  obtain ⟨N, hN⟩ : ∃ N, l.length = N := ⟨_, rfl⟩
  rw [hN] at h1 h0 ⊢
  have HH : Hid (∀ g off, a = some ⟨g, off, none⟩ → ∀ (i : Nat) (f : Fd), l[i]? = some f → w.cell? ⟨g, off + i * 4, none⟩ = some (.int .i64 f.tag) ∧ w.cell? ⟨g, off + i * 4 + 1, none⟩ = some (.int .i64 f.wire) ∧ w.cell? ⟨g, off + i * 4 + 2, none⟩ = some (.int .i64 f.n) ∧ w.cell? ⟨g, off + i * 4 + 3, none⟩ = some (.string f.b)) := h5
  have H3 : Hid (l = [] ∨ ∃ g off, a = some ⟨g, off, none⟩) := h3
  have HN : Hid (l.length = N) := hN
  have HF : Hid (∀ (W : World) (x : Fd), Below w.heap.size w W → x ∈ l → Calls Try.prog 45 #[.agg #[.int .i64 x.tag, .int .i64 x.wire, .int .i64 x.n, .string x.b], .pointer (some ⟨b, 0, none⟩)] W fun e w' => e = .returned (.bool (p x)) ∧ Below W.heap.size W w') := hf
  unfold maxLen at h2
  clear h h0 hN hf h3 h5
  go_enter Try.func66, Try.ntmps66
  go_wp2_with fail
  go_loopw [8] (fun iv wr => ∃ i : Nat, iv = .int .i64 (i : Int) ∧ i ≤ N ∧ Hid (∀ x ∈ l.take i, p x = false) ∧ Below w.heap.size w wr) (fun iv _ => N - (intOf iv).toNat)
  case atStart => exact ⟨0, rfl, by omega, (by simp : ∀ x ∈ l.take 0, p x = false), Below.refl _ _⟩
  case round =>
    obtain ⟨i, rfl, hi, HI, hbel⟩ := hrel
    by_cases hlt : i < N
    · obtain ⟨t, ht⟩ : ∃ r, l[i]? = some r := ⟨_, List.getElem?_eq_getElem (by rw [HN.out]; exact hlt)⟩
      obtain ⟨g, off, rfl⟩ : ∃ g off, a = some ⟨g, off, none⟩ := by
        rcases H3.out with h | h
        · rw [h] at ht; simp at ht
        · exact h
      obtain ⟨p0, p1, p2, p3⟩ := HH.out g off rfl i t ht
      have c0 := (hbel.cell (World.block_lt_of_cell? _ _ p0)).trans p0
      have c1 := (hbel.cell (World.block_lt_of_cell? _ _ p1)).trans p1
      have c2 := (hbel.cell (World.block_lt_of_cell? _ _ p2)).trans p2
      have c3 := (hbel.cell (World.block_lt_of_cell? _ _ p3)).trans p3
      have HCC : Hid (Calls Try.prog 45 #[.agg #[.int .i64 t.tag, .int .i64 t.wire, .int .i64 t.n, .string t.b], .pointer (some ⟨b, 0, none⟩)] wr fun e w' => e = .returned (.bool (p t)) ∧ Below wr.heap.size wr w') := HF.out wr t hbel (List.mem_of_getElem? ht)
      have HT : Hid (l.take (i + 1) = l.take i ++ [t]) := (by obtain ⟨hl', e⟩ := List.getElem?_eq_some_iff.1 ht; rw [List.take_succ_eq_append_getElem hl', e] : l.take (i + 1) = l.take i ++ [t])
      have HTM : Hid (t ∈ l) := List.mem_of_getElem? ht
      clear ht p0 p1 p2 p3
      obtain ⟨R, hR⟩ : ∃ R, p t = R := ⟨_, rfl⟩
      have HR : Hid (p t = R) := hR
      rw [hR] at HCC
      clear hR
      generalize t.tag = x1 at *
      generalize t.wire = x2 at *
      generalize t.n = x3 at *
      generalize t.b = x4 at *
      go_wp2_with fail
      refine Calls.mono HCC.out ?_
      rintro e w2 ⟨rfl, hb2⟩
      have hbw : Below w.heap.size w w2 := hbel.trans (hb2.mono hbel.size)
      clear HCC hb2 c0 c1 c2 c3 hbel
      cases R with
      | true =>
        go_wp2_with fail
        go_ret
        exact ⟨⟨_, rfl, by simp only [Int.natCast_nonneg, true_iff]; exact List.any_eq_true.2 ⟨t, HTM.out, HR.out⟩⟩, hbw⟩
      | false =>
        go_wp2_with fail
        go_roundw
        case rel => exact ⟨i + 1, by go_num, by omega, (by
          rw [HT.out]
          intro x hx
          rcases List.mem_append.1 hx with hx | hx
          · exact HI.out x hx
          · obtain rfl : x = t := by simpa using hx
            exact HR.out : ∀ x ∈ l.take (i + 1), p x = false), hbw⟩
        case measure => simp [intOf]; omega
    · go_wp2_with fail
      go_ret
      have h5 := HI.out
      rw [List.take_of_length_le (by rw [HN.out]; omega)] at h5
      refine ⟨⟨-1, rfl, ?_⟩, hbel⟩
      have : l.any p = false := by rw [List.any_eq_false]; intro x hx; rw [h5 x hx]; simp
      rw [this]
      simp
theorem containsR_any (b : Nat) (v : Value) (l : List Fd) (w : World) (p : Fd → Bool) (h : RowG w v 4 (fdRows l)) (hf : ∀ (W : World) (x : Fd), Below w.heap.size w W → x ∈ l → Calls Try.prog 45 #[.agg #[.int .i64 x.tag, .int .i64 x.wire, .int .i64 x.n, .string x.b], .pointer (some ⟨b, 0, none⟩)] W fun e w' => e = .returned (.bool (p x)) ∧ Below W.heap.size W w') :
    Calls Try.prog 44 #[v, .func (.func 45) #[] #[.pointer (some ⟨b, 0, none⟩)]] w fun e w' => e = .returned (.bool (l.any p)) ∧ Below w.heap.size w w' := by
  have HI : Hid (Calls Try.prog 66 #[v, .func (.func 45) #[] #[.pointer (some ⟨b, 0, none⟩)]] w fun e w' => (∃ k : Int, e = .returned (.int .i64 k) ∧ (0 ≤ k ↔ l.any p = true)) ∧ Below w.heap.size w w') := indexR_any b v l w p h hf
  obtain ⟨a, n, cap, rfl⟩ := row_slice h
  clear h hf
  obtain ⟨R, hR⟩ : ∃ R, l.any p = R := ⟨_, rfl⟩
  rw [hR] at HI ⊢
  clear hR
  go_enter Try.func44, Try.ntmps44
  go_wp2_with fail
  refine Calls.mono HI.out ?_
  rintro e w2 ⟨⟨k, rfl, hk⟩, hb⟩
  clear HI
  have hd : decide (0 ≤ k) = R := by
    cases R
    · simpa using hk
    · simpa using hk
  clear hk
  go_wp2_with fail
  go_ret
  exact ⟨rfl, hb⟩
end Go.Proofs.Ytfnjbbaphmmjlaa

/- What the program's Valid answers, at every text. -/
namespace Go.Proofs.Ytfnjbbaphmmjlaa
open Go.ChangeShapes Go.WideShapes Go.ChangeAt Go.RowKit
set_option linter.unusedVariables false
set_option maxRecDepth 20000

set_option maxHeartbeats 1000000 in
theorem valid_any (s : ByteArray) (w : World) (hs : s.size ≤ 140737488351232) :
    Calls Try.prog 79 #[.string s] w fun e w' => e = .returned (.bool (validB s.data.toList)) ∧ Below w.heap.size w w' := by
  go_enter Try.func79, Try.ntmps79
  go_wp2
  go_loopw [] (fun wr => ∃ (pos : Nat) (acc : List Nat), wr = w.iter s pos ∧ Hid (Gone s.data.toList pos acc)) (fun wr => s.size - wr.iterPos w.heap.size)
  case atStart => exact ⟨0, [], rfl, Gone.start _⟩
  case round =>
    obtain ⟨pos, acc, rfl, H⟩ := hrel
    by_cases hp : pos < s.size
    · obtain ⟨c, k, hd, h1, h2⟩ := dec_at s pos hp
      have hnx : ∀ ty, (Instr.next (.pointer (some ⟨w.heap.size, 0, none⟩)) true ty).run Try.prog (w.iter s pos) = .ok (.tuple #[.bool true, .int .i64 (pos : Int), .int .i32 (c : Int)]) (w.iter s (pos + k)) := by
        intro ty
        have := run_next_any (P := Try.prog) w s pos ty hp
        rw [hd] at this
        exact this
      have H1 : Hid (standsB (s.data.toList.drop pos) c = true → nxL (s.data.toList.drop pos) = some (c, k)) := h1
      have H2 : Hid (standsB (s.data.toList.drop pos) c = false → nxL (s.data.toList.drop pos) = none) := h2
      clear hd h1 h2
      go_wp2_with fail
      refine (stands_any s _ _ _ hs (by omega) (by omega)).mono ?_
      rintro e w' ⟨rfl, rfl⟩
      rw [Int.toNat_natCast]
      cases hst : standsB (s.data.toList.drop pos) c with
      | false =>
        go_wp2
        go_ret
        exact ⟨ret_bool (by unfold validB; rw [H.out.bad (by rw [len_data]; exact hp) (H2.out hst)]; rfl), below_iter _ _ _⟩
      | true =>
        have HN := H1.out hst
        have hk : 1 ≤ k := (nxL_some _ _ _ HN).2.2.2.1
        have HG : Hid (Gone s.data.toList (pos + k) (acc ++ [c])) := H.out.step HN
        clear HN
        go_wp2
        go_roundw
        case rel => exact ⟨pos + k, acc ++ [c], rfl, HG⟩
        case measure => simp; omega
    · have hnx : ∀ ty, (Instr.next (.pointer (some ⟨w.heap.size, 0, none⟩)) true ty).run Try.prog (w.iter s pos) = _ := fun ty => run_next_end w s pos ty hp
      go_wp2
      go_ret
      exact ⟨ret_bool (by unfold validB; rw [H.out.done (by rw [len_data]; omega)]; rfl), below_iter _ _ _⟩

end Go.Proofs.Ytfnjbbaphmmjlaa

/- A region that draws its order and whose callees only make memory: one walk in the order of the text serves every order. (The library's theorem on quiet regions, at the class of worlds that keep what lay below a block.) -/
namespace Go.Proofs.Ytfnjbbaphmmjlaa
open Go.RowKit

/-- A world that keeps what lay below block B of w0. -/
structure Kept (B : Nat) (w0 : World) where
  w : World
  below : Below B w0 w

theorem wp_region_qb {P : Program} {id : Nat} {Q : Exit → Act → World → Prop} {a : Act} {w : World} {l : List Oper} {B : Nat} {w0 : World} (h0 : Below B w0 w) (hm : P.follows .mixedOrders = true) (hB : Region.lexB .any l.toArray = true)
    (h : wpQuiet P l.toArray (fun w' => ∃ x : Kept B w0, w' = x.w) (fun a' => ∀ w', (∃ x : Kept B w0, w' = x.w) → Q .normal a' w') l a) : (Code.region id l.toArray true).wp P Q a w :=
  wp_region_quiet (C := fun w' => ∃ x : Kept B w0, w' = x.w) hm hB ⟨⟨_, h0.drew⟩, rfl⟩ (by simpa using h)

theorem nonempty_qb {B : Nat} {w0 w : World} (h0 : Below B w0 w) : Nonempty (Kept B w0) := ⟨⟨w, h0⟩⟩

theorem qb_call {P : Program} {f : FuncId} {args : Array Value} {B : Nat} {w0 : World} {x : Kept B w0} {v : Value}
    (h : ∀ W, Below B w0 W → Calls P f args W fun e W' => e = .returned v ∧ Below B w0 W') : Calls P f args x.w fun e w'' => e = .returned v ∧ ∃ y : Kept B w0, w'' = y.w :=
  (h _ x.below).mono fun _ W' h => ⟨h.1, ⟨⟨W', h.2⟩, rfl⟩⟩
theorem qb_same {P : Program} {f : FuncId} {args : Array Value} {B : Nat} {w0 : World} {x : Kept B w0} {v : Value}
    (h : ∀ W, Calls P f args W fun e W' => e = .returned v ∧ W' = W) : Calls P f args x.w fun e w'' => e = .returned v ∧ ∃ y : Kept B w0, w'' = y.w :=
  (h _).mono fun _ _ h => ⟨h.1, ⟨x, h.2⟩⟩
end Go.Proofs.Ytfnjbbaphmmjlaa

/- Whether a tree is one of a type. -/
namespace Go.Proofs.Ytfnjbbaphmmjlaa
open Go.ChangeShapes Go.WideShapes Go.ChangeAt Go.RowKit
set_option linter.unusedVariables false
set_option linter.unusedSimpArgs false
set_option maxRecDepth 20000

/-- What the walk answers. -/
def MesP (s : ScS) (X : Int) (b : Nat) (w : World) (e : Ending) (w' : World) : Prop := e = .returned (.int .i64 X) ∧ Kp (fun q => q = b) w w' ∧ KnS s w' b
theorem MesP.of {s : ScS} {X Y : Int} {b : Nat} {w w' : World} (hX : Y = X) (h : Kp (fun q => q = b) w w') (hk : KnS s w' b) : MesP s X b w (.returned (.int .i64 Y)) w' := ⟨by rw [hX], h, hk⟩
theorem kept_cellW {w : World} {a : Addr} {u : Value} (h : w.cell? a = some u) (x : Kept w.heap.size w) : x.w.cell? a = some u := by
  rw [x.below.cell (World.block_lt_of_cell? _ _ h)]; exact h
theorem blk3a (w : World) (c1 c2 c3 : Array Value) (t1 t2 t3 : TypeId) : Blk (((w.alloc (Obj.cells c1 t1)).alloc (Obj.cells c2 t2)).alloc (Obj.cells c3 t3)) w.heap.size c1 t1 := ((Blk.new w _ _).below ((Below.refl _ _).alloc (Nat.le_refl _) _)).below ((Below.refl _ _).alloc (Nat.le_refl _) _)
theorem blk3b (w : World) (c1 c2 c3 : Array Value) (t1 t2 t3 : TypeId) : Blk (((w.alloc (Obj.cells c1 t1)).alloc (Obj.cells c2 t2)).alloc (Obj.cells c3 t3)) (w.heap.size + 1) c2 t2 := by
  have := (Blk.new (w.alloc (Obj.cells c1 t1)) c2 t2).below ((Below.refl _ _).alloc (Nat.le_refl _) (Obj.cells c3 t3))
  rwa [show (w.alloc (Obj.cells c1 t1)).heap.size = w.heap.size + 1 from by simp] at this
theorem blk3c (w : World) (c1 c2 c3 : Array Value) (t1 t2 t3 : TypeId) : Blk (((w.alloc (Obj.cells c1 t1)).alloc (Obj.cells c2 t2)).alloc (Obj.cells c3 t3)) (w.heap.size + 2) c3 t3 := by
  have := Blk.new ((w.alloc (Obj.cells c1 t1)).alloc (Obj.cells c2 t2)) c3 t3
  rwa [show ((w.alloc (Obj.cells c1 t1)).alloc (Obj.cells c2 t2)).heap.size = w.heap.size + 2 from by simp] at this
theorem blk3w (w : World) (c1 c2 c3 : Array Value) (t1 t2 t3 : TypeId) : Below w.heap.size w (((w.alloc (Obj.cells c1 t1)).alloc (Obj.cells c2 t2)).alloc (Obj.cells c3 t3)) := (((Below.refl _ _).alloc (Nat.le_refl _) _).alloc (by simp) _).alloc (by simp; omega) _
set_option maxHeartbeats 4000000 in
theorem tree_step (s : ScS) (sn : ByteArray) (ma ea ta : Option Addr) (mn mc en ec tn tc b : Nat) (n : Nat) (IH : ∀ t nm v w, TrW n w v t → KnS s w b → ScIn w (.agg #[.string sn, .slice ma mn mc, .slice ea en ec, .slice ta tn tc]) s → Calls Try.prog 23 #[.agg #[.string sn, .slice ma mn mc, .slice ea en ec, .slice ta tn tc, .map (some b)], .string nm, v] w (MesP s (msgV n s nm t) b w))
    (t : Tr) (k : Int) (tnm : ByteArray) (v : Value) (w : World) (ht : TrW n w v t) (hk : KnS s w b) (hs : ScIn w (.agg #[.string sn, .slice ma mn mc, .slice ea en ec, .slice ta tn tc]) s) : Calls Try.prog 64 #[.agg #[.string sn, .slice ma mn mc, .slice ea en ec, .slice ta tn tc, .map (some b)], .agg #[.int .i64 k, .string tnm], v] w (MesP s (treeV (msgV n s) k tnm t) b w) := by
  obtain ⟨m, a1, c1, a2, c2, -, rfl, -, -, hsz, -⟩ := ht.open
  have HM : Hid (∀ W, Below w.heap.size w W → Calls Try.prog 23 #[.agg #[.string sn, .slice ma mn mc, .slice ea en ec, .slice ta tn tc, .map (some b)], .string tnm, .agg #[.int .i64 t.kind, .int .i64 t.n, .string t.s, .slice a1 t.es.length c1, .slice a2 t.rest.length c2]] W (MesP s (msgV n s tnm t) b W)) := fun W hW => IH t tnm _ W (ht.cel (Cel.ofBelow hW)) (hk.below hW) (hs.below hW)
  have HK : Hid (KnS s w b) := hk
  have HX : Hid (∃ X, treeV (msgV n s) k tnm t = X) := ⟨_, rfl⟩
  obtain ⟨X, hX⟩ := HX.out
  have HV : Hid (treeV (msgV n s) k tnm t = X) := hX
  rw [hX]
  clear hX HX ht hk hs
  generalize t.es.length = n1 at *
  generalize t.rest.length = n2 at *
  obtain ⟨K, hK⟩ : ∃ z, t.kind = z := ⟨_, rfl⟩
  obtain ⟨N, hN⟩ : ∃ z, t.n = z := ⟨_, rfl⟩
  obtain ⟨S, hS⟩ : ∃ z, t.s = z := ⟨_, rfl⟩
  have HT : Hid (t.kind = K ∧ t.n = N ∧ t.s = S) := ⟨hK, hN, hS⟩
  rw [hK, hN, hS] at HM
  rw [hS] at hsz
  rw [hK, hN, hS]
  clear hK hN hS
  have BF := blk3a w #[.string sn, .slice ma mn mc, .slice ea en ec, .slice ta tn tc, .map (some b)] #[.int .i64 k, .string tnm] #[.int .i64 K, .int .i64 N, .string S, .slice a1 n1 c1, .slice a2 n2 c2] 76 41 30
  have BY := blk3b w #[.string sn, .slice ma mn mc, .slice ea en ec, .slice ta tn tc, .map (some b)] #[.int .i64 k, .string tnm] #[.int .i64 K, .int .i64 N, .string S, .slice a1 n1 c1, .slice a2 n2 c2] 76 41 30
  have BT := blk3c w #[.string sn, .slice ma mn mc, .slice ea en ec, .slice ta tn tc, .map (some b)] #[.int .i64 k, .string tnm] #[.int .i64 K, .int .i64 N, .string S, .slice a1 n1 c1, .slice a2 n2 c2] 76 41 30
  have hbw := blk3w w #[.string sn, .slice ma mn mc, .slice ea en ec, .slice ta tn tc, .map (some b)] #[.int .i64 k, .string tnm] #[.int .i64 K, .int .i64 N, .string S, .slice a1 n1 c1, .slice a2 n2 c2] 76 41 30
  obtain ⟨kt, hkt⟩ : ∃ z, kindT k = z := ⟨_, rfl⟩
  have HKT : Hid (kindT k = kt) := hkt
  have HKC : Hid (∀ W, Calls Try.prog 48 #[.agg #[.int .i64 k, .string tnm]] W fun e w' => e = .returned (.int .i64 kt) ∧ Below W.heap.size W w') := fun W => by
    have h1 := kindOf_any k tnm W
    rw [hkt] at h1
    exact h1
  clear hkt
  go_enter Try.func64, Try.ntmps64
  go_wp2_with fail
  obtain ⟨b0, hb0⟩ : ∃ z, w.heap.size = z := ⟨_, rfl⟩
  have HBZ : Hid (w.heap.size = b0) := hb0
  generalize (((w.alloc (Obj.cells #[.string sn, .slice ma mn mc, .slice ea en ec, .slice ta tn tc, .map (some b)] 76)).alloc (Obj.cells #[.int .i64 k, .string tnm] 41)).alloc (Obj.cells #[.int .i64 K, .int .i64 N, .string S, .slice a1 n1 c1, .slice a2 n2 c2] 30)) = WA at *
  rw [hb0] at BF BY BT
  simp only [hb0]
  clear hb0
  have t0 := (BT.cell 0).trans rfl
  have y0 := (BY.cell 0).trans rfl
  have y1 := (BY.cell 1).trans rfl
  have k0 := kept_cellW t0
  have k1 := kept_cellW y0
  have k2 := kept_cellW y1
  clear t0 y0 y1
  have HKD : Hid (∀ W1, Below WA.heap.size WA W1 → Calls Try.prog 48 #[.agg #[.int .i64 k, .string tnm]] W1 fun e w' => e = .returned (.int .i64 kt) ∧ Below WA.heap.size WA w') := fun W1 hW1 => by
    refine (HKC.out W1).mono ?_
    rintro e W' ⟨rfl, hb⟩
    exact ⟨rfl, hW1.trans (hb.mono hW1.size)⟩
  have FIN : Hid (∀ (W : World) (Y : Int), Below WA.heap.size WA W → X = Y → MesP s X b w (.returned (.int .i64 Y)) W) := fun W Y hW hY => by
    have h1 : Below w.heap.size w W := hbw.trans (hW.mono hbw.size)
    exact MesP.of hY.symm (Kp.ofBelow h1) (HK.out.below h1)
  haveI := nonempty_qb (Below.refl WA.heap.size WA)
  refine wp_region_qb (Below.refl WA.heap.size WA) (by kernel_rfl) (by kernel_rfl) ?_
  repeat (go_big_quiet_step (first | (go_at_call 48; exact qb_call HKD.out)))
  refine wpQuiet_nil ?_
  rintro W1 ⟨⟨_, hW1⟩, rfl⟩
  clear k0 k1 k2 HKD HKC
  have BF1 := BF.below hW1
  have BY1 := BY.below hW1
  have BT1 := BT.below hW1
  have f0 := (BF1.cell 0).trans rfl
  have f1 := (BF1.cell 1).trans rfl
  have f2 := (BF1.cell 2).trans rfl
  have f3 := (BF1.cell 3).trans rfl
  have f4 := (BF1.cell 4).trans rfl
  have y0 := (BY1.cell 0).trans rfl
  have y1 := (BY1.cell 1).trans rfl
  have t0 := (BT1.cell 0).trans rfl
  have t1 := (BT1.cell 1).trans rfl
  have t2 := (BT1.cell 2).trans rfl
  have t3 := (BT1.cell 3).trans rfl
  have t4 := (BT1.cell 4).trans rfl
  clear BF BY BT BF1 BY1 BT1
  by_cases hne : K = kt
  rotate_left
  · have hq : (K != kt) = true := by simpa using hne
    have hX : X = 8 := by rw [← HV.out, treeV, HT.out.1, HKT.out, if_pos hne]
    have HX : Hid (X = 8) := hX
    clear hne hX
    go_wp2_with fail
    go_ret
    exact FIN.out _ _ hW1 HX.out
  · have hq : (K != kt) = false := by simpa using hne
    by_cases hK1 : K = 1
    · subst hK1
      have hk4 : ¬ k = 4 := fun h => by have := HKT.out; rw [h, ← hne] at this; revert this; decide
      have e4 : (k == 4) = false := by simpa using hk4
      cases hR : nmrB k N with
      | false =>
        have HX : Hid (X = 11) := (by rw [← HV.out, treeV, HT.out.1, HKT.out, if_neg (by simpa using hne), if_pos ⟨rfl, by rw [HT.out.2.1]; exact hR⟩] : X = 11)
        have HN : Hid (Calls Try.prog 14 #[.agg #[.int .i64 k, .string tnm], .int .i64 N] W1 fun e w' => e = .returned (.bool false) ∧ Below W1.heap.size W1 w') := (by have h1 := number_any k N tnm W1; rw [hR] at h1; exact h1 : Calls Try.prog _ _ W1 _)
        clear hR hne hk4
        go_wp2_with fail
        refine HN.out.mono ?_
        rintro e W2 ⟨rfl, hb2⟩
        have hW2 := hW1.trans (hb2.mono hW1.size)
        clear HN hb2 f0 f1 f2 f3 f4 y0 y1 t0 t1 t2 t3 t4
        go_wp2_with fail
        go_ret
        exact FIN.out _ _ hW2 HX.out
      | true =>
        have HX : Hid (X = 0) := (by rw [← HV.out, treeV, HT.out.1, HKT.out, if_neg (by simpa using hne), if_neg (by rw [HT.out.2.1, hR]; simp), if_neg (by simp [hk4]), if_neg (by decide)] : X = 0)
        have HN : Hid (Calls Try.prog 14 #[.agg #[.int .i64 k, .string tnm], .int .i64 N] W1 fun e w' => e = .returned (.bool true) ∧ Below W1.heap.size W1 w') := (by have h1 := number_any k N tnm W1; rw [hR] at h1; exact h1 : Calls Try.prog _ _ W1 _)
        clear hR hne hk4
        go_wp2_with fail
        refine HN.out.mono ?_
        rintro e W2 ⟨rfl, hb2⟩
        have hW2 := hW1.trans (hb2.mono hW1.size)
        have y0 := (hb2.cell (World.block_lt_of_cell? _ _ y0)).trans y0
        have t0 := (hb2.cell (World.block_lt_of_cell? _ _ t0)).trans t0
        clear HN hb2 f0 f1 f2 f3 f4 y1 t1 t2 t3 t4
        go_wp2_with fail
        go_ret
        exact FIN.out _ _ hW2 HX.out
    · have e1 : (K == 1) = false := by simpa using hK1
      by_cases hk4 : k = 4
      · subst hk4
        have h3 : (K == 3) = false := by have := HKT.out; rw [← hne] at this; rw [← this]; decide
        cases hR : validB S.data.toList with
        | false =>
          have HX : Hid (X = 9) := (by rw [← HV.out, treeV, HT.out.1, HKT.out, if_neg (by simpa using hne), if_neg (by simp [hK1]), if_pos ⟨rfl, by rw [HT.out.2.2]; exact hR⟩] : X = 9)
          have HN : Hid (Calls Try.prog 79 #[.string S] W1 fun e w' => e = .returned (.bool false) ∧ Below W1.heap.size W1 w') := (by have h1 := valid_any S W1 hsz; rw [hR] at h1; exact h1 : Calls Try.prog _ _ W1 _)
          clear hR hne hK1
          go_wp2_with fail
          refine HN.out.mono ?_
          rintro e W2 ⟨rfl, hb2⟩
          have hW2 := hW1.trans (hb2.mono hW1.size)
          clear HN hb2 f0 f1 f2 f3 f4 y0 y1 t0 t1 t2 t3 t4
          go_wp2_with fail
          go_ret
          exact FIN.out _ _ hW2 HX.out
        | true =>
          have HX : Hid (X = 0) := (by rw [← HV.out, treeV, HT.out.1, HKT.out, if_neg (by simpa using hne), if_neg (by simp [hK1]), if_neg (by rw [HT.out.2.2, hR]; simp), if_neg (by simpa using h3)] : X = 0)
          have HN : Hid (Calls Try.prog 79 #[.string S] W1 fun e w' => e = .returned (.bool true) ∧ Below W1.heap.size W1 w') := (by have h1 := valid_any S W1 hsz; rw [hR] at h1; exact h1 : Calls Try.prog _ _ W1 _)
          clear hR hne hK1
          go_wp2_with fail
          refine HN.out.mono ?_
          rintro e W2 ⟨rfl, hb2⟩
          have hW2 := hW1.trans (hb2.mono hW1.size)
          have t0 := (hb2.cell (World.block_lt_of_cell? _ _ t0)).trans t0
          clear HN hb2 f0 f1 f2 f3 f4 y0 y1 t1 t2 t3 t4
          go_wp2_with fail
          go_ret
          exact FIN.out _ _ hW2 HX.out
      · have e4 : (k == 4) = false := by simpa using hk4
        by_cases hK3 : K = 3
        · subst hK3
          have HX : Hid (X = msgV n s tnm t) := (by rw [← HV.out, treeV, HT.out.1, HKT.out, if_neg (by simpa using hne), if_neg (by simp), if_neg (by simp [hk4]), if_pos rfl] : X = msgV n s tnm t)
          have hbW1 := hbw.trans (hW1.mono hbw.size)
          have HN := HM.out W1 hbW1
          rw [← HX.out] at HN
          have HN2 : Hid (Calls Try.prog 23 #[.agg #[.string sn, .slice ma mn mc, .slice ea en ec, .slice ta tn tc, .map (some b)], .string tnm, .agg #[.int .i64 3, .int .i64 N, .string S, .slice a1 n1 c1, .slice a2 n2 c2]] W1 (MesP s X b W1)) := HN
          clear HN hne hK1 hk4 HX
          go_wp2_with fail
          refine Calls.mono HN2.out ?_
          rintro e W2 ⟨rfl, hk2, hn2⟩
          have HF : Hid (MesP s X b w (.returned (.int .i64 X)) W2) := MesP.of rfl ((Kp.ofBelow hbW1).trans hk2) hn2
          clear HN2 hk2 hn2 f0 f1 f2 f3 f4 y0 y1 t0 t1 t2 t3 t4
          go_wp2_with fail
          go_ret
          exact HF.out
        · have e3 : (K == 3) = false := by simpa using hK3
          have HX : Hid (X = 0) := (by rw [← HV.out, treeV, HT.out.1, HKT.out, if_neg (by simpa using hne), if_neg (by simp [hK1]), if_neg (by simp [hk4]), if_neg hK3] : X = 0)
          clear hne hK1 hk4 hK3
          go_wp2_with fail
          go_ret
          exact FIN.out _ _ hW1 HX.out
end Go.Proofs.Ytfnjbbaphmmjlaa

/- Whether an entry is one of a message. -/
namespace Go.Proofs.Ytfnjbbaphmmjlaa
open Go.ChangeShapes Go.WideShapes Go.ChangeAt Go.RowKit
set_option linter.unusedVariables false
set_option linter.unusedSimpArgs false
set_option maxRecDepth 20000

set_option maxHeartbeats 8000000 in
theorem entry_step (s : ScS) (sn : ByteArray) (ma ea ta : Option Addr) (mn mc en ec tn tc b : Nat) (n : Nat) (IH : ∀ t nm v w, TrW n w v t → KnS s w b → ScIn w (.agg #[.string sn, .slice ma mn mc, .slice ea en ec, .slice ta tn tc]) s → Calls Try.prog 23 #[.agg #[.string sn, .slice ma mn mc, .slice ea en ec, .slice ta tn tc, .map (some b)], .string nm, v] w (MesP s (msgV n s nm t) b w))
    (e : Int × List Tr) (fs : List FlS) (mnm : ByteArray) (fa ra xa : Option Addr) (fl fc rl rc xc : Nat) (w : World) (hx : TrsR n w (.slice xa e.2.length xc) e.2) (hxc : e.2.length ≤ xc) (hxm : xc ≤ maxLen) (hf : RowG w (.slice fa fl fc) 5 (flRows fs)) (hk : KnS s w b) (hs : ScIn w (.agg #[.string sn, .slice ma mn mc, .slice ea en ec, .slice ta tn tc]) s) :
    Calls Try.prog 43 #[.agg #[.string sn, .slice ma mn mc, .slice ea en ec, .slice ta tn tc, .map (some b)], .agg #[.string mnm, .slice fa fl fc, .slice ra rl rc], .agg #[.int .i64 e.1, .slice xa e.2.length xc]] w (MesP s (entV (msgV n s) fs e) b w) := by
  obtain ⟨Xl, hXl⟩ : ∃ z, e.2.length = z := ⟨_, rfl⟩
  obtain ⟨e1, he1⟩ : ∃ z, e.1 = z := ⟨_, rfl⟩
  rw [hXl] at hxc hx ⊢
  rw [he1]
  unfold maxLen at hxm
  have HXL : Hid (e.2.length = Xl) := hXl
  have HE1 : Hid (e.1 = e1) := he1
  clear hXl he1
  have BF := blk3a w #[.string sn, .slice ma mn mc, .slice ea en ec, .slice ta tn tc, .map (some b)] #[.string mnm, .slice fa fl fc, .slice ra rl rc] #[.int .i64 e1, .slice xa Xl xc] 76 47 61
  have BE := blk3c w #[.string sn, .slice ma mn mc, .slice ea en ec, .slice ta tn tc, .map (some b)] #[.string mnm, .slice fa fl fc, .slice ra rl rc] #[.int .i64 e1, .slice xa Xl xc] 76 47 61
  have hbw := blk3w w #[.string sn, .slice ma mn mc, .slice ea en ec, .slice ta tn tc, .map (some b)] #[.string mnm, .slice fa fl fc, .slice ra rl rc] #[.int .i64 e1, .slice xa Xl xc] 76 47 61
  obtain ⟨X, hX⟩ : ∃ X, entV (msgV n s) fs e = X := ⟨_, rfl⟩
  have HV : Hid (entV (msgV n s) fs e = X) := hX
  rw [hX]
  clear hX
  have HK : Hid (KnS s w b) := hk
  have HX : Hid (TrsR n w (.slice xa Xl xc) e.2) := hx
  have HS : Hid (ScIn w (.agg #[.string sn, .slice ma mn mc, .slice ea en ec, .slice ta tn tc]) s) := hs
  have HFC : Hid (Calls Try.prog 47 #[.agg #[.string mnm, .slice fa fl fc, .slice ra rl rc], .int .i64 e1] (((w.alloc (Obj.cells #[.string sn, .slice ma mn mc, .slice ea en ec, .slice ta tn tc, .map (some b)] 76)).alloc (Obj.cells #[.string mnm, .slice fa fl fc, .slice ra rl rc] 47)).alloc (Obj.cells #[.int .i64 e1, .slice xa Xl xc] 61)) fun e' w' => e' = .returned (.tuple #[flV ((fldOf fs e1).getD zeroF), .bool (fldOf fs e1).isSome]) ∧ Below (((w.alloc (Obj.cells #[.string sn, .slice ma mn mc, .slice ea en ec, .slice ta tn tc, .map (some b)] 76)).alloc (Obj.cells #[.string mnm, .slice fa fl fc, .slice ra rl rc] 47)).alloc (Obj.cells #[.int .i64 e1, .slice xa Xl xc] 61)).heap.size (((w.alloc (Obj.cells #[.string sn, .slice ma mn mc, .slice ea en ec, .slice ta tn tc, .map (some b)] 76)).alloc (Obj.cells #[.string mnm, .slice fa fl fc, .slice ra rl rc] 47)).alloc (Obj.cells #[.int .i64 e1, .slice xa Xl xc] 61)) w') := cfield_any (hf.below hbw)
  clear hk hx hs hf
  cases hfo : fldOf fs e1 with
  | none =>
    have HX7 : Hid (7 = X) := (by rw [← HV.out, entV, HE1.out, hfo] : 7 = X)
    rw [hfo] at HFC
    simp only [flV, zeroF, Option.getD_none, Option.isSome_none] at HFC
    clear hfo BF BE
    go_enter Try.func43, Try.ntmps43
    go_wp2_with fail
    refine HFC.out.mono ?_
    rintro ee w1 ⟨rfl, hb1⟩
    have hbw1 : Below w.heap.size w w1 := hbw.trans (hb1.mono hbw.size)
    have hbw2 : Below w.heap.size w (w1.alloc (Obj.cells #[.string ⟨#[]⟩, .int .i64 0, .int .i64 0, .int .i64 0, .string ⟨#[]⟩] 49)) := hbw1.alloc hbw1.size _
    clear HFC hb1 hbw hbw1
    go_wp2_with fail
    go_ret
    exact MesP.of HX7.out (Kp.ofBelow hbw2) (HK.out.below hbw2)
  | some f =>
    have HFO : Hid (fldOf fs e.1 = some f) := (by rw [HE1.out]; exact hfo : fldOf fs e.1 = some f)
    rw [hfo] at HFC
    simp only [flV, Option.getD_some, Option.isSome_some] at HFC
    clear hfo
    obtain ⟨f1, f2, lb, fk, ft⟩ := f
    simp only at HFC
    obtain ⟨b0, hb0⟩ : ∃ z, w.heap.size = z := ⟨_, rfl⟩
    have HBZ : Hid (w.heap.size = b0) := hb0
    go_enter Try.func43, Try.ntmps43
    go_wp2_with fail
    refine HFC.out.mono ?_
    rintro ee w1 ⟨rfl, hb1⟩
    have hbw1 : Below w.heap.size w w1 := hbw.trans (hb1.mono hbw.size)
    have al2 : Below w1.heap.size w1 (w1.alloc (Obj.cells #[.string f1, .int .i64 f2, .int .i64 lb, .int .i64 fk, .string ft] 49)) := (Below.refl _ _).alloc (Nat.le_refl _) _
    have hbw2 : Below w.heap.size w (w1.alloc (Obj.cells #[.string f1, .int .i64 f2, .int .i64 lb, .int .i64 fk, .string ft] 49)) := hbw1.trans (al2.mono hbw1.size)
    have BF2 : Blk (w1.alloc (Obj.cells #[.string f1, .int .i64 f2, .int .i64 lb, .int .i64 fk, .string ft] 49)) w.heap.size #[.string sn, .slice ma mn mc, .slice ea en ec, .slice ta tn tc, .map (some b)] 76 := (BF.below hb1).below al2
    have BE2 : Blk (w1.alloc (Obj.cells #[.string f1, .int .i64 f2, .int .i64 lb, .int .i64 fk, .string ft] 49)) (w.heap.size + 2) #[.int .i64 e1, .slice xa Xl xc] 61 := (BE.below hb1).below al2
    have BL2 : Blk (w1.alloc (Obj.cells #[.string f1, .int .i64 f2, .int .i64 lb, .int .i64 fk, .string ft] 49)) w1.heap.size #[.string f1, .int .i64 f2, .int .i64 lb, .int .i64 fk, .string ft] 49 := Blk.new w1 _ _
    have HK2 : Hid (KnS s (w1.alloc (Obj.cells #[.string f1, .int .i64 f2, .int .i64 lb, .int .i64 fk, .string ft] 49)) b) := HK.out.below hbw2
    have HX2 : Hid (TrsR n (w1.alloc (Obj.cells #[.string f1, .int .i64 f2, .int .i64 lb, .int .i64 fk, .string ft] 49)) (.slice xa Xl xc) e.2) := HX.out.celT (Cel.ofBelow hbw2)
    have HS2 : Hid (ScIn (w1.alloc (Obj.cells #[.string f1, .int .i64 f2, .int .i64 lb, .int .i64 fk, .string ft] 49)) (.agg #[.string sn, .slice ma mn mc, .slice ea en ec, .slice ta tn tc]) s) := HS.out.below hbw2
    have HKW : Hid (Kp (fun q => q = b) w (w1.alloc (Obj.cells #[.string f1, .int .i64 f2, .int .i64 lb, .int .i64 fk, .string ft] 49))) := Kp.ofBelow hbw2
    have q1 := (BE2.cell 1).trans rfl
    have r2 := (BL2.cell 2).trans rfl
    clear HFC hb1 hbw hbw1 al2 BF BE HK HX HS
    simp only [hb0] at BF2 BE2 q1 ⊢
    clear hb0
    by_cases h4 : lb ≠ 3 ∧ 1 < Xl
    · have d1 : (lb != 3) = true := by simpa using h4.1
      have d2 : decide (1 < (Xl : Int)) = true := by simp; omega
      have HX4 : Hid (4 = X) := (by rw [← HV.out, entV, HFO.out]; simp only [HXL.out]; rw [if_pos h4] : 4 = X)
      clear h4
      go_wp2_with fail
      go_ret
      exact MesP.of HX4.out HKW.out HK2.out
    · have HXE : Hid (X = errF (e.2.map (oneV (msgV n s) ⟨f1, f2, lb, fk, ft⟩))) := (by rw [← HV.out, entV, HFO.out]; simp only [HXL.out]; rw [if_neg h4] : X = errF (e.2.map (oneV (msgV n s) ⟨f1, f2, lb, fk, ft⟩)))
      rcases Decidable.em (lb = 3) with h3 | h3
      · have d1 : (lb != 3) = false := by simpa using h3
        clear h3 h4
        go_wp2_with fail
        generalize (w1.alloc (Obj.cells #[.string f1, .int .i64 f2, .int .i64 lb, .int .i64 fk, .string ft] 49)) = W2 at *
        obtain ⟨bL, hbL⟩ : ∃ z, w1.heap.size = z := ⟨_, rfl⟩
        rw [hbL] at BL2
        simp only [hbL]
        clear hbL d1
        clear q1 r2
        go_loopw [33] (fun iv wr => ∃ i : Nat, iv = .int .i64 (i : Int) ∧ i ≤ Xl ∧ Hid (errF ((e.2.take i).map (oneV (msgV n s) ⟨f1, f2, lb, fk, ft⟩)) = 0) ∧ Kp (fun q => q = b) W2 wr ∧ Hid (KnS s wr b)) (fun iv _ => Xl - (intOf iv).toNat)
        case atStart => exact ⟨0, rfl, by omega, (by simp [errF] : errF ((e.2.take 0).map (oneV (msgV n s) ⟨f1, f2, lb, fk, ft⟩)) = 0), Kp.refl _ _, HK2⟩
        case round =>
          obtain ⟨i, rfl, hi, HI, hkp, HKR⟩ := hrel
          have hcel : Cel W2 wr := HK2.out.cel hkp
          have BFr := BF2.cel hcel
          have BLr := BL2.cel hcel
          by_cases hlt : i < Xl
          · obtain ⟨x, hx⟩ : ∃ r, e.2[i]? = some r := ⟨_, List.getElem?_eq_getElem (by rw [HXL.out]; exact hlt)⟩
            obtain ⟨gx, ox, a1, n1, c1, a2, n2, c2, rfl, x0, x1, x2, x3, x4, hxw⟩ := trsR_get (HX2.out.celT hcel) hx
            obtain ⟨K, hK⟩ : ∃ z, x.kind = z := ⟨_, rfl⟩
            obtain ⟨N, hN⟩ : ∃ z, x.n = z := ⟨_, rfl⟩
            obtain ⟨S, hS⟩ : ∃ z, x.s = z := ⟨_, rfl⟩
            rw [hK] at x0
            rw [hN] at x1
            rw [hS] at x2
            rw [hK, hN, hS] at hxw
            have al : Below wr.heap.size wr (wr.alloc (Obj.cells #[.int .i64 K, .int .i64 N, .string S, .slice a1 n1 c1, .slice a2 n2 c2] 30)) := (Below.refl _ _).alloc (Nat.le_refl _) _
            have HPT : Hid (x.kind = K ∧ x.n = N ∧ x.s = S ∧ x.es.length = n1 ∧ x.rest.length = n2) := hxw.parts
            obtain ⟨Y, hY⟩ : ∃ z, treeV (msgV n s) fk ft x = z := ⟨_, rfl⟩
            have HY : Hid (treeV (msgV n s) fk ft x = Y) := hY
            have HTC : Hid (Calls Try.prog 64 #[.agg #[.string sn, .slice ma mn mc, .slice ea en ec, .slice ta tn tc, .map (some b)], .agg #[.int .i64 fk, .string ft], .agg #[.int .i64 K, .int .i64 N, .string S, .slice a1 n1 c1, .slice a2 n2 c2]] (wr.alloc (Obj.cells #[.int .i64 K, .int .i64 N, .string S, .slice a1 n1 c1, .slice a2 n2 c2] 30)) (MesP s Y b (wr.alloc (Obj.cells #[.int .i64 K, .int .i64 N, .string S, .slice a1 n1 c1, .slice a2 n2 c2] 30)))) := (by
              have h1 := tree_step s sn ma ea ta mn mc en ec tn tc b n IH x fk ft _ (wr.alloc (Obj.cells #[.int .i64 K, .int .i64 N, .string S, .slice a1 n1 c1, .slice a2 n2 c2] 30)) (hxw.cel (Cel.ofBelow al)) (HKR.out.below al) ((HS2.out.cel hcel).below al)
              rw [hY] at h1
              exact h1 : Calls Try.prog _ _ (wr.alloc (Obj.cells #[.int .i64 K, .int .i64 N, .string S, .slice a1 n1 c1, .slice a2 n2 c2] 30)) _)
            have HIX : Hid (e.2[i]? = some x) := hx
            have BX : Blk (wr.alloc (Obj.cells #[.int .i64 K, .int .i64 N, .string S, .slice a1 n1 c1, .slice a2 n2 c2] 30)) wr.heap.size #[.int .i64 K, .int .i64 N, .string S, .slice a1 n1 c1, .slice a2 n2 c2] 30 := Blk.new wr _ _
            have BFx := BFr.below al
            have BLx := BLr.below al
            have g0 := (BFx.cell 0).trans rfl
            have g1 := (BFx.cell 1).trans rfl
            have g2 := (BFx.cell 2).trans rfl
            have g3 := (BFx.cell 3).trans rfl
            have g4 := (BFx.cell 4).trans rfl
            have l3 := (BLx.cell 3).trans rfl
            have l4 := (BLx.cell 4).trans rfl
            clear hK hN hS hY hx hxw
            go_wp2_with fail
            refine Calls.mono HTC.out ?_
            rintro ee W4 ⟨rfl, hk4, hn4⟩
            have hcx : Cel (wr.alloc (Obj.cells #[.int .i64 K, .int .i64 N, .string S, .slice a1 n1 c1, .slice a2 n2 c2] 30)) W4 := (HKR.out.below al).cel hk4
            have BX4 := BX.cel hcx
            have BL4 := BLx.cel hcx
            have hkp4 : Kp (fun q => q = b) W2 W4 := (hkp.trans (Kp.ofBelow al)).trans hk4
            have HN4 : Hid (KnS s W4 b) := hn4
            have HKW4 : Hid (Kp (fun q => q = b) w W4) := HKW.out.trans hkp4
            clear HTC hk4 hn4 hcx BX BFx BLx g0 g1 g2 g3 g4 l3 l4 x0 x1 x2 x3 x4 al BFr BLr hkp HKR
            obtain ⟨bx, hbx⟩ : ∃ z, wr.heap.size = z := ⟨_, rfl⟩
            rw [hbx] at BX4
            simp only [hbx]
            clear hbx
            have j0 := (BX4.cell 0).trans rfl
            have j1 := (BX4.cell 1).trans rfl
            have j2 := (BX4.cell 2).trans rfl
            have j3 := (BX4.cell 3).trans rfl
            have j4 := (BX4.cell 4).trans rfl
            have l2 := (BL4.cell 2).trans rfl
            by_cases hY0 : Y = 0
            · subst hY0
              by_cases hl1 : lb = 1
              · have d5 : (lb == 1) = true := by simpa using hl1
                cases hZ : zroB x with
                | true =>
                  have HZ : Hid (Calls Try.prog 65 #[.agg #[.int .i64 K, .int .i64 N, .string S, .slice a1 n1 c1, .slice a2 n2 c2]] W4 fun e w' => e = .returned (.bool true) ∧ Below W4.heap.size W4 w') := (by
                    obtain ⟨p1, p2, p3, p4, p5⟩ := HPT.out
                    have h1 := zero_any x a1 a2 n1 c1 n2 c2 W4 p4.symm p5.symm
                    rw [p1, p2, p3, hZ] at h1
                    exact h1 : Calls Try.prog _ _ W4 _)
                  have HX12 : Hid (12 = X) := (by
                    have h1 : oneV (msgV n s) ⟨f1, f2, lb, fk, ft⟩ x = 12 := by
                      rw [oneV, if_neg (by simp [HY.out]), if_pos ⟨hl1, hZ⟩]
                    rw [HXE.out, errF_hit HIX.out HI.out (by rw [h1]; decide), h1] : 12 = X)
                  clear hZ hl1
                  go_wp2_with fail
                  refine HZ.out.mono ?_
                  rintro ee W5 ⟨rfl, hb5⟩
                  have HF : Hid (MesP s X b w (.returned (.int .i64 12)) W5) := MesP.of HX12.out (HKW4.out.trans (Kp.ofBelow hb5)) (HN4.out.below hb5)
                  clear HZ hb5 j0 j1 j2 j3 j4 l2
                  go_wp2_with fail
                  go_ret
                  exact HF.out
                | false =>
                  have HZ : Hid (Calls Try.prog 65 #[.agg #[.int .i64 K, .int .i64 N, .string S, .slice a1 n1 c1, .slice a2 n2 c2]] W4 fun e w' => e = .returned (.bool false) ∧ Below W4.heap.size W4 w') := (by
                    obtain ⟨p1, p2, p3, p4, p5⟩ := HPT.out
                    have h1 := zero_any x a1 a2 n1 c1 n2 c2 W4 p4.symm p5.symm
                    rw [p1, p2, p3, hZ] at h1
                    exact h1 : Calls Try.prog _ _ W4 _)
                  have HI2 : Hid (errF ((e.2.take (i + 1)).map (oneV (msgV n s) ⟨f1, f2, lb, fk, ft⟩)) = 0) := errF_on HIX.out HI.out (by rw [oneV, if_neg (by simp [HY.out]), if_neg (by rw [hZ]; simp)])
                  clear hZ hl1
                  go_wp2_with fail
                  refine HZ.out.mono ?_
                  rintro ee W5 ⟨rfl, hb5⟩
                  have HN5 : Hid (KnS s W5 b) := HN4.out.below hb5
                  have hkp5 : Kp (fun q => q = b) W2 W5 := hkp4.trans (Kp.ofBelow hb5)
                  clear HZ hb5 j0 j1 j2 j3 j4 l2 HI HN4 hkp4 HKW4
                  go_wp2_with fail
                  go_roundw
                  case rel => exact ⟨i + 1, by go_num, by omega, HI2, hkp5, HN5⟩
                  case measure => simp [intOf]; omega
              · have d5 : (lb == 1) = false := by simpa using hl1
                have HI2 : Hid (errF ((e.2.take (i + 1)).map (oneV (msgV n s) ⟨f1, f2, lb, fk, ft⟩)) = 0) := errF_on HIX.out HI.out (by rw [oneV, if_neg (by simp [HY.out]), if_neg (by simp [hl1])])
                clear hl1
                go_wp2_with fail
                clear j0 j1 j2 j3 j4 l2 HI d5
                go_roundw
                case rel => exact ⟨i + 1, by go_num, by omega, HI2, hkp4, HN4⟩
                case measure => simp [intOf]; omega
            · have d4 : (Y != 0) = true := by simpa using hY0
              have HXY : Hid (Y = X) := (by
                have h1 : oneV (msgV n s) ⟨f1, f2, lb, fk, ft⟩ x = Y := by
                  rw [oneV, if_pos (by simpa [HY.out] using hY0)]
                  exact HY.out
                rw [HXE.out, errF_hit HIX.out HI.out (by rw [h1]; exact hY0), h1] : Y = X)
              clear hY0
              go_wp2_with fail
              go_ret
              exact MesP.of HXY.out HKW4.out HN4.out
          · have HX0 : Hid (0 = X) := (by
              have h1 := HI.out
              rw [List.take_of_length_le (by rw [HXL.out]; omega)] at h1
              rw [HXE.out, h1] : 0 = X)
            clear BFr BLr HI
            go_wp2_with fail
            go_ret
            exact MesP.of HX0.out (HKW.out.trans hkp) HKR.out
      · have d1 : (lb != 3) = true := by simpa using h3
        have d2 : decide (1 < (Xl : Int)) = false := by simp; have := fun h => h4 ⟨h3, h⟩; omega
        clear h3 h4
        go_wp2_with fail
        generalize (w1.alloc (Obj.cells #[.string f1, .int .i64 f2, .int .i64 lb, .int .i64 fk, .string ft] 49)) = W2 at *
        obtain ⟨bL, hbL⟩ : ∃ z, w1.heap.size = z := ⟨_, rfl⟩
        rw [hbL] at BL2
        simp only [hbL]
        clear hbL d1
        clear d2
        clear q1 r2
        go_loopw [33] (fun iv wr => ∃ i : Nat, iv = .int .i64 (i : Int) ∧ i ≤ Xl ∧ Hid (errF ((e.2.take i).map (oneV (msgV n s) ⟨f1, f2, lb, fk, ft⟩)) = 0) ∧ Kp (fun q => q = b) W2 wr ∧ Hid (KnS s wr b)) (fun iv _ => Xl - (intOf iv).toNat)
        case atStart => exact ⟨0, rfl, by omega, (by simp [errF] : errF ((e.2.take 0).map (oneV (msgV n s) ⟨f1, f2, lb, fk, ft⟩)) = 0), Kp.refl _ _, HK2⟩
        case round =>
          obtain ⟨i, rfl, hi, HI, hkp, HKR⟩ := hrel
          have hcel : Cel W2 wr := HK2.out.cel hkp
          have BFr := BF2.cel hcel
          have BLr := BL2.cel hcel
          by_cases hlt : i < Xl
          · obtain ⟨x, hx⟩ : ∃ r, e.2[i]? = some r := ⟨_, List.getElem?_eq_getElem (by rw [HXL.out]; exact hlt)⟩
            obtain ⟨gx, ox, a1, n1, c1, a2, n2, c2, rfl, x0, x1, x2, x3, x4, hxw⟩ := trsR_get (HX2.out.celT hcel) hx
            obtain ⟨K, hK⟩ : ∃ z, x.kind = z := ⟨_, rfl⟩
            obtain ⟨N, hN⟩ : ∃ z, x.n = z := ⟨_, rfl⟩
            obtain ⟨S, hS⟩ : ∃ z, x.s = z := ⟨_, rfl⟩
            rw [hK] at x0
            rw [hN] at x1
            rw [hS] at x2
            rw [hK, hN, hS] at hxw
            have al : Below wr.heap.size wr (wr.alloc (Obj.cells #[.int .i64 K, .int .i64 N, .string S, .slice a1 n1 c1, .slice a2 n2 c2] 30)) := (Below.refl _ _).alloc (Nat.le_refl _) _
            have HPT : Hid (x.kind = K ∧ x.n = N ∧ x.s = S ∧ x.es.length = n1 ∧ x.rest.length = n2) := hxw.parts
            obtain ⟨Y, hY⟩ : ∃ z, treeV (msgV n s) fk ft x = z := ⟨_, rfl⟩
            have HY : Hid (treeV (msgV n s) fk ft x = Y) := hY
            have HTC : Hid (Calls Try.prog 64 #[.agg #[.string sn, .slice ma mn mc, .slice ea en ec, .slice ta tn tc, .map (some b)], .agg #[.int .i64 fk, .string ft], .agg #[.int .i64 K, .int .i64 N, .string S, .slice a1 n1 c1, .slice a2 n2 c2]] (wr.alloc (Obj.cells #[.int .i64 K, .int .i64 N, .string S, .slice a1 n1 c1, .slice a2 n2 c2] 30)) (MesP s Y b (wr.alloc (Obj.cells #[.int .i64 K, .int .i64 N, .string S, .slice a1 n1 c1, .slice a2 n2 c2] 30)))) := (by
              have h1 := tree_step s sn ma ea ta mn mc en ec tn tc b n IH x fk ft _ (wr.alloc (Obj.cells #[.int .i64 K, .int .i64 N, .string S, .slice a1 n1 c1, .slice a2 n2 c2] 30)) (hxw.cel (Cel.ofBelow al)) (HKR.out.below al) ((HS2.out.cel hcel).below al)
              rw [hY] at h1
              exact h1 : Calls Try.prog _ _ (wr.alloc (Obj.cells #[.int .i64 K, .int .i64 N, .string S, .slice a1 n1 c1, .slice a2 n2 c2] 30)) _)
            have HIX : Hid (e.2[i]? = some x) := hx
            have BX : Blk (wr.alloc (Obj.cells #[.int .i64 K, .int .i64 N, .string S, .slice a1 n1 c1, .slice a2 n2 c2] 30)) wr.heap.size #[.int .i64 K, .int .i64 N, .string S, .slice a1 n1 c1, .slice a2 n2 c2] 30 := Blk.new wr _ _
            have BFx := BFr.below al
            have BLx := BLr.below al
            have g0 := (BFx.cell 0).trans rfl
            have g1 := (BFx.cell 1).trans rfl
            have g2 := (BFx.cell 2).trans rfl
            have g3 := (BFx.cell 3).trans rfl
            have g4 := (BFx.cell 4).trans rfl
            have l3 := (BLx.cell 3).trans rfl
            have l4 := (BLx.cell 4).trans rfl
            clear hK hN hS hY hx hxw
            go_wp2_with fail
            refine Calls.mono HTC.out ?_
            rintro ee W4 ⟨rfl, hk4, hn4⟩
            have hcx : Cel (wr.alloc (Obj.cells #[.int .i64 K, .int .i64 N, .string S, .slice a1 n1 c1, .slice a2 n2 c2] 30)) W4 := (HKR.out.below al).cel hk4
            have BX4 := BX.cel hcx
            have BL4 := BLx.cel hcx
            have hkp4 : Kp (fun q => q = b) W2 W4 := (hkp.trans (Kp.ofBelow al)).trans hk4
            have HN4 : Hid (KnS s W4 b) := hn4
            have HKW4 : Hid (Kp (fun q => q = b) w W4) := HKW.out.trans hkp4
            clear HTC hk4 hn4 hcx BX BFx BLx g0 g1 g2 g3 g4 l3 l4 x0 x1 x2 x3 x4 al BFr BLr hkp HKR
            obtain ⟨bx, hbx⟩ : ∃ z, wr.heap.size = z := ⟨_, rfl⟩
            rw [hbx] at BX4
            simp only [hbx]
            clear hbx
            have j0 := (BX4.cell 0).trans rfl
            have j1 := (BX4.cell 1).trans rfl
            have j2 := (BX4.cell 2).trans rfl
            have j3 := (BX4.cell 3).trans rfl
            have j4 := (BX4.cell 4).trans rfl
            have l2 := (BL4.cell 2).trans rfl
            by_cases hY0 : Y = 0
            · subst hY0
              by_cases hl1 : lb = 1
              · have d5 : (lb == 1) = true := by simpa using hl1
                cases hZ : zroB x with
                | true =>
                  have HZ : Hid (Calls Try.prog 65 #[.agg #[.int .i64 K, .int .i64 N, .string S, .slice a1 n1 c1, .slice a2 n2 c2]] W4 fun e w' => e = .returned (.bool true) ∧ Below W4.heap.size W4 w') := (by
                    obtain ⟨p1, p2, p3, p4, p5⟩ := HPT.out
                    have h1 := zero_any x a1 a2 n1 c1 n2 c2 W4 p4.symm p5.symm
                    rw [p1, p2, p3, hZ] at h1
                    exact h1 : Calls Try.prog _ _ W4 _)
                  have HX12 : Hid (12 = X) := (by
                    have h1 : oneV (msgV n s) ⟨f1, f2, lb, fk, ft⟩ x = 12 := by
                      rw [oneV, if_neg (by simp [HY.out]), if_pos ⟨hl1, hZ⟩]
                    rw [HXE.out, errF_hit HIX.out HI.out (by rw [h1]; decide), h1] : 12 = X)
                  clear hZ hl1
                  go_wp2_with fail
                  refine HZ.out.mono ?_
                  rintro ee W5 ⟨rfl, hb5⟩
                  have HF : Hid (MesP s X b w (.returned (.int .i64 12)) W5) := MesP.of HX12.out (HKW4.out.trans (Kp.ofBelow hb5)) (HN4.out.below hb5)
                  clear HZ hb5 j0 j1 j2 j3 j4 l2
                  go_wp2_with fail
                  go_ret
                  exact HF.out
                | false =>
                  have HZ : Hid (Calls Try.prog 65 #[.agg #[.int .i64 K, .int .i64 N, .string S, .slice a1 n1 c1, .slice a2 n2 c2]] W4 fun e w' => e = .returned (.bool false) ∧ Below W4.heap.size W4 w') := (by
                    obtain ⟨p1, p2, p3, p4, p5⟩ := HPT.out
                    have h1 := zero_any x a1 a2 n1 c1 n2 c2 W4 p4.symm p5.symm
                    rw [p1, p2, p3, hZ] at h1
                    exact h1 : Calls Try.prog _ _ W4 _)
                  have HI2 : Hid (errF ((e.2.take (i + 1)).map (oneV (msgV n s) ⟨f1, f2, lb, fk, ft⟩)) = 0) := errF_on HIX.out HI.out (by rw [oneV, if_neg (by simp [HY.out]), if_neg (by rw [hZ]; simp)])
                  clear hZ hl1
                  go_wp2_with fail
                  refine HZ.out.mono ?_
                  rintro ee W5 ⟨rfl, hb5⟩
                  have HN5 : Hid (KnS s W5 b) := HN4.out.below hb5
                  have hkp5 : Kp (fun q => q = b) W2 W5 := hkp4.trans (Kp.ofBelow hb5)
                  clear HZ hb5 j0 j1 j2 j3 j4 l2 HI HN4 hkp4 HKW4
                  go_wp2_with fail
                  go_roundw
                  case rel => exact ⟨i + 1, by go_num, by omega, HI2, hkp5, HN5⟩
                  case measure => simp [intOf]; omega
              · have d5 : (lb == 1) = false := by simpa using hl1
                have HI2 : Hid (errF ((e.2.take (i + 1)).map (oneV (msgV n s) ⟨f1, f2, lb, fk, ft⟩)) = 0) := errF_on HIX.out HI.out (by rw [oneV, if_neg (by simp [HY.out]), if_neg (by simp [hl1])])
                clear hl1
                go_wp2_with fail
                clear j0 j1 j2 j3 j4 l2 HI d5
                go_roundw
                case rel => exact ⟨i + 1, by go_num, by omega, HI2, hkp4, HN4⟩
                case measure => simp [intOf]; omega
            · have d4 : (Y != 0) = true := by simpa using hY0
              have HXY : Hid (Y = X) := (by
                have h1 : oneV (msgV n s) ⟨f1, f2, lb, fk, ft⟩ x = Y := by
                  rw [oneV, if_pos (by simpa [HY.out] using hY0)]
                  exact HY.out
                rw [HXE.out, errF_hit HIX.out HI.out (by rw [h1]; exact hY0), h1] : Y = X)
              clear hY0
              go_wp2_with fail
              go_ret
              exact MesP.of HXY.out HKW4.out HN4.out
          · have HX0 : Hid (0 = X) := (by
              have h1 := HI.out
              rw [List.take_of_length_le (by rw [HXL.out]; omega)] at h1
              rw [HXE.out, h1] : 0 = X)
            clear BFr BLr HI
            go_wp2_with fail
            go_ret
            exact MesP.of HX0.out (HKW.out.trans hkp) HKR.out
end Go.Proofs.Ytfnjbbaphmmjlaa

/- What SameInts, SameEnums, SameMessages, SameSchemas answer of one thing in two places. -/
import Derived.Test.YtkfhlgajeejgeaaGreatDoorPkB
import Derived.Test.YtkfhlgajeejgeaaGreatDoorPkA
import Derived.Test.YtkfhlgajeejgeaaGreatDoorQbP
import Derived.BigQuiet
namespace Go.Proofs.YtkfhlgajeejgeaaGreatDoor
open Go.ChangeShapes Go.WideShapes Go.ChangeAt Go.RowKit
set_option linter.unusedVariables false
set_option linter.unusedSimpArgs false
set_option maxRecDepth 20000

theorem kept_cell {w : World} {a : Addr} {u : Value} (h : w.cell? a = some u) (x : Kept w.heap.size w) : x.w.cell? a = some u := by
  rw [x.below.cell (World.block_lt_of_cell? _ _ h)]; exact h
set_option maxHeartbeats 1000000 in
theorem sints_any {w : World} {v1 v2 : Value} {ns : List Int} (h1 : RowG w v1 1 (inRows ns)) (h2 : RowG w v2 1 (inRows ns)) :
    Calls Tryz.prog 44 #[v1, v2] w fun e w' => e = .returned (.bool true) ∧ Below w.heap.size w w' := by
  obtain ⟨a, c, rfl, q1, q2⟩ := h1.form2
  obtain ⟨b, d, rfl, q3, q4⟩ := h2.form2
  have H1 : Hid _ := h1
  have H2 : Hid _ := h2
  clear h1 h2
  have hN : (inRows ns).length = ns.length := by simp [inRows]
  rw [hN] at H1 H2 q1 q3 ⊢
  clear hN
  obtain ⟨N, hN⟩ : ∃ N, ns.length = N := ⟨_, rfl⟩
  rw [hN] at H1 H2 q1 q3 ⊢
  have HN : Hid (ns.length = N) := hN
  clear hN
  go_enter Tryz.func44, Tryz.ntmps44
  go_wp2_with fail
  go_loopw [5] (fun iv wr => ∃ i : Nat, iv = .int .i64 (i : Int) ∧ i ≤ N ∧ Below w.heap.size w wr) (fun iv _ => N - (intOf iv).toNat)
  case atStart => exact ⟨0, rfl, by omega, Below.refl _ _⟩
  case round =>
    obtain ⟨i, rfl, hi, hbel⟩ := hrel
    by_cases hlt : i < N
    · obtain ⟨n, hn⟩ : ∃ n, ns[i]? = some n := ⟨_, List.getElem?_eq_getElem (by rw [HN.out]; exact hlt)⟩
      have hr : (inRows ns)[i]? = some [.int .i64 n] := by simp [inRows, hn]
      obtain ⟨g, off, rfl, c1⟩ := (H1.out.below hbel).get hr
      obtain ⟨g2, off2, rfl, c2⟩ := (H2.out.below hbel).get hr
      have p0 := c1 0 _ rfl
      have p1 := c2 0 _ rfl
      simp only [Nat.mul_one, Nat.add_zero] at p0 p1
      clear c1 c2 hr hn
      go_wp2_with fail
      go_quiet (fail)
      have hbn := below_drewN nq hbel
      clear p0 p1 hbel
      go_wp2_with fail
      go_roundw
      case rel => exact ⟨i + 1, by go_num, by omega, hbn⟩
      case measure => simp [intOf]; omega
    · go_wp2_with fail
      go_ret
      exact ⟨rfl, hbel⟩
theorem cells_two (w : World) (A B : Array Value) (t u : TypeId) (W : World) (hb : Below (w.heap.size + 2) ((w.alloc (.cells A t)).alloc (.cells B u)) W) (k : Nat) : W.cell? ⟨w.heap.size, k, none⟩ = A[k]? ∧ W.cell? ⟨w.heap.size + 1, k, none⟩ = B[k]? := by
  constructor
  · rw [hb.cell (by simp only; omega), World.cell?_alloc_past _ _ _ (by simp), World.cell?_alloc_at _ _ _ _ rfl]
  · rw [hb.cell (by simp only; omega), World.cell?_alloc_at _ _ _ _ (by simp)]
set_option maxHeartbeats 1000000 in
theorem senums_any {w : World} {v1 v2 : Value} {nm : ByteArray} {vs : List NmS} (h1 : RowG w v1 2 (nmRows vs)) (h2 : RowG w v2 2 (nmRows vs)) :
    Calls Tryz.prog 24 #[.agg #[.string nm, v1], .agg #[.string nm, v2]] w fun e w' => e = .returned (.bool true) ∧ Below w.heap.size w w' := by
  obtain ⟨a, c, rfl, q1, q2⟩ := h1.form2
  obtain ⟨b, d, rfl, q3, q4⟩ := h2.form2
  have H1 : Hid _ := h1
  have H2 : Hid _ := h2
  clear h1 h2
  have hN : (nmRows vs).length = vs.length := by simp [nmRows]
  rw [hN] at H1 H2 q1 q3 ⊢
  clear hN
  obtain ⟨N, hN⟩ : ∃ N, vs.length = N := ⟨_, rfl⟩
  rw [hN] at H1 H2 q1 q3 ⊢
  have HN : Hid (vs.length = N) := hN
  clear hN
  have hb0 : Below w.heap.size w ((w.alloc (.cells #[.string nm, .slice a N c] 47)).alloc (.cells #[.string nm, .slice b N d] 47)) := ((Below.refl _ _).alloc (Nat.le_refl _) _).alloc (by simp) _
  have HC : Hid (∀ W, Below (w.heap.size + 2) ((w.alloc (.cells #[.string nm, .slice a N c] 47)).alloc (.cells #[.string nm, .slice b N d] 47)) W → W.cell? ⟨w.heap.size, 1, none⟩ = some (.slice a N c) ∧ W.cell? ⟨w.heap.size + 1, 1, none⟩ = some (.slice b N d)) := fun W hW => cells_two w _ _ _ _ W hW 1
  go_enter Tryz.func24, Tryz.ntmps24
  go_wp2_with fail
  go_loopw [5] (fun iv wr => ∃ i : Nat, iv = .int .i64 (i : Int) ∧ i ≤ N ∧ Below w.heap.size w wr ∧ Below (w.heap.size + 2) ((w.alloc (.cells #[.string nm, .slice a N c] 47)).alloc (.cells #[.string nm, .slice b N d] 47)) wr) (fun iv _ => N - (intOf iv).toNat)
  case atStart => exact ⟨0, rfl, by omega, hb0, Below.refl _ _⟩
  case round =>
    obtain ⟨i, rfl, hi, hbel, hbox⟩ := hrel
    obtain ⟨x1, x2⟩ := HC.out wr hbox
    by_cases hlt : i < N
    · obtain ⟨n, hn⟩ : ∃ n, vs[i]? = some n := ⟨_, List.getElem?_eq_getElem (by rw [HN.out]; exact hlt)⟩
      have hr : (nmRows vs)[i]? = some n.cells := by simp [nmRows, hn]
      obtain ⟨g, off, rfl, c1⟩ := (H1.out.below hbel).get hr
      obtain ⟨g2, off2, rfl, c2⟩ := (H2.out.below hbel).get hr
      obtain ⟨nn, nv⟩ := n
      have p0 := c1 0 _ rfl
      have p1 := c1 1 _ rfl
      have r0 := c2 0 _ rfl
      have r1 := c2 1 _ rfl
      simp only [Nat.add_zero] at p0 p1 r0 r1
      clear c1 c2 hr hn
      go_wp2_with fail
      go_quiet (fail)
      have hbn := below_drewN nq hbel
      have hbx := below_drewN nq hbox
      clear p0 p1 r0 r1 hbel hbox x1 x2
      go_wp2_with fail
      go_roundw
      case rel => exact ⟨i + 1, by go_num, by omega, hbn, hbx⟩
      case measure => simp [intOf]; omega
    · go_wp2_with fail
      go_ret
      exact ⟨rfl, hbel⟩
set_option maxHeartbeats 1000000 in
theorem smsgs_any {w : World} {v1 v2 r1 r2 : Value} {nm : ByteArray} {fs : List FlS} {ns : List Int} (h1 : RowG w v1 5 (flRows fs)) (h2 : RowG w v2 5 (flRows fs)) (h3 : RowG w r1 1 (inRows ns)) (h4 : RowG w r2 1 (inRows ns)) :
    Calls Tryz.prog 23 #[.agg #[.string nm, v1, r1], .agg #[.string nm, v2, r2]] w fun e w' => e = .returned (.bool true) ∧ Below w.heap.size w w' := by
  obtain ⟨a, c, rfl, q1, q2⟩ := h1.form2
  obtain ⟨b, d, rfl, q3, q4⟩ := h2.form2
  obtain ⟨a3, c3, rfl, _, _⟩ := h3.form2
  obtain ⟨a4, c4, rfl, _, _⟩ := h4.form2
  have H1 : Hid _ := h1
  have H2 : Hid _ := h2
  have H3 : Hid _ := h3
  have H4 : Hid _ := h4
  clear h1 h2 h3 h4
  have hN : (flRows fs).length = fs.length := by simp [flRows]
  rw [hN] at H1 H2 q1 q3 ⊢
  clear hN
  obtain ⟨N, hN⟩ : ∃ N, fs.length = N := ⟨_, rfl⟩
  rw [hN] at H1 H2 q1 q3 ⊢
  have HN : Hid (fs.length = N) := hN
  clear hN
  generalize (inRows ns).length = K at *
  have hb0 : Below w.heap.size w ((w.alloc (.cells #[.string nm, .slice a N c, .slice a3 K c3] 40)).alloc (.cells #[.string nm, .slice b N d, .slice a4 K c4] 40)) := ((Below.refl _ _).alloc (Nat.le_refl _) _).alloc (by simp) _
  have HC : Hid (∀ W, Below (w.heap.size + 2) ((w.alloc (.cells #[.string nm, .slice a N c, .slice a3 K c3] 40)).alloc (.cells #[.string nm, .slice b N d, .slice a4 K c4] 40)) W → W.cell? ⟨w.heap.size, 1, none⟩ = some (.slice a N c) ∧ W.cell? ⟨w.heap.size + 1, 1, none⟩ = some (.slice b N d)) := fun W hW => cells_two w _ _ _ _ W hW 1
  have HI : Hid (Calls Tryz.prog 44 #[.slice a3 K c3, .slice a4 K c4] ((w.alloc (.cells #[.string nm, .slice a N c, .slice a3 K c3] 40)).alloc (.cells #[.string nm, .slice b N d, .slice a4 K c4] 40)) fun e w' => e = .returned (.bool true) ∧ Below ((w.alloc (.cells #[.string nm, .slice a N c, .slice a3 K c3] 40)).alloc (.cells #[.string nm, .slice b N d, .slice a4 K c4] 40)).heap.size ((w.alloc (.cells #[.string nm, .slice a N c, .slice a3 K c3] 40)).alloc (.cells #[.string nm, .slice b N d, .slice a4 K c4] 40)) w') := sints_any (H3.out.below hb0) (H4.out.below hb0)
  go_enter Tryz.func23, Tryz.ntmps23
  go_wp2_with fail
  refine HI.out.mono ?_
  rintro e w1 ⟨rfl, hb1⟩
  have hbw : Below w.heap.size w w1 := hb0.trans (hb1.mono hb0.size)
  have hbx : Below (w.heap.size + 2) ((w.alloc (.cells #[.string nm, .slice a N c, .slice a3 K c3] 40)).alloc (.cells #[.string nm, .slice b N d, .slice a4 K c4] 40)) w1 := hb1.mono (by simp)
  clear hb1 hb0 HI
  go_wp2_with fail
  go_loopw [5] (fun iv wr => ∃ i : Nat, iv = .int .i64 (i : Int) ∧ i ≤ N ∧ Below w.heap.size w wr ∧ Below (w.heap.size + 2) ((w.alloc (.cells #[.string nm, .slice a N c, .slice a3 K c3] 40)).alloc (.cells #[.string nm, .slice b N d, .slice a4 K c4] 40)) wr) (fun iv _ => N - (intOf iv).toNat)
  case atStart => exact ⟨0, rfl, by omega, hbw, hbx⟩
  case round =>
    obtain ⟨i, rfl, hi, hbel, hbox⟩ := hrel
    obtain ⟨x1, x2⟩ := HC.out wr hbox
    clear hbw hbx
    by_cases hlt : i < N
    · obtain ⟨n, hn⟩ : ∃ n, fs[i]? = some n := ⟨_, List.getElem?_eq_getElem (by rw [HN.out]; exact hlt)⟩
      have hr : (flRows fs)[i]? = some n.cells := by simp [flRows, hn]
      obtain ⟨g, off, rfl, c1⟩ := (H1.out.below hbel).get hr
      obtain ⟨g2, off2, rfl, c2⟩ := (H2.out.below hbel).get hr
      obtain ⟨n0, n1, n2, n3, n4⟩ := n
      have p0 := c1 0 _ rfl
      have p1 := c1 1 _ rfl
      have p2 := c1 2 _ rfl
      have p3 := c1 3 _ rfl
      have p4 := c1 4 _ rfl
      have r0 := c2 0 _ rfl
      have r1 := c2 1 _ rfl
      have r2 := c2 2 _ rfl
      have r3 := c2 3 _ rfl
      have r4 := c2 4 _ rfl
      simp only [Nat.add_zero] at p0 p1 p2 p3 p4 r0 r1 r2 r3 r4
      clear c1 c2 hr hn
      go_wp2_with fail
      go_quiet (fail)
      have hbn := below_drewN nq hbel
      have hbx := below_drewN nq hbox
      clear p0 p1 p2 p3 p4 r0 r1 r2 r3 r4 hbel hbox x1 x2
      go_wp2_with fail
      go_roundw
      case rel => exact ⟨i + 1, by go_num, by omega, hbn, hbx⟩
      case measure => simp [intOf]; omega
    · go_wp2_with fail
      go_ret
      exact ⟨rfl, hbel⟩
end Go.Proofs.YtkfhlgajeejgeaaGreatDoor

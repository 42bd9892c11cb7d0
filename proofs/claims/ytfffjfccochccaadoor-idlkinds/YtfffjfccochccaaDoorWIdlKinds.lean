/- IdlKinds answers true. -/
import Derived.Test.YtfffjfccochccaaDoorIdAwake
namespace Go.Proofs.YtfffjfccochccaaDoor
open Go.ChangeShapes Go.WideShapes Go.ChangeAt Go.RowKit
set_option linter.unusedVariables false
set_option linter.unusedSimpArgs false
set_option maxRecDepth 20000

set_option maxHeartbeats 4000000 in
theorem idlKinds_walk (w : World) (hG : Glob w) :
    Calls Tryd.prog 7 #[] w fun e w' => e = .returned (.bool true) ∧ Below w.heap.size w w' := by
  go_enter Tryd.func7, Tryd.ntmps7
  go_wp2_with fail
  refine (parse_row _ _ (by decide) hG _ _ _ parse_kinds).mono ?_
  rintro e w1 ⟨vm, ve, vt, rfl, h1, h2, h3, hb⟩
  obtain ⟨a, cap, rfl, g1, g2, g3, g4⟩ := h1.open
  obtain ⟨g, off, rfl⟩ := g3 (by simp)
  obtain ⟨vf, vr, c0, c1, c2, hf, hr⟩ := g4 g off rfl 0 _ rfl
  obtain ⟨fa, fcap, rfl, q1, q2, q3, q4⟩ := row_fields hf
  obtain ⟨fg, foff, rfl⟩ := q3 (by simp)
  obtain ⟨_, _, _, d3, d4⟩ := q4 fg foff rfl 0 _ rfl
  obtain ⟨_, _, _, e3, e4⟩ := q4 fg foff rfl 1 _ rfl
  obtain ⟨_, _, _, f3, f4⟩ := q4 fg foff rfl 2 _ rfl
  obtain ⟨ea, ec, rfl⟩ := en_form h2
  obtain ⟨ta, tc, rfl⟩ := row_form h3
  simp only [List.length_cons, List.length_nil, Nat.zero_mul, Nat.add_zero, Nat.one_mul, mtRows, List.map_nil, inRows, Nat.reduceMul, Nat.reduceAdd, Nat.add_assoc] at c0 c1 c2 d3 d4 e3 e4 f3 f4 g1 q1 ⊢
  have l1 := World.block_lt_of_cell? _ _ c0
  have l2 := World.block_lt_of_cell? _ _ d3
  simp only at l1 l2
  unfold maxLen at g2 q2
  have hbA : Below w.heap.size w (w1.alloc (.cells #[.string ⟨#[97]⟩, .slice (some ⟨g, off, none⟩) 1 cap, .slice ea 1 ec, .slice ta 0 tc] 27)) := hb.alloc hb.size _
  have hGA := hG.below hbA
  clear g3 g4 q3 q4 hf hr h1 h2 h3
  go_wp2_with fail
  refine (iawake_any _ hGA).mono ?_
  rintro e w2 ⟨rfl, hb2⟩
  go_wp2_with fail
  go_ret
  exact ⟨rfl, hbA.trans (hb2.mono hbA.size)⟩
end Go.Proofs.YtfffjfccochccaaDoor

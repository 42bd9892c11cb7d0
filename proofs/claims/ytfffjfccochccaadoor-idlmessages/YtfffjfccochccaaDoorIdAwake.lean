/- The document's example of layer 6 holds: awake answers true; the closed texts. -/
import Derived.Test.YtfffjfccochccaaDoorIdParse
namespace Go.Proofs.YtfffjfccochccaaDoor
open Go.ChangeShapes Go.WideShapes Go.ChangeAt Go.RowKit
set_option linter.unusedVariables false
set_option linter.unusedSimpArgs false
set_option maxRecDepth 20000

theorem parse_row (s : ByteArray) (w : World) (hs : s.size ≤ 140737488351232) (hG : Glob w) (sc : ScS) (p e : Nat) (h : parseA s = (sc, p, e)) :
    Calls Tryd.prog 10 #[.string s] w fun x w' => ∃ vm ve vt, x = .returned (.tuple #[.agg #[.string sc.name, vm, ve, vt], .int .i64 (p : Int), .int .i64 (e : Int)]) ∧ MsIn w' vm sc.msgs ∧ EnIn w' ve sc.enums ∧ RowG w' vt 3 (mtRows sc.methods) ∧ Below w.heap.size w w' := by
  refine (parse_any s w hs hG).mono ?_
  rintro x w' ⟨v, rfl, hF, hb⟩
  obtain ⟨vm, ve, vt, rfl, h1, h2, h3⟩ := hF.to_in
  rw [h] at h1 h2 h3 ⊢
  exact ⟨vm, ve, vt, rfl, h1, h2, h3, hb⟩
/-- A slice's form, from its row. -/
theorem ms_form {w : World} {v : Value} {ms : List MsS} (h : MsIn w v ms) : ∃ a c, v = .slice a ms.length c := by
  obtain ⟨a, cap, e1, _⟩ := h.open
  exact ⟨a, cap, e1⟩
theorem en_form {w : World} {v : Value} {ms : List EnS} (h : EnIn w v ms) : ∃ a c, v = .slice a ms.length c := by
  obtain ⟨a, cap, e1, _⟩ := h.open
  exact ⟨a, cap, e1⟩
theorem row_form {w : World} {v : Value} {size : Nat} {rs : List (List Value)} (h : RowG w v size rs) : ∃ a c, v = .slice a rs.length c := by
  obtain ⟨a, cap, e1, _⟩ := h.open
  exact ⟨a, cap, e1⟩
set_option maxHeartbeats 1000000 in
theorem iawake_any (w : World) (hG : Glob w) :
    Calls Tryd.prog 9 #[] w fun e w' => e = .returned (.bool true) ∧ Below w.heap.size w w' := by
  go_enter Tryd.func9, Tryd.ntmps9
  go_wp2_with fail
  refine (parse_row _ _ (by decide) hG _ _ _ parse_awake).mono ?_
  rintro e w1 ⟨vm, ve, vt, rfl, h1, h2, h3, hb⟩
  obtain ⟨a, cap, rfl, g1, g2, g3, g4⟩ := h1.open
  obtain ⟨g, off, rfl⟩ := g3 (by simp)
  obtain ⟨vf, vr, c0, c1, c2, hf, hr⟩ := g4 g off rfl 0 _ rfl
  obtain ⟨fa, fcap, rfl, q1, q2, q3, q4⟩ := row_fields hf
  obtain ⟨fg, foff, rfl⟩ := q3 (by simp)
  obtain ⟨d0, d1, d2, d3, d4⟩ := q4 fg foff rfl 0 _ rfl
  obtain ⟨ea, ec, rfl⟩ := en_form h2
  obtain ⟨ta, tc, rfl⟩ := row_form h3
  obtain ⟨ra, rc, rfl⟩ := row_form hr
  simp only [List.length_cons, List.length_nil, Nat.zero_mul, Nat.add_zero, mtRows, List.map_nil, inRows] at c0 c1 c2 d0 d1 d2 d3 d4 g1 q1 ⊢
  have hbw := hb
  have l1 := World.block_lt_of_cell? _ _ c0
  have l2 := World.block_lt_of_cell? _ _ d0
  simp only at l1 l2
  unfold maxLen at g2 q2
  clear g3 g4 q3 q4 hf hr h1 h2 h3
  go_wp2_with fail
  go_ret
  exact ⟨rfl, hb.alloc hb.size _⟩
end Go.Proofs.YtfffjfccochccaaDoor

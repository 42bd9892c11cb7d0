/- The table of the types' words: what the condition says of it lies in the memory. -/
import Derived.Test.YtfffjfccochccaaDoorIdLeaf
import Derived.Test.YtfffjfccochccaaDoorRows
import Derived.ProofKit
import Derived.LaidMore
import Derived.OpenShut
import Derived.Stop.Joined
namespace Go.Proofs.YtfffjfccochccaaDoor
open Go.ChangeShapes Go.WideShapes Go.ChangeAt Go.RowKit
set_option linter.unusedVariables false
set_option linter.unusedSimpArgs false
set_option maxRecDepth 100000

def laid1 : List (String × DataW Unit) := [("concordat/idl.scalars", Rows.laid_concordat_idl_scalars)]
theorem gTab : Tryd.prog.globalNamed "concordat/idl.scalars" = some 0 := by kernel_rfl
theorem tTab : (Tryd.prog.globals[0]?).map (·.type) = some 116 := by kernel_rfl
/-- The program's own start meets the condition. -/
theorem door_met (os : Os) (args : Array Value) : laidMetH Tryd.prog laid1 ((World.doorLaid Tryd.prog 400 os).forCall (fun _ _ => 0) ⟨#[], args, []⟩).memory :=
  laidMetH_of_parts3 (fuel := 8) (laidMet_of_run' 8 (by kernel_rfl) (by kernel_rfl)) (by kernel_rfl) (by kernel_rfl)
theorem c115 : Tryd.prog.cellsOf 115 = 2 := by kernel_rfl
theorem c116 : Tryd.prog.cellsOf 116 = 10 := by kernel_rfl
theorem cStr : Tryd.prog.cellsOf 9 = 1 := by kernel_rfl
theorem cInt : Tryd.prog.cellsOf 3 = 1 := by kernel_rfl
/-- A word and its kind, read. -/
theorem word_kind {enc : TypeId × Value → Unit} {W : World} {base : Nat} {spare : Nat → Bool} {held : Bool} {n : Nat} {cs : List Value} {x : DataW Unit × List MemPlace} {l : List UInt8} {k : Int} (h : DataW.trod enc Tryd.prog W base spare held n 115 cs = some x) (hx : x.1 = .agg [.lit (.string l), .lit (.int .i64 k)]) : cs = [.string ⟨l.toArray⟩, .int .i64 k] := by
  obtain ⟨y0, y1, m, rfl, hl, h0, h1⟩ := trod_struct2 Tryd.underlying115 h
  rw [c115] at hl
  simp only [DataW.agg.injEq, List.cons.injEq, and_true] at hx
  match cs, hl with
  | [a, b], _ =>
    have h0' : DataW.trod enc Tryd.prog W base spare held m 9 [a] = some y0 := by simpa [cStr] using h0
    have h1' : DataW.trod enc Tryd.prog W base spare held m 3 [b] = some y1 := by simpa [cInt] using h1
    obtain ⟨s, e1, e2, _⟩ := DataW.trod_string Tryd.underlying9 h0'
    obtain ⟨z, e3, e4, _⟩ := DataW.trod_int Tryd.underlying3 h1'
    rw [e2, e4] at hx
    simp only [DataW.lit.injEq, Lit.string.injEq, Lit.int.injEq, true_and] at hx
    obtain ⟨⟨a'⟩⟩ := s
    simp only at hx
    obtain ⟨rfl, rfl⟩ := hx
    simp only [List.cons.injEq, and_true] at e1 e3
    rw [e1, e3]
theorem of_laid {W : World} (h : laidMetH Tryd.prog laid1 W) : Glob W := by
  rw [MakeChecks.laidMetH_plain _ _ _ (by kernel_rfl)] at h
  obtain ⟨ps, ⟨g0, t0, cs0, f0, p0, q0, hg0, ht0, hv0, hd0, _⟩, _, _⟩ := h
  obtain rfl := Option.some.inj (gTab.symm.trans hg0)
  obtain rfl := Option.some.inj (tTab.symm.trans ht0)
  have hc := World.var?_cell hg0 hv0
  obtain ⟨xs, m, rfl, hx, hl, hn, hel⟩ := DataW.trod_array Tryd.underlying116 hd0
  rw [c116] at hl
  simp only [Prod.mk.injEq] at hx
  have hx1 := hx.1
  simp only [Rows.laid_concordat_idl_scalars, DataW.agg.injEq] at hx1
  obtain ⟨l0⟩ := cs0
  simp only at hl hel
  match xs, hn, l0, hl with
  | [x0, x1, x2, x3, x4], _, [a0, a1, a2, a3, a4, a5, a6, a7, a8, a9], _ =>
    simp only [List.map_cons, List.map_nil, List.cons.injEq, and_true] at hx1
    obtain ⟨e0, e1, e2, e3, e4⟩ := hx1
    have h0 := word_kind (x := x0) (by have := hel 0 (by decide); simpa [c115] using this) e0.symm
    have h1 := word_kind (x := x1) (by have := hel 1 (by decide); simpa [c115] using this) e1.symm
    have h2 := word_kind (x := x2) (by have := hel 2 (by decide); simpa [c115] using this) e2.symm
    have h3 := word_kind (x := x3) (by have := hel 3 (by decide); simpa [c115] using this) e3.symm
    have h4 := word_kind (x := x4) (by have := hel 4 (by decide); simpa [c115] using this) e4.symm
    simp only [List.cons.injEq, and_true] at h0 h1 h2 h3 h4
    obtain ⟨rfl, rfl⟩ := h0
    obtain ⟨rfl, rfl⟩ := h1
    obtain ⟨rfl, rfl⟩ := h2
    obtain ⟨rfl, rfl⟩ := h3
    obtain ⟨rfl, rfl⟩ := h4
    exact ⟨(hc 0).trans rfl, (hc 1).trans rfl, (hc 2).trans rfl, (hc 3).trans rfl, (hc 4).trans rfl, (hc 5).trans rfl, (hc 6).trans rfl, (hc 7).trans rfl, (hc 8).trans rfl, (hc 9).trans rfl⟩
end Go.Proofs.YtfffjfccochccaaDoor

/- What the program's Tokens answers, as a row to be read. -/
import Derived.Test.YtfffjfccochccaaDoorLxTok
namespace Go.Proofs.YtfffjfccochccaaDoor
open Go.ChangeShapes Go.WideShapes Go.ChangeAt Go.RowKit
set_option linter.unusedVariables false
set_option linter.unusedSimpArgs false
set_option maxRecDepth 20000

theorem tokens_row (s : ByteArray) (w : World) (hs : s.size ≤ 140737488351232) (ts : List Tk) (p e : Nat) (h : tokA s = (ts, p, e)) :
    Calls Tryd.prog 15 #[.string s] w fun x w' => ∃ v, x = .returned (.tuple #[v, .int .i64 (p : Int), .int .i64 (e : Int)]) ∧ RowT w' v ts ∧ Below w.heap.size w w' := by
  refine (tokens_any s w hs).mono ?_
  rintro x w' ⟨v, rfl, ho, hb⟩
  rw [h] at ho ⊢
  exact ⟨v, rfl, row_own ho, hb⟩

end Go.Proofs.YtfffjfccochccaaDoor

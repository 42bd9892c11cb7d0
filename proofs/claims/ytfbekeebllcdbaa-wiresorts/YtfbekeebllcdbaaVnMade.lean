/- Bytes that were just laid; what Get answers of a number that was put. -/
import Derived.Test.YtfbekeebllcdbaaVnNil
namespace Go.Proofs.Ytfbekeebllcdbaa
open Go.ChangeShapes Go.WideShapes Go.ChangeAt Go.RowKit
set_option linter.unusedVariables false
set_option maxRecDepth 20000

theorem getR_put (ns : List Nat) (v : Nat) (rest : List Nat) (hv : v < 18446744073709551616) : getR (ns ++ digs v ++ rest) ((ns.length : Nat) : Int) = (v, ns.length + (digs v).length, 0) := by
  rw [getR_in (by simp), List.append_assoc, List.drop_left, getF_digs v 0 0 _ rest (by omega) (by omega) (by omega)]
  simp
theorem getR_put0 (v : Nat) (hv : v < 18446744073709551616) : getR (digs v) 0 = (v, (digs v).length, 0) := by
  have := getR_put [] v [] hv
  simpa using this

/-- Get at bytes that were just laid, in the words of the walk. -/
theorem get_made (w : World) (g : Nat) (ns : List Nat) (xs : Array Value) (n : Nat) (at' : Int) (r : Nat × Nat × Nat) (hg : g = w.heap.size) (hx : xs = (byteCells ns).toArray) (hn : n = ns.length) (hr : getR ns at' = r) (hl : ns.length ≤ 1000) (hb : ∀ n ∈ ns, n < 256) :
    Calls Try.prog 36 #[.slice (some ⟨g, 0, none⟩) n n, .int .i64 at'] (w.alloc (.cells xs 5)) fun e w' => e = .returned (getV r) ∧ w' = w.alloc (.cells xs 5) := by
  subst hg hx hn hr
  exact get_any _ ns ns.length at' _ (.inr ⟨_, _, rfl⟩) (Nat.le_refl _) (by unfold maxLen; omega) (by omega) (holds_made w ns) hb
end Go.Proofs.Ytfbekeebllcdbaa

/- Small facts that several walks want. -/
import Derived.Test.YtfbekeebllcdbaaWrAll
import Derived.Test.YtfbekeebllcdbaaRwLaw
namespace Go.Proofs.Ytfbekeebllcdbaa
open Go.ChangeShapes Go.WideShapes Go.ChangeAt Go.RowKit
set_option linter.unusedVariables false
set_option linter.unusedSimpArgs false
set_option maxRecDepth 20000

theorem small_len {rs : List Fd} (h : smallB rs = true) : rs.length ≤ 60 := by
  simp only [smallB, Bool.and_eq_true, decide_eq_true_eq] at h
  exact h.2
theorem putL_err (rs : List Fd) : (putL rs).2 = 0 ∨ (putL rs).2 = 1 ∨ (putL rs).2 = 4 := by
  unfold putL
  split
  · split <;> simp
  · simp
theorem putL_short {rs : List Fd} : (putL rs).1.length ≤ 4096 := by
  unfold putL
  split
  · split
    · assumption
    · simp
  · simp
/-- The contract of PutAll at fields of the call's own. -/
theorem putall_own {B : Nat} {w : World} {r : Value} {n : Nat} {rs : List Fd} (ho : w.ownsRow B 24 4 r n (rawCells rs)) (hl : rs.length ≤ 1000000) (h64 : ∀ r ∈ rs, Is64 r.n) :
    Calls Try.prog 14 #[r] w fun e w' => ∃ v, e = .returned (.tuple #[v, .int .i64 ((putL rs).2 : Int)]) ∧ w'.ownsRow w.heap.size 5 1 v (putL rs).1.length (byteCells (putL rs).1) ∧ Below w.heap.size w w' := by
  obtain ⟨a, cap, rfl, -, h1, h2, h3, h4⟩ := own_openR ho
  refine wputall_any a rs rs.length cap w rfl ?_ h2 h3 hl h4 h64
  rcases h1 with h | ⟨g, h, _⟩
  · exact .inl h.2.1
  · exact .inr ⟨g, 0, h⟩

end Go.Proofs.Ytfbekeebllcdbaa

/- Contracts at rows of the call's own. -/
import Derived.Test.YtfbekeebllcdbaaWrUse
import Derived.Test.YtfbekeebllcdbaaWrGet
namespace Go.Proofs.Ytfbekeebllcdbaa
open Go.ChangeShapes Go.WideShapes Go.ChangeAt Go.RowKit
set_option linter.unusedVariables false
set_option linter.unusedSimpArgs false
set_option maxRecDepth 20000

theorem own_adr {B : Nat} {w : World} {a : Option Addr} {cap : Nat} {ns : List Nat} (h : (a = none ∧ ns = [] ∧ cap = 0) ∨ ∃ g, a = some ⟨g, 0, none⟩ ∧ B ≤ g ∧ g < w.heap.size) : ns = [] ∨ ∃ g off, a = some ⟨g, off, none⟩ := by
  rcases h with h | ⟨g, h, _⟩
  · exact .inl h.2.1
  · exact .inr ⟨g, 0, h⟩
theorem own_nil {B : Nat} {w : World} {a : Option Addr} {cap : Nat} {ns : List Nat} (h : (a = none ∧ ns = [] ∧ cap = 0) ∨ ∃ g, a = some ⟨g, 0, none⟩ ∧ B ≤ g ∧ g < w.heap.size) : a = none → ns = [] := by
  rcases h with h | ⟨g, h, _⟩
  · exact fun _ => h.2.1
  · exact fun e => by rw [h] at e; cases e
theorem own_adrR {B : Nat} {w : World} {a : Option Addr} {cap : Nat} {rs : List Fd} (h : (a = none ∧ rs = [] ∧ cap = 0) ∨ ∃ g, a = some ⟨g, 0, none⟩ ∧ B ≤ g ∧ g < w.heap.size) : rs = [] ∨ ∃ g off, a = some ⟨g, off, none⟩ := by
  rcases h with h | ⟨g, h, _⟩
  · exact .inl h.2.1
  · exact .inr ⟨g, 0, h⟩
theorem own_nilR {B : Nat} {w : World} {a : Option Addr} {cap : Nat} {rs : List Fd} (h : (a = none ∧ rs = [] ∧ cap = 0) ∨ ∃ g, a = some ⟨g, 0, none⟩ ∧ B ≤ g ∧ g < w.heap.size) : a = none → rs = [] ∧ cap = 0 := by
  rcases h with h | ⟨g, h, _⟩
  · exact fun _ => h.2
  · exact fun e => by rw [h] at e; cases e

/-- Get at bytes of the call's own. -/
theorem get_own {B : Nat} {w : World} {r : Value} {n : Nat} {ns : List Nat} {R : List Fd × Nat} (ho : w.ownsRow B 5 1 r n (byteCells ns)) (hb : ∀ n ∈ ns, n < 256) (hR : getL ns = R) :
    Calls Try.prog 18 #[r] w fun e w' => ∃ v, e = .returned (.tuple #[v, .int .i64 (R.2 : Int)]) ∧ w'.ownsRow w.heap.size 24 4 v R.1.length (rawCells R.1) ∧ Below w.heap.size w w' := by
  subst hR
  obtain ⟨a, cap, rfl, -, h1, h2, h3, h4⟩ := own_open ho
  exact wget_any a ns ns.length cap w rfl h4 hb h2 h3 (own_adr h1)
/-- The text of bytes of the call's own. -/
theorem conv_own {B : Nat} {w : World} {r : Value} {n : Nat} {ns : List Nat} (ho : w.ownsRow B 5 1 r n (byteCells ns)) : (convert 22 9 r).run Try.prog w = .ok (.string (strN ns)) w := by
  obtain ⟨a, cap, rfl, -, h1, h2, h3, h4⟩ := own_open ho
  exact conv_holds w a ns cap (own_nil h1) h4
end Go.Proofs.Ytfbekeebllcdbaa

/- Rows of bytes: what Get answers of one, its text, and the document's examples. -/
import Derived.Test.YtfbekeebllcdbaaVnGet
namespace Go.Proofs.Ytfbekeebllcdbaa
open Go.ChangeShapes Go.WideShapes Go.ChangeAt Go.RowKit
set_option linter.unusedVariables false
set_option maxRecDepth 20000

theorem get_any (a : Option Addr) (ns : List Nat) (cap : Nat) (at' : Int) (w : World) (ha : (a = none ∧ ns = [] ∧ cap = 0) ∨ ∃ g off, a = some ⟨g, off, none⟩) (hc : ns.length ≤ cap) (hm : cap ≤ maxLen) (hl : ns.length ≤ 140737488355328) (hh : Holds w a ns) (hb : ∀ n ∈ ns, n < 256) :
    Calls Try.prog 36 #[.slice a ns.length cap, .int .i64 at'] w fun e w' => e = .returned (getV (getR ns at')) ∧ w' = w := by
  by_cases ho : at' < 0 ∨ (ns.length : Int) < at'
  · rw [getR_out ho]; exact get_out a ns.length cap at' w ho
  · obtain ⟨p, rfl⟩ := Int.eq_ofNat_of_zero_le (a := at') (by omega)
    rw [getR_in (by omega)]
    by_cases hp : p < cap
    · rcases ha with ⟨rfl, rfl, rfl⟩ | ⟨g, off, rfl⟩
      · omega
      · exact get_in g off ns cap p w hc hm (by omega) hp hl (fun j hj => hh.at j hj) hb
    · obtain rfl : p = cap := by omega
      obtain rfl : p = ns.length := by omega
      rw [List.drop_of_length_le (Nat.le_refl _)]
      refine get_full a _ w ?_ hm
      intro h
      rcases ha with ⟨_, h, _⟩ | ⟨g, off, rfl⟩
      · simp [h]
      · cases h

end Go.Proofs.Ytfbekeebllcdbaa

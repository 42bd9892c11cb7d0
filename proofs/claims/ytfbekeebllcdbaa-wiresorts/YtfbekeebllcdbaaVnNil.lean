/- Put behind nil. -/
import Derived.Test.YtfbekeebllcdbaaVnRow
namespace Go.Proofs.Ytfbekeebllcdbaa
open Go.ChangeShapes Go.WideShapes Go.ChangeAt Go.RowKit
set_option linter.unusedVariables false
set_option maxRecDepth 20000

theorem put_nil (v : Nat) (z : Int) (hz : z = (v : Int)) (w : World) (hv : v < 18446744073709551616) :
    Calls Try.prog 34 #[.slice none 0 0, .int .u64 z] w fun e w' => ∃ g cap, e = .returned (.slice (some ⟨g, 0, none⟩) (digs v).length cap) ∧ w.heap.size ≤ g ∧ g < w'.heap.size ∧ (digs v).length ≤ cap ∧ cap ≤ maxLen ∧ Holds w' (some ⟨g, 0, none⟩) (digs v) ∧ Below w.heap.size w w' := by
  subst hz
  refine (put_any none [] 0 v w (fun _ => ⟨rfl, rfl⟩) (Nat.le_refl _) (by decide) (by decide) Holds.nil hv).mono ?_
  rintro e w' ⟨r, rfl, ho, hb⟩
  rw [List.nil_append] at ho
  obtain ⟨a, cap, rfl, _, h1 | ⟨g, rfl, h2, h3⟩, h4, h5, h6⟩ := own_open ho
  · exact absurd h1.2.1 (digs_ne v)
  · exact ⟨g, cap, rfl, h2, h3, h4, h5, h6, hb⟩

theorem digs_300 : digs 300 = [172, 2] := by rw [digs_big (by decide), digs_small (by decide)]
end Go.Proofs.Ytfbekeebllcdbaa

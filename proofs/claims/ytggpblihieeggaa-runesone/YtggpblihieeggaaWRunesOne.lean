/- RunesOne answers true at every rune. -/
import Derived.Test.YtggpblihieeggaaRuRefPut
import Derived.Test.YtggpblihieeggaaRuRefLeaf
namespace Go.Proofs.Ytggpblihieeggaa
open Go.ChangeShapes Go.WideShapes Go.ChangeAt Go.RowKit
set_option linter.unusedVariables false
set_option maxRecDepth 20000

set_option maxHeartbeats 1000000 in
theorem runesOne_walk (r : Int) (hr0 : (Lit.int .i32 r).wf = true) (w : World) :
    Calls Try.prog 5 #[.int .i32 r] w fun e w' => e = .returned (.bool true) ∧ Below w.heap.size w w' := by
  have hr : -2147483648 ≤ r ∧ r ≤ 2147483647 := bounds_i32 hr0
  clear hr0
  go_enter Try.func5, Try.ntmps5
  go_wp2_with fail
  refine (put_any _ _).mono ?_
  rintro e w1 ⟨rfl, rfl⟩
  go_wp2_with fail
  refine (rput_any _ _ hr).mono ?_
  rintro e w2 ⟨rfl, h2⟩
  generalize putS r = p at *
  have hpp : (p.toList == p.toList) = true := by simp
  go_wp2_with fail
  refine (letter_any _ _).mono ?_
  rintro e w3 ⟨rfl, rfl⟩
  go_wp2_with fail
  refine (rletter_any _ _).mono ?_
  rintro e w4 ⟨rfl, rfl⟩
  generalize letB r = b at *
  go_wp2_with fail
  refine (digit_any _ _).mono ?_
  rintro e w5 ⟨rfl, rfl⟩
  go_wp2_with fail
  refine (rdigit_any _ _).mono ?_
  rintro e w6 ⟨rfl, rfl⟩
  generalize digB r = b at *
  go_wp2_with fail
  refine (awake_any _).mono ?_
  rintro e w7 ⟨rfl, h7⟩
  go_wp2_with fail
  go_ret
  exact ⟨rfl, h2.trans (h7.mono h2.size)⟩
end Go.Proofs.Ytggpblihieeggaa

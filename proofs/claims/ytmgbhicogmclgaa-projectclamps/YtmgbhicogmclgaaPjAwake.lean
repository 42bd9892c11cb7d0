/- The document's example: a number cut to 32 bits. -/
import Derived.Test.YtmgbhicogmclgaaPjClamp
namespace Go.Proofs.Ytmgbhicogmclgaa
open Go.ChangeShapes Go.WideShapes Go.ChangeAt Go.RowKit
set_option linter.unusedVariables false
set_option linter.unusedSimpArgs false

set_option maxHeartbeats 1000000 in
theorem pjawake_any (w : World) : Calls Try.prog 9 #[] w fun e w' => e = .returned (.bool true) ∧ Below w.heap.size w w' := by
  have c1 : Hid (∀ W, Calls Try.prog 19 #[.int .i64 1099511627776] W fun e w' => e = .returned (.int .i64 2147483647) ∧ Below W.heap.size W w') := fun W => clamp_any 1099511627776 W
  have c2 : Hid (∀ W, Calls Try.prog 19 #[.int .i64 (-1099511627776)] W fun e w' => e = .returned (.int .i64 (-2147483648)) ∧ Below W.heap.size W w') := fun W => clamp_any (-1099511627776) W
  have c3 : Hid (∀ W, Calls Try.prog 19 #[.int .i64 5] W fun e w' => e = .returned (.int .i64 5) ∧ Below W.heap.size W w') := fun W => clamp_any 5 W
  go_enter Try.func9, Try.ntmps9
  go_wp2_with fail
  refine (c1.out _).mono ?_
  rintro e w1 ⟨rfl, h1⟩
  go_wp2_with fail
  refine (c2.out _).mono ?_
  rintro e w2 ⟨rfl, h2⟩
  have h2' := h1.trans (h2.mono h1.size)
  clear h2
  go_wp2_with fail
  refine (c3.out _).mono ?_
  rintro e w3 ⟨rfl, h3⟩
  have h3' := h2'.trans (h3.mono h2'.size)
  clear h3
  go_wp2_with fail
  go_ret
  exact ⟨rfl, h3'⟩
end Go.Proofs.Ytmgbhicogmclgaa

/- What Clamp answers. -/
import Derived.Test.YtmgbhicogmclgaaPjMath
import Derived.Test.YtmgbhicogmclgaaBlkT
namespace Go.Proofs.Ytmgbhicogmclgaa
open Go.ChangeShapes Go.WideShapes Go.ChangeAt Go.RowKit
set_option linter.unusedVariables false
set_option linter.unusedSimpArgs false

set_option maxHeartbeats 1000000 in
theorem clamp_any (n : Int) (w : World) : Calls Try.prog 19 #[.int .i64 n] w fun e w' => e = .returned (.int .i64 (clampI n)) ∧ Below w.heap.size w w' := by
  have hb : Below w.heap.size w w := Below.refl _ _
  obtain ⟨K, hK⟩ : ∃ K, clampI n = K := ⟨_, rfl⟩
  have HK : Hid (clampI n = K) := hK
  rw [hK]
  clear hK
  go_enter Try.func19, Try.ntmps19
  go_wp2_with fail
  all_goals
    go_ret
    refine ⟨congrArg (fun z : Int => Ending.returned (Value.int .i64 z)) ?_, hb⟩
    rw [← HK.out, clampI]
    repeat (first | omega | split at * | split)
end Go.Proofs.Ytmgbhicogmclgaa

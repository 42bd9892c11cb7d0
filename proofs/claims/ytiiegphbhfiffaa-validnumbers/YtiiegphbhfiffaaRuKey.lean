/- What the program's Key answers, at every text. -/
import Derived.Test.YtiiegphbhfiffaaRuLeaf
namespace Go.Proofs.Ytiiegphbhfiffaa
open Go.ChangeShapes Go.WideShapes Go.ChangeAt Go.RowKit
set_option linter.unusedVariables false
set_option maxRecDepth 20000

set_option maxHeartbeats 1000000 in
theorem key_any (s : ByteArray) (w : World) :
    Calls Try.prog 68 #[.string s] w fun e w' => e = .returned (.bool (keyB s)) ∧ w' = w := by
  go_enter Try.func68, Try.ntmps68
  go_wp2
  all_goals
    go_ret
    refine ⟨ret_bool ?_, rfl⟩
    first | (simp [keyB, *]; done) | simp_all

end Go.Proofs.Ytiiegphbhfiffaa

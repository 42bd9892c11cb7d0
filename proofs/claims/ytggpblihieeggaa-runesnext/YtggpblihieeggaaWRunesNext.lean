/- RunesNext answers true at every text and every place. -/
import Derived.Test.YtggpblihieeggaaRuAwake
import Derived.Test.YtggpblihieeggaaRuRefNext
import Derived.Test.YtggpblihieeggaaRuNextP
namespace Go.Proofs.Ytggpblihieeggaa
open Go.ChangeShapes Go.WideShapes Go.ChangeAt Go.RowKit
set_option linter.unusedVariables false
set_option maxRecDepth 20000

set_option maxHeartbeats 1000000 in
theorem runesNext_walk (s : ByteArray) (i : Int) (hs : s.size ≤ 140737488351232) (hi : (Lit.int .i64 i).wf = true) (w : World) :
    Calls Try.prog 3 #[.string s, .int .i64 i] w fun e w' => e = .returned (.bool true) ∧ Below w.heap.size w w' := by
  clear hi
  go_enter Try.func3, Try.ntmps3
  go_wp2_with fail
  refine (next_any s i _ hs).mono ?_
  rintro e w1 ⟨rfl, h1⟩
  generalize hx : nxL (atL s i) = x
  have HX : Hid (nxL (atL s i) = x) := hx
  clear hx
  cases x with
  | none =>
    simp only [nxV]
    go_wp2_with fail
    refine (rnext_any s i _ hs).mono ?_
    rintro e w2 ⟨rfl, rfl⟩
    rw [HX.out]
    simp only [nxV]
    go_wp2_with fail
    refine (awake_any _).mono ?_
    rintro e w3 ⟨rfl, h3⟩
    go_wp2_with fail
    go_ret
    exact ⟨rfl, h1.trans (h3.mono h1.size)⟩
  | some x =>
    obtain ⟨c, k⟩ := x
    simp only [nxV]
    go_wp2_with fail
    refine (rnext_any s i _ hs).mono ?_
    rintro e w2 ⟨rfl, rfl⟩
    rw [HX.out]
    simp only [nxV]
    go_wp2_with fail
    refine (awake_any _).mono ?_
    rintro e w3 ⟨rfl, h3⟩
    go_wp2_with fail
    go_ret
    exact ⟨rfl, h1.trans (h3.mono h1.size)⟩
end Go.Proofs.Ytggpblihieeggaa

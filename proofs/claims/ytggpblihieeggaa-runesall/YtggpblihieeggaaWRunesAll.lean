/- RunesAll answers true at every text. -/
import Derived.Test.YtggpblihieeggaaRuRefAll
import Derived.Test.YtggpblihieeggaaRuValid
namespace Go.Proofs.Ytggpblihieeggaa
open Go.ChangeShapes Go.WideShapes Go.ChangeAt Go.RowKit
set_option linter.unusedVariables false
set_option maxRecDepth 20000

set_option maxHeartbeats 1000000 in
theorem runesAll_walk (s : ByteArray) (hs : s.size ≤ 140737488351232) (w : World) :
    Calls Try.prog 4 #[.string s] w fun e w' => e = .returned (.bool true) ∧ Below w.heap.size w w' := by
  by_cases hl : 3000 < s.size
  · go_enter Try.func4, Try.ntmps4
    go_wp2_with fail
    refine (awake_any _).mono ?_
    rintro e w1 ⟨rfl, h1⟩
    go_wp2_with fail
    go_ret
    exact ⟨rfl, h1⟩
  · have hs3 : s.size ≤ 3000 := by omega
    go_enter Try.func4, Try.ntmps4
    go_wp2_with fail
    refine (valid_any s _ hs).mono ?_
    rintro e w1 ⟨rfl, h1⟩
    go_wp2_with fail
    refine (rvalid_any s _ hs3).mono ?_
    rintro e w2 ⟨rfl, h2⟩
    generalize validB s.data.toList = b at *
    go_wp2_with fail
    refine (count_any s _ hs).mono ?_
    rintro e w3 ⟨rfl, h3⟩
    go_wp2_with fail
    refine (rcount_any s _ hs3).mono ?_
    rintro e w4 ⟨rfl, h4⟩
    generalize countN s.data.toList = n at *
    go_wp2_with fail
    refine (name_any s _ hs).mono ?_
    rintro e w5 ⟨rfl, h5⟩
    go_wp2_with fail
    refine (rname_any s _ hs3).mono ?_
    rintro e w6 ⟨rfl, h6⟩
    generalize nameB s = b at *
    go_wp2_with fail
    refine (key_any s _).mono ?_
    rintro e w7 ⟨rfl, rfl⟩
    go_wp2_with fail
    refine (rkey_any s _).mono ?_
    rintro e w8 ⟨rfl, rfl⟩
    generalize keyB s = b at *
    go_wp2_with fail
    refine (awake_any _).mono ?_
    rintro e w9 ⟨rfl, h9⟩
    go_wp2_with fail
    go_ret
    exact ⟨rfl, h1.trans ((h2.trans ((h3.trans ((h4.trans ((h5.trans ((h6.trans (h9.mono h6.size)).mono h5.size)).mono h4.size)).mono h3.size)).mono h2.size)).mono h1.size)⟩
end Go.Proofs.Ytggpblihieeggaa

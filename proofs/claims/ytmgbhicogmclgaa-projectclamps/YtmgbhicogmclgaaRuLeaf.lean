/- What the leaf functions of package runes answer (Digit, Letter, Put, Key), at every input. -/
import Derived.Test.YtmgbhicogmclgaaRows
import Derived.Test.YtmgbhicogmclgaaRuMath
import Derived.WalkKit
import Derived.ProofKit
import Derived.OpenShut
import Derived.ShutString
import Derived.ChangeOld
import Derived.Below
namespace Go.Proofs.Ytmgbhicogmclgaa
open Go.ChangeShapes Go.WideShapes Go.ChangeAt Go.RowKit
set_option linter.unusedVariables false
set_option maxRecDepth 20000

theorem ret_bool {a b : Bool} (h : a = b) : Ending.returned (.bool a) = .returned (.bool b) := by rw [h]
theorem ret_int {k : IntKind} {a b : Int} (h : a = b) : Ending.returned (.int k a) = .returned (.int k b) := by rw [h]
theorem ret_str {a b : ByteArray} (h : a = b) : Ending.returned (.string a) = .returned (.string b) := by rw [h]

def digB (r : Int) : Bool := decide (48 ≤ r ∧ r ≤ 57)
def letB (r : Int) : Bool := decide (97 ≤ r ∧ r ≤ 122 ∨ 65 ≤ r ∧ r ≤ 90 ∨ r = 95 ∨ (192 ≤ r ∧ r ≤ 591 ∧ r ≠ 215 ∧ r ≠ 247) ∨ (913 ≤ r ∧ r ≤ 969 ∧ r ≠ 930))
def putS (r : Int) : ByteArray := if Utf8.valid r then Utf8.encode r else ⟨#[]⟩

set_option maxHeartbeats 400000 in
theorem digit_any (r : Int) (w : World) :
    Calls Try.prog 96 #[.int .i32 r] w fun e w' => e = .returned (.bool (digB r)) ∧ w' = w := by
  go_enter Try.func96, Try.ntmps96
  go_wp2
  all_goals
    go_ret
    exact ⟨ret_bool (by simp [digB]; try omega), rfl⟩

set_option maxHeartbeats 1000000 in
theorem letter_any (r : Int) (w : World) :
    Calls Try.prog 95 #[.int .i32 r] w fun e w' => e = .returned (.bool (letB r)) ∧ w' = w := by
  go_enter Try.func95, Try.ntmps95
  go_wp2
  all_goals
    go_ret
    refine ⟨ret_bool ?_, rfl⟩
    try simp only [beq_eq_false_iff_ne, beq_iff_eq, ne_eq] at *
    rw [Bool.eq_iff_iff]
    simp [letB]
    try omega

theorem valid_iff (r : Int) : Utf8.valid r = true ↔ (0 ≤ r ∧ r ≤ 1114111 ∧ ¬ (55296 ≤ r ∧ r ≤ 57343)) := by
  simp [Utf8.valid]; omega
theorem valid_not (r : Int) : Utf8.valid r = false ↔ ¬ (0 ≤ r ∧ r ≤ 1114111 ∧ ¬ (55296 ≤ r ∧ r ≤ 57343)) := by
  rw [← valid_iff]; simp
theorem putS_yes {r : Int} (h : Utf8.valid r = true) : Utf8.encode r = putS r := by simp [putS, h]
theorem putS_no {r : Int} (h : Utf8.valid r = false) : ⟨#[]⟩ = putS r := by simp [putS, h]


/-- The thirteen words. -/
def keyB (s : ByteArray) : Bool := [[115, 99, 104, 101, 109, 97], [109, 101, 115, 115, 97, 103, 101], [101, 110, 117, 109], [99, 97, 108, 108], [114, 101, 116, 117, 114, 110, 115], [114, 101, 115, 101, 114, 118, 101, 100],
  [111, 112, 116, 105, 111, 110, 97, 108], [114, 101, 112, 101, 97, 116, 101, 100], [105, 110, 116, 51, 50], [105, 110, 116, 54, 52], [98, 111, 111, 108], [116, 101, 120, 116], [98, 121, 116, 101, 115]].any fun (k : List UInt8) => s.toList == k

end Go.Proofs.Ytmgbhicogmclgaa

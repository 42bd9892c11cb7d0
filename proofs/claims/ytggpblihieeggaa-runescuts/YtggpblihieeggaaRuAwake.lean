/- The document's examples of layer 1 hold: awake answers true. -/
import Derived.Test.YtggpblihieeggaaRuText
namespace Go.Proofs.Ytggpblihieeggaa
open Go.ChangeShapes Go.WideShapes Go.ChangeAt Go.RowKit
set_option linter.unusedVariables false
set_option maxRecDepth 20000

theorem keyB_list (l : List UInt8) : keyB ⟨l.toArray⟩ = [[115, 99, 104, 101, 109, 97], [109, 101, 115, 115, 97, 103, 101], [101, 110, 117, 109], [99, 97, 108, 108], [114, 101, 116, 117, 114, 110, 115], [114, 101, 115, 101, 114, 118, 101, 100],
  [111, 112, 116, 105, 111, 110, 97, 108], [114, 101, 112, 101, 97, 116, 101, 100], [105, 110, 116, 51, 50], [105, 110, 116, 54, 52], [98, 111, 111, 108], [116, 101, 120, 116], [98, 121, 116, 101, 115]].any fun (k : List UInt8) => l == k := by
  unfold keyB; rw [ByteArray.toList_mk]
theorem nameB_list (l : List UInt8) : nameB ⟨l.toArray⟩ = (decide (1 ≤ countN l ∧ countN l ≤ 20) && !keyB ⟨l.toArray⟩ && okFrom true ((runesOf l).getD [])) := rfl

theorem nameB_a : nameB ⟨#[103, 114, 195, 182, 195, 159, 101]⟩ = true := by
  rw [nameB_list [103, 114, 195, 182, 195, 159, 101], keyB_list]; decide +kernel
theorem nameB_b : nameB ⟨#[57, 97]⟩ = false := by
  rw [nameB_list [57, 97], keyB_list]; decide +kernel
theorem nameB_c : nameB ⟨#[116, 101, 120, 116]⟩ = false := by
  rw [nameB_list [116, 101, 120, 116], keyB_list]; decide +kernel
theorem countN_a : countN [103, 114, 195, 182, 195, 159, 101] = 5 := by decide +kernel

set_option maxHeartbeats 1000000 in
theorem awake_any (w : World) :
    Calls Try.prog 11 #[] w fun e w' => e = .returned (.bool true) ∧ Below w.heap.size w w' := by
  go_enter Try.func11, Try.ntmps11
  go_wp2_with fail
  refine (name_any _ _ (by decide)).mono ?_
  rintro e w1 ⟨rfl, h1⟩
  rw [nameB_a]
  go_wp2_with fail
  refine (name_any _ _ (by decide)).mono ?_
  rintro e w2 ⟨rfl, h2⟩
  rw [nameB_b]
  go_wp2_with fail
  refine (name_any _ _ (by decide)).mono ?_
  rintro e w3 ⟨rfl, h3⟩
  rw [nameB_c]
  go_wp2_with fail
  refine (count_any _ _ (by decide)).mono ?_
  rintro e w4 ⟨rfl, h4⟩
  have HC : Hid (countN (ByteArray.mk #[103, 114, 195, 182, 195, 159, 101]).data.toList = 5) := countN_a
  rw [HC.out]
  go_wp2_with fail
  go_ret
  exact ⟨rfl, h1.trans ((h2.trans ((h3.trans (h4.mono h3.size)).mono h2.size)).mono h1.size)⟩
end Go.Proofs.Ytggpblihieeggaa

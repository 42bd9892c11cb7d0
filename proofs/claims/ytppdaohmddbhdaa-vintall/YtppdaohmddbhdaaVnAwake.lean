/- The document's examples of layer 2 hold: awake answers true. -/
import Derived.Test.YtppdaohmddbhdaaVnRow
import Derived.Test.YtppdaohmddbhdaaVnLen
namespace Go.Proofs.Ytppdaohmddbhdaa
open Go.ChangeShapes Go.WideShapes Go.ChangeAt Go.RowKit
set_option linter.unusedVariables false
set_option maxRecDepth 20000

theorem put_nil (v : Nat) (z : Int) (hz : z = (v : Int)) (w : World) (hv : v < 18446744073709551616) :
    Calls Try.prog 9 #[.slice none 0 0, .int .u64 z] w fun e w' => ∃ g cap, e = .returned (.slice (some ⟨g, 0, none⟩) (digs v).length cap) ∧ w.heap.size ≤ g ∧ g < w'.heap.size ∧ (digs v).length ≤ cap ∧ cap ≤ maxLen ∧ Holds w' (some ⟨g, 0, none⟩) (digs v) ∧ Below w.heap.size w w' := by
  subst hz
  refine (put_any none [] 0 v w (fun _ => ⟨rfl, rfl⟩) (Nat.le_refl _) (by decide) (by decide) Holds.nil hv).mono ?_
  rintro e w' ⟨r, rfl, ho, hb⟩
  rw [List.nil_append] at ho
  obtain ⟨a, cap, rfl, _, h1 | ⟨g, rfl, h2, h3⟩, h4, h5, h6⟩ := own_open ho
  · exact absurd h1.2.1 (digs_ne v)
  · exact ⟨g, cap, rfl, h2, h3, h4, h5, h6, hb⟩

theorem digs_300 : digs 300 = [172, 2] := by rw [digs_big (by decide), digs_small (by decide)]

set_option maxHeartbeats 1000000 in
theorem awake_any (w : World) :
    Calls Try.prog 18 #[] w fun e w' => e = .returned (.bool true) ∧ Below w.heap.size w w' := by
  have HZ : Hid (zigN (-1) = 1) := by show _ = _; decide
  go_enter Try.func18, Try.ntmps18
  go_wp2_with fail
  refine (put_nil 300 300 rfl _ (by decide)).mono ?_
  rintro e w1 ⟨g, cap, rfl, h1, h2, h3, h4, h5, hb⟩
  rw [digs_300] at *
  have hcv := conv_holds w1 (some ⟨g, 0, none⟩) [172, 2] cap (fun h => by cases h) h5
  have hs : strN [172, 2] = ⟨#[172, 2]⟩ := by decide +kernel
  rw [hs] at hcv
  simp only [List.length_cons, List.length_nil, Nat.zero_add, Nat.reduceAdd] at *
  go_wp2_with fail
  refine (zig_any _ _ (by decide) (by decide)).mono ?_
  rintro e w2 ⟨rfl, rfl⟩
  rw [HZ.out]
  go_wp2_with fail
  go_ret
  exact ⟨rfl, hb⟩
end Go.Proofs.Ytppdaohmddbhdaa

/- The document's example of layer 5 holds: awake answers true. -/
import Derived.Test.YtdaaijhanhmddaaLxTok
namespace Go.Proofs.Ytdaaijhanhmddaa
open Go.ChangeShapes Go.WideShapes Go.ChangeAt Go.RowKit
set_option linter.unusedVariables false
set_option linter.unusedSimpArgs false
set_option maxRecDepth 20000

theorem tokens_row (s : ByteArray) (w : World) (hs : s.size ≤ 140737488351232) (ts : List Tk) (p e : Nat) (h : tokA s = (ts, p, e)) :
    Calls Try.prog 9 #[.string s] w fun x w' => ∃ v, x = .returned (.tuple #[v, .int .i64 (p : Int), .int .i64 (e : Int)]) ∧ RowT w' v ts ∧ Below w.heap.size w w' := by
  refine (tokens_any s w hs).mono ?_
  rintro x w' ⟨v, rfl, ho, hb⟩
  rw [h] at ho ⊢
  exact ⟨v, rfl, row_own ho, hb⟩

theorem tok_awake : tokA ⟨#[97, 61, 49, 59]⟩ = ([⟨1, [97], 0⟩, ⟨3, [61], 1⟩, ⟨2, [49], 2⟩, ⟨3, [59], 3⟩], 0, 0) := by kernel_rfl

set_option maxHeartbeats 1000000 in
theorem lawake_any (w : World) :
    Calls Try.prog 13 #[] w fun e w' => e = .returned (.bool true) ∧ Below w.heap.size w w' := by
  go_enter Try.func13, Try.ntmps13
  go_wp2_with fail
  refine (tokens_row _ _ (by decide) _ _ _ tok_awake).mono ?_
  rintro e w1 ⟨v, rfl, hr, hb⟩
  obtain ⟨a, cap, hv, h2, h3, h4, h5⟩ := hr.form
  obtain ⟨g, hg⟩ := h4 (by simp)
  subst hg
  obtain ⟨p0, p1, p2⟩ := h5.at0 (i := 0) rfl
  obtain ⟨q0, q1, q2⟩ := h5.at0 (i := 3) rfl
  simp only [Tk.bytes] at p0 p1 p2 q0 q1 q2
  simp only [List.length_cons, List.length_nil] at hv h2
  subst hv
  unfold maxLen at h3
  clear h4 h5 hr
  go_wp2_with fail
  go_ret
  exact ⟨rfl, hb⟩
end Go.Proofs.Ytdaaijhanhmddaa

/- What SameRaws answers of one list in two places. -/
import Derived.Test.YtlmkgbdcpphofaaRwRow
namespace Go.Proofs.Ytlmkgbdcpphofaa
open Go.ChangeShapes Go.WideShapes Go.ChangeAt Go.RowKit
set_option linter.unusedVariables false
set_option linter.unusedSimpArgs false
set_option maxRecDepth 20000

set_option maxHeartbeats 4000000 in
theorem same_any (a b : Option Addr) (rs : List Fd) (N c d : Nat) (w : World) (hN : rs.length = N) (ha : rs = [] ∨ ∃ g off, a = some ⟨g, off, none⟩) (hb : rs = [] ∨ ∃ g off, b = some ⟨g, off, none⟩) (hc : N ≤ c) (hd : N ≤ d) (hcm : c ≤ maxLen) (hdm : d ≤ maxLen) (hl : N ≤ 1000000)
    (h1 : HoldsR w a rs) (h2 : HoldsR w b rs) :
    Calls Try.prog 22 #[.slice a N c, .slice b N d] w fun e w' => e = .returned (.bool true) ∧ Below w.heap.size w w' := by
  have HN : Hid (rs.length = N) := hN
  have HA : Hid (rs = [] ∨ ∃ g off, a = some ⟨g, off, none⟩) := ha
  have HB : Hid (rs = [] ∨ ∃ g off, b = some ⟨g, off, none⟩) := hb
  have H1 : Hid (HoldsR w a rs) := h1
  have H2 : Hid (HoldsR w b rs) := h2
  unfold maxLen at hcm hdm
  clear hN ha hb h1 h2
  go_enter Try.func22, Try.ntmps22
  go_wp2_with fail
  go_loopw [5] (fun iv wr => ∃ i : Nat, iv = .int .i64 (i : Int) ∧ i ≤ N ∧ Below w.heap.size w wr) (fun iv _ => N - (intOf iv).toNat)
  case atStart => exact ⟨0, rfl, by omega, Below.refl _ _⟩
  case round =>
    obtain ⟨i, rfl, hi, hbel⟩ := hrel
    by_cases hlt : i < N
    · have hr : rs[i]? = some (rs[i]'(by rw [HN.out]; exact hlt)) := List.getElem?_eq_getElem _
      generalize rs[i]'(by rw [HN.out]; exact hlt) = r at hr
      rcases HA.out with h0 | ⟨g, off, rfl⟩
      · exact absurd hlt (by have := HN.out; rw [h0] at this; simp at this; omega)
      rcases HB.out with h0 | ⟨g2, off2, rfl⟩
      · exact absurd hlt (by have := HN.out; rw [h0] at this; simp at this; omega)
      obtain ⟨p0, p1, p2, p3⟩ := (H1.out.below hbel).at hr
      obtain ⟨q0, q1, q2, q3⟩ := (H2.out.below hbel).at hr
      obtain ⟨t, k, n, s⟩ := r
      simp only at p0 p1 p2 p3 q0 q1 q2 q3
      clear hr
      go_wp2_with fail
      go_quiet (fail)
      have hbn := below_drewN nq hbel
      clear p0 p1 p2 p3 q0 q1 q2 q3 hbel
      go_wp2_with fail
      go_roundw
      case rel => exact ⟨i + 1, by go_num, by omega, hbn⟩
      case measure => simp [intOf]; omega
    · go_wp2_with fail
      go_ret
      exact ⟨rfl, hbel⟩
end Go.Proofs.Ytlmkgbdcpphofaa

/- Split from TvOth. -/
import Derived.Test.YtgedelgdjcnogabRowFs
import Derived.Test.YtgedelgdjcnogabKpFrame
namespace Go.Proofs.Ytgedelgdjcnogab
open Go.ChangeShapes Go.WideShapes Go.ChangeAt Go.RowKit
set_option linter.unusedVariables false
set_option linter.unusedSimpArgs false
set_option maxRecDepth 20000

/-- Five cells are stored. -/
def set5 (w : World) (g o : Nat) (a b c d e : Value) : World := ((((w.setCell ⟨g, o, none⟩ a).setCell ⟨g, o + 1, none⟩ b).setCell ⟨g, o + 2, none⟩ c).setCell ⟨g, o + 3, none⟩ d).setCell ⟨g, o + 4, none⟩ e
theorem set5_kp (w : World) (g o : Nat) (a b c d e : Value) : Kp (fun q => q = g) w (set5 w g o a b c d e) := by
  unfold set5
  refine Kp.setCell ?_ (fun _ => by simp) _
  refine Kp.setCell ?_ (fun _ => by simp) _
  refine Kp.setCell ?_ (fun _ => by simp) _
  refine Kp.setCell ?_ (fun _ => by simp) _
  refine Kp.setCell ?_ (fun _ => by simp) _
  exact Kp.refl _ _
theorem own_set5 {w : World} {B ty g n cap : Nat} {rows : List (List Value)} (h : w.ownsRow B ty 5 (.slice (some ⟨g, 0, none⟩) n cap) n rows.flatten) (hl : ∀ r ∈ rows, r.length = 5) {j : Nat} (hj : j < rows.length) (a b c d e : Value) :
    (set5 w g (j * 5) a b c d e).ownsRow B ty 5 (.slice (some ⟨g, 0, none⟩) n cap) n (rows.set j [a, b, c, d, e]).flatten := by
  obtain ⟨r, hr⟩ : ∃ r, rows[j]? = some r := ⟨_, List.getElem?_eq_getElem hj⟩
  have h5 := hl r (List.mem_of_getElem? hr)
  have hset : ∀ (rs : List (List Value)) (q : List Value), (∀ r ∈ rs, r.length = 5) → q.length = 5 → ∀ r ∈ rs.set j q, r.length = 5 := fun rs q h1 h2 r hr => by
    rcases List.mem_or_eq_of_mem_set hr with hr | rfl
    · exact h1 r hr
    · exact h2
  have step : ∀ (W : World) (rs : List (List Value)) (q : List Value) (k : Nat) (u : Value), W.ownsRow B ty 5 (.slice (some ⟨g, 0, none⟩) n cap) n (rs.set j q).flatten → (∀ r ∈ rs, r.length = 5) → q.length = 5 → j < rs.length → k < 5 → (W.setCell ⟨g, j * 5 + k, none⟩ u).ownsRow B ty 5 (.slice (some ⟨g, 0, none⟩) n cap) n (rs.set j (q.set k u)).flatten := fun W rs q k u h1 h2 h3 h4 h5 => by
    have h6 := (h1.stored (j * 5 + k) u).1
    rw [flat_set (rs.set j q) (hset rs q h2 h3) j q (by rw [List.getElem?_set, if_pos rfl, if_pos h4]) k u h5, List.set_set] at h6
    exact h6
  have e0 : rows.set j r = rows := by
    obtain ⟨h1, h2⟩ := List.getElem?_eq_some_iff.1 hr
    rw [← h2, List.set_getElem_self]
  match r, h5, hr, e0 with
  | [x0, x1, x2, x3, x4], _, hr, e0 =>
    have s0 := step w rows [x0, x1, x2, x3, x4] 0 a (by rw [e0]; exact h) hl rfl hj (by decide)
    have s1 := step _ rows [a, x1, x2, x3, x4] 1 b s0 hl rfl hj (by decide)
    have s2 := step _ rows [a, b, x2, x3, x4] 2 c s1 hl rfl hj (by decide)
    have s3 := step _ rows [a, b, c, x3, x4] 3 d s2 hl rfl hj (by decide)
    have s4 := step _ rows [a, b, c, d, x4] 4 e s3 hl rfl hj (by decide)
    exact s4
end Go.Proofs.Ytgedelgdjcnogab

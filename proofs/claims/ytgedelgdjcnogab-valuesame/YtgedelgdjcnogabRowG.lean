/- Rows of any width: what stands in a slice whose elements take several cells. -/
import Derived.Test.YtgedelgdjcnogabOwnBelow
namespace Go.Proofs.Ytgedelgdjcnogab
open Go.ChangeShapes Go.WideShapes Go.ChangeAt Go.RowKit
set_option linter.unusedVariables false
set_option linter.unusedSimpArgs false
set_option maxRecDepth 20000

/-- A slice that holds these elements, each by its cells. -/
structure RowG (w : World) (v : Value) (size : Nat) (rs : List (List Value)) : Prop where
  form : ∃ a cap, v = .slice a rs.length cap ∧ rs.length ≤ cap ∧ cap ≤ maxLen ∧ (a = none → cap = 0) ∧ (rs ≠ [] → ∃ g off, a = some ⟨g, off, none⟩ ∧ ∀ i c u j, rs[i]? = some c → c[j]? = some u → w.cell? ⟨g, off + i * size + j, none⟩ = some u)
theorem RowG.below {w w1 : World} {v : Value} {size : Nat} {rs : List (List Value)} (h : RowG w v size rs) (hb : Below w.heap.size w w1) : RowG w1 v size rs := by
  obtain ⟨a, cap, h1, h2, h3, h0, h4⟩ := h.form
  refine ⟨a, cap, h1, h2, h3, h0, fun hne => ?_⟩
  obtain ⟨g, off, h5, h6⟩ := h4 hne
  refine ⟨g, off, h5, fun i c u j hc hu => ?_⟩
  have := h6 i c u j hc hu
  rw [hb.cell (World.block_lt_of_cell? _ _ this)]
  exact this
theorem RowG.nil (w : World) (size : Nat) : RowG w (.slice none 0 0) size [] := ⟨none, 0, rfl, Nat.le_refl _, by decide, fun _ => rfl, fun h => absurd rfl h⟩
/-- Open, with letters. -/
theorem RowG.open {w : World} {v : Value} {size : Nat} {rs : List (List Value)} (h : RowG w v size rs) : ∃ a cap, v = .slice a rs.length cap ∧ rs.length ≤ cap ∧ cap ≤ maxLen ∧ (rs ≠ [] → ∃ g off, a = some ⟨g, off, none⟩) ∧ ∀ g off, a = some ⟨g, off, none⟩ → ∀ i c, rs[i]? = some c → ∀ j u, c[j]? = some u → w.cell? ⟨g, off + i * size + j, none⟩ = some u := by
  obtain ⟨a, cap, h1, h2, h3, _, h4⟩ := h.form
  refine ⟨a, cap, h1, h2, h3, fun hne => ?_, ?_⟩
  · obtain ⟨g, off, h5, _⟩ := h4 hne
    exact ⟨g, off, h5⟩
  · intro g off ha i c hc j u hu
    have hne : rs ≠ [] := by intro e; rw [e] at hc; simp at hc
    obtain ⟨g', off', h5, h6⟩ := h4 hne
    rw [ha] at h5
    simp at h5
    obtain ⟨rfl, rfl⟩ := h5
    exact h6 i c u j hc hu
/-- The cells of a flattened list. -/
theorem flat_get {size : Nat} : ∀ (rs : List (List Value)), (∀ r ∈ rs, r.length = size) → ∀ (i : Nat) (c : List Value), rs[i]? = some c → ∀ j u, c[j]? = some u → rs.flatten[i * size + j]? = some u
  | [], _, i, c, h, _, _, _ => by simp at h
  | x :: l, hl, 0, c, h, j, u, hu => by
    obtain rfl : x = c := by simpa using h
    rw [List.flatten_cons, Nat.zero_mul, Nat.zero_add, List.getElem?_append_left (List.getElem?_eq_some_iff.1 hu).1]
    exact hu
  | x :: l, hl, i + 1, c, h, j, u, hu => by
    have := flat_get l (fun r hr => hl r (List.mem_cons_of_mem _ hr)) i c (by simpa using h) j u hu
    have hx := hl x (List.mem_cons_self ..)
    rw [List.flatten_cons, List.getElem?_append_right (by rw [hx, Nat.add_mul]; omega)]
    have e : (i + 1) * size + j - x.length = i * size + j := by rw [hx, Nat.add_mul]; omega
    rw [e]
    exact this
theorem flat_len {size : Nat} : ∀ (rs : List (List Value)), (∀ r ∈ rs, r.length = size) → rs.flatten.length = rs.length * size
  | [], _ => by simp
  | x :: l, hl => by
    rw [List.flatten_cons, List.length_append, flat_len l (fun r hr => hl r (List.mem_cons_of_mem _ hr)), hl x (List.mem_cons_self ..), List.length_cons, Nat.add_mul]; omega
/-- A row of one's own is such a slice. -/
theorem RowG.own {w : World} {B e size : Nat} {v : Value} {n : Nat} {rs : List (List Value)} (hl : ∀ r ∈ rs, r.length = size) (hs : 0 < size) (h : w.ownsRow B e size v n rs.flatten) : RowG w v size rs ∧ n = rs.length := by
  have hn : n = rs.length := by
    have := h.1
    rw [flat_len rs hl] at this
    exact (Nat.eq_of_mul_eq_mul_right hs this).symm
  have h0 := h
  subst hn
  refine ⟨?_, rfl⟩
  rcases h.2 with ⟨rfl, h2⟩ | ⟨g, cap, cur, rfl, hb, hg, hc, hm, _⟩
  · have : rs = [] := List.eq_nil_of_length_eq_zero h2
    subst this
    exact RowG.nil w size
  · refine ⟨_, cap, rfl, hc, hm, (fun e => by cases e), fun _ => ⟨g, 0, rfl, fun i c u j hc hu => ?_⟩⟩
    have := h0.cells (g := g) rfl (i * size + j) u (flat_get rs hl i c hc j u hu)
    rw [Addr.add_lit, Nat.zero_add] at this
    rw [Nat.zero_add]
    exact this
/-- An element's cells. -/
theorem RowG.get {w : World} {a : Option Addr} {N cap size : Nat} {rs : List (List Value)} (h : RowG w (.slice a N cap) size rs) {i : Nat} {c : List Value} (hi : rs[i]? = some c) : ∃ g off, a = some ⟨g, off, none⟩ ∧ ∀ j u, c[j]? = some u → w.cell? ⟨g, off + i * size + j, none⟩ = some u := by
  obtain ⟨a', cap', e1, e2, e3, e4, e5⟩ := h.open
  simp only [Value.slice.injEq] at e1
  obtain ⟨rfl, _, _⟩ := e1
  obtain ⟨g, off, rfl⟩ := e4 (by intro e; rw [e] at hi; simp at hi)
  exact ⟨g, off, rfl, fun j u hu => e5 g off rfl i c hi j u hu⟩
theorem RowG.form2 {w : World} {v : Value} {size : Nat} {rs : List (List Value)} (h : RowG w v size rs) : ∃ a cap, v = .slice a rs.length cap ∧ rs.length ≤ cap ∧ cap ≤ 9223372036854775807 := by
  obtain ⟨a', cap', e1, e2, e3, _⟩ := h.open
  exact ⟨a', cap', e1, e2, by unfold maxLen at e3; omega⟩
end Go.Proofs.Ytgedelgdjcnogab

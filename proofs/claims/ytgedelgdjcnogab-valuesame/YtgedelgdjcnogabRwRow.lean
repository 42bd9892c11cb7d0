/- Rows of fields: what stands in a slice; owned, made. -/
import Derived.Test.YtgedelgdjcnogabFdMath
import Derived.Test.YtgedelgdjcnogabOwnBelow
import Derived.Laws.OwnMore
import Derived.BigQuiet
namespace Go.Proofs.Ytgedelgdjcnogab
open Go.ChangeShapes Go.WideShapes Go.ChangeAt Go.RowKit
set_option linter.unusedVariables false
set_option linter.unusedSimpArgs false
set_option maxRecDepth 20000

theorem infoRaw : (Try.prog.info? 36).map (fun i => (i.zero, i.size, i.bytes)) = some (some (.agg #[.int .i64 0, .int .i64 0, .int .i64 0, .string ⟨#[]⟩]), 4, 40) := by kernel_rfl
def rawCells (rs : List Fd) : List Value := rs.flatMap Fd.cells
theorem rawCells_nil : rawCells [] = [] := rfl
theorem rawCells_cons (r : Fd) (l : List Fd) : rawCells (r :: l) = r.cells ++ rawCells l := by simp [rawCells]
theorem rawCells_app (a b : List Fd) : rawCells (a ++ b) = rawCells a ++ rawCells b := by simp [rawCells]
theorem rawCells_len (rs : List Fd) : (rawCells rs).length = rs.length * 4 := by
  induction rs with
  | nil => rfl
  | cons r l ih => rw [rawCells_cons, List.length_append, ih, List.length_cons]; simp [Fd.cells]; omega
theorem rawCells_one (rs : List Fd) : ∀ u ∈ rawCells rs, u.oneCell' = true := by
  intro u hu
  simp only [rawCells, List.mem_flatMap] at hu
  obtain ⟨r, _, h⟩ := hu
  simp only [Fd.cells, List.mem_cons, List.not_mem_nil, or_false] at h
  rcases h with rfl | rfl | rfl | rfl <;> rfl
/-- The cells of one. -/
theorem rawCells_get : ∀ (rs : List Fd) (i : Nat) (r : Fd), rs[i]? = some r → ∀ c u, r.cells[c]? = some u → (rawCells rs)[i * 4 + c]? = some u
  | [], i, r, h, c, u, hu => by simp at h
  | x :: l, 0, r, h, c, u, hu => by
    obtain rfl : x = r := by simpa using h
    rw [rawCells_cons, Nat.zero_mul, Nat.zero_add, List.getElem?_append_left (List.getElem?_eq_some_iff.1 hu).1]
    exact hu
  | x :: l, i + 1, r, h, c, u, hu => by
    have := rawCells_get l i r (by simpa using h) c u hu
    rw [rawCells_cons, List.getElem?_append_right (by simp [Fd.cells]; omega)]
    have e : (i + 1) * 4 + c - x.cells.length = i * 4 + c := by simp [Fd.cells]; omega
    rw [e]
    exact this

/-- Fields that stand in a slice. -/
def HoldsR (w : World) (a : Option Addr) (rs : List Fd) : Prop := ∀ b, a = some b → ∀ j u, (rawCells rs)[j]? = some u → w.cell? (b.add j) = some u
theorem HoldsR.below {w w1 : World} {a : Option Addr} {rs : List Fd} (h : HoldsR w a rs) (hb : Below w.heap.size w w1) : HoldsR w1 a rs := by
  intro b hab j u hu
  have := h b hab j u hu
  rw [hb.cell (World.block_lt_of_cell? _ _ this)]
  exact this
theorem HoldsR.nil {w : World} {a : Option Addr} : HoldsR w a [] := by
  intro b _ j u hu
  simp [rawCells] at hu
theorem HoldsR.at {w : World} {g off : Nat} {rs : List Fd} (h : HoldsR w (some ⟨g, off, none⟩) rs) {i : Nat} {r : Fd} (hi : rs[i]? = some r) :
    w.cell? ⟨g, off + i * 4, none⟩ = some (.int .i64 r.tag) ∧ w.cell? ⟨g, off + i * 4 + 1, none⟩ = some (.int .i64 r.wire) ∧ w.cell? ⟨g, off + i * 4 + 2, none⟩ = some (.int .i64 r.n) ∧ w.cell? ⟨g, off + i * 4 + 3, none⟩ = some (.string r.b) := by
  refine ⟨?_, ?_, ?_, ?_⟩
  · have := h _ rfl _ _ (rawCells_get rs i r hi 0 _ rfl); rwa [Addr.add_lit] at this
  · have := h _ rfl _ _ (rawCells_get rs i r hi 1 _ rfl); rwa [Addr.add_lit, ← Nat.add_assoc] at this
  · have := h _ rfl _ _ (rawCells_get rs i r hi 2 _ rfl); rwa [Addr.add_lit, ← Nat.add_assoc] at this
  · have := h _ rfl _ _ (rawCells_get rs i r hi 3 _ rfl); rwa [Addr.add_lit, ← Nat.add_assoc] at this
theorem HoldsR.take {w : World} {a : Option Addr} {rs ss : List Fd} (h : HoldsR w a (rs ++ ss)) : HoldsR w a rs := by
  intro b hb j u hu
  refine h b hb j u ?_
  rw [rawCells_app, List.getElem?_append_left (List.getElem?_eq_some_iff.1 hu).1]
  exact hu

theorem own_mono4 {w : World} {base base' : Nat} {e : TypeId} {v : Value} {n : Nat} {xs : List Value} (h : w.ownsRow base e 4 v n xs) (hb : base' ≤ base) : w.ownsRow base' e 4 v n xs := by
  refine ⟨h.1, ?_⟩
  rcases h.2 with h | ⟨g, cap, cur, h1, h2, h3⟩
  · exact .inl h
  · exact .inr ⟨g, cap, cur, h1, Nat.le_trans hb h2, h3⟩
/-- A row of the call's own, opened. -/
theorem own_openR {w : World} {B : Nat} {r : Value} {n : Nat} {rs : List Fd} (h : w.ownsRow B 36 4 r n (rawCells rs)) :
    ∃ a cap, r = .slice a rs.length cap ∧ n = rs.length ∧ ((a = none ∧ rs = [] ∧ cap = 0) ∨ ∃ g, a = some ⟨g, 0, none⟩ ∧ B ≤ g ∧ g < w.heap.size) ∧ rs.length ≤ cap ∧ cap ≤ maxLen ∧ HoldsR w a rs := by
  have hn : n = rs.length := by have := h.1; rw [rawCells_len] at this; omega
  have h0 := h
  subst hn
  rcases h.2 with ⟨rfl, h2⟩ | ⟨g, cap, cur, rfl, hb, hg, hc, hm, _⟩
  · have : rs = [] := List.eq_nil_of_length_eq_zero h2
    subst this
    exact ⟨none, 0, rfl, rfl, .inl ⟨rfl, rfl, rfl⟩, Nat.le_refl _, by decide, HoldsR.nil⟩
  · refine ⟨_, cap, rfl, rfl, .inr ⟨g, rfl, hb, (Array.getElem?_eq_some_iff.1 hg).1⟩, hc, hm, ?_⟩
    intro b hb' j u hu
    obtain rfl : ⟨g, 0, none⟩ = b := by simpa using hb'
    exact h0.cells (g := g) rfl j u hu
end Go.Proofs.Ytgedelgdjcnogab

/- Rows of pieces: what stands in a slice; owned, made. -/
import Derived.Test.YtfffjfccochccaaDoorLxMath
import Derived.Test.YtfffjfccochccaaDoorOwnBelow
import Derived.Laws.Strings2
namespace Go.Proofs.YtfffjfccochccaaDoor
open Go.ChangeShapes Go.WideShapes Go.ChangeAt Go.RowKit
set_option linter.unusedVariables false
set_option linter.unusedSimpArgs false
set_option maxRecDepth 20000

theorem infoTk : (Tryd.prog.info? 65).map (fun i => (i.zero, i.size, i.bytes)) = some (some (.agg #[.int .i64 0, .string ⟨#[]⟩, .int .i64 0]), 3, 32) := by kernel_rfl
def Tk.bytes (t : Tk) : ByteArray := ⟨t.text.toArray⟩
def Tk.cells (t : Tk) : List Value := [.int .i64 (t.kind : Int), .string t.bytes, .int .i64 (t.pos : Int)]
def tkCells (rs : List Tk) : List Value := rs.flatMap Tk.cells
theorem tkCells_nil : tkCells [] = [] := rfl
theorem tkCells_cons (r : Tk) (l : List Tk) : tkCells (r :: l) = r.cells ++ tkCells l := by simp [tkCells]
theorem tkCells_app (a b : List Tk) : tkCells (a ++ b) = tkCells a ++ tkCells b := by simp [tkCells]
theorem tkCells_len (rs : List Tk) : (tkCells rs).length = rs.length * 3 := by
  induction rs with
  | nil => rfl
  | cons r l ih => rw [tkCells_cons, List.length_append, ih, List.length_cons]; simp [Tk.cells]; omega
theorem tkCells_snoc (acc : List Tk) (r : Tk) : (acc ++ [r]).length = acc.length + 1 ∧ tkCells (acc ++ [r]) = tkCells acc ++ r.cells := by
  constructor
  · simp
  · rw [tkCells_app, tkCells_cons, tkCells_nil, List.append_nil]
/-- The cells of one. -/
theorem tkCells_get : ∀ (rs : List Tk) (i : Nat) (r : Tk), rs[i]? = some r → ∀ c u, r.cells[c]? = some u → (tkCells rs)[i * 3 + c]? = some u
  | [], i, r, h, c, u, hu => by simp at h
  | x :: l, 0, r, h, c, u, hu => by
    obtain rfl : x = r := by simpa using h
    rw [tkCells_cons, Nat.zero_mul, Nat.zero_add, List.getElem?_append_left (List.getElem?_eq_some_iff.1 hu).1]
    exact hu
  | x :: l, i + 1, r, h, c, u, hu => by
    have := tkCells_get l i r (by simpa using h) c u hu
    rw [tkCells_cons, List.getElem?_append_right (by simp [Tk.cells]; omega)]
    have e : (i + 1) * 3 + c - x.cells.length = i * 3 + c := by simp [Tk.cells]; omega
    rw [e]
    exact this

/-- Pieces that stand in a slice. -/
def HoldsT (w : World) (a : Option Addr) (rs : List Tk) : Prop := ∀ b, a = some b → ∀ j u, (tkCells rs)[j]? = some u → w.cell? (b.add j) = some u
theorem HoldsT.below {w w1 : World} {a : Option Addr} {rs : List Tk} (h : HoldsT w a rs) (hb : Below w.heap.size w w1) : HoldsT w1 a rs := by
  intro b hab j u hu
  have := h b hab j u hu
  rw [hb.cell (World.block_lt_of_cell? _ _ this)]
  exact this
theorem HoldsT.nil {w : World} {a : Option Addr} : HoldsT w a [] := by
  intro b _ j u hu
  simp [tkCells] at hu
theorem HoldsT.at {w : World} {g off : Nat} {rs : List Tk} (h : HoldsT w (some ⟨g, off, none⟩) rs) {i : Nat} {r : Tk} (hi : rs[i]? = some r) :
    w.cell? ⟨g, off + i * 3, none⟩ = some (.int .i64 (r.kind : Int)) ∧ w.cell? ⟨g, off + i * 3 + 1, none⟩ = some (.string r.bytes) ∧ w.cell? ⟨g, off + i * 3 + 2, none⟩ = some (.int .i64 (r.pos : Int)) := by
  refine ⟨?_, ?_, ?_⟩
  · have := h _ rfl _ _ (tkCells_get rs i r hi 0 _ rfl); rwa [Addr.add_lit] at this
  · have := h _ rfl _ _ (tkCells_get rs i r hi 1 _ rfl); rwa [Addr.add_lit, ← Nat.add_assoc] at this
  · have := h _ rfl _ _ (tkCells_get rs i r hi 2 _ rfl); rwa [Addr.add_lit, ← Nat.add_assoc] at this
theorem HoldsT.at0 {w : World} {g : Nat} {rs : List Tk} (h : HoldsT w (some ⟨g, 0, none⟩) rs) {i : Nat} {r : Tk} (hi : rs[i]? = some r) :
    w.cell? ⟨g, i * 3, none⟩ = some (.int .i64 (r.kind : Int)) ∧ w.cell? ⟨g, i * 3 + 1, none⟩ = some (.string r.bytes) ∧ w.cell? ⟨g, i * 3 + 2, none⟩ = some (.int .i64 (r.pos : Int)) := by
  have := h.at hi
  rwa [Nat.zero_add] at this

/-- A row of the call's own, opened: none at all, or from the block's first cell on. -/
theorem own_openT {w : World} {B : Nat} {r : Value} {n : Nat} {rs : List Tk} (h : w.ownsRow B 65 3 r n (tkCells rs)) :
    ∃ a cap, r = .slice a rs.length cap ∧ n = rs.length ∧ ((a = none ∧ rs = [] ∧ cap = 0) ∨ ∃ g, a = some ⟨g, 0, none⟩ ∧ B ≤ g ∧ g < w.heap.size) ∧ rs.length ≤ cap ∧ cap ≤ maxLen ∧ HoldsT w a rs := by
  have hn : n = rs.length := by have := h.1; rw [tkCells_len] at this; omega
  have h0 := h
  subst hn
  rcases h.2 with ⟨rfl, h2⟩ | ⟨g, cap, cur, rfl, hb, hg, hc, hm, _⟩
  · have : rs = [] := List.eq_nil_of_length_eq_zero h2
    subst this
    exact ⟨none, 0, rfl, rfl, .inl ⟨rfl, rfl, rfl⟩, Nat.le_refl _, by decide, HoldsT.nil⟩
  · refine ⟨_, cap, rfl, rfl, .inr ⟨g, rfl, hb, (Array.getElem?_eq_some_iff.1 hg).1⟩, hc, hm, ?_⟩
    intro b hb' j u hu
    obtain rfl : ⟨g, 0, none⟩ = b := by simpa using hb'
    exact h0.cells (g := g) rfl j u hu
/-- A row of pieces, to be read. -/
structure RowT (w : World) (v : Value) (rs : List Tk) : Prop where
  form : ∃ a cap, v = .slice a rs.length cap ∧ rs.length ≤ cap ∧ cap ≤ maxLen ∧ (rs ≠ [] → ∃ g, a = some ⟨g, 0, none⟩) ∧ HoldsT w a rs
theorem row_own {w : World} {B : Nat} {r : Value} {n : Nat} {rs : List Tk} (h : w.ownsRow B 65 3 r n (tkCells rs)) : RowT w r rs := by
  obtain ⟨a, cap, h1, _, h3, h4, h5, h6⟩ := own_openT h
  refine ⟨a, cap, h1, h4, h5, ?_, h6⟩
  intro hne
  rcases h3 with h3 | ⟨g, h3, _⟩
  · exact absurd h3.2.1 hne
  · exact ⟨g, h3⟩
theorem RowT.below {w w1 : World} {v : Value} {rs : List Tk} (h : RowT w v rs) (hb : Below w.heap.size w w1) : RowT w1 v rs := by
  obtain ⟨a, cap, h1, h2, h3, h4, h5⟩ := h.form
  exact ⟨a, cap, h1, h2, h3, h4, h5.below hb⟩

/-- What Tokens answers: the pieces, the place, the error. -/
def ansA : LexA → List Tk × Nat × Nat
  | .inl (p, e) => ([], p, e)
  | .inr ts => (ts, 0, 0)
def tokA (s : ByteArray) : List Tk × Nat × Nat := if 16384 < s.size then ([], 0, 4) else ansA (lexO s.data.toList 0)
theorem extract_list (s : ByteArray) (a n : Nat) : (s.extract a (a + n)).data.toList = (s.data.toList.drop a).take n := by
  obtain ⟨⟨l⟩⟩ := s
  simp [ByteArray.data_extract, ByteArray.size]
theorem extract_piece (s : ByteArray) (a n : Nat) : s.extract a (a + n) = ⟨((s.data.toList.drop a).take n).toArray⟩ := by
  have h := extract_list s a n
  generalize s.extract a (a + n) = t at *
  obtain ⟨⟨m⟩⟩ := t
  simp only at h
  rw [h]
theorem slice_text (W : World) (s : ByteArray) (p X : Nat) (h1 : p ≤ X) (h2 : X ≤ s.size) : (Instr.slice 9 (.string s) (some (.int .i64 (p : Int))) (some (.int .i64 (X : Int))) none).run Tryd.prog W = .ok (.string (s.extract p X)) W := by
  have := run_slice_string (P := Tryd.prog) W 9 s .i64 .i64 (p : Int) (X : Int) Tryd.underlying9 (by omega) (by omega) (by omega)
  rwa [Int.toNat_natCast, Int.toNat_natCast] at this
end Go.Proofs.YtfffjfccochccaaDoor

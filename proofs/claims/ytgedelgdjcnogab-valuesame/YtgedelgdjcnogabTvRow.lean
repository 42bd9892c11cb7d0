/- Trees of values in the memory: what stands in a value of that type, down to its lists' elements. -/
import Derived.Test.YtgedelgdjcnogabTvMath
import Derived.Test.YtgedelgdjcnogabRowG
namespace Go.Proofs.Ytgedelgdjcnogab
open Go.ChangeShapes Go.WideShapes Go.ChangeAt Go.RowKit
set_option linter.unusedVariables false
set_option linter.unusedSimpArgs false
set_option maxRecDepth 20000

def fdRows (l : List Fd) : List (List Value) := l.map Fd.cells
theorem fdr_len (l : List Fd) : ∀ r ∈ fdRows l, r.length = 4 := fun r hr => by simp only [fdRows, List.mem_map] at hr; obtain ⟨_, _, rfl⟩ := hr; rfl
/-- A row whose elements meet P, each by its cells. -/
def RowP {α : Type} (P : List Value → α → Prop) (w : World) (size : Nat) (v : Value) (xs : List α) : Prop :=
  ∃ rows : List (List Value), RowG w v size rows ∧ rows.length = xs.length ∧ ∀ (i : Nat) (x : α), xs[i]? = some x → ∃ r, rows[i]? = some r ∧ P r x
/-- An entry's cells. -/
def EnC (P : List Value → Tr → Prop) (w : World) (r : List Value) (e : Int × List Tr) : Prop := ∃ vt, r = [.int .i64 e.1, vt] ∧ Is64 e.1 ∧ RowP P w 5 vt e.2
/-- A tree's cells (down to n). -/
def TrC : Nat → World → List Value → Tr → Prop
  | 0, _, _, _ => False
  | n + 1, w, r, t => ∃ ve vr, r = [.int .i64 t.kind, .int .i64 t.n, .string t.s, ve, vr] ∧ Is64 t.kind ∧ Is64 t.n ∧ t.s.size ≤ 140737488351232 ∧ (∀ f ∈ t.rest, Is64 f.tag ∧ Is64 f.wire ∧ Is64 f.n ∧ f.b.size ≤ 140737488351232) ∧ RowG w vr 4 (fdRows t.rest) ∧ RowP (EnC (TrC n w) w) w 2 ve t.es
/-- A slice of trees, of entries. -/
abbrev TrsIn (n : Nat) (w : World) (v : Value) (ts : List Tr) : Prop := RowP (TrC n w) w 5 v ts
abbrev EnsIn (n : Nat) (w : World) (v : Value) (es : List (Int × List Tr)) : Prop := RowP (EnC (TrC n w) w) w 2 v es
/-- A tree's value. -/
def TrIn (n : Nat) (w : World) (v : Value) (t : Tr) : Prop := ∃ r, v = .agg r.toArray ∧ TrC n w r t

theorem RowP.mono {α : Type} {P Q : List Value → α → Prop} {w w1 : World} {size : Nat} {v : Value} {xs : List α} (h : RowP P w size v xs) (hb : Below w.heap.size w w1) (hp : ∀ r x, x ∈ xs → P r x → Q r x) : RowP Q w1 size v xs := by
  obtain ⟨rows, h1, h2, h3⟩ := h
  refine ⟨rows, h1.below hb, h2, fun i x hx => ?_⟩
  obtain ⟨r, g1, g2⟩ := h3 i x hx
  exact ⟨r, g1, hp r x (List.mem_of_getElem? hx) g2⟩
theorem RowP.imp {α : Type} {P Q : List Value → α → Prop} {w : World} {size : Nat} {v : Value} {xs : List α} (h : RowP P w size v xs) (hp : ∀ r x, x ∈ xs → P r x → Q r x) : RowP Q w size v xs := h.mono (Below.refl _ _) hp
theorem TrC.below : ∀ {n : Nat} {w w1 : World} {r : List Value} {t : Tr}, TrC n w r t → Below w.heap.size w w1 → TrC n w1 r t
  | 0, _, _, _, _, h, _ => h
  | n + 1, w, w1, r, t, h, hb => by
    obtain ⟨ve, vr, h1, h2, h3, h4, h5, h6, h7⟩ := h
    refine ⟨ve, vr, h1, h2, h3, h4, h5, h6.below hb, h7.mono hb fun r x hx hp => ?_⟩
    obtain ⟨vt, g1, g2, g3⟩ := hp
    exact ⟨vt, g1, g2, g3.mono hb fun r x hx hp => hp.below hb⟩
theorem RowP.belowT {n : Nat} {w w1 : World} {v : Value} {ts : List Tr} (h : TrsIn n w v ts) (hb : Below w.heap.size w w1) : TrsIn n w1 v ts := RowP.mono h hb fun _ _ _ hp => hp.below hb
theorem RowP.belowE {n : Nat} {w w1 : World} {v : Value} {es : List (Int × List Tr)} (h : EnsIn n w v es) (hb : Below w.heap.size w w1) : EnsIn n w1 v es :=
  RowP.mono h hb fun _ _ _ hp => by
    obtain ⟨vt, g1, g2, g3⟩ := hp
    exact ⟨vt, g1, g2, g3.belowT hb⟩
theorem TrIn.below {n : Nat} {w w1 : World} {v : Value} {t : Tr} (h : TrIn n w v t) (hb : Below w.heap.size w w1) : TrIn n w1 v t := by
  obtain ⟨r, h1, h2⟩ := h
  exact ⟨r, h1, h2.below hb⟩
/-- From n on. -/
theorem TrC.more : ∀ {n : Nat} {w : World} {r : List Value} {t : Tr}, TrC n w r t → TrC (n + 1) w r t
  | 0, _, _, _, h => h.elim
  | n + 1, w, r, t, h => by
    obtain ⟨ve, vr, h1, h2, h3, h4, h5, h6, h7⟩ := h
    refine ⟨ve, vr, h1, h2, h3, h4, h5, h6, h7.imp fun r x hx hp => ?_⟩
    obtain ⟨vt, g1, g2, g3⟩ := hp
    exact ⟨vt, g1, g2, g3.imp fun r x hx hp => hp.more⟩
/-- A row, opened: the slice and each element's cells. -/
theorem RowP.open {α : Type} {P : List Value → α → Prop} {w : World} {size : Nat} {v : Value} {xs : List α} (h : RowP P w size v xs) : ∃ a cap, v = .slice a xs.length cap ∧ xs.length ≤ cap ∧ cap ≤ maxLen ∧ (xs = [] ∨ ∃ g off, a = some ⟨g, off, none⟩) ∧ (a = none → cap = 0) ∧
    ∀ g off, a = some ⟨g, off, none⟩ → ∀ (i : Nat) (x : α), xs[i]? = some x → ∃ r, P r x ∧ ∀ j u, r[j]? = some u → w.cell? ⟨g, off + i * size + j, none⟩ = some u := by
  obtain ⟨rows, h1, h2, h3⟩ := h
  obtain ⟨a, cap, e1, e2, e3, e0, e4⟩ := h1.form
  obtain ⟨_, _, e1', _, _, _, e5⟩ := h1.open
  rw [e1] at e1'
  simp only [Value.slice.injEq] at e1'
  obtain ⟨rfl, _, rfl⟩ := e1'
  rw [h2] at e1 e2
  refine ⟨a, cap, e1, e2, e3, ?_, e0, fun g off ha i x hx => ?_⟩
  · cases xs with
    | nil => exact .inl rfl
    | cons y l =>
      obtain ⟨g, off, q, _⟩ := e4 (by intro e; rw [e] at h2; simp at h2)
      exact .inr ⟨g, off, q⟩
  · obtain ⟨r, g1, g2⟩ := h3 i x hx
    exact ⟨r, g2, e5 g off ha i r g1⟩
/-- An element's cells. -/
theorem RowP.get {α : Type} {P : List Value → α → Prop} {w : World} {size : Nat} {a : Option Addr} {N cap : Nat} {xs : List α} (h : RowP P w size (.slice a N cap) xs) {i : Nat} {x : α} (hi : xs[i]? = some x) :
    ∃ g off, a = some ⟨g, off, none⟩ ∧ ∃ r, P r x ∧ ∀ j u, r[j]? = some u → w.cell? ⟨g, off + i * size + j, none⟩ = some u := by
  obtain ⟨a', cap', e1, e2, e3, e4, e5, e6⟩ := h.open
  simp only [Value.slice.injEq] at e1
  obtain ⟨rfl, _, _⟩ := e1
  rcases e4 with rfl | ⟨g, off, rfl⟩
  · simp at hi
  · exact ⟨g, off, rfl, e6 g off rfl i x hi⟩
theorem RowP.nil {α : Type} (P : List Value → α → Prop) (w : World) (size : Nat) : RowP P w size (.slice none 0 0) [] := ⟨[], RowG.nil w size, rfl, fun i x h => by simp at h⟩
/-- A row of trees: an element's five cells. -/
theorem trs_at {n : Nat} {w : World} {g off : Nat} {i : Nat} {t : Tr} (h : ∃ r, TrC (n + 1) w r t ∧ ∀ j u, r[j]? = some u → w.cell? ⟨g, off + i * 5 + j, none⟩ = some u) :
    ∃ ve vr, w.cell? ⟨g, off + i * 5, none⟩ = some (.int .i64 t.kind) ∧ w.cell? ⟨g, off + i * 5 + 1, none⟩ = some (.int .i64 t.n) ∧ w.cell? ⟨g, off + i * 5 + 2, none⟩ = some (.string t.s) ∧ w.cell? ⟨g, off + i * 5 + 3, none⟩ = some ve ∧ w.cell? ⟨g, off + i * 5 + 4, none⟩ = some vr ∧
      TrIn (n + 1) w (.agg #[.int .i64 t.kind, .int .i64 t.n, .string t.s, ve, vr]) t ∧ EnsIn n w ve t.es ∧ RowG w vr 4 (fdRows t.rest) := by
  obtain ⟨r, h0, hc⟩ := h
  obtain ⟨ve, vr, rfl, h2, h3, h4, h5, h6, h7⟩ := h0
  exact ⟨ve, vr, hc 0 _ rfl, hc 1 _ rfl, hc 2 _ rfl, hc 3 _ rfl, hc 4 _ rfl, ⟨_, rfl, ve, vr, rfl, h2, h3, h4, h5, h6, h7⟩, h7, h6⟩
/-- .. with its slices opened. -/
theorem trs_get {n : Nat} {w : World} {g off : Nat} {i : Nat} {t : Tr} (h : ∃ r, TrC n w r t ∧ ∀ j u, r[j]? = some u → w.cell? ⟨g, off + i * 5 + j, none⟩ = some u) :
    ∃ a1 n1 c1 a2 n2 c2, w.cell? ⟨g, off + i * 5, none⟩ = some (.int .i64 t.kind) ∧ w.cell? ⟨g, off + i * 5 + 1, none⟩ = some (.int .i64 t.n) ∧ w.cell? ⟨g, off + i * 5 + 2, none⟩ = some (.string t.s) ∧ w.cell? ⟨g, off + i * 5 + 3, none⟩ = some (.slice a1 n1 c1) ∧ w.cell? ⟨g, off + i * 5 + 4, none⟩ = some (.slice a2 n2 c2) ∧
      TrIn n w (.agg #[.int .i64 t.kind, .int .i64 t.n, .string t.s, .slice a1 n1 c1, .slice a2 n2 c2]) t := by
  cases n with
  | zero => obtain ⟨r, h, _⟩ := h; exact h.elim
  | succ n =>
    obtain ⟨ve, vr, h0, h1, h2, h3, h4, h5, h6, h7⟩ := trs_at h
    obtain ⟨a1, c1, rfl, _⟩ := h6.open
    obtain ⟨a2, c2, rfl, _⟩ := h7.form2
    exact ⟨_, _, _, _, _, _, h0, h1, h2, h3, h4, h5⟩
/-- A row of entries: an element's two cells. -/
theorem ens_at {n : Nat} {w : World} {g off : Nat} {i : Nat} {e : Int × List Tr} (h : ∃ r, EnC (TrC n w) w r e ∧ ∀ j u, r[j]? = some u → w.cell? ⟨g, off + i * 2 + j, none⟩ = some u) :
    ∃ vt, w.cell? ⟨g, off + i * 2, none⟩ = some (.int .i64 e.1) ∧ w.cell? ⟨g, off + i * 2 + 1, none⟩ = some vt ∧ Is64 e.1 ∧ TrsIn n w vt e.2 := by
  obtain ⟨r, ⟨vt, rfl, h2, h3⟩, hc⟩ := h
  exact ⟨vt, hc 0 _ rfl, hc 1 _ rfl, h2, h3⟩
/-- A tree, opened. -/
theorem TrIn.open {n : Nat} {w : World} {v : Value} {t : Tr} (h : TrIn n w v t) : ∃ m ve vr, n = m + 1 ∧ v = .agg #[.int .i64 t.kind, .int .i64 t.n, .string t.s, ve, vr] ∧ Is64 t.kind ∧ Is64 t.n ∧ t.s.size ≤ 140737488351232 ∧ (∀ f ∈ t.rest, Is64 f.tag ∧ Is64 f.wire ∧ Is64 f.n ∧ f.b.size ≤ 140737488351232) ∧ RowG w vr 4 (fdRows t.rest) ∧ EnsIn m w ve t.es := by
  obtain ⟨r, rfl, h⟩ := h
  cases n with
  | zero => exact h.elim
  | succ m =>
    obtain ⟨ve, vr, rfl, h2, h3, h4, h5, h6, h7⟩ := h
    exact ⟨m, ve, vr, rfl, rfl, h2, h3, h4, h5, h6, h7⟩
theorem rest_holds {w : World} {v : Value} {l : List Fd} (h : RowG w v 4 (fdRows l)) : ∃ a cap, v = .slice a l.length cap ∧ l.length ≤ cap ∧ cap ≤ maxLen ∧ (l = [] ∨ ∃ g off, a = some ⟨g, off, none⟩) ∧ (a = none → cap = 0) ∧
    ∀ g off, a = some ⟨g, off, none⟩ → ∀ (i : Nat) (f : Fd), l[i]? = some f → w.cell? ⟨g, off + i * 4, none⟩ = some (.int .i64 f.tag) ∧ w.cell? ⟨g, off + i * 4 + 1, none⟩ = some (.int .i64 f.wire) ∧ w.cell? ⟨g, off + i * 4 + 2, none⟩ = some (.int .i64 f.n) ∧ w.cell? ⟨g, off + i * 4 + 3, none⟩ = some (.string f.b) := by
  obtain ⟨a, cap, e1, e2, e3, e4, e5, e6⟩ := RowP.open (P := fun r (f : Fd) => r = f.cells) (xs := l) ⟨fdRows l, h, by simp [fdRows], fun i x hx => ⟨x.cells, by simp [fdRows, hx], rfl⟩⟩
  refine ⟨a, cap, e1, e2, e3, e4, e5, fun g off ha i f hf => ?_⟩
  obtain ⟨r, rfl, hc⟩ := e6 g off ha i f hf
  exact ⟨hc 0 _ rfl, hc 1 _ rfl, hc 2 _ rfl, hc 3 _ rfl⟩
end Go.Proofs.Ytgedelgdjcnogab

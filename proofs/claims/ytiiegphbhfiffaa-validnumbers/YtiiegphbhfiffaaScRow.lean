/- Schemas in the memory: what stands in a value of that type, down to its lists' elements. -/
import Derived.Test.YtiiegphbhfiffaaRowG
import Derived.Test.YtiiegphbhfiffaaScMath
namespace Go.Proofs.Ytiiegphbhfiffaa
open Go.ChangeShapes Go.WideShapes Go.ChangeAt Go.RowKit
set_option linter.unusedVariables false
set_option linter.unusedSimpArgs false
set_option maxRecDepth 20000

def flRows (fs : List FlS) : List (List Value) := fs.map FlS.cells
def inRows (ns : List Int) : List (List Value) := ns.map fun n => [.int .i64 n]
def nmRows (vs : List NmS) : List (List Value) := vs.map NmS.cells
def mtRows (ms : List MtS) : List (List Value) := ms.map MtS.cells
/-- Messages in a slice. -/
def MsIn (w : World) (v : Value) (ms : List MsS) : Prop := ∃ rows : List (List Value), RowG w v 3 rows ∧ rows.length = ms.length ∧
  ∀ (i : Nat) (m : MsS), ms[i]? = some m → ∃ vf vr, rows[i]? = some [.string m.name, vf, vr] ∧ RowG w vf 5 (flRows m.fields) ∧ RowG w vr 1 (inRows m.reserved)
/-- Enumerations in a slice. -/
def EnIn (w : World) (v : Value) (es : List EnS) : Prop := ∃ rows : List (List Value), RowG w v 2 rows ∧ rows.length = es.length ∧
  ∀ (i : Nat) (e : EnS), es[i]? = some e → ∃ vv, rows[i]? = some [.string e.name, vv] ∧ RowG w vv 2 (nmRows e.values)
/-- A schema's value. -/
def ScIn (w : World) (v : Value) (s : ScS) : Prop := ∃ vm ve vt, v = .agg #[.string s.name, vm, ve, vt] ∧ MsIn w vm s.msgs ∧ EnIn w ve s.enums ∧ RowG w vt 3 (mtRows s.methods)
theorem MsIn.below {w w1 : World} {v : Value} {ms : List MsS} (h : MsIn w v ms) (hb : Below w.heap.size w w1) : MsIn w1 v ms := by
  obtain ⟨rows, h1, h2, h3⟩ := h
  refine ⟨rows, h1.below hb, h2, fun i m hm => ?_⟩
  obtain ⟨vf, vr, g1, g2, g3⟩ := h3 i m hm
  exact ⟨vf, vr, g1, g2.below hb, g3.below hb⟩
theorem EnIn.below {w w1 : World} {v : Value} {es : List EnS} (h : EnIn w v es) (hb : Below w.heap.size w w1) : EnIn w1 v es := by
  obtain ⟨rows, h1, h2, h3⟩ := h
  refine ⟨rows, h1.below hb, h2, fun i m hm => ?_⟩
  obtain ⟨vv, g1, g2⟩ := h3 i m hm
  exact ⟨vv, g1, g2.below hb⟩
theorem ScIn.below {w w1 : World} {v : Value} {s : ScS} (h : ScIn w v s) (hb : Below w.heap.size w w1) : ScIn w1 v s := by
  obtain ⟨vm, ve, vt, h1, h2, h3, h4⟩ := h
  exact ⟨vm, ve, vt, h1, h2.below hb, h3.below hb, h4.below hb⟩
theorem ScIn.zero (w : World) : ScIn w (.agg #[.string ⟨#[]⟩, .slice none 0 0, .slice none 0 0, .slice none 0 0]) zeroS :=
  ⟨_, _, _, rfl, ⟨[], RowG.nil w 3, rfl, fun i m hm => by simp [zeroS] at hm⟩, ⟨[], RowG.nil w 2, rfl, fun i m hm => by simp [zeroS] at hm⟩, RowG.nil w 3⟩
/-- Messages, opened: the slice, and each one's three cells. -/
theorem MsIn.open {w : World} {v : Value} {ms : List MsS} (h : MsIn w v ms) : ∃ a cap, v = .slice a ms.length cap ∧ ms.length ≤ cap ∧ cap ≤ maxLen ∧ (ms ≠ [] → ∃ g off, a = some ⟨g, off, none⟩) ∧
    ∀ g off, a = some ⟨g, off, none⟩ → ∀ (i : Nat) (m : MsS), ms[i]? = some m → ∃ vf vr, w.cell? ⟨g, off + i * 3, none⟩ = some (.string m.name) ∧ w.cell? ⟨g, off + i * 3 + 1, none⟩ = some vf ∧ w.cell? ⟨g, off + i * 3 + 2, none⟩ = some vr ∧ RowG w vf 5 (flRows m.fields) ∧ RowG w vr 1 (inRows m.reserved) := by
  obtain ⟨rows, h1, h2, h3⟩ := h
  obtain ⟨a, cap, e1, e2, e3, e4, e5⟩ := h1.open
  rw [h2] at e1 e2
  refine ⟨a, cap, e1, e2, e3, fun hne => e4 (fun e => ?_), fun g off ha i m hm => ?_⟩
  · rw [e] at h2; exact hne (List.eq_nil_of_length_eq_zero h2.symm)
  · obtain ⟨vf, vr, g1, g2, g3⟩ := h3 i m hm
    exact ⟨vf, vr, e5 g off ha i _ g1 0 _ rfl, e5 g off ha i _ g1 1 _ rfl, e5 g off ha i _ g1 2 _ rfl, g2, g3⟩
theorem EnIn.open {w : World} {v : Value} {es : List EnS} (h : EnIn w v es) : ∃ a cap, v = .slice a es.length cap ∧ es.length ≤ cap ∧ cap ≤ maxLen ∧ (es ≠ [] → ∃ g off, a = some ⟨g, off, none⟩) ∧
    ∀ g off, a = some ⟨g, off, none⟩ → ∀ (i : Nat) (e : EnS), es[i]? = some e → ∃ vv, w.cell? ⟨g, off + i * 2, none⟩ = some (.string e.name) ∧ w.cell? ⟨g, off + i * 2 + 1, none⟩ = some vv ∧ RowG w vv 2 (nmRows e.values) := by
  obtain ⟨rows, h1, h2, h3⟩ := h
  obtain ⟨a, cap, e1, e2, e3, e4, e5⟩ := h1.open
  rw [h2] at e1 e2
  refine ⟨a, cap, e1, e2, e3, fun hne => e4 (fun e => ?_), fun g off ha i m hm => ?_⟩
  · rw [e] at h2; exact hne (List.eq_nil_of_length_eq_zero h2.symm)
  · obtain ⟨vv, g1, g2⟩ := h3 i m hm
    exact ⟨vv, e5 g off ha i _ g1 0 _ rfl, e5 g off ha i _ g1 1 _ rfl, g2⟩
/-- A row of fields, opened: each one's five cells. -/
theorem row_fields {w : World} {v : Value} {fs : List FlS} (h : RowG w v 5 (flRows fs)) : ∃ a cap, v = .slice a fs.length cap ∧ fs.length ≤ cap ∧ cap ≤ maxLen ∧ (fs ≠ [] → ∃ g off, a = some ⟨g, off, none⟩) ∧
    ∀ g off, a = some ⟨g, off, none⟩ → ∀ (i : Nat) (f : FlS), fs[i]? = some f → w.cell? ⟨g, off + i * 5, none⟩ = some (.string f.name) ∧ w.cell? ⟨g, off + i * 5 + 1, none⟩ = some (.int .i64 f.tag) ∧ w.cell? ⟨g, off + i * 5 + 2, none⟩ = some (.int .i64 f.label) ∧ w.cell? ⟨g, off + i * 5 + 3, none⟩ = some (.int .i64 f.kind) ∧ w.cell? ⟨g, off + i * 5 + 4, none⟩ = some (.string f.tname) := by
  obtain ⟨a, cap, e1, e2, e3, e4, e5⟩ := h.open
  have hl : (flRows fs).length = fs.length := by simp [flRows]
  rw [hl] at e1 e2
  refine ⟨a, cap, e1, e2, e3, fun hne => e4 (fun e => hne (by simpa [flRows] using e)), fun g off ha i f hf => ?_⟩
  have hr : (flRows fs)[i]? = some f.cells := by simp [flRows, hf]
  exact ⟨e5 g off ha i _ hr 0 _ rfl, e5 g off ha i _ hr 1 _ rfl, e5 g off ha i _ hr 2 _ rfl, e5 g off ha i _ hr 3 _ rfl, e5 g off ha i _ hr 4 _ rfl⟩
theorem row_ints {w : World} {v : Value} {ns : List Int} (h : RowG w v 1 (inRows ns)) : ∃ a cap, v = .slice a ns.length cap ∧ ns.length ≤ cap ∧ cap ≤ maxLen ∧ (ns ≠ [] → ∃ g off, a = some ⟨g, off, none⟩) ∧
    ∀ g off, a = some ⟨g, off, none⟩ → ∀ (i : Nat) (n : Int), ns[i]? = some n → w.cell? ⟨g, off + i, none⟩ = some (.int .i64 n) := by
  obtain ⟨a, cap, e1, e2, e3, e4, e5⟩ := h.open
  have hl : (inRows ns).length = ns.length := by simp [inRows]
  rw [hl] at e1 e2
  refine ⟨a, cap, e1, e2, e3, fun hne => e4 (fun e => hne (by simpa [inRows] using e)), fun g off ha i n hn => ?_⟩
  have hr : (inRows ns)[i]? = some [.int .i64 n] := by simp [inRows, hn]
  have := e5 g off ha i _ hr 0 _ rfl
  rwa [Nat.mul_one, Nat.add_zero] at this
theorem row_named {w : World} {v : Value} {vs : List NmS} (h : RowG w v 2 (nmRows vs)) : ∃ a cap, v = .slice a vs.length cap ∧ vs.length ≤ cap ∧ cap ≤ maxLen ∧ (vs ≠ [] → ∃ g off, a = some ⟨g, off, none⟩) ∧
    ∀ g off, a = some ⟨g, off, none⟩ → ∀ (i : Nat) (f : NmS), vs[i]? = some f → w.cell? ⟨g, off + i * 2, none⟩ = some (.string f.name) ∧ w.cell? ⟨g, off + i * 2 + 1, none⟩ = some (.int .i64 f.n) := by
  obtain ⟨a, cap, e1, e2, e3, e4, e5⟩ := h.open
  have hl : (nmRows vs).length = vs.length := by simp [nmRows]
  rw [hl] at e1 e2
  refine ⟨a, cap, e1, e2, e3, fun hne => e4 (fun e => hne (by simpa [nmRows] using e)), fun g off ha i f hf => ?_⟩
  have hr : (nmRows vs)[i]? = some f.cells := by simp [nmRows, hf]
  exact ⟨e5 g off ha i _ hr 0 _ rfl, e5 g off ha i _ hr 1 _ rfl⟩
theorem row_methods {w : World} {v : Value} {ms : List MtS} (h : RowG w v 3 (mtRows ms)) : ∃ a cap, v = .slice a ms.length cap ∧ ms.length ≤ cap ∧ cap ≤ maxLen ∧ (ms ≠ [] → ∃ g off, a = some ⟨g, off, none⟩) ∧
    ∀ g off, a = some ⟨g, off, none⟩ → ∀ (i : Nat) (f : MtS), ms[i]? = some f → w.cell? ⟨g, off + i * 3, none⟩ = some (.string f.name) ∧ w.cell? ⟨g, off + i * 3 + 1, none⟩ = some (.string f.inn) ∧ w.cell? ⟨g, off + i * 3 + 2, none⟩ = some (.string f.out) := by
  obtain ⟨a, cap, e1, e2, e3, e4, e5⟩ := h.open
  have hl : (mtRows ms).length = ms.length := by simp [mtRows]
  rw [hl] at e1 e2
  refine ⟨a, cap, e1, e2, e3, fun hne => e4 (fun e => hne (by simpa [mtRows] using e)), fun g off ha i f hf => ?_⟩
  have hr : (mtRows ms)[i]? = some f.cells := by simp [mtRows, hf]
  exact ⟨e5 g off ha i _ hr 0 _ rfl, e5 g off ha i _ hr 1 _ rfl, e5 g off ha i _ hr 2 _ rfl⟩
theorem MsIn.get {w : World} {a : Option Addr} {N cap : Nat} {ms : List MsS} (h : MsIn w (.slice a N cap) ms) {i : Nat} {m : MsS} (hi : ms[i]? = some m) : ∃ g off vf vr, a = some ⟨g, off, none⟩ ∧ w.cell? ⟨g, off + i * 3, none⟩ = some (.string m.name) ∧ w.cell? ⟨g, off + i * 3 + 1, none⟩ = some vf ∧ w.cell? ⟨g, off + i * 3 + 2, none⟩ = some vr ∧ RowG w vf 5 (flRows m.fields) ∧ RowG w vr 1 (inRows m.reserved) := by
  obtain ⟨a', cap', e1, e2, e3, e4, e5⟩ := h.open
  simp only [Value.slice.injEq] at e1
  obtain ⟨rfl, _, _⟩ := e1
  obtain ⟨g, off, rfl⟩ := e4 (by intro e; rw [e] at hi; simp at hi)
  obtain ⟨vf, vr, h1, h2, h3, h4, h5⟩ := e5 g off rfl i m hi
  exact ⟨g, off, vf, vr, rfl, h1, h2, h3, h4, h5⟩
theorem EnIn.get {w : World} {a : Option Addr} {N cap : Nat} {ms : List EnS} (h : EnIn w (.slice a N cap) ms) {i : Nat} {m : EnS} (hi : ms[i]? = some m) : ∃ g off vv, a = some ⟨g, off, none⟩ ∧ w.cell? ⟨g, off + i * 2, none⟩ = some (.string m.name) ∧ w.cell? ⟨g, off + i * 2 + 1, none⟩ = some vv ∧ RowG w vv 2 (nmRows m.values) := by
  obtain ⟨a', cap', e1, e2, e3, e4, e5⟩ := h.open
  simp only [Value.slice.injEq] at e1
  obtain ⟨rfl, _, _⟩ := e1
  obtain ⟨g, off, rfl⟩ := e4 (by intro e; rw [e] at hi; simp at hi)
  obtain ⟨vv, h1, h2, h3⟩ := e5 g off rfl i m hi
  exact ⟨g, off, vv, rfl, h1, h2, h3⟩
theorem MsIn.form2 {w : World} {v : Value} {ms : List MsS} (h : MsIn w v ms) : ∃ a cap, v = .slice a ms.length cap ∧ ms.length ≤ cap ∧ cap ≤ 9223372036854775807 := by
  obtain ⟨a', cap', e1, e2, e3, _⟩ := h.open
  exact ⟨a', cap', e1, e2, by unfold maxLen at e3; omega⟩
theorem EnIn.form2 {w : World} {v : Value} {ms : List EnS} (h : EnIn w v ms) : ∃ a cap, v = .slice a ms.length cap ∧ ms.length ≤ cap ∧ cap ≤ 9223372036854775807 := by
  obtain ⟨a', cap', e1, e2, e3, _⟩ := h.open
  exact ⟨a', cap', e1, e2, by unfold maxLen at e3; omega⟩
end Go.Proofs.Ytiiegphbhfiffaa

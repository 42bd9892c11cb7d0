/- The first tree of a copy's first entry: where it lies. -/
import Derived.Test.YtkombjmookplpaaTvCopy
namespace Go.Proofs.Ytkombjmookplpaa
open Go.ChangeShapes Go.WideShapes Go.ChangeAt Go.RowKit
set_option linter.unusedVariables false
set_option linter.unusedSimpArgs false
set_option maxRecDepth 20000

theorem head_cells {cur : Array Value} {N : Nat} {rows : List (List Value)} {r : List Value} (h : cur.toList.take N = rows.flatten) (hr : rows[0]? = some r) {j : Nat} (hj : j < r.length) : cur[j]? = r[j]? := by
  cases rows with
  | nil => simp at hr
  | cons a l =>
    obtain rfl : a = r := by simpa using hr
    have e : cur.toList = a ++ (l.flatten ++ cur.toList.drop N) := by
      have := List.take_append_drop N cur.toList
      rw [h] at this
      exact this.symm.trans (by simp)
    rw [← Array.getElem?_toList, e, List.getElem?_append_left hj]
theorem TrO.first {n B : Nat} {w : World} {r : List Value} {t : Tr} {bs : List Nat} {e : Int × List Tr} (h : TrO (n + 2) B w r t bs) (he : t.es[0]? = some e) (hl : 1 ≤ e.2.length) :
    ∃ g1 c1 a2 n2 c2 cs1 g2 k2 cs2 v0 v1 v2 v3 v4, r = [.int .i64 t.kind, .int .i64 t.n, .string t.s, .slice (some ⟨g1, 0, none⟩) t.es.length c1, .slice a2 n2 c2] ∧ Blk w g1 cs1 50 ∧ cs1[0]? = some (.int .i64 e.1) ∧ cs1[1]? = some (.slice (some ⟨g2, 0, none⟩) e.2.length k2) ∧ Blk w g2 cs2 25 ∧
      cs2[0]? = some v0 ∧ cs2[1]? = some v1 ∧ cs2[2]? = some v2 ∧ cs2[3]? = some v3 ∧ cs2[4]? = some v4 ∧ B ≤ g1 ∧ B ≤ g2 ∧ g1 ≠ g2 := by
  obtain ⟨ve, vr, rows, bss, rfl, _, _, _, _, h6, h7, _⟩ := h
  obtain ⟨a2, c2, rfl⟩ := own_form h6
  have hlen : 0 < t.es.length := (List.getElem?_eq_some_iff.1 he).1
  rcases h7.own.2 with ⟨_, h0⟩ | ⟨g1, c1, cs1, rfl, q1, q2, q3, q4, q5, q6⟩
  · omega
  obtain ⟨r0, b0, r1, r2, r3⟩ := h7.each 0 e he
  obtain ⟨vt, rows', bss', rfl, _, g3, _⟩ := r3
  rcases g3.own.2 with ⟨_, h0⟩ | ⟨g2, k2, cs2, rfl, p1, p2, p3, p4, p5, p6⟩
  · omega
  obtain ⟨y, hy⟩ : ∃ y, e.2[0]? = some y := ⟨_, List.getElem?_eq_getElem (by omega)⟩
  obtain ⟨ry, by', s1, s2, s3⟩ := g3.each 0 y hy
  obtain ⟨z1, n1, e1, z2, n2, e2, rfl⟩ := s3.open
  refine ⟨g1, c1, a2, _, c2, cs1, g2, k2, cs2, _, _, _, _, _, rfl, q2, (head_cells q6 r1 (j := 0) (by simp)).trans rfl, (head_cells q6 r1 (j := 1) (by simp)).trans rfl, p2, (head_cells p6 s1 (j := 0) (by simp)).trans rfl, (head_cells p6 s1 (j := 1) (by simp)).trans rfl, (head_cells p6 s1 (j := 2) (by simp)).trans rfl, (head_cells p6 s1 (j := 3) (by simp)).trans rfl, (head_cells p6 s1 (j := 4) (by simp)).trans rfl, q1, p1, fun eg => ?_⟩
  subst eg
  rw [q2] at p2
  simp at p2
end Go.Proofs.Ytkombjmookplpaa

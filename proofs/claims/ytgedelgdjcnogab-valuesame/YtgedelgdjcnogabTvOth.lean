/- A tree of one's own, one of its entries' trees turned into a leaf, in place. -/
import Derived.Test.YtgedelgdjcnogabTvSet
import Derived.Test.YtgedelgdjcnogabSet5
namespace Go.Proofs.Ytgedelgdjcnogab
open Go.ChangeShapes Go.WideShapes Go.ChangeAt Go.RowKit
set_option linter.unusedVariables false
set_option linter.unusedSimpArgs false
set_option maxRecDepth 20000

theorem set5_sm {w : World} {g o : Nat} {a b c d e : Value} {bs : List Nat} (h : g ∉ bs) : Sm w (set5 w g o a b c d e) bs := by
  intro k hk
  have hne : k ≠ g := fun e => h (e ▸ hk)
  unfold set5
  rw [Below.heap_setCell _ _ _ _ hne, Below.heap_setCell _ _ _ _ hne, Below.heap_setCell _ _ _ _ hne, Below.heap_setCell _ _ _ _ hne, Below.heap_setCell _ _ _ _ hne]
theorem flatten_set_count {bss : List (List Nat)} {i : Nat} {b : List Nat} (hb : bss[i]? = some b) (c : List Nat) (hc : ∀ k, c.count k ≤ b.count k) : ∀ k, (bss.set i c).flatten.count k ≤ bss.flatten.count k := by
  induction bss generalizing i with
  | nil => simp at hb
  | cons x l ih =>
    intro k
    cases i with
    | zero =>
      obtain rfl : x = b := by simpa using hb
      simp only [List.set_cons_zero, List.flatten_cons, List.count_append]
      have := hc k; omega
    | succ i =>
      have := ih (i := i) (by simpa using hb) k
      simp only [List.set_cons_succ, List.flatten_cons, List.count_append]
      omega
theorem count_mem_le {bss : List (List Nat)} {i : Nat} {b : List Nat} (hb : bss[i]? = some b) (k : Nat) : b.count k ≤ bss.flatten.count k := by
  induction bss generalizing i with
  | nil => simp at hb
  | cons x l ih =>
    simp only [List.flatten_cons, List.count_append]
    cases i with
    | zero =>
      obtain rfl : x = b := by simpa using hb
      omega
    | succ i => have := ih (i := i) (by simpa using hb); omega
theorem count_two {bss : List (List Nat)} {i j : Nat} {a b : List Nat} (ha : bss[i]? = some a) (hb : bss[j]? = some b) (hij : i < j) (k : Nat) : a.count k + b.count k ≤ bss.flatten.count k := by
  induction bss generalizing i j with
  | nil => simp at ha
  | cons x l ih =>
    simp only [List.flatten_cons, List.count_append]
    cases j with
    | zero => omega
    | succ j =>
      cases i with
      | zero =>
        obtain rfl : x = a := by simpa using ha
        have := count_mem_le (bss := l) (i := j) (by simpa using hb) k
        omega
      | succ i =>
        have := ih (i := i) (j := j) (by simpa using ha) (by simpa using hb) (by omega)
        omega
/-- A leaf in the place of a tree. -/
theorem RowO.setLeaf {n B g cap : Nat} {w : World} {ts : List Tr} {rows : List (List Value)} {bss : List (List Nat)} (h : RowO (TrO n B) B 25 5 w (.slice (some ⟨g, 0, none⟩) ts.length cap) ts rows bss) (hg : g ∉ bss.flatten) {j : Nat} (hj : j < ts.length) {x : Tr} {a b c d e : Value} (hx : ∀ W, TrO n B W [a, b, c, d, e] x []) :
    RowO (TrO n B) B 25 5 (set5 w g (j * 5) a b c d e) (.slice (some ⟨g, 0, none⟩) ts.length cap) (ts.set j x) (rows.set j [a, b, c, d, e]) (bss.set j []) := by
  have hr : j < rows.length := by rw [h.len]; exact hj
  have hb : j < bss.length := by rw [h.blen]; exact hj
  refine ⟨by rw [List.length_set]; exact own_set5 h.own h.wide hr a b c d e, by rw [List.length_set, List.length_set]; exact h.len, by rw [List.length_set, List.length_set]; exact h.blen, fun r hq => ?_, fun i y hy => ?_⟩
  · rcases List.mem_or_eq_of_mem_set hq with hq | rfl
    · exact h.wide r hq
    · rfl
  · rw [List.getElem?_set] at hy
    split at hy
    · rename_i hij
      subst hij
      obtain rfl : x = y := by simpa using hy
      exact ⟨_, [], by rw [List.getElem?_set, if_pos rfl, if_pos hr], by rw [List.getElem?_set, if_pos rfl, if_pos hb], hx _⟩
    · rename_i hij
      obtain ⟨r, bb, q1, q2, q3⟩ := h.each i y hy
      exact ⟨r, bb, by rw [List.getElem?_set, if_neg hij]; exact q1, by rw [List.getElem?_set, if_neg hij]; exact q2, q3.sm (set5_sm fun hk => hg (List.mem_flatten.2 ⟨bb, List.mem_of_getElem? q2, hk⟩))⟩
theorem nodup_count {l m : List Nat} (h : m.Nodup) (hc : ∀ k, l.count k ≤ m.count k) : l.Nodup := List.nodup_iff_count.2 fun k => Nat.le_trans (hc k) (List.nodup_iff_count.1 h k)
theorem mem_count {l m : List Nat} (hc : ∀ k, l.count k ≤ m.count k) {k : Nat} (hk : k ∈ l) : k ∈ m := List.count_pos_iff.1 (Nat.lt_of_lt_of_le (List.count_pos_iff.2 hk) (hc k))
/-- An entry of a tree of one's own. -/
theorem TrO.entry {n B : Nat} {w : World} {t : Tr} {K N : Value} {S ve vr : Value} {bs : List Nat} (h : TrO (n + 1) B w [K, N, S, ve, vr] t bs) {i : Nat} {e : Int × List Tr} (hi : t.es[i]? = some e) :
    ∃ ge ec a c, ve = .slice (some ⟨ge, 0, none⟩) t.es.length ec ∧ w.cell? ⟨ge, i * 2, none⟩ = some (.int .i64 e.1) ∧ w.cell? ⟨ge, i * 2 + 1, none⟩ = some (.slice a e.2.length c) ∧ e.2.length ≤ c ∧ c ≤ maxLen ∧ (e.2 = [] ∨ ∃ g, a = some ⟨g, 0, none⟩ ∧ g ∈ bs) ∧
      ∀ (j : Nat) (x : Tr), e.2[j]? = some x → ∀ g, a = some ⟨g, 0, none⟩ → w.cell? ⟨g, j * 5, none⟩ = some (.int .i64 x.kind) := by
  obtain ⟨ve', vr', rows, bss, h1, h2, h3, h4, h5, h6, h7, rfl⟩ := h
  simp only [List.cons.injEq, and_true] at h1
  obtain ⟨-, -, -, rfl, rfl⟩ := h1
  obtain ⟨r, b, q1, q2, vt, rs, bss', rfl, q4, q5, rfl⟩ := h7.each i e hi
  have hne : 0 < t.es.length := Nat.lt_of_le_of_lt (Nat.zero_le _) (List.getElem?_eq_some_iff.1 hi).1
  rcases h7.own.2 with ⟨_, e0⟩ | ⟨ge, ec, cur, e1, e2, e3, e4⟩
  · omega
  · obtain rfl := e1
    have hcell : ∀ k u, [Value.int .i64 e.1, vt][k]? = some u → w.cell? ⟨ge, i * 2 + k, none⟩ = some u := fun k u hu => by
      have := h7.own.cells (g := ge) rfl (i * 2 + k) u (flat_get rows h7.wide i _ q1 k u hu)
      rwa [Addr.add_lit, Nat.zero_add] at this
    rcases q5.own.2 with ⟨e5, e6⟩ | ⟨g, gc, cur', e5, e6, e7, e8, e9, _⟩
    · subst e5
      have hl : e.2 = [] := List.eq_nil_of_length_eq_zero e6
      refine ⟨ge, ec, none, 0, rfl, hcell 0 _ rfl, ?_, by omega, by decide, .inl hl, fun j x hx => ?_⟩
      · rw [e6]; exact hcell 1 _ rfl
      · rw [hl] at hx; simp at hx
    · subst e5
      refine ⟨ge, ec, some ⟨g, 0, none⟩, gc, rfl, hcell 0 _ rfl, hcell 1 _ rfl, e8, e9, .inr ⟨g, rfl, ?_⟩, fun j x hx g' hg' => ?_⟩
      · refine List.mem_append.2 (.inr (List.mem_append.2 (.inr (List.mem_flatten.2 ⟨_, List.mem_of_getElem? q2, ?_⟩))))
        exact List.mem_append.2 (.inl (mem_blkOf.2 rfl))
      · cases hg'
        obtain ⟨r', b', p1, p2, p3⟩ := q5.each j x hx
        cases n with
        | zero => exact p3.elim
        | succ n =>
          obtain ⟨_, _, _, _, rfl, _⟩ := p3
          have := q5.own.cells (g := g) rfl (j * 5 + 0) (.int .i64 x.kind) (flat_get rs q5.wide j _ p1 0 _ rfl)
          rwa [Addr.add_lit, Nat.zero_add, Nat.add_zero] at this
/-- One tree of an entry is turned into a leaf. -/
theorem TrO.setLeaf {n B ge ec g c : Nat} {w : World} {t : Tr} {K N S : Value} {vr : Value} {bs : List Nat} (h : TrO (n + 1) B w [K, N, S, .slice (some ⟨ge, 0, none⟩) t.es.length ec, vr] t bs) (hn : bs.Nodup) {i : Nat} {e : Int × List Tr} (hi : t.es[i]? = some e) (hc : w.cell? ⟨ge, i * 2 + 1, none⟩ = some (.slice (some ⟨g, 0, none⟩) e.2.length c)) {j : Nat} (hj : j < e.2.length) {x : Tr} {y0 y1 y2 y3 y4 : Value} (hx : ∀ W, TrO n B W [y0, y1, y2, y3, y4] x []) :
    ∃ bs', TrO (n + 1) B (set5 w g (j * 5) y0 y1 y2 y3 y4) [K, N, S, .slice (some ⟨ge, 0, none⟩) t.es.length ec, vr] ⟨t.kind, t.n, t.s, t.es.set i (e.1, e.2.set j x), t.rest⟩ bs' ∧ bs'.Nodup ∧ (∀ k ∈ bs', k ∈ bs) ∧ g ∈ bs ∧ g ≠ ge := by
  obtain ⟨ve', vr', rows, bss, h1, h2, h3, h4, h5, h6, h7, rfl⟩ := h
  simp only [List.cons.injEq, and_true] at h1
  obtain ⟨rfl, rfl, rfl, rfl, rfl⟩ := h1
  obtain ⟨r, b, q1, q2, vt, rs, bss', rfl, q4, q5, rfl⟩ := h7.each i e hi
  have hvt : vt = .slice (some ⟨g, 0, none⟩) e.2.length c := by
    have := h7.own.cells (g := ge) rfl (i * 2 + 1) vt (flat_get rows h7.wide i _ q1 1 vt rfl)
    rw [Addr.add_lit, Nat.zero_add, hc] at this
    simpa using this.symm
  subst hvt
  have hbg : blkOf (.slice (some ⟨g, 0, none⟩) e.2.length c) = [g] := rfl
  have hbe : blkOf (.slice (some ⟨ge, 0, none⟩) t.es.length ec) = [ge] := rfl
  have hmem : g ∈ bss.flatten := List.mem_flatten.2 ⟨_, List.mem_of_getElem? q2, List.mem_append.2 (.inl (by rw [hbg]; simp))⟩
  have hn' := hn
  rw [allB, hbe] at hn'
  have hg1 : g ∉ bss'.flatten := by
    have h8 : (bss.flatten).Nodup := ((List.nodup_append.1 (List.nodup_append.1 hn').2.1).2.1)
    have h9 : (allB (.slice (some ⟨g, 0, none⟩) e.2.length c) bss').Nodup := List.nodup_iff_count.2 fun k => Nat.le_trans (count_mem_le q2 k) (List.nodup_iff_count.1 h8 k)
    rw [allB, hbg, List.singleton_append, List.nodup_cons] at h9
    exact h9.1
  have hgne : g ≠ ge := fun e => by
    have := (List.nodup_append.1 (List.nodup_append.1 hn').2.1).2.2 ge (by simp) g hmem
    exact this e.symm
  have hgv : g ∉ blkOf vr := fun hk => (List.nodup_append.1 hn').2.2 g hk g (List.mem_append.2 (.inr hmem)) rfl
  have hgo : ∀ (k : Nat) (bb : List Nat), k ≠ i → bss[k]? = some bb → g ∉ bb := fun k bb hk hbb hgb => by
    have h8 : (bss.flatten).Nodup := ((List.nodup_append.1 (List.nodup_append.1 hn').2.1).2.1)
    have ha : g ∈ allB (.slice (some ⟨g, 0, none⟩) e.2.length c) bss' := List.mem_append.2 (.inl (by rw [hbg]; simp))
    have h9 := List.nodup_iff_count.1 h8 g
    have c1 := List.count_pos_iff.2 ha
    have c2 := List.count_pos_iff.2 hgb
    rcases Nat.lt_or_gt_of_ne hk with hlt | hlt
    · have := count_two hbb q2 hlt g; omega
    · have := count_two q2 hbb hlt g; omega
  have hleaf := q5.setLeaf hg1 hj hx
  have hbl : i < bss.length := (List.getElem?_eq_some_iff.1 q2).1
  have hrl : i < rows.length := (List.getElem?_eq_some_iff.1 q1).1
  have hel : i < t.es.length := (List.getElem?_eq_some_iff.1 hi).1
  have hjb : ∃ bj, bss'[j]? = some bj := ⟨_, List.getElem?_eq_getElem (by rw [q5.blen]; exact hj)⟩
  obtain ⟨bj, hbj⟩ := hjb
  have hcnt : ∀ k, (allB (.slice (some ⟨g, 0, none⟩) e.2.length c) (bss'.set j [])).count k ≤ (allB (.slice (some ⟨g, 0, none⟩) e.2.length c) bss').count k := fun k => by
    simp only [allB, List.count_append]
    have := flatten_set_count hbj [] (fun k => by simp) k
    omega
  have hcnt2 : ∀ k, (blkOf vr ++ allB (.slice (some ⟨ge, 0, none⟩) t.es.length ec) (bss.set i (allB (.slice (some ⟨g, 0, none⟩) e.2.length c) (bss'.set j [])))).count k ≤ (blkOf vr ++ allB (.slice (some ⟨ge, 0, none⟩) t.es.length ec) bss).count k := fun k => by
    simp only [allB, List.count_append]
    have := flatten_set_count q2 (allB (.slice (some ⟨g, 0, none⟩) e.2.length c) (bss'.set j [])) hcnt k
    simp only [allB] at this
    omega
  have hsmv : Sm w (set5 w g (j * 5) y0 y1 y2 y3 y4) (blkOf vr) := set5_sm hgv
  have hsme : Sm w (set5 w g (j * 5) y0 y1 y2 y3 y4) [ge] := set5_sm (by simp; exact hgne)
  refine ⟨blkOf vr ++ allB (.slice (some ⟨ge, 0, none⟩) t.es.length ec) (bss.set i (allB (.slice (some ⟨g, 0, none⟩) e.2.length c) (bss'.set j []))), ⟨_, vr, rows, bss.set i (allB (.slice (some ⟨g, 0, none⟩) e.2.length c) (bss'.set j [])), rfl, h2, h3, h4, h5, own_sm h6 hsmv, ?_, rfl⟩, nodup_count hn hcnt2, fun k hk => mem_count hcnt2 hk, List.mem_append.2 (.inr (List.mem_append.2 (.inr hmem))), hgne⟩
  refine ⟨by rw [List.length_set]; exact own_sm h7.own hsme, by rw [List.length_set]; exact h7.len, by rw [List.length_set, List.length_set]; exact h7.blen, h7.wide, fun k y hy => ?_⟩
  rw [List.getElem?_set] at hy
  split at hy
  · rename_i hik
    subst hik
    obtain rfl : (e.1, e.2.set j x) = y := by simpa using hy
    exact ⟨_, _, q1, by rw [List.getElem?_set, if_pos rfl, if_pos hbl], _, _, _, rfl, q4, by show RowO _ _ _ _ _ (.slice (some ⟨g, 0, none⟩) e.2.length c) _ _ _; exact hleaf, rfl⟩
  · rename_i hik
    obtain ⟨r', b', p1, p2, p3⟩ := h7.each k y hy
    exact ⟨r', b', p1, by rw [List.getElem?_set, if_neg hik]; exact p2, p3.sm (set5_sm (hgo k b' (Ne.symm hik) p2))⟩
/-- The five cells of an entry's tree. -/
theorem TrO.leafCells {n B ge ec g c : Nat} {w : World} {t : Tr} {K N S : Value} {vr : Value} {bs : List Nat} (h : TrO (n + 1) B w [K, N, S, .slice (some ⟨ge, 0, none⟩) t.es.length ec, vr] t bs) {i : Nat} {e : Int × List Tr} (hi : t.es[i]? = some e) (hc : w.cell? ⟨ge, i * 2 + 1, none⟩ = some (.slice (some ⟨g, 0, none⟩) e.2.length c)) {j : Nat} (hj : j < e.2.length) :
    ∃ v0 v1 v2 v3 v4, w.cell? ⟨g, j * 5, none⟩ = some v0 ∧ w.cell? ⟨g, j * 5 + 1, none⟩ = some v1 ∧ w.cell? ⟨g, j * 5 + 2, none⟩ = some v2 ∧ w.cell? ⟨g, j * 5 + 3, none⟩ = some v3 ∧ w.cell? ⟨g, j * 5 + 4, none⟩ = some v4 ∧ (∀ k, w.frozen? ⟨g, k, none⟩ = false) := by
  obtain ⟨ve', vr', rows, bss, h1, h2, h3, h4, h5, h6, h7, rfl⟩ := h
  simp only [List.cons.injEq, and_true] at h1
  obtain ⟨rfl, rfl, rfl, rfl, rfl⟩ := h1
  obtain ⟨r, b, q1, q2, vt, rs, bss', rfl, q4, q5, rfl⟩ := h7.each i e hi
  have hvt : vt = .slice (some ⟨g, 0, none⟩) e.2.length c := by
    have := h7.own.cells (g := ge) rfl (i * 2 + 1) vt (flat_get rows h7.wide i _ q1 1 vt rfl)
    rw [Addr.add_lit, Nat.zero_add, hc] at this
    simpa using this.symm
  subst hvt
  obtain ⟨r', hr'⟩ : ∃ r, rs[j]? = some r := ⟨_, List.getElem?_eq_getElem (by rw [q5.len]; exact hj)⟩
  have h5' := q5.wide r' (List.mem_of_getElem? hr')
  have hcell : ∀ k u, r'[k]? = some u → w.cell? ⟨g, j * 5 + k, none⟩ = some u := fun k u hu => by
    have := q5.own.cells (g := g) rfl (j * 5 + k) u (flat_get rs q5.wide j _ hr' k u hu)
    rwa [Addr.add_lit, Nat.zero_add] at this
  match r', h5', hcell with
  | [x0, x1, x2, x3, x4], _, hcell => exact ⟨x0, x1, x2, x3, x4, hcell 0 _ rfl, hcell 1 _ rfl, hcell 2 _ rfl, hcell 3 _ rfl, hcell 4 _ rfl, fun k => q5.own.frozenAt k⟩
end Go.Proofs.Ytgedelgdjcnogab

/- A field's kind, written in place: what the rows are then. -/
import Derived.Test.YtfffjfccochccaaDoorIdGood
import Derived.Test.YtfffjfccochccaaDoorRowG
namespace Go.Proofs.YtfffjfccochccaaDoor
open Go.ChangeShapes Go.WideShapes Go.ChangeAt Go.RowKit
set_option linter.unusedVariables false
set_option linter.unusedSimpArgs false
set_option maxRecDepth 20000

/-- A row's cells, by the element. -/
theorem own_at {w : World} {B e size q n cap : Nat} {rs : List (List Value)} (hl : ∀ r ∈ rs, r.length = size) (h : w.ownsRow B e size (.slice (some ⟨q, 0, none⟩) n cap) n rs.flatten) {i : Nat} {c : List Value} (hc : rs[i]? = some c) {j : Nat} {u : Value} (hu : c[j]? = some u) : w.cell? ⟨q, i * size + j, none⟩ = some u := by
  have := h.cells (g := q) rfl (i * size + j) u (flat_get rs hl i c hc j u hu)
  rw [Addr.add_lit, Nat.zero_add] at this
  exact this
theorem own_froz {w : World} {B e size q n cap : Nat} {xs : List Value} (h : w.ownsRow B e size (.slice (some ⟨q, 0, none⟩) n cap) n xs) (i : Nat) : w.frozen? ⟨q, i, none⟩ = false := by
  rcases h.2 with ⟨h, _⟩ | ⟨q', cap', cur, h1, h2, h3, _⟩
  · cases h
  · simp only [Value.slice.injEq, Option.some.injEq, Addr.mk.injEq] at h1
    obtain ⟨⟨rfl, _⟩, _⟩ := h1
    exact block_froz h3 i
theorem own_addr {w : World} {B e size n : Nat} {v : Value} {xs : List Value} (h : w.ownsRow B e size v n xs) (hn : 0 < n) : ∃ q cap, v = .slice (some ⟨q, 0, none⟩) n cap ∧ n ≤ cap ∧ cap ≤ maxLen ∧ B ≤ q ∧ q < w.heap.size := by
  rcases h.2 with ⟨_, h⟩ | ⟨q', cap', cur, h1, h2, h3, h4, h5, _⟩
  · omega
  · exact ⟨q', cap', h1, h4, h5, h2, (Array.getElem?_eq_some_iff.1 h3).1⟩
/-- A cell of a row of one's own is written. -/
theorem own_set {w : World} {B e size q n cap : Nat} {xs : List Value} (h : w.ownsRow B e size (.slice (some ⟨q, 0, none⟩) n cap) n xs) {j : Nat} (u : Value) : (w.setCell ⟨q, j, none⟩ u).ownsRow B e size (.slice (some ⟨q, 0, none⟩) n cap) n (xs.set j u) := by
  refine ⟨by rw [List.length_set]; exact h.1, ?_⟩
  rcases h.2 with ⟨h, _⟩ | ⟨q', cap', cur, h1, h2, h3, h4, h5, h6, h7⟩
  · cases h
  · simp only [Value.slice.injEq, Option.some.injEq, Addr.mk.injEq] at h1
    obtain ⟨⟨rfl, _⟩, _, rfl⟩ := h1
    refine .inr ⟨q, cap, cur.setIfInBounds j u, rfl, h2, block_set h3 j u, h4, h5, by simpa using h6, ?_⟩
    rw [Array.toList_setIfInBounds, List.take_set, h7]
theorem fl_len (fs : List FlS) : ∀ r ∈ flRows fs, r.length = 5 := by intro r hr; simp only [flRows, List.mem_map] at hr; obtain ⟨f, _, rfl⟩ := hr; rfl
theorem en_len (es : List EnS) (ps : List Value) : ∀ r ∈ enRows es ps, r.length = 2 := by
  intro r hr
  unfold enRows at hr
  rw [List.mem_iff_getElem?] at hr
  obtain ⟨i, hi⟩ := hr
  rw [List.getElem?_zipWith] at hi
  split at hi <;> simp at hi
  rw [← hi]; rfl
theorem ms_len (es : List MsS) (ps : List (Value × Value)) : ∀ r ∈ msRows es ps, r.length = 3 := by
  intro r hr
  unfold msRows at hr
  rw [List.mem_iff_getElem?] at hr
  obtain ⟨i, hi⟩ := hr
  rw [List.getElem?_zipWith] at hi
  split at hi <;> simp at hi
  rw [← hi]; rfl
theorem en_get {es : List EnS} {ps : List Value} {i : Nat} {e : EnS} {p : Value} (he : es[i]? = some e) (hp : ps[i]? = some p) : (enRows es ps)[i]? = some [.string e.name, p] := by
  unfold enRows
  rw [List.getElem?_zipWith, he, hp]
theorem ms_get {es : List MsS} {ps : List (Value × Value)} {i : Nat} {e : MsS} {p : Value × Value} (he : es[i]? = some e) (hp : ps[i]? = some p) : (msRows es ps)[i]? = some [.string e.name, p.1, p.2] := by
  unfold msRows
  rw [List.getElem?_zipWith, he, hp]
theorem fl_get {fs : List FlS} {i : Nat} {f : FlS} (h : fs[i]? = some f) : (flRows fs)[i]? = some f.cells := by simp [flRows, h]
/-- A field's kind, among the cells. -/
theorem fl_set : ∀ (fs : List FlS) (j : Nat) (f : FlS) (k : Int), fs[j]? = some f → (flRows fs).flatten.set (j * 5 + 3) (.int .i64 k) = (flRows (fs.set j ⟨f.name, f.tag, f.label, k, f.tname⟩)).flatten
  | [], j, f, k, h => by simp at h
  | x :: l, 0, f, k, h => by
    obtain rfl : x = f := by simpa using h
    simp [flRows, FlS.cells]
  | x :: l, j + 1, f, k, h => by
    have ih := fl_set l j f k (by simpa using h)
    simp only [flRows, List.map_cons, List.flatten_cons, List.set_cons_succ] at ih ⊢
    rw [← ih, List.set_append_right _ _ (by simp [FlS.cells]; omega)]
    congr 1
    have : (j + 1) * 5 + 3 - x.cells.length = j * 5 + 3 := by simp [FlS.cells]; omega
    rw [this]
def kindAt (m : MsS) (j : Nat) (f : FlS) : MsS := ⟨m.name, m.fields.set j ⟨f.name, f.tag, f.label, 6, f.tname⟩, m.reserved⟩
theorem MsO.setK {w : World} {B : Nat} {v : Value} {ms : List MsS} {ps : List (Value × Value)} (h : MsO w B v ms ps) {i j q n cap : Nat} {m : MsS} {p : Value × Value} {f : FlS} (hm : ms[i]? = some m) (hp : ps[i]? = some p) (hf : m.fields[j]? = some f) (hv : p.1 = .slice (some ⟨q, 0, none⟩) n cap) :
    MsO (w.setCell ⟨q, j * 5 + 3, none⟩ (.int .i64 6)) B v (ms.set i (kindAt m j f)) ps := by
  have hb : p.1.ownBlock = some q := by rw [hv]; rfl
  have hF := (h.each i m p hm hp).1
  have hk : Kp (fun k => p.1.ownBlock = some k) w (w.setCell ⟨q, j * 5 + 3, none⟩ (.int .i64 6)) := Kp.setCell (p := ⟨q, j * 5 + 3, none⟩) (Kp.refl _ w) (fun _ => hb) _
  have hn : m.fields.length = n := by
    obtain ⟨a, c, e⟩ := own_form hF
    rw [hv] at e
    simp only [Value.slice.injEq] at e
    exact e.2.1.symm
  refine ⟨by rw [List.length_set]; exact h.len, ?_, ?_, h.apart⟩
  · have e : msRows (ms.set i (kindAt m j f)) ps = msRows ms ps := by
      apply List.ext_getElem?
      intro a
      unfold msRows
      rw [List.getElem?_zipWith, List.getElem?_zipWith, List.getElem?_set]
      by_cases ha : i = a
      · subst ha
        rw [if_pos rfl, if_pos (List.getElem?_eq_some_iff.1 hm).1, hm, hp]
        rfl
      · rw [if_neg ha]
    rw [e, List.length_set]
    exact own_kpV h.own hk (fun k hk hv' => own_apart hF h.own (by decide) k hv' hk)
  · intro a m' p' hm' hp'
    rw [List.getElem?_set] at hm'
    by_cases ha : i = a
    · subst ha
      rw [if_pos rfl] at hm'
      split at hm' <;> simp at hm'
      subst hm'
      rw [hp] at hp'
      cases hp'
      constructor
      · show World.ownsRow _ _ _ _ _ (m.fields.set j _).length (flRows (m.fields.set j _)).flatten
        rw [List.length_set, ← fl_set m.fields j f 6 hf, hv, hn]
        rw [hv, hn] at hF
        exact own_set hF _
      · exact own_kpV (h.each i m p hm hp).2 hk (fun k hk hv' => own_apart hF (h.each i m p hm hp).2 (by decide) k hv' hk)
    · rw [if_neg ha] at hm'
      exact ⟨own_kpV (h.each a m' p' hm' hp').1 hk (fun k hk hv' => ha (h.apart i a p p' k hp hp' hv' hk)), own_kpV (h.each a m' p' hm' hp').2 hk (fun k hk hv' => own_apart hF (h.each a m' p' hm' hp').2 (by decide) k hv' hk)⟩
/-- How far the kinds are set: the messages ahead of i, and of the i-th the fields ahead of j. -/
structure Part (es : List EnS) (ms ms' : List MsS) (i j : Nat) : Prop where
  len : ms'.length = ms.length
  each : ∀ (a : Nat) (m : MsS), ms[a]? = some m → ∃ m', ms'[a]? = some m' ∧ m'.name = m.name ∧ m'.reserved = m.reserved ∧ m'.fields.length = m.fields.length ∧ ∀ (b : Nat) (f : FlS), m.fields[b]? = some f → m'.fields[b]? = some (if a < i ∨ (a = i ∧ b < j) then setF es f else f)
theorem Part.start (es : List EnS) (ms : List MsS) : Part es ms ms 0 0 := ⟨rfl, fun a m hm => ⟨m, hm, rfl, rfl, rfl, fun b f hf => by rw [if_neg (by omega)]; exact hf⟩⟩
theorem Part.next {es : List EnS} {ms ms' : List MsS} {i j : Nat} {m : MsS} (h : Part es ms ms' i j) (hm : ms[i]? = some m) (hj : m.fields.length ≤ j) : Part es ms ms' (i + 1) 0 := by
  refine ⟨h.len, fun a m1 hm1 => ?_⟩
  obtain ⟨m', e1, e2, e3, e4, e5⟩ := h.each a m1 hm1
  refine ⟨m', e1, e2, e3, e4, fun b f hf => ?_⟩
  rw [e5 b f hf]
  congr 1
  by_cases ha : a = i
  · subst ha
    rw [hm] at hm1
    cases hm1
    have := (List.getElem?_eq_some_iff.1 hf).1
    rw [if_pos (by omega), if_pos (by omega)]
  · by_cases h2 : a < i
    · rw [if_pos (by omega), if_pos (by omega)]
    · rw [if_neg (by omega), if_neg (by omega)]
theorem Part.no {es : List EnS} {ms ms' : List MsS} {i j : Nat} {m : MsS} {f : FlS} (h : Part es ms ms' i j) (hm : ms[i]? = some m) (hf : m.fields[j]? = some f) (hs : setF es f = f) : Part es ms ms' i (j + 1) := by
  refine ⟨h.len, fun a m1 hm1 => ?_⟩
  obtain ⟨m', e1, e2, e3, e4, e5⟩ := h.each a m1 hm1
  refine ⟨m', e1, e2, e3, e4, fun b f1 hf1 => ?_⟩
  rw [e5 b f1 hf1]
  congr 1
  by_cases ha : a = i ∧ b = j
  · obtain ⟨rfl, rfl⟩ := ha
    rw [hm] at hm1
    cases hm1
    rw [hf] at hf1
    cases hf1
    rw [if_neg (by omega), if_pos (by omega), hs]
  · by_cases h2 : a < i ∨ (a = i ∧ b < j)
    · rw [if_pos h2, if_pos (by omega)]
    · rw [if_neg h2, if_neg (by omega)]
theorem Part.yes {es : List EnS} {ms ms' : List MsS} {i j : Nat} {m m' : MsS} {f : FlS} (h : Part es ms ms' i j) (hm : ms[i]? = some m) (hm' : ms'[i]? = some m') (hf : m.fields[j]? = some f) (hs : setF es f = ⟨f.name, f.tag, f.label, 6, f.tname⟩) : Part es ms (ms'.set i (kindAt m' j f)) i (j + 1) := by
  refine ⟨by rw [List.length_set]; exact h.len, fun a m1 hm1 => ?_⟩
  obtain ⟨m2, e1, e2, e3, e4, e5⟩ := h.each a m1 hm1
  by_cases ha : a = i
  · subst ha
    rw [hm] at hm1
    cases hm1
    rw [hm'] at e1
    cases e1
    refine ⟨kindAt m' j f, ?_, e2, e3, ?_, ?_⟩
    · rw [List.getElem?_set, if_pos rfl, if_pos (List.getElem?_eq_some_iff.1 hm').1]
    · show (m'.fields.set j _).length = _
      rw [List.length_set]; exact e4
    · intro b f1 hf1
      show (m'.fields.set j _)[b]? = _
      rw [List.getElem?_set]
      by_cases hb : j = b
      · subst hb
        rw [hf] at hf1
        cases hf1
        have hlt : j < m'.fields.length := by rw [e4]; exact (List.getElem?_eq_some_iff.1 hf).1
        rw [if_pos rfl, if_pos hlt, if_pos (by omega), hs]
      · rw [if_neg hb, e5 b f1 hf1]
        congr 1
        by_cases h2 : b < j
        · rw [if_pos (by omega), if_pos (by omega)]
        · rw [if_neg (by omega), if_neg (by omega)]
  · refine ⟨m2, ?_, e2, e3, e4, fun b f1 hf1 => ?_⟩
    · rw [List.getElem?_set, if_neg (Ne.symm ha)]; exact e1
    · rw [e5 b f1 hf1]
      congr 1
      by_cases h2 : a < i
      · rw [if_pos (by omega), if_pos (by omega)]
      · rw [if_neg (by omega), if_neg (by omega)]
theorem Part.all {es : List EnS} {ms ms' : List MsS} {i : Nat} (h : Part es ms ms' i 0) (hi : ms.length ≤ i) : ms' = ms.map (setM es) := by
  apply List.ext_getElem?
  intro a
  rw [List.getElem?_map]
  cases hm : ms[a]? with
  | none =>
    rw [List.getElem?_eq_none_iff] at hm
    rw [List.getElem?_eq_none_iff.2 (by rw [h.len]; exact hm)]; rfl
  | some m =>
    obtain ⟨m', e1, e2, e3, e4, e5⟩ := h.each a m hm
    have hlt := (List.getElem?_eq_some_iff.1 hm).1
    rw [e1]
    simp only [Option.map_some, Option.some.injEq]
    obtain ⟨n1, f1, r1⟩ := m'
    simp only at e2 e3 e4 e5
    unfold setM
    rw [e2, e3]
    congr 1
    apply List.ext_getElem?
    intro b
    rw [List.getElem?_map]
    cases hf : m.fields[b]? with
    | none =>
      rw [List.getElem?_eq_none_iff] at hf
      rw [List.getElem?_eq_none_iff.2 (by rw [e4]; exact hf)]; rfl
    | some f =>
      rw [e5 b f hf, if_pos (by omega)]; rfl
/-- A field's own cells while the kinds are being set. -/
theorem Part.get {es : List EnS} {ms ms' : List MsS} {i j : Nat} {m : MsS} {f : FlS} (h : Part es ms ms' i j) (hm : ms[i]? = some m) (hf : m.fields[j]? = some f) : ∃ m', ms'[i]? = some m' ∧ m'.fields[j]? = some f ∧ m'.fields.length = m.fields.length := by
  obtain ⟨m', e1, e2, e3, e4, e5⟩ := h.each i m hm
  refine ⟨m', e1, ?_, e4⟩
  rw [e5 j f hf, if_neg (by omega)]
end Go.Proofs.YtfffjfccochccaaDoor

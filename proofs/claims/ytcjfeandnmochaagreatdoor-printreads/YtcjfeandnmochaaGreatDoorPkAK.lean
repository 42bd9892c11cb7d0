/- Part 11 of what the proof stands on. -/
import Derived.Test.YtcjfeandnmochaaGreatDoorPkAJ
import Derived.Deep.Cut
import Derived.Deep.CutRange
namespace Go.Proofs.YtcjfeandnmochaaGreatDoor
open Go.ChangeShapes Go.WideShapes Go.ChangeAt Go.RowKit
set_option linter.unusedVariables false
set_option linter.unusedSimpArgs false
set_option maxRecDepth 20000
def GoodF (f : FlS) : Prop := (f.kind = 0 ∧ nameK f.tname.data.toList = true) ∨ (f.kind ≠ 0 ∧ f.tname = noT)
def GoodM (m : MsS) : Prop := ∀ f ∈ m.fields, GoodF f
def GoodS (s : ScS) : Prop := (∀ m ∈ s.msgs, GoodM m) ∧ ∀ e ∈ s.enums, nameK e.name.data.toList = true
theorem type_good {ts r : List ByteArray} {x : Int × ByteArray} (h : pType ts = .inr (x, r)) : (x.1 = 0 ∧ nameK x.2.data.toList = true) ∨ (x.1 ≠ 0 ∧ x.2 = noT) := by
 cases ts with
 | nil => simp [pType] at h
 | cons t r' =>
  unfold pType at h
  simp only at h
  split at h
  ·rename_i hs
   simp only [Sum.inr.injEq, Prod.mk.injEq] at h
   right
   rw [← h.1]
   exact ⟨by simp only; omega, rfl⟩
  ·obtain ⟨a, r1, h1, h2⟩ := pBind_inr h
   simp only [Sum.inr.injEq, Prod.mk.injEq] at h2
   left
   rw [← h2.1]
   exact ⟨rfl, pName_inr h1⟩
theorem field_good {ts r : List ByteArray} {f : FlS} (h : pField ts = .inr (f, r)) : GoodF f := by
 unfold pField at h
 obtain ⟨ty, r1, h1, h⟩ := pBind_inr h
 obtain ⟨n, r2, _, h⟩ := pBind_inr h
 obtain ⟨_, r3, _, h⟩ := pBind_inr h
 obtain ⟨g, r4, _, h⟩ := pBind_inr h
 obtain ⟨_, r5, _, h⟩ := pBind_inr h
 simp only [Sum.inr.injEq, Prod.mk.injEq] at h
 rw [← h.1]
 exact type_good h1
theorem member_good {m m' : MsS} {ts r : List ByteArray} (h : pMember m ts = .inr (m', r)) (hm : GoodM m) : GoodM m' := by
 unfold pMember at h
 split at h
 ·obtain ⟨n, r1, _, h⟩ := pBind_inr h
  obtain ⟨l, r2, _, h⟩ := pBind_inr h
  simp only [Sum.inr.injEq, Prod.mk.injEq] at h
  rw [← h.1]; exact hm
 ·obtain ⟨f, r1, h1, h⟩ := pBind_inr h
  simp only [Sum.inr.injEq, Prod.mk.injEq] at h
  rw [← h.1]
  intro x hx
  simp only [List.mem_append, List.mem_singleton] at hx
  rcases hx with hx | rfl
  ·exact hm x hx
  ·exact field_good h1
theorem members_good (f : Nat) : ∀ {m m' : MsS} {ts r : List ByteArray}, pMembers f m ts = .inr (m', r) → GoodM m → GoodM m' := by
 induction f with
 | zero => intro m m' ts r h; simp [pMembers] at h
 | succ f ih =>
  intro m m' ts r h hm
  simp only [pMembers] at h
  split at h
  ·simp only [Sum.inr.injEq, Prod.mk.injEq] at h
   rw [← h.1]; exact hm
  ·obtain ⟨m1, r1, h1, h2⟩ := pBind_inr h
   exact ih h2 (member_good h1 hm)
theorem msg_good {ts r : List ByteArray} {m : MsS} (h : pMsg ts = .inr (m, r)) : GoodM m := by
 unfold pMsg at h
 obtain ⟨n, r1, _, h⟩ := pBind_inr h
 obtain ⟨_, r2, _, h⟩ := pBind_inr h
 exact members_good _ h (fun f hf => by simp at hf)
theorem values_name (f : Nat) : ∀ {m m' : EnS} {ts r : List ByteArray}, pValues f m ts = .inr (m', r) → m'.name = m.name := by
 induction f with
 | zero => intro m m' ts r h; simp [pValues] at h
 | succ f ih =>
  intro m m' ts r h
  simp only [pValues] at h
  split at h
  ·simp only [Sum.inr.injEq, Prod.mk.injEq] at h
   rw [← h.1]
  ·obtain ⟨m1, r1, h1, h2⟩ := pBind_inr h
   exact ih (m := ⟨m.name, m.values ++ [m1]⟩) h2
theorem enum_good {ts r : List ByteArray} {m : EnS} (h : pEnum ts = .inr (m, r)) : nameK m.name.data.toList = true := by
 unfold pEnum at h
 obtain ⟨n, r1, h1, h⟩ := pBind_inr h
 obtain ⟨_, r2, _, h⟩ := pBind_inr h
 rw [values_name _ h]
 exact pName_inr h1
theorem decl_good {s s' : ScS} {ts r : List ByteArray} (h : pDecl s ts = .inr (s', r)) (hs : GoodS s) : GoodS s' := by
 unfold pDecl at h
 split at h
 ·obtain ⟨m, r', h1, h2⟩ := pBind_inr h
  simp only [Sum.inr.injEq, Prod.mk.injEq] at h2
  rw [← h2.1]
  refine ⟨fun x hx => ?_, hs.2⟩
  simp only [List.mem_append, List.mem_singleton] at hx
  rcases hx with hx | rfl
  ·exact hs.1 x hx
  ·exact msg_good h1
 ·split at h
  ·obtain ⟨m, r', h1, h2⟩ := pBind_inr h
   simp only [Sum.inr.injEq, Prod.mk.injEq] at h2
   rw [← h2.1]
   refine ⟨hs.1, fun x hx => ?_⟩
   simp only [List.mem_append, List.mem_singleton] at hx
   rcases hx with hx | rfl
   ·exact hs.2 x hx
   ·exact enum_good h1
  ·split at h
   ·obtain ⟨m, r', _, h2⟩ := pBind_inr h
    simp only [Sum.inr.injEq, Prod.mk.injEq] at h2
    rw [← h2.1]
    exact hs
   ·cases h
theorem decls_good (f : Nat) : ∀ {s s' : ScS} {ts r : List ByteArray}, pDecls f s ts = .inr (s', r) → GoodS s → GoodS s' := by
 induction f with
 | zero =>
  intro s s' ts r h hs
  simp only [pDecls, Sum.inr.injEq, Prod.mk.injEq] at h
  rw [← h.1]; exact hs
 | succ f ih =>
  intro s s' ts r h hs
  simp only [pDecls] at h
  split at h
  ·simp only [Sum.inr.injEq, Prod.mk.injEq] at h
   rw [← h.1]; exact hs
  ·obtain ⟨s1, r1, h1, h2⟩ := pBind_inr h
   exact ih h2 (decl_good h1 hs)
theorem text_good {sc : ScS} {ts r : List ByteArray} (h : pText ts = .inr (sc, r)) : GoodS sc := by
 unfold pText at h
 obtain ⟨_, r1, _, h⟩ := pBind_inr h
 obtain ⟨n, r2, hn, h⟩ := pBind_inr h
 obtain ⟨_, r3, _, h⟩ := pBind_inr h
 exact decls_good _ h ⟨fun m hm => by simp at hm, fun m hm => by simp at hm⟩
theorem runesOf_ge (f : Nat) : ∀ l : List UInt8, l.length ≤ f → ∀ rs, runesOf l = some rs → l.length ≤ 4 * rs.length := by
 induction f with
 | zero =>
  intro l hl rs h
  omega
 | succ f ih =>
  intro l hl rs h
  match l with
  | [] => simp
  | a :: r =>
   cases e : nxL (a :: r) with
   | none => rw [runesOf_bad (by simp) e] at h; cases h
   | some x =>
    obtain ⟨c, k⟩ := x
    obtain ⟨_, _, _, h4, h5, hk, _⟩ := nxL_some _ _ _ e
    rw [runesOf_step e] at h
    cases e2 : runesOf ((a :: r).drop k) with
    | none => rw [e2] at h; cases h
    | some rs' =>
     rw [e2] at h
     simp at h; subst h
     have := ih _ (by simp at hl h5 ⊢; omega) _ e2
     rw [List.length_drop] at this
     simp only [List.length_cons] at this h5 ⊢
     omega
theorem name_size {t : ByteArray} (h : nameK t.data.toList = true) : t.size ≤ 80 := by
 unfold nameK at h
 simp only [Bool.and_eq_true, decide_eq_true_eq] at h
 have hc := h.1.1
 unfold countN at hc
 rw [← len_data]
 cases e : runesOf t.data.toList with
 | none => rw [e] at hc; simp at hc
 | some rs =>
  rw [e] at hc
  simp only [Option.getD_some] at hc
  have := runesOf_ge _ _ (Nat.le_refl _) _ e
  omega
def setF (es : List EnS) (f : FlS) : FlS := if es.any (fun e => e.name.data.toList == f.tname.data.toList) = true then ⟨f.name, f.tag, f.label, 6, f.tname⟩ else f
def setM (es : List EnS) (m : MsS) : MsS := ⟨m.name, m.fields.map (setF es), m.reserved⟩
theorem nameK_noT : nameK noT.data.toList = false := by decide +kernel
theorem set_kind {es : List EnS} {f : FlS} (hf : GoodF f) (he : ∀ e ∈ es, nameK e.name.data.toList = true) : setF es (pre7 f) = kindF es f := by
 unfold setF kindF pre7
 rcases hf with ⟨h1, h2⟩ | ⟨h1, h2⟩
 ·rw [if_pos h1]
  simp only [h1, k7, if_true]
  split <;> rfl
 ·rw [if_neg h1]
  have : es.any (fun e => e.name.data.toList == f.tname.data.toList) = false := by
   rw [List.any_eq_false]
   intro e hm hc
   rw [h2, beq_iff_eq] at hc
   have := he e hm
   rw [hc, nameK_noT] at this
   cases this
  rw [this]
  simp only [Bool.false_eq_true, if_false, k7, if_neg h1]
theorem set_kinds {s : ScS} (h : GoodS s) : (s.msgs.map preM).map (setM s.enums) = s.msgs.map (kindM s.enums) := by
 rw [List.map_map]
 apply List.map_congr_left
 intro m hm
 show setM s.enums (preM m) = kindM s.enums m
 unfold setM preM kindM
 simp only [List.map_map, MsS.mk.injEq, true_and, and_true]
 apply List.map_congr_left
 intro f hf
 exact set_kind (h.1 m hm f hf) h.2
theorem fl_set : ∀ (fs : List FlS) (j : Nat) (f : FlS) (k : Int), fs[j]? = some f → (flRows fs).flatten.set (j * 5 + 3) (.int .i64 k) = (flRows (fs.set j ⟨f.name, f.tag, f.label, k, f.tname⟩)).flatten
 | [], j, f, k, h => by simp at h
 | x :: l, 0, f, k, h => by
  obtain rfl : x = f := by simpa using h
  simp [flRows, FlS.cells]
 | x :: l, j + 1, f, k, h => by
  have ih := fl_set l j f k (by simpa using h)
  simp only [flRows, List.map_cons, List.flatten_cons, List.set_cons_succ] at ih ⊢
  rw [← ih, List.set_append_right _ _ (by simp [FlS.cells]; omega)]
  congr 1
  have : (j + 1) * 5 + 3 - x.cells.length = j * 5 + 3 := by simp [FlS.cells]; omega
  rw [this]
def kindAt (m : MsS) (j : Nat) (f : FlS) : MsS := ⟨m.name, m.fields.set j ⟨f.name, f.tag, f.label, 6, f.tname⟩, m.reserved⟩
theorem MsO.setK {w : World} {B : Nat} {v : Value} {ms : List MsS} {ps : List (Value × Value)} (h : MsO w B v ms ps) {i j q n cap : Nat} {m : MsS} {p : Value × Value} {f : FlS} (hm : ms[i]? = some m) (hp : ps[i]? = some p) (hf : m.fields[j]? = some f) (hv : p.1 = .slice (some ⟨q, 0, none⟩) n cap) :
  MsO (w.setCell ⟨q, j * 5 + 3, none⟩ (.int .i64 6)) B v (ms.set i (kindAt m j f)) ps := by
 have hb : p.1.ownBlock = some q := by rw [hv]; rfl
 have hF := (h.each i m p hm hp).1
 have hk : Kp (fun k => p.1.ownBlock = some k) w (w.setCell ⟨q, j * 5 + 3, none⟩ (.int .i64 6)) := Kp.setCell (p := ⟨q, j * 5 + 3, none⟩) (Kp.refl _ w) (fun _ => hb) _
 have hn : m.fields.length = n := by
  obtain ⟨a, c, e⟩ := own_form hF
  rw [hv] at e
  simp only [Value.slice.injEq] at e
  exact e.2.1.symm
 refine ⟨by rw [List.length_set]; exact h.len, ?_, ?_, h.apart⟩
 ·have e : msRows (ms.set i (kindAt m j f)) ps = msRows ms ps := by
   apply List.ext_getElem?
   intro a
   unfold msRows
   rw [List.getElem?_zipWith, List.getElem?_zipWith, List.getElem?_set]
   by_cases ha : i = a
   ·subst ha
    rw [if_pos rfl, if_pos (List.getElem?_eq_some_iff.1 hm).1, hm, hp]
    rfl
   ·rw [if_neg ha]
  rw [e, List.length_set]
  exact own_kpV h.own hk (fun k hk hv' => own_apart hF h.own (by decide) k hv' hk)
 ·intro a m' p' hm' hp'
  rw [List.getElem?_set] at hm'
  by_cases ha : i = a
  ·subst ha
   rw [if_pos rfl] at hm'
   split at hm' <;> simp at hm'
   subst hm'
   rw [hp] at hp'
   cases hp'
   constructor
   ·show World.ownsRow _ _ _ _ _ (m.fields.set j _).length (flRows (m.fields.set j _)).flatten
    rw [List.length_set, ← fl_set m.fields j f 6 hf, hv, hn]
    rw [hv, hn] at hF
    exact own_set hF _
   ·exact own_kpV (h.each i m p hm hp).2 hk (fun k hk hv' => own_apart hF (h.each i m p hm hp).2 (by decide) k hv' hk)
  ·rw [if_neg ha] at hm'
   exact ⟨own_kpV (h.each a m' p' hm' hp').1 hk (fun k hk hv' => ha (h.apart i a p p' k hp hp' hv' hk)), own_kpV (h.each a m' p' hm' hp').2 hk (fun k hk hv' => own_apart hF (h.each a m' p' hm' hp').2 (by decide) k hv' hk)⟩
structure Part (es : List EnS) (ms ms' : List MsS) (i j : Nat) : Prop where
 len : ms'.length = ms.length
 each : ∀ (a : Nat) (m : MsS), ms[a]? = some m → ∃ m', ms'[a]? = some m' ∧ m'.name = m.name ∧ m'.reserved = m.reserved ∧ m'.fields.length = m.fields.length ∧ ∀ (b : Nat) (f : FlS), m.fields[b]? = some f → m'.fields[b]? = some (if a < i ∨ (a = i ∧ b < j) then setF es f else f)
theorem Part.start (es : List EnS) (ms : List MsS) : Part es ms ms 0 0 := ⟨rfl, fun a m hm => ⟨m, hm, rfl, rfl, rfl, fun b f hf => by rw [if_neg (by omega)]; exact hf⟩⟩
theorem Part.next {es : List EnS} {ms ms' : List MsS} {i j : Nat} {m : MsS} (h : Part es ms ms' i j) (hm : ms[i]? = some m) (hj : m.fields.length ≤ j) : Part es ms ms' (i + 1) 0 := by
 refine ⟨h.len, fun a m1 hm1 => ?_⟩
 obtain ⟨m', e1, e2, e3, e4, e5⟩ := h.each a m1 hm1
 refine ⟨m', e1, e2, e3, e4, fun b f hf => ?_⟩
 rw [e5 b f hf]
 congr 1
 by_cases ha : a = i
 ·subst ha
  rw [hm] at hm1
  cases hm1
  have := (List.getElem?_eq_some_iff.1 hf).1
  rw [if_pos (by omega), if_pos (by omega)]
 ·by_cases h2 : a < i
  ·rw [if_pos (by omega), if_pos (by omega)]
  ·rw [if_neg (by omega), if_neg (by omega)]
theorem Part.no {es : List EnS} {ms ms' : List MsS} {i j : Nat} {m : MsS} {f : FlS} (h : Part es ms ms' i j) (hm : ms[i]? = some m) (hf : m.fields[j]? = some f) (hs : setF es f = f) : Part es ms ms' i (j + 1) := by
 refine ⟨h.len, fun a m1 hm1 => ?_⟩
 obtain ⟨m', e1, e2, e3, e4, e5⟩ := h.each a m1 hm1
 refine ⟨m', e1, e2, e3, e4, fun b f1 hf1 => ?_⟩
 rw [e5 b f1 hf1]
 congr 1
 by_cases ha : a = i ∧ b = j
 ·obtain ⟨rfl, rfl⟩ := ha
  rw [hm] at hm1
  cases hm1
  rw [hf] at hf1
  cases hf1
  rw [if_neg (by omega), if_pos (by omega), hs]
 ·by_cases h2 : a < i ∨ (a = i ∧ b < j)
  ·rw [if_pos h2, if_pos (by omega)]
  ·rw [if_neg h2, if_neg (by omega)]
theorem Part.yes {es : List EnS} {ms ms' : List MsS} {i j : Nat} {m m' : MsS} {f : FlS} (h : Part es ms ms' i j) (hm : ms[i]? = some m) (hm' : ms'[i]? = some m') (hf : m.fields[j]? = some f) (hs : setF es f = ⟨f.name, f.tag, f.label, 6, f.tname⟩) : Part es ms (ms'.set i (kindAt m' j f)) i (j + 1) := by
 refine ⟨by rw [List.length_set]; exact h.len, fun a m1 hm1 => ?_⟩
 obtain ⟨m2, e1, e2, e3, e4, e5⟩ := h.each a m1 hm1
 by_cases ha : a = i
 ·subst ha
  rw [hm] at hm1
  cases hm1
  rw [hm'] at e1
  cases e1
  refine ⟨kindAt m' j f, ?_, e2, e3, ?_, ?_⟩
  ·rw [List.getElem?_set, if_pos rfl, if_pos (List.getElem?_eq_some_iff.1 hm').1]
  ·show (m'.fields.set j _).length = _
   rw [List.length_set]; exact e4
  ·intro b f1 hf1
   show (m'.fields.set j _)[b]? = _
   rw [List.getElem?_set]
   by_cases hb : j = b
   ·subst hb
    rw [hf] at hf1
    cases hf1
    have hlt : j < m'.fields.length := by rw [e4]; exact (List.getElem?_eq_some_iff.1 hf).1
    rw [if_pos rfl, if_pos hlt, if_pos (by omega), hs]
   ·rw [if_neg hb, e5 b f1 hf1]
    congr 1
    by_cases h2 : b < j
    ·rw [if_pos (by omega), if_pos (by omega)]
    ·rw [if_neg (by omega), if_neg (by omega)]
 ·refine ⟨m2, ?_, e2, e3, e4, fun b f1 hf1 => ?_⟩
  ·rw [List.getElem?_set, if_neg (Ne.symm ha)]; exact e1
  ·rw [e5 b f1 hf1]
   congr 1
   by_cases h2 : a < i
   ·rw [if_pos (by omega), if_pos (by omega)]
   ·rw [if_neg (by omega), if_neg (by omega)]
theorem Part.all {es : List EnS} {ms ms' : List MsS} {i : Nat} (h : Part es ms ms' i 0) (hi : ms.length ≤ i) : ms' = ms.map (setM es) := by
 apply List.ext_getElem?
 intro a
 rw [List.getElem?_map]
 cases hm : ms[a]? with
 | none =>
  rw [List.getElem?_eq_none_iff] at hm
  rw [List.getElem?_eq_none_iff.2 (by rw [h.len]; exact hm)]; rfl
 | some m =>
  obtain ⟨m', e1, e2, e3, e4, e5⟩ := h.each a m hm
  have hlt := (List.getElem?_eq_some_iff.1 hm).1
  rw [e1]
  simp only [Option.map_some, Option.some.injEq]
  obtain ⟨n1, f1, r1⟩ := m'
  simp only at e2 e3 e4 e5
  unfold setM
  rw [e2, e3]
  congr 1
  apply List.ext_getElem?
  intro b
  rw [List.getElem?_map]
  cases hf : m.fields[b]? with
  | none =>
   rw [List.getElem?_eq_none_iff] at hf
   rw [List.getElem?_eq_none_iff.2 (by rw [e4]; exact hf)]; rfl
  | some f =>
   rw [e5 b f hf, if_pos (by omega)]; rfl
theorem Part.get {es : List EnS} {ms ms' : List MsS} {i j : Nat} {m : MsS} {f : FlS} (h : Part es ms ms' i j) (hm : ms[i]? = some m) (hf : m.fields[j]? = some f) : ∃ m', ms'[i]? = some m' ∧ m'.fields[j]? = some f ∧ m'.fields.length = m.fields.length := by
 obtain ⟨m', e1, e2, e3, e4, e5⟩ := h.each i m hm
 refine ⟨m', e1, ?_, e4⟩
 rw [e5 j f hf, if_neg (by omega)]
end Go.Proofs.YtcjfeandnmochaaGreatDoor
namespace Go.Proofs.YtcjfeandnmochaaGreatDoor
open Go.ChangeShapes Go.WideShapes Go.ChangeAt Go.RowKit Go.Maps
set_option linter.unusedVariables false
set_option linter.unusedSimpArgs false
set_option maxRecDepth 20000
theorem results_none {fn : Func} (h : fn.results = #[]) (tmps : Array Value) (P : Program) (w : World) : (results fn tmps).run P w = .ok (.tuple #[]) w := by
 simp [results, h]
theorem lawK : Keyed Tryz.prog 9 := string_keyed Tryz.underlying9
theorem zeroUn (w : World) : (zeroValue 118).run Tryz.prog w = .ok (.agg #[]) w := by kernel_rfl
def hasE (es : List EnS) (t : List UInt8) : Bool := es.any (fun e => e.name.data.toList == t)
theorem has_start (t : List UInt8) : Maps.has (.map [] : DataW Unit) (.string t) = hasE [] t := rfl
theorem has_next {D : DataW Unit} {es : List EnS} {e : EnS} (hD : Maps.IsMap D) (h : ∀ t, Maps.has D (.string t) = hasE es t) (u : DataW Unit) : ∀ t, Maps.has (D.put (.string e.name.data.toList) u) (.string t) = hasE (es ++ [e]) t := by
 intro t
 unfold hasE
 rw [List.any_append, List.any_cons, List.any_nil, Bool.or_false]
 by_cases he : e.name.data.toList = t
 ·subst he
  rw [Maps.has_put_same hD (by simp [WideAt.IsKeyLit])]
  simp
 ·rw [Maps.has_put_other (by intro c; cases c; exact he rfl), h t]
  have : (e.name.data.toList == t) = false := by rw [beq_eq_false_iff_ne]; exact he
  rw [this, Bool.or_false]
  rfl
theorem take_snoc {α : Type} {l : List α} {k : Nat} {x : α} (h : l[k]? = some x) : l.take (k + 1) = l.take k ++ [x] := by
 rw [List.take_add_one, h]; rfl
def FB (pm : List (Value × Value)) (k : Nat) : Prop := ∃ (i : Nat) (p : Value × Value), pm[i]? = some p ∧ p.1.ownBlock = some k
set_option maxHeartbeats 4000000 in
theorem settle_any {w : World} {B : Nat} {vm ve vt : Value} {nm : ByteArray} {ms : List MsS} {es : List EnS} {pm : List (Value × Value)} {pe : List Value} (hM : MsO w B vm ms pm) (hE : EnO w B ve es pe) (hT : ∃ a n c, vt = .slice a n c)
  (hes : ∀ e ∈ es, e.name.size ≤ 80) (hms : ∀ m ∈ ms, ∀ f ∈ m.fields, f.tname.size ≤ 80) :
  Calls Tryz.prog 25 #[.agg #[.string nm, vm, ve, vt]] w fun e w' => e = .returned (.tuple #[]) ∧ MsO w' B vm (ms.map (setM es)) pm ∧ Kp (FB pm) w w' := by
 obtain ⟨ta, tn, tc, rfl⟩ := hT
 have hl1 := own_le hM.own
 have hl2 := own_le hE.own
 obtain ⟨ma, mc, hvm⟩ := own_form hM.own
 obtain ⟨ea, ec, hve⟩ := own_form hE.own
 subst hvm
 subst hve
 obtain ⟨nM, hnM⟩ : ∃ n, ms.length = n := ⟨_, rfl⟩
 obtain ⟨nE, hnE⟩ : ∃ n, es.length = n := ⟨_, rfl⟩
 rw [hnM] at hl1 hM ⊢
 rw [hnE] at hl2 hE ⊢
 have HNM : Hid (ms.length = nM) := hnM
 have HNE : Hid (es.length = nE) := hnE
 have HM0 : Hid (MsO w B (.slice ma nM mc) ms pm) := hM
 have HE0 : Hid (EnO w B (.slice ea nE ec) es pe) := hE
 have HES : Hid (∀ e ∈ es, e.name.size ≤ 80) := hes
 have HMS : Hid (∀ m ∈ ms, ∀ f ∈ m.fields, f.tname.size ≤ 80) := hms
 clear hnM hnE hM hE hes hms
 have hmm := @run_makeMap Tryz.prog
 go_enter Tryz.func25, Tryz.ntmps25
 go_wp2_with fail
 clear hmm
 have HOM0 := World.ownsMap_made (H := Unit) (w.alloc (.cells #[.string nm, .slice ma nM mc, .slice ea nE ec, .slice ta tn tc] 27)) Tryz.prog 9 unitElem
 rw [show (w.alloc (.cells #[.string nm, .slice ma nM mc, .slice ea nE ec, .slice ta tn tc] 27)).heap.size = w.heap.size + 1 by simp] at HOM0
 have HOM1 : Hid _ := HOM0
 clear HOM0
 have BX0 : Blk ((w.alloc (.cells #[.string nm, .slice ma nM mc, .slice ea nE ec, .slice ta tn tc] 27)).alloc (.map #[] 0)) w.heap.size #[.string nm, .slice ma nM mc, .slice ea nE ec, .slice ta tn tc] 27 := (Blk.new w _ _).below ((Below.refl _ _).alloc (Nat.le_refl _) _)
 have hb0 : Below w.heap.size w ((w.alloc (.cells #[.string nm, .slice ma nM mc, .slice ea nE ec, .slice ta tn tc] 27)).alloc (.map #[] 0)) := ((Below.refl _ _).alloc (Nat.le_refl _) _).alloc (by simp) _
 obtain ⟨Bx, hBx⟩ : ∃ n, w.heap.size = n := ⟨_, rfl⟩
 rw [hBx] at HOM1 BX0 hb0 ⊢
 have HBx : Hid (w.heap.size = Bx) := hBx
 clear hBx
 go_loopw [15] (fun iv wr => ∃ (k : Nat) (D : DataW Unit), iv = .int .i64 (k : Int) ∧ k ≤ nE ∧ Hid (wr.ownsMap Tryz.prog 9 (unitElem (H := Unit)) (Bx + 1) k D) ∧ Hid (∀ t, Maps.has D (.string t) = hasE (es.take k) t) ∧ Below Bx w wr ∧ Blk wr Bx #[.string nm, .slice ma nM mc, .slice ea nE ec, .slice ta tn tc] 27) (fun iv _ => nE - (intOf iv).toNat)
 case atStart => exact ⟨0, _, rfl, by omega, HOM1, fun t => has_start t, hb0, BX0⟩
 case round =>
  obtain ⟨k, D, rfl, hk, HOM, HHas, hbel, BX⟩ := hrel
  clear HOM1 hb0 BX0
  by_cases hlt : k < nE
  ·have hbw : Below w.heap.size w wr := by rw [HBx.out]; exact hbel
   have hE := HE0.out.below hbw
   obtain ⟨q, cap, hq, hq2, hq3, hq4, hq5⟩ := own_addr hE.own (by rw [HNE.out]; omega)
   simp only [Value.slice.injEq] at hq
   obtain ⟨rfl, hx, rfl⟩ := hq
   clear hx
   obtain ⟨e, he⟩ : ∃ e, es[k]? = some e := ⟨_, List.getElem?_eq_getElem (by rw [HNE.out]; exact hlt)⟩
   obtain ⟨p, hp⟩ : ∃ p, pe[k]? = some p := ⟨_, List.getElem?_eq_getElem (by rw [hE.len, HNE.out]; exact hlt)⟩
   have hown := hE.own
   rw [HNE.out] at hown
   have c0 := own_at (en_len es pe) hown (en_get he hp) (j := 0) rfl
   have c1 := own_at (en_len es pe) hown (en_get he hp) (j := 1) rfl
   obtain ⟨pa, pc, hpv⟩ := own_form (hE.each k e p he hp)
   subst hpv
   rw [Nat.add_zero] at c0
   have hkey := WideMaps.keyOf_string_mk (P := Tryz.prog) (k := 9) Tryz.underlying9 (s := e.name) (by have := HES.out e (List.mem_of_getElem? he); unfold maxLen; omega)
   have HHas2 : Hid (∀ t, Maps.has (D.put (.string e.name.data.toList) (.agg [])) (.string t) = hasE (es.take (k + 1)) t) := by
    rw [take_snoc he]
    exact has_next HOM.out.isMap HHas.out _
   obtain ⟨nV, hnV⟩ : ∃ n, e.values.length = n := ⟨_, rfl⟩
   rw [hnV] at c1
   have hBw : Bx ≤ wr.heap.size := by have := hbel.size; rw [HBx.out] at this; exact this
   have hXw : Bx < wr.heap.size := BX.lt
   clear hE hown hp he hnV HHas hbw hq2 hq3 hq4 hq5
   obtain ⟨enm, evs⟩ := e
   simp only at c0 c1 hkey HHas2
   go_wp2_with (first
    | (at_mapUpdate; refine wpList_mapUpdate_own _ rfl _ _ _ 68 rfl 9 118 lawK Tryz.underlying68 (unitElem (H := Unit)) (Bx + 1) k _ rfl (HOM.out.alloc _) (by unfold maxLen; omega) _ _ _ rfl rfl hkey _ [] unitElem_mk ?_; intro w1 hown1 hgrow1)
    | fail)
   have hb1 : Below Bx w w1 := (hbel.alloc hBw _).grown hgrow1 (by simp; omega) (fun k hk => by cases hk; omega)
   have BX1 := (BX.below ((Below.refl _ _).alloc (Nat.le_refl _) (.cells #[.string enm, .slice pa nV pc] 44)))
   have BX2 : Blk w1 Bx #[.string nm, .slice ma nM mc, .slice (some ⟨q, 0, none⟩) nE ec, .slice ta tn tc] 27 := (hgrow1.block Bx (by simp; omega) (by simp)).trans BX1
   have HOM2 : Hid _ := hown1
   clear hown1 hgrow1 BX1 HOM hbel BX c0 c1 hkey
   go_wp2_with fail
   go_roundw
   case rel => exact ⟨k + 1, _, rfl, by omega, HOM2, HHas2, hb1, BX2⟩
   case measure => simp [intOf]; omega
  ·obtain rfl : k = nE := by omega
   have HH : Hid (∀ t, Maps.has D (.string t) = hasE es t) := by
    have := HHas.out
    rw [List.take_of_length_le (by rw [HNE.out]; omega)] at this
    exact this
   have hbw : Below w.heap.size w wr := by rw [HBx.out]; exact hbel
   have HM1 : Hid (MsO wr B (.slice ma nM mc) ms pm) := HM0.out.below hbw
   have KF : Kp (FB pm) w wr := Kp.ofBelow hbw
   have HHigh : Hid (∀ (i : Nat) (p : Value × Value) (k : Nat), pm[i]? = some p → p.1.ownBlock = some k → k < Bx) := by
    have := HM0.out.high
    rw [HBx.out] at this
    exact this
   have b1 := BX.cell 1
   simp only [List.getElem?_toArray, List.getElem?_cons_succ, List.getElem?_cons_zero] at b1
   clear HHas hbw hbel HE0 HES
   go_wp2_with fail
   clear b1 BX
   go_loopw [27] (fun iv wr => ∃ (i : Nat) (ms' : List MsS), iv = .int .i64 (i : Int) ∧ i ≤ nM ∧ Hid (Part es ms ms' i 0) ∧ Hid (MsO wr B (.slice ma nM mc) ms' pm) ∧ Hid (wr.ownsMap Tryz.prog 9 (unitElem (H := Unit)) (Bx + 1) k D) ∧ Kp (FB pm) w wr) (fun iv _ => nM - (intOf iv).toNat)
   case atStart => exact ⟨0, ms, rfl, by omega, Part.start es ms, HM1, HOM, KF⟩
   case round =>
    obtain ⟨i, ms', rfl, hi, HP, HM, HOM, KF⟩ := hrel
    clear HM1
    by_cases hilt : i < nM
    ·obtain ⟨m, hm⟩ : ∃ m, ms[i]? = some m := ⟨_, List.getElem?_eq_getElem (by rw [HNM.out]; exact hilt)⟩
     obtain ⟨m', e1, e2, e3, e4, e5⟩ := HP.out.each i m hm
     have hMO := HM.out
     have hl' : ms'.length = nM := by rw [HP.out.len, HNM.out]
     obtain ⟨p, hp⟩ : ∃ p, pm[i]? = some p := ⟨_, List.getElem?_eq_getElem (by rw [hMO.len, hl']; exact hilt)⟩
     obtain ⟨q, cap, hq, hq2, hq3, hq4, hq5⟩ := own_addr hMO.own (by rw [hl']; omega)
     rw [hl'] at hq hq2
     simp only [Value.slice.injEq, true_and] at hq
     obtain ⟨rfl, rfl⟩ := hq
     have hown := hMO.own
     rw [hl'] at hown
     have c0 := own_at (ms_len ms' pm) hown (ms_get e1 hp) (j := 0) rfl
     have c1 := own_at (ms_len ms' pm) hown (ms_get e1 hp) (j := 1) rfl
     have c2 := own_at (ms_len ms' pm) hown (ms_get e1 hp) (j := 2) rfl
     rw [Nat.add_zero] at c0
     obtain ⟨pv, pr⟩ := p
     obtain ⟨pa, pc, hpv⟩ := own_form (hMO.each i m' _ e1 hp).1
     simp only at hpv
     subst hpv
     obtain ⟨ra, rc, hpv⟩ := own_form (hMO.each i m' _ e1 hp).2
     simp only at hpv
     subst hpv
     simp only at c0 c1 c2
     obtain ⟨nF, hnF⟩ : ∃ n, m.fields.length = n := ⟨_, rfl⟩
     have HNF : Hid (m.fields.length = nF) := hnF
     rw [e4, hnF] at c1
     have HP1 : Hid (pm[i]? = some (.slice pa nF pc, .slice ra m'.reserved.length rc)) := by rw [← hnF, ← e4]; exact hp
     have hnF2 : nF ≤ 9223372036854775807 := by rw [← hnF, ← e4]; exact own_le (hMO.each i m' _ e1 hp).1
     have HMm : Hid (ms[i]? = some m) := hm
     generalize m'.reserved.length = nR at *
     generalize m'.name = nm' at *
     have HM2 : Hid (MsO (wr.alloc (.cells #[.string nm', .slice pa nF pc, .slice ra nR rc] 40)) B (.slice (some ⟨q, 0, none⟩) nM mc) ms' pm) := HM.out.below ((Below.refl _ _).alloc (Nat.le_refl _) _)
     have HOM2 : Hid ((wr.alloc (.cells #[.string nm', .slice pa nF pc, .slice ra nR rc] 40)).ownsMap Tryz.prog 9 (unitElem (H := Unit)) (Bx + 1) k D) := HOM.out.alloc _
     have KF2 := KF.alloc (.cells #[.string nm', .slice pa nF pc, .slice ra nR rc] 40)
     have BC2 := Blk.new wr #[.string nm', .slice pa nF pc, .slice ra nR rc] 40
     have hBC : Bx ≤ wr.heap.size := by have := KF.size; rw [HBx.out] at this; exact this
     clear hMO hown e1 e2 e3 e4 e5 hp hm hl' hnF HM HOM KF hq2 hq3 hq4 hq5
     go_wp2_with fail
     clear c0 c1 c2
     generalize wr.alloc (.cells #[.string nm', .slice pa nF pc, .slice ra nR rc] 40) = wz at *
     generalize wr.heap.size = Cb at *
     go_loopw [34] (fun jv wr => ∃ (j : Nat) (ms' : List MsS), jv = .int .i64 (j : Int) ∧ j ≤ nF ∧ Hid (Part es ms ms' i j) ∧ Hid (MsO wr B (.slice (some ⟨q, 0, none⟩) nM mc) ms' pm) ∧ Hid (wr.ownsMap Tryz.prog 9 (unitElem (H := Unit)) (Bx + 1) k D) ∧ Kp (FB pm) w wr ∧ Blk wr Cb #[.string nm', .slice pa nF pc, .slice ra nR rc] 40) (fun jv _ => nF - (intOf jv).toNat)
     case atStart => exact ⟨0, ms', rfl, by omega, HP, HM2, HOM2, KF2, BC2⟩
     case round =>
      obtain ⟨j, ms2, rfl, hj, HP, HM, HOM, KF, BC⟩ := hrel
      clear HM2 HOM2 KF2 BC2
      by_cases hjlt : j < nF
      ·obtain ⟨f, hf⟩ : ∃ f, m.fields[j]? = some f := ⟨_, List.getElem?_eq_getElem (by rw [HNF.out]; exact hjlt)⟩
       obtain ⟨m2, g1, g2, g3⟩ := HP.out.get HMm.out hf
       have hF := (HM.out.each i m2 _ g1 HP1.out).1
       simp only at hF
       rw [g3, HNF.out] at hF
       obtain ⟨q2, cap2, hq, hq2, hq3, hq4, hq5⟩ := own_addr hF (by omega)
       simp only [Value.slice.injEq, true_and] at hq
       obtain ⟨rfl, rfl⟩ := hq
       have d3 := own_at (fl_len m2.fields) hF (fl_get g2) (j := 3) rfl
       have d4 := own_at (fl_len m2.fields) hF (fl_get g2) (j := 4) rfl
       have fz3 := own_froz hF (j * 5 + 3)
       have hqB : q2 < Bx := HHigh.out i _ q2 HP1.out rfl
       have hkey := WideMaps.keyOf_string_mk (P := Tryz.prog) (k := 9) Tryz.underlying9 (s := f.tname) (by have := HMS.out m (List.mem_of_getElem? HMm.out) f (List.mem_of_getElem? hf); unfold maxLen; omega)
       have cb1 := BC.cell 1
       simp only [List.getElem?_toArray, List.getElem?_cons_succ, List.getElem?_cons_zero] at cb1
       have d3a : ∀ o, (wr.alloc o).cell? ⟨q2, j * 5 + 3, none⟩ = some (.int .i64 f.kind) := fun o => by rw [World.cell?_alloc_past _ _ _ hq5]; exact d3
       have f3a : ∀ o, (wr.alloc o).frozen? ⟨q2, j * 5 + 3, none⟩ = false := fun o => by rw [World.frozen?_alloc_past _ _ _ hq5]; exact fz3
       have HG : Hid (ms2[i]? = some m2 ∧ m2.fields[j]? = some f ∧ m.fields[j]? = some f) := ⟨g1, g2, hf⟩
       have hqc : q2 < Cb ∨ True := .inr trivial
       clear hF g1 g2 g3 hf hq2 hq3 hq4 hq5 d3 fz3
       cases hb : hasE es f.tname.data.toList with
       | true =>
        have hhas : Maps.has D (.string f.tname.data.toList) = true := by rw [HH.out]; exact hb
        have HS : Hid (setF es f = ⟨f.name, f.tag, f.label, 6, f.tname⟩) := by
         show _ = _
         unfold setF
         exact if_pos hb
        clear hb
        go_wp2_with (first | (at_lookup; refine wpList_lookup_own_unit _ rfl _ _ 68 rfl 9 118 lawK Tryz.underlying68 (zeroUn _) (Bx + 1) k _ rfl HOM.out _ _ rfl hkey ?_) | fail)
        obtain ⟨g1, g2, g3⟩ := HG.out
        have HP3 : Hid (Part es ms (ms2.set i (kindAt m2 j f)) i (j + 1)) := HP.out.yes HMm.out g1 g3 HS.out
        have HM3 : Hid (MsO ((wr.alloc (.cells #[] 118)).setCell ⟨q2, j * 5 + 3, none⟩ (.int .i64 6)) B (.slice (some ⟨q, 0, none⟩) nM mc) (ms2.set i (kindAt m2 j f)) pm) := (HM.out.below ((Below.refl _ _).alloc (Nat.le_refl _) _)).setK g1 HP1.out g2 rfl
        have HOM3 : Hid (((wr.alloc (.cells #[] 118)).setCell ⟨q2, j * 5 + 3, none⟩ (.int .i64 6)).ownsMap Tryz.prog 9 (unitElem (H := Unit)) (Bx + 1) k D) := (HOM.out.alloc _).setCell (by simp only; omega) _
        have KF3 : Kp (FB pm) w ((wr.alloc (.cells #[] 118)).setCell ⟨q2, j * 5 + 3, none⟩ (.int .i64 6)) := Kp.setCell (p := ⟨q2, j * 5 + 3, none⟩) (KF.alloc _) (fun _ => ⟨i, _, HP1.out, rfl⟩) _
        have BC3 := (BC.below ((Below.refl _ _).alloc (Nat.le_refl _) (.cells #[] 118))).other (a := ⟨q2, j * 5 + 3, none⟩) (by simp only; omega) (.int .i64 6)
        clear g1 g2 g3
        go_roundw
        case rel => exact ⟨j + 1, _, rfl, by omega, HP3, HM3, HOM3, KF3, BC3⟩
        case measure => simp [intOf]; omega
       | false =>
        have hhas : Maps.has D (.string f.tname.data.toList) = false := by rw [HH.out]; exact hb
        have HS : Hid (setF es f = f) := by
         show _ = _
         unfold setF
         rw [if_neg (by unfold hasE at hb; rw [hb]; simp)]
        clear hb
        go_wp2_with (first | (at_lookup; refine wpList_lookup_own_unit _ rfl _ _ 68 rfl 9 118 lawK Tryz.underlying68 (zeroUn _) (Bx + 1) k _ rfl HOM.out _ _ rfl hkey ?_) | fail)
        obtain ⟨g1, g2, g3⟩ := HG.out
        have HP3 : Hid (Part es ms ms2 i (j + 1)) := HP.out.no HMm.out g3 HS.out
        have HM3 : Hid (MsO (wr.alloc (.cells #[] 118)) B (.slice (some ⟨q, 0, none⟩) nM mc) ms2 pm) := HM.out.below ((Below.refl _ _).alloc (Nat.le_refl _) _)
        have HOM3 : Hid ((wr.alloc (.cells #[] 118)).ownsMap Tryz.prog 9 (unitElem (H := Unit)) (Bx + 1) k D) := HOM.out.alloc _
        have KF3 : Kp (FB pm) w (wr.alloc (.cells #[] 118)) := KF.alloc _
        have BC3 := BC.below ((Below.refl _ _).alloc (Nat.le_refl _) (.cells #[] 118))
        clear g1 g2 g3
        go_roundw
        case rel => exact ⟨j + 1, _, rfl, by omega, HP3, HM3, HOM3, KF3, BC3⟩
        case measure => simp [intOf]; omega
      ·have HP3 : Hid (Part es ms ms2 (i + 1) 0) := HP.out.next HMm.out (by rw [HNF.out]; omega)
       go_wp2_with fail
       go_roundw
       case rel => exact ⟨i + 1, _, rfl, by omega, HP3, HM, HOM, KF⟩
       case measure => simp [intOf]; omega
    ·have eM : ms' = ms.map (setM es) := HP.out.all (by rw [HNM.out]; omega)
     subst eM
     go_wp2_with fail
     refine bodyPost_end (results_none rfl _ _ _) rfl ?_
     exact ⟨rfl, HM.out, KF⟩
end Go.Proofs.YtcjfeandnmochaaGreatDoor
namespace Go.Proofs.YtcjfeandnmochaaGreatDoor
open Go.ChangeShapes Go.WideShapes Go.ChangeAt Go.RowKit
set_option linter.unusedVariables false
set_option linter.unusedSimpArgs false
set_option maxRecDepth 20000
theorem results_three {fn : Func} {p u v : Tmp} {ty : TypeId} (h : fn.results = #[.cell p ty, .tmp u, .tmp v]) (tmps : Array Value) (P : Program) (w : World) (a : Addr) (x : Value) (ha : (asAddr (tmps.getD p undef)).run P w = .ok a w) (hl : (loadVar ty a).run P w = .ok x w) :
  (results fn tmps).run P w = .ok (.tuple #[x, tmps.getD u undef, tmps.getD v undef]) w := by
 simp only [results, h]
 simp only [Array.getD_eq_getD_getElem?] at ha
 simp [Sem.run_bind, Result.andThen, ha, hl]
theorem lex_few {l : List UInt8} {ts : List Tk} (h : lexO l 0 = .inr ts) : ts.length ≤ l.length := by
 have step : ∀ i, i ≤ ts.length → i ≤ endOf (ts.take i) := by
  intro i
  induction i with
  | zero => intro _; omega
  | succ i ih =>
   intro hi
   obtain ⟨e1, e2, e3, e4, e5, _⟩ := piece_at h (List.getElem?_eq_getElem (show i < ts.length by omega))
   have := ih (by omega)
   omega
 cases hn : ts.length with
 | zero => omega
 | succ n =>
  obtain ⟨e1, e2, e3, e4, e5, _⟩ := piece_at h (List.getElem?_eq_getElem (show n < ts.length by omega))
  have := step (n + 1) (by omega)
  omega
theorem tokA_zero {s : ByteArray} {ts : List Tk} {p : Nat} (h : tokA s = (ts, p, 0)) : s.size ≤ 16384 ∧ lexO s.data.toList 0 = .inr ts ∧ p = 0 := by
 unfold tokA at h
 split at h
 ·simp at h
 ·rename_i hs
  cases hl : lexO s.data.toList 0 with
  | inl x =>
   obtain ⟨q, e⟩ := x
   have he := lex_err hl
   rw [hl] at h
   simp only [ansA, Prod.mk.injEq] at h
   omega
  | inr x =>
   rw [hl] at h
   simp only [ansA, Prod.mk.injEq] at h
   exact ⟨by omega, by rw [h.1], h.2.1.symm⟩
theorem tok_few {s : ByteArray} {ts : List Tk} {p : Nat} (h : tokA s = (ts, p, 0)) : ts.length ≤ 16384 ∧ ∀ t ∈ ts, t.bytes.size ≤ 16384 := by
 obtain ⟨h1, h2, _⟩ := tokA_zero h
 have h3 := lex_few h2
 rw [len_data] at h3
 refine ⟨by omega, fun t ht => ?_⟩
 obtain ⟨i, hi⟩ := List.getElem?_of_mem ht
 obtain ⟨_, e2, _⟩ := piece_at h2 hi
 rw [len_data] at e2
 have : t.bytes.size = t.text.length := by simp [Tk.bytes, ByteArray.size]
 omega
theorem Rd.pos_at {w : World} {g : Nat} {V : Value} {ts : List Tk} {E : Nat} {σ : Sg} (h : Rd w g V ts E σ) {n : Nat} (hlt : n < ts.length) :
  ∃ q cap, V = .slice (some ⟨q, 0, none⟩) ts.length cap ∧ ts.length ≤ cap ∧ cap ≤ 9223372036854775807 ∧ w.cell? ⟨q, n * 3 + 2, none⟩ = some (.int .i64 ((ts[n].pos : Nat) : Int)) := by
 obtain ⟨a, cap, h1, h2, h3, h4, h5⟩ := h.row
 have hne : ts ≠ [] := by intro e; subst e; simp at hlt
 obtain ⟨q, rfl, _⟩ := h4 hne
 obtain ⟨_, _, b3⟩ := h5.at0 (List.getElem?_eq_getElem hlt)
 exact ⟨q, cap, h1, h2, by unfold maxLen at h3; omega, b3⟩
set_option maxHeartbeats 1000000 in
theorem rplace_any {w : World} {g : Nat} {V : Value} {ts : List Tk} {E : Nat} {σ : Sg} (h : Rd w g V ts E σ) :
  Calls Tryz.prog 24 #[.pointer (some ⟨g, 0, none⟩)] w fun e w' => e = .returned (.int .i64 ((placeN ts E (leftS σ) : Nat) : Int)) ∧ Below w.heap.size w w' := by
 obtain ⟨n, hn, hm, c0, c1, c2, c3, f1, f3⟩ := h.open
 by_cases hlt : n < ts.length
 ·obtain ⟨q, cap, rfl, hcap, hcap2, b3⟩ := h.pos_at hlt
  have e : placeN ts E (leftS σ) = ts[n].pos := by
   unfold placeN
   rw [show ts.length - leftS σ = n by omega, List.getElem?_eq_getElem hlt]
  rw [e]
  generalize ts[n].pos = P at *
  clear h e
  have hd : ((n : Int) == (ts.length : Int)) = false := by rw [beq_eq_false_iff_ne]; omega
  generalize ts.length = N at *
  clear hn
  go_enter Tryz.func24, Tryz.ntmps24
  go_wp2_with fail
  go_quiet (fail)
  go_wp2_with fail
  go_quiet (fail)
  go_wp2_with fail
  go_ret
  exact ⟨rfl, below_drewN _ (below_drewN _ (Below.refl _ _))⟩
 ·have e : placeN ts E (leftS σ) = E := by
   unfold placeN
   rw [List.getElem?_eq_none (by omega)]
  rw [e]
  obtain ⟨a, cap, rfl⟩ := h.form
  obtain rfl : n = ts.length := by omega
  clear h e hlt hn
  generalize ts.length = N at *
  have hd : ((N : Int) == (N : Int)) = true := by simp
  go_enter Tryz.func24, Tryz.ntmps24
  go_wp2_with fail
  go_quiet (fail)
  go_wp2_with fail
  go_ret
  exact ⟨rfl, below_drewN _ (Below.refl _ _)⟩
theorem parse_no {s : ByteArray} {ts : List Tk} {p n : Nat} (hA : tokA s = (ts, p, 0)) (hQ : pText (ts.map Tk.bytes) = .inl n) : parseA s = (zeroS, placeN ts s.size n, 5) := by
 unfold parseA
 simp only [hA, ne_eq, not_true_eq_false, if_false, hQ]
theorem parse_yes {s : ByteArray} {ts : List Tk} {p : Nat} {x : ScS} {r : List ByteArray} (hA : tokA s = (ts, p, 0)) (hQ : pText (ts.map Tk.bytes) = .inr (x, r)) : parseA s = (kindS x, 0, 0) := by
 unfold parseA
 simp only [hA, ne_eq, not_true_eq_false, if_false, hQ]
theorem parse_err {s : ByteArray} {ts : List Tk} {p e : Nat} (hA : tokA s = (ts, p, e)) (he : e ≠ 0) : parseA s = (zeroS, p, e) := by
 unfold parseA
 simp only [hA]
 rw [if_pos he]
def ScF (w : World) (B : Nat) (v : Value) (s : ScS) : Prop := ∃ vm ve vt pm pe, v = .agg #[.string s.name, vm, ve, vt] ∧ MsO w B vm s.msgs pm ∧ EnO w B ve s.enums pe ∧ w.ownsRow B 46 3 vt s.methods.length (mtRows s.methods).flatten
theorem ScF.zero (w : World) (B : Nat) : ScF w B (.agg #[.string ⟨#[]⟩, .slice none 0 0, .slice none 0 0, .slice none 0 0]) zeroS := ⟨_, _, _, [], [], rfl, MsO.nil _ _, EnO.nil _ _, World.ownsRow_nil _ _ _ _⟩
theorem ScF.to_in {w : World} {B : Nat} {v : Value} {s : ScS} (h : ScF w B v s) : ScIn w v s := by
 obtain ⟨vm, ve, vt, pm, pe, rfl, h1, h2, h3⟩ := h
 exact ⟨vm, ve, vt, rfl, h1.to_in, h2.to_in, mt_in h3⟩
theorem ScF.kp {S : Nat → Prop} {w w1 : World} {B : Nat} {v : Value} {s : ScS} (h : ScF w B v s) (hk : Kp S w w1) (hs : ∀ k, B ≤ k → ¬ S k) : ScF w1 B v s := by
 obtain ⟨vm, ve, vt, pm, pe, rfl, h1, h2, h3⟩ := h
 exact ⟨vm, ve, vt, pm, pe, rfl, h1.kp hk hs, h2.kp hk hs, own_kp h3 hk hs⟩
theorem Rd.new {w : World} {V : Value} {ts : List Tk} {E : Nat} (hG : Glob w) (hr : RowT w V ts) (h1 : ts.length ≤ 16384) (h2 : ∀ t ∈ ts, t.bytes.size ≤ 16384) :
  Rd (w.alloc (.cells #[V, .int .i64 0, .int .i64 (E : Int), .bool false] 61)) w.heap.size V ts E (.inr (ts.map Tk.bytes)) := by
 have hb : Below w.heap.size w (w.alloc (.cells #[V, .int .i64 0, .int .i64 (E : Int), .bool false] 61)) := (Below.refl _ _).alloc (Nat.le_refl _) _
 obtain ⟨a, cap, e1, e2, e3, e4, e5⟩ := hr.form
 refine ⟨hG.below hb, hG.lt, ?_, by simp [leftS], ?_, ⟨a, cap, e1, e2, e3, ?_, e5.below hb⟩, fun t ht => by have := h2 t ht; omega, by omega⟩
 ·simp only [leftS, List.length_map, Nat.sub_self, badS]
  exact heap_alloc_new w _
 ·intro r hr'
  simp only [Sum.inr.injEq] at hr'
  subst hr'
  simp
 ·intro hne
  obtain ⟨q, hq⟩ := e4 hne
  refine ⟨q, hq, ?_⟩
  have hlt : 0 < ts.length := by cases ts with | nil => exact absurd rfl hne | cons t r => simp
  rw [hq] at e5
  obtain ⟨c0, _, _⟩ := e5.at0 (List.getElem?_eq_getElem hlt)
  exact World.block_lt_of_cell? _ _ c0
set_option maxHeartbeats 4000000 in
theorem parse_any (s : ByteArray) (w : World) (hs : s.size ≤ 140737488351232) (hG : Glob w) :
  Calls Tryz.prog 10 #[.string s] w fun e w' => ∃ v, e = .returned (.tuple #[v, .int .i64 ((parseA s).2.1 : Int), .int .i64 ((parseA s).2.2 : Int)]) ∧ ScF w' w.heap.size v (parseA s).1 ∧ Below w.heap.size w w' := by
 obtain ⟨⟨ts, p, e⟩, hA⟩ : ∃ A, tokA s = A := ⟨_, rfl⟩
 have HA : Hid (tokA s = (ts, p, e)) := hA
 have HTok : Hid (∀ W : World, Calls Tryz.prog 22 #[.string s] W fun x w' => ∃ v, x = .returned (.tuple #[v, .int .i64 (p : Int), .int .i64 (e : Int)]) ∧ RowT w' v ts ∧ Below W.heap.size W w') := fun W => tokens_row s W hs ts p e hA
 have hb0 : Below w.heap.size w (w.alloc (.cells #[.string ⟨#[]⟩, .slice none 0 0, .slice none 0 0, .slice none 0 0] 27)) := (Below.refl _ _).alloc (Nat.le_refl _) _
 have B0 := Blk.new w #[.string ⟨#[]⟩, .slice none 0 0, .slice none 0 0, .slice none 0 0] 27
 obtain ⟨R, hR⟩ : ∃ R, w.heap.size = R := ⟨_, rfl⟩
 have HR : Hid (w.heap.size = R) := hR
 have hG0 := hG.below hb0
 rw [hR] at hb0 B0
 by_cases he : e = 0
 ·subst he
  obtain ⟨hf1, hf2⟩ := tok_few hA
  obtain ⟨z1, z2, rfl⟩ := tokA_zero hA
  have HF : Hid (ts.length ≤ 16384 ∧ ∀ t ∈ ts, t.bytes.size ≤ 16384) := ⟨hf1, hf2⟩
  obtain ⟨Q, hQ⟩ : ∃ Q, pText (ts.map Tk.bytes) = Q := ⟨_, rfl⟩
  have HQ : Hid (pText (ts.map Tk.bytes) = Q) := hQ
  have HPn : Hid (∀ n, Q = .inl n → parseA s = (zeroS, placeN ts s.size n, 5)) := fun n e => parse_no hA (hQ.trans e)
  have HPy : Hid (∀ x r, Q = .inr (x, r) → parseA s = (kindS x, 0, 0) ∧ GoodS x) := fun x r e => ⟨parse_yes hA (hQ.trans e), text_good (hQ.trans e)⟩
  clear hQ hA z1 z2 hf1 hf2 HA
  go_enter Tryz.func10, Tryz.ntmps10
  go_wp2_with fail
  refine (HTok.out _).mono ?_
  rintro e w1 ⟨V, rfl, hrow, hb1⟩
  clear hR
  have B1 := B0.below hb1
  have hb1' : Below R w w1 := hb0.trans (hb1.mono (by simp [HR.out]))
  have hG1 := hG0.below hb1
  have hRd := Rd.new (E := s.size) hG1 hrow HF.out.1 HF.out.2
  have B2 := B1.below ((Below.refl _ _).alloc (Nat.le_refl _) (.cells #[V, .int .i64 0, .int .i64 (s.size : Int), .bool false] 61))
  have hb2 : Below R w (w1.alloc (.cells #[V, .int .i64 0, .int .i64 (s.size : Int), .bool false] 61)) := hb1'.alloc (by have := hb1'.size; have := HR.out; omega) _
  have hRg : R < w1.heap.size := B1.lt
  obtain ⟨va, vc, hV⟩ := hRd.form
  subst hV
  clear B1 hb1' hG1 hb1 hrow hG0 B0 hb0 HTok
  obtain ⟨nT, hnT⟩ : ∃ n, ts.length = n := ⟨_, rfl⟩
  rw [hnT] at hRd B2 hb2 ⊢
  go_wp2_with fail
  generalize hw2 : w1.alloc (.cells #[.slice va nT vc, .int .i64 0, .int .i64 (s.size : Int), .bool false] 61) = w2 at *
  generalize w1.heap.size = g at *
  clear hw2 hnT
  refine (rschema_any hRd).mono ?_
  rintro e w3 ⟨sc, vm, ve, vt, pm, pe, B, rfl, rsc, h3, k3, hB3, HM, HE, HT⟩
  have e0 : pOn (.inr (ts.map Tk.bytes)) pText = Q := HQ.out
  rw [e0] at h3 rsc
  have B3 := B2.kp k3 (by omega)
  have hb3 : Below R w w3 := hb2.trans (k3.toBelow (by have := B2.lt; omega) (fun k hk => by omega))
  have hg2 : g < w2.heap.size := hRd.lt
  clear e0 hRd k3 B2 hb2 HQ
  obtain ⟨ma, mc, hv⟩ := own_form HM.own
  subst hv
  obtain ⟨ea, ec, hv⟩ := own_form HE.own
  subst hv
  obtain ⟨ta, tc, hv⟩ := own_form HT
  subst hv
  obtain ⟨nM, hnM⟩ : ∃ n, (sc.msgs.map preM).length = n := ⟨_, rfl⟩
  obtain ⟨nE, hnE⟩ : ∃ n, sc.enums.length = n := ⟨_, rfl⟩
  obtain ⟨nC, hnC⟩ : ∃ n, sc.methods.length = n := ⟨_, rfl⟩
  rw [hnM] at HM ⊢
  rw [hnE] at HE ⊢
  have HT' := HT
  rw [hnC] at HT ⊢
  have HNC : Hid (sc.methods.length = nC) := hnC
  clear hnM hnE hnC
  have HM3 : Hid _ := HM
  have HE3 : Hid _ := HE
  have HT3 : Hid _ := HT
  clear HM HE HT HT'
  have hbA : Below w3.heap.size w3 (w3.alloc (.cells #[.string sc.name, .slice ma nM mc, .slice ea nE ec, .slice ta nC tc] 27)) := (Below.refl _ _).alloc (Nat.le_refl _) _
  have h4 := h3.below hbA
  have B4 := B3.below hbA
  have BA := Blk.new w3 #[.string sc.name, .slice ma nM mc, .slice ea nE ec, .slice ta nC tc] 27
  have hb4 : Below R w (w3.alloc (.cells #[.string sc.name, .slice ma nM mc, .slice ea nE ec, .slice ta nC tc] 27)) := hb3.alloc (by have := B3.lt; omega) _
  have HM4 : Hid _ := HM3.out.below hbA
  have HE4 : Hid _ := HE3.out.below hbA
  have HT4 : Hid _ := own_below HT3.out hbA
  have hAb : R < w3.heap.size := B3.lt
  have hgA : g < w3.heap.size := h3.lt
  clear h3 B3 hb3 HM3 HE3 HT3
  obtain ⟨n, hn, hm, c0, c1, c2, c3, f1, f3⟩ := h4.open
  clear hn hm c0 c1 c2 f1 f3
  cases Q with
  | inl n =>
   have HP2 : Hid (parseA s = (zeroS, placeN ts s.size n, 5)) := HPn.out n rfl
   simp only [stX, badS] at h4 c3
   go_wp2_with fail
   generalize w3.alloc (.cells #[.string sc.name, .slice ma nM mc, .slice ea nE ec, .slice ta nC tc] 27) = w4 at *
   generalize w3.heap.size = Ab at *
   clear hbA c3
   refine (rplace_any h4).mono ?_
   rintro e w5 ⟨rfl, hb5⟩
   have B5 := B4.below hb5
   have hb5' : Below R w w5 := hb4.trans (hb5.mono (by have := B4.lt; omega))
   simp only [leftS]
   generalize hpl : placeN ts s.size n = pl at *
   clear hpl HM4 HE4 HT4 h4 hb4 hb5 B4 BA
   have r0 := B5.cell 0
   have r1 := B5.cell 1
   have r2 := B5.cell 2
   have r3 := B5.cell 3
   have f0 := B5.froz 0
   have f1 := B5.froz 1
   have f2 := B5.froz 2
   have f3 := B5.froz 3
   simp only [List.getElem?_toArray, List.getElem?_cons_succ, List.getElem?_cons_zero] at r0 r1 r2 r3
   go_wp2_with fail
   refine bodyPost_ret (results_three rfl _ _ _ ⟨R, 0, none⟩ (.agg #[.string ⟨#[]⟩, .slice none 0 0, .slice none 0 0, .slice none 0 0]) (by go_simp) (by go_simp)) rfl ?_
   rw [HP2.out]
   refine ⟨_, rfl, ScF.zero _ _, ?_⟩
   rw [HR.out]
   exact (((hb5'.setCell (Nat.le_refl _) _).setCell (Nat.le_refl _) _).setCell (Nat.le_refl _) _).setCell (Nat.le_refl _) _
  | inr x =>
   obtain ⟨x, r⟩ := x
   have := rsc x r rfl
   subst this
   obtain ⟨q1, q2⟩ := HPy.out sc r rfl
   have HP2 : Hid (parseA s = (kindS sc, 0, 0)) := q1
   have HGd : Hid (GoodS sc) := q2
   clear q1 q2 HPn HPy rsc
   simp only [stX, badS] at h4 c3
   have HES : Hid (∀ e ∈ sc.enums, e.name.size ≤ 80) := fun e he => name_size (HGd.out.2 e he)
   have HMS : Hid (∀ m ∈ sc.msgs.map preM, ∀ f ∈ m.fields, f.tname.size ≤ 80) := by
    intro m hm f hf
    simp only [List.mem_map] at hm
    obtain ⟨m0, hm0, rfl⟩ := hm
    simp only [preM, List.mem_map] at hf
    obtain ⟨f0, hf0, rfl⟩ := hf
    rcases HGd.out.1 m0 hm0 f0 hf0 with ⟨_, e⟩ | ⟨_, e⟩
    ·exact name_size e
    ·show f0.tname.size ≤ 80
     rw [e]; decide
   have a0 := BA.cell 0
   have a1 := BA.cell 1
   have a2 := BA.cell 2
   have a3 := BA.cell 3
   simp only [List.getElem?_toArray, List.getElem?_cons_succ, List.getElem?_cons_zero] at a0 a1 a2 a3
   go_wp2_with fail
   generalize w3.alloc (.cells #[.string sc.name, .slice ma nM mc, .slice ea nE ec, .slice ta nC tc] 27) = w4 at *
   generalize w3.heap.size = Ab at *
   clear hbA c3 a0 a1 a2 a3
   refine (settle_any HM4.out HE4.out ⟨_, _, _, rfl⟩ HES.out HMS.out).mono ?_
   rintro e w5 ⟨rfl, hM5, k5⟩
   have hFB : ∀ k, FB pm k → B ≤ k ∧ ∃ (i : Nat) (p : Value × Value) (m : MsS), pm[i]? = some p ∧ p.1.ownBlock = some k ∧ w4.ownsRow B 90 5 p.1 m.fields.length (flRows m.fields).flatten := by
    rintro k ⟨i, p, hp, hk⟩
    have hi : i < (sc.msgs.map preM).length := by rw [← HM4.out.len]; exact (List.getElem?_eq_some_iff.1 hp).1
    have := (HM4.out.each i _ p (List.getElem?_eq_getElem hi) hp).1
    exact ⟨(this.lt k hk).1, i, p, _, hp, hk, this⟩
   have HE5 : Hid (EnO w5 B (.slice ea nE ec) sc.enums pe) := by
    refine ⟨HE4.out.len, own_kpV HE4.out.own k5 (fun k hk hS => ?_), fun i e p he hp => own_kpV (HE4.out.each i e p he hp) k5 (fun k hk hS => ?_)⟩
    ·obtain ⟨_, _, _, _, _, hb, hf⟩ := hFB k hS
     exact own_apart hf HE4.out.own (by decide) k hb hk
    ·obtain ⟨_, _, _, _, _, hb, hf⟩ := hFB k hS
     exact own_apart hf (HE4.out.each i e p he hp) (by decide) k hb hk
   have HT5 : Hid (w5.ownsRow B 46 3 (.slice ta nC tc) nC (mtRows sc.methods).flatten) := own_kpV HT4.out k5 (fun k hk hS => by
    obtain ⟨_, _, _, _, _, hb, hf⟩ := hFB k hS
    exact own_apart hf HT4.out (by decide) k hb hk)
   have B5 := B4.kp k5 (fun hS => by have := (hFB _ hS).1; omega)
   have BA5 := BA.kp k5 (fun hS => by
    obtain ⟨_, _, _, _, _, hb, hf⟩ := hFB _ hS
    exact absurd (own_type hf hb BA) (by decide))
   have hb5 : Below R w w5 := hb4.trans (k5.toBelow (by have := B4.lt; omega) (fun k hS => by have := (hFB k hS).1; omega))
   have HM5 : Hid (MsO w5 B (.slice ma nM mc) (sc.msgs.map (kindM sc.enums)) pm) := by
    have := hM5
    rw [set_kinds HGd.out] at this
    exact this
   clear hM5 k5 hFB HM4 HE4 HT4 h4 hb4 B4 BA HES HMS HGd
   have a0 := BA5.cell 0
   have a1 := BA5.cell 1
   have a2 := BA5.cell 2
   have a3 := BA5.cell 3
   have r0 := B5.cell 0
   have r1 := B5.cell 1
   have r2 := B5.cell 2
   have r3 := B5.cell 3
   have f0 := B5.froz 0
   have f1 := B5.froz 1
   have f2 := B5.froz 2
   have f3 := B5.froz 3
   simp only [List.getElem?_toArray, List.getElem?_cons_succ, List.getElem?_cons_zero] at a0 a1 a2 a3 r0 r1 r2 r3
   go_wp2_with fail
   refine bodyPost_ret (results_three rfl _ _ _ ⟨R, 0, none⟩ (.agg #[.string sc.name, .slice ma nM mc, .slice ea nE ec, .slice ta nC tc]) (by go_simp) (by go_simp)) rfl ?_
   have k6 : Kp (fun k => k = R) w5 ((((w5.setCell ⟨R, 0, none⟩ (.string sc.name)).setCell ⟨R, 1, none⟩ (.slice ma nM mc)).setCell ⟨R, 2, none⟩ (.slice ea nE ec)).setCell ⟨R, 3, none⟩ (.slice ta nC tc)) := Kp.setCell (p := ⟨R, 3, none⟩) (Kp.setCell (p := ⟨R, 2, none⟩) (Kp.setCell (p := ⟨R, 1, none⟩) (Kp.setCell (p := ⟨R, 0, none⟩) (Kp.refl (fun k => k = R) w5) (fun _ => rfl) _) (fun _ => rfl) _) (fun _ => rfl) _) (fun _ => rfl) _
   rw [HP2.out]
   refine ⟨_, rfl, ⟨_, _, _, pm, pe, rfl, ?_, ?_, ?_⟩, ?_⟩
   ·exact (HM5.out.kp k6 (fun k hk => by omega)).base (by rw [HR.out]; omega)
   ·exact (HE5.out.kp k6 (fun k hk => by omega)).base (by rw [HR.out]; omega)
   ·show World.ownsRow _ _ _ _ _ sc.methods.length _
    rw [HNC.out]
    exact own_base (own_kp HT5.out k6 (fun k hk => by omega)) (by rw [HR.out]; omega)
   ·rw [HR.out]
    exact (((hb5.setCell (Nat.le_refl _) _).setCell (Nat.le_refl _) _).setCell (Nat.le_refl _) _).setCell (Nat.le_refl _) _
 ·have HP2 : Hid (parseA s = (zeroS, p, e)) := parse_err hA he
  have hd : ((e : Int) == 0) = false := by rw [beq_eq_false_iff_ne]; omega
  clear hA HA he
  go_enter Tryz.func10, Tryz.ntmps10
  go_wp2_with fail
  refine (HTok.out _).mono ?_
  rintro x w1 ⟨V, rfl, hrow, hb1⟩
  clear hR
  have B1 := B0.below hb1
  have hb1' : Below R w w1 := hb0.trans (hb1.mono (by simp [HR.out]))
  have r0 := B1.cell 0
  have r1 := B1.cell 1
  have r2 := B1.cell 2
  have r3 := B1.cell 3
  have f0 := B1.froz 0
  have f1 := B1.froz 1
  have f2 := B1.froz 2
  have f3 := B1.froz 3
  simp only [List.getElem?_toArray, List.getElem?_cons_succ, List.getElem?_cons_zero] at r0 r1 r2 r3
  clear hb1 hrow hG0 B0 hb0 HTok
  go_wp2_with fail
  refine bodyPost_ret (results_three rfl _ _ _ ⟨R, 0, none⟩ (.agg #[.string ⟨#[]⟩, .slice none 0 0, .slice none 0 0, .slice none 0 0]) (by go_simp) (by go_simp)) rfl ?_
  rw [HP2.out]
  refine ⟨_, rfl, ScF.zero _ _, ?_⟩
  rw [HR.out]
  exact (((hb1'.setCell (Nat.le_refl _) _).setCell (Nat.le_refl _) _).setCell (Nat.le_refl _) _).setCell (Nat.le_refl _) _
theorem slash_two {s : ByteArray} {p : Nat} (hp : p < s.size) (h : [47, 47].isPrefixOf (s.data.toList.drop p) = true) : ((s[p].toNat : Int) == 47) = true ∧ ∃ h1 : p + 1 < s.size, ((s[p + 1].toNat : Int) == 47) = true := by
 rw [drop_cons s p hp] at h
 by_cases h1 : p + 1 < s.size
 ·rw [drop_cons s (p + 1) h1] at h
  simp [List.isPrefixOf] at h
  rw [← h.1]
  refine ⟨rfl, h1, ?_⟩
  rw [← h.2]; rfl
 ·rw [drop_none s (p + 1) (by omega)] at h
  simp [List.isPrefixOf] at h
theorem slash_not {s : ByteArray} {p : Nat} (hp : p < s.size) (h : [47, 47].isPrefixOf (s.data.toList.drop p) = false) : ((s[p].toNat : Int) == 47) = false ∨ (((s[p].toNat : Int) == 47) = true ∧ ¬ p + 1 < s.size) ∨ (((s[p].toNat : Int) == 47) = true ∧ ∃ h1 : p + 1 < s.size, ((s[p + 1].toNat : Int) == 47) = false) := by
 by_cases h0 : s[p].toNat = 47
 ·right
  have e0 : ((s[p].toNat : Int) == 47) = true := by rw [beq_iff_eq]; omega
  by_cases h1 : p + 1 < s.size
  ·right
   refine ⟨e0, h1, ?_⟩
   rw [beq_eq_false_iff_ne]
   intro h2
   have a0 : s[p] = 47 := UInt8.toNat_inj.1 (by rw [h0]; rfl)
   have a1 : s[p + 1] = 47 := UInt8.toNat_inj.1 (by show s[p + 1].toNat = 47; omega)
   rw [drop_cons s p hp, drop_cons s (p + 1) h1, a0, a1] at h
   simp [List.isPrefixOf] at h
  ·exact .inl ⟨e0, h1⟩
 ·left; rw [beq_eq_false_iff_ne]; omega
theorem blank_not {a : UInt8} (h : blankB a = false) : ((a.toNat : Int) == 32) = false ∧ ((a.toNat : Int) == 9) = false ∧ ((a.toNat : Int) == 13) = false ∧ ((a.toNat : Int) == 10) = false := by
 unfold blankB at h
 simp only [decide_eq_false_iff_not] at h
 simp only [beq_eq_false_iff_ne]
 omega
theorem blank_yes {a : UInt8} (h : blankB a = true) : ((a.toNat : Int) == 32) = true ∨ (((a.toNat : Int) == 32) = false ∧ ((a.toNat : Int) == 9) = true) ∨ (((a.toNat : Int) == 32) = false ∧ ((a.toNat : Int) == 9) = false ∧ ((a.toNat : Int) == 13) = true) ∨ (((a.toNat : Int) == 32) = false ∧ ((a.toNat : Int) == 9) = false ∧ ((a.toNat : Int) == 13) = false ∧ ((a.toNat : Int) == 10) = true) := by
 unfold blankB at h
 simp only [decide_eq_true_eq] at h
 simp only [beq_eq_false_iff_ne, beq_iff_eq]
 omega
theorem sign_yes {a : Nat} (h : signB a = true) : ((a : Int) == 123) = true ∨ (((a : Int) == 123) = false ∧ ((a : Int) == 125) = true) ∨ (((a : Int) == 123) = false ∧ ((a : Int) == 125) = false ∧ ((a : Int) == 40) = true) ∨
  (((a : Int) == 123) = false ∧ ((a : Int) == 125) = false ∧ ((a : Int) == 40) = false ∧ ((a : Int) == 41) = true) ∨ (((a : Int) == 123) = false ∧ ((a : Int) == 125) = false ∧ ((a : Int) == 40) = false ∧ ((a : Int) == 41) = false ∧ ((a : Int) == 59) = true) ∨
  (((a : Int) == 123) = false ∧ ((a : Int) == 125) = false ∧ ((a : Int) == 40) = false ∧ ((a : Int) == 41) = false ∧ ((a : Int) == 59) = false ∧ ((a : Int) == 61) = true) ∨
  (((a : Int) == 123) = false ∧ ((a : Int) == 125) = false ∧ ((a : Int) == 40) = false ∧ ((a : Int) == 41) = false ∧ ((a : Int) == 59) = false ∧ ((a : Int) == 61) = false ∧ ((a : Int) == 44) = true) := by
 unfold signB at h
 simp only [decide_eq_true_eq] at h
 simp only [beq_eq_false_iff_ne, beq_iff_eq]
 omega
theorem sign_not {a : Nat} (h : signB a = false) : ((a : Int) == 123) = false ∧ ((a : Int) == 125) = false ∧ ((a : Int) == 40) = false ∧ ((a : Int) == 41) = false ∧ ((a : Int) == 59) = false ∧ ((a : Int) == 61) = false ∧ ((a : Int) == 44) = false := by
 unfold signB at h
 simp only [decide_eq_false_iff_not] at h
 simp only [beq_eq_false_iff_ne]
 omega
theorem sign_byte {a : UInt8} {r : List UInt8} {c m : Nat} (h : nxL (a :: r) = some (c, m)) : signB a.toNat = signB c := by
 rcases nx_small h with ⟨_, h2, _⟩ | ⟨h1, h2⟩
 ·rw [h2]
 ·unfold signB
  rw [decide_eq_false (by omega), decide_eq_false (by omega)]
theorem piece_sign (m : Nat) (l : List UInt8) : pieceN 3 m l = m := by
 unfold pieceN
 rw [runN_stop0]
 ·rfl
 ·unfold contB
  cases nxL (l.drop m) with
  | none => rfl
  | some x => simp [goesB]
set_option maxHeartbeats 8000000 in
theorem rtokens_any (s : ByteArray) (w : World) (hs : s.size ≤ 140737488351232) :
  Calls Tryz.prog 36 #[.string s] w fun e w' => ∃ v, e = .returned (.tuple #[v, .int .i64 ((tokA s).2.1 : Int), .int .i64 ((tokA s).2.2 : Int)]) ∧ w'.ownsRow w.heap.size 85 3 v (tokA s).1.length (tkCells (tokA s).1) ∧ Below w.heap.size w w' := by
 obtain ⟨R, hR⟩ : ∃ R, tokA s = R := ⟨_, rfl⟩
 rw [hR]
 by_cases hbig : 16384 < s.size
 ·have : R = ([], 0, 4) := by rw [← hR, tokA, if_pos hbig]
  subst this
  clear hR
  go_enter Tryz.func36, Tryz.ntmps36
  go_wp2_with fail
  go_ret3
  exact ⟨_, rfl, World.ownsRow_nil _ _ _ _, Below.refl _ _⟩
 ·have HR : Hid (ansA (lexO s.data.toList 0) = R) := by
   show _ = _
   rw [← hR, tokA, if_neg hbig]
  clear hR
  obtain ⟨i0, hi, hz0, hz1, hz2⟩ := info_parts infoTk
  go_enter Tryz.func36, Tryz.ntmps36
  go_wp2_with fail
  go_loopw [5, 6] (fun out pv wr => ∃ (acc : List Tk) (pos p : Nat), pv = .int .i64 (p : Int) ∧ p ≤ s.size ∧ acc.length ≤ p ∧ Hid (pos + skipN (s.data.toList.drop pos) = p + skipN (s.data.toList.drop p)) ∧ Hid (Read s.data.toList pos acc) ∧ Hid (wr.ownsRow w.heap.size 85 3 out acc.length (tkCells acc)) ∧ Below w.heap.size w wr)
   (fun _ pv _ => s.size - (intOf pv).toNat)
  case atStart => exact ⟨[], 0, 0, rfl, by omega, by simp, rfl, Read.start, World.ownsRow_nil _ _ _ _, Below.refl _ _⟩
  case round =>
   obtain ⟨acc, pos, p, rfl, hp, hacc, HP, HRd, HO, hbel⟩ := hrel
   have hws := hbel.size
   by_cases hlt : p < s.size
   ·have HD : Hid (s.data.toList.drop p = s[p] :: s.data.toList.drop (p + 1)) := drop_cons s p hlt
    cases hb : blankB s[p] with
    | true =>
     have HN : Hid (pos + skipN (s.data.toList.drop pos) = p + 1 + skipN (s.data.toList.drop (p + 1))) := by
      have h1 := skipN_blank HD.out hb
      rw [List.drop_drop] at h1
      show _ = _
      rw [HP.out, h1]; omega
     have hby := blank_yes hb
     clear hb HD HP
     rcases hby with h1 | ⟨h1, h2⟩ | ⟨h1, h2, h3⟩ | ⟨h1, h2, h3, h4⟩
     all_goals
      go_wp2_with fail
      go_roundw
      case rel => exact ⟨acc, pos, p + 1, by go_num, by omega, by omega, HN, HRd, HO, hbel⟩
      case measure => simp [intOf]; omega
    | false =>
     obtain ⟨b1, b2, b3, b4⟩ := blank_not hb
     have HB : Hid (blankB s[p] = false) := hb
     clear hb
     go_upto_region 9 with fail
     go_cut [53] from 15 to 141 (fun bv wx => bv = .bool ([47, 47].isPrefixOf (s.data.toList.drop p)) ∧ wx = wr)
     case first =>
      cases hc : [47, 47].isPrefixOf (s.data.toList.drop p) with
      | true =>
       obtain ⟨c1, hp1, c2⟩ := slash_two hlt hc
       have HC : Hid ([47, 47].isPrefixOf (s.data.toList.drop p) = true) := hc
       clear hc
       go_wp2_with fail
       go_meet
       exact ⟨by rw [HC.out], rfl⟩
      | false =>
       have hsn := slash_not hlt hc
       have HC : Hid ([47, 47].isPrefixOf (s.data.toList.drop p) = false) := hc
       clear hc
       rcases hsn with c1 | ⟨c1, c2⟩ | ⟨c1, hp1, c2⟩
       all_goals
        go_wp2_with fail
        go_meet
        exact ⟨by rw [HC.out], rfl⟩
     case rest =>
     obtain ⟨hcb, hcw⟩ := hcut
     subst hcb
     subst hcw
     cases hc : [47, 47].isPrefixOf (s.data.toList.drop p) with
     | true =>
      obtain ⟨h1, h2⟩ := skipN_slash hc
      rw [List.drop_drop] at h1
      have hl := lineN_le (s.data.toList.drop p)
      rw [List.length_drop, len_data] at hl
      have HN : Hid (pos + skipN (s.data.toList.drop pos) = p + lineN (s.data.toList.drop p) + skipN (s.data.toList.drop (p + lineN (s.data.toList.drop p)))) := by
       show _ = _; rw [HP.out, h1]; omega
      clear hc HD h1 HB HP
      obtain ⟨E, hE⟩ : ∃ E, p + lineN (s.data.toList.drop p) = E := ⟨_, rfl⟩
      rw [hE] at HN
      have HE : Hid (p + lineN (s.data.toList.drop p) = E) := hE
      have hEb : p + 2 ≤ E ∧ E ≤ s.size := by omega
      clear hE hl h2
      go_wp2_with fail
      go_loop [6] (fun qv => ∃ q : Nat, qv = .int .i64 (q : Int) ∧ p ≤ q ∧ q ≤ s.size ∧ Hid (q + lineN (s.data.toList.drop q) = E)) (fun qv => s.size - (intOf qv).toNat)
      case atStart => exact ⟨p, rfl, by omega, hp, HE⟩
      case round =>
       obtain ⟨q, rfl, hpq, hq, HQ⟩ := hrel
       by_cases hql : q < s.size
       ·have HDq : Hid (s.data.toList.drop q = s[q] :: s.data.toList.drop (q + 1)) := drop_cons s q hql
        by_cases h10 : s[q].toNat = 10
        ·have hne : ((s[q].toNat : Int) != 10) = false := by simp; omega
         have hqE : q = E := by
          have := HQ.out
          rw [HDq.out] at this
          simp only [lineN] at this
          rw [if_pos h10] at this
          exact this
         have HqE : Hid (q = E) := hqE
         have hqb : p + 2 ≤ q := by omega
         have HN2 : Hid (pos + skipN (s.data.toList.drop pos) = q + skipN (s.data.toList.drop q)) := by rw [HqE.out]; exact HN
         clear hqE h10 HDq hEb
         go_wp2_with fail
         go_roundw
         case rel => exact ⟨acc, pos, q, rfl, hq, by omega, HN2, HRd, HO, hbel⟩
         case measure => simp [intOf]; omega
        ·have hne : ((s[q].toNat : Int) != 10) = true := by simp; omega
         have HQ2 : Hid (q + 1 + lineN (s.data.toList.drop (q + 1)) = E) := by
          have := HQ.out
          rw [HDq.out] at this
          simp only [lineN] at this
          rw [if_neg h10] at this
          show _ = _
          omega
         clear h10 HDq HQ
         go_wp2_with fail
         go_round
         case rel => exact ⟨q + 1, by go_num, by omega, by omega, HQ2⟩
         case measure => simp [intOf]; omega
       ·have hqE : q = E := by
         have := HQ.out
         rw [drop_none s q (by omega)] at this
         exact this
        have HqE : Hid (q = E) := hqE
        have hqb : p + 2 ≤ q := by omega
        have HN2 : Hid (pos + skipN (s.data.toList.drop pos) = q + skipN (s.data.toList.drop q)) := by rw [HqE.out]; exact HN
        clear hqE hEb
        go_wp2_with fail
        go_roundw
        case rel => exact ⟨acc, pos, q, rfl, hq, by omega, HN2, HRd, HO, hbel⟩
        case measure => simp [intOf]; omega
     | false =>
      have HP0 : Hid (pos + skipN (s.data.toList.drop pos) = p) := by show _ = _; rw [HP.out, skipN_none HD.out HB.out hc]; rfl
      have HA : Hid (atL s p = s.data.toList.drop p) := by rw [atL_in s p (by omega), Int.toNat_natCast]; rfl
      clear hc HP HB
      go_wp2_with fail
      refine (rnext_any s _ _ hs).mono ?_
      rintro e w1 ⟨rfl, rfl⟩
      rw [HA.out]
      generalize hx : nxL (s.data.toList.drop p) = x
      cases x with
      | none =>
       have hR : R = ([], p, 9) := by
        have hl := HP0.out
        rw [← HR.out, HRd.out.text (by rw [hl, len_data]; exact hlt) (by rw [hl]; exact hx), hl]; rfl
       subst hR
       clear hx HR HP0 HRd HO
       simp only [nxV]
       go_wp2_with fail
       go_ret3
       exact ⟨_, rfl, World.ownsRow_nil _ _ _ _, hbel⟩
      | some x =>
       obtain ⟨c, m⟩ := x
       simp only [nxV]
       have hpb := piece_bd (k := kindN c) hx
       rw [List.length_drop, len_data] at hpb
       have hsl1 : ∀ W : World, (Instr.slice 9 (.string s) (some (.int .i64 (p : Int))) (some (.int .i64 ((p : Int) + 1))) none).run Tryz.prog W = .ok (.string (s.extract p (p + 1))) W := fun W => slice_text W s p (p + 1) (by omega) (by omega)
       have HSG : Hid (signB s[p].toNat = signB c) := by
        have := hx
        rw [HD.out] at this
        exact sign_byte this
       cases hl : letB c with
       | true =>
        have hk : kindN c = 1 := by unfold kindN; rw [if_pos hl]
        rw [hk] at hpb
        obtain ⟨X, hE⟩ : ∃ X, p + pieceN 1 m (s.data.toList.drop p) = X := ⟨_, rfl⟩
        have HW : Hid (∀ W : World, Calls Tryz.prog 80 #[.string s, .int .i64 (p : Int), .bool false] W fun e w' => e = .returned (.int .i64 (X : Int)) ∧ w' = W) := fun W => by
         have := rword_any s p false W hs hp
         rw [if_neg (by simp), runN_yes hx (by simp [goesB, hl])] at this
         unfold pieceN at hE
         rwa [hE] at this
        obtain ⟨T, hT⟩ : ∃ T : Tk, T = ⟨1, (s.data.toList.drop p).take (pieceN 1 m (s.data.toList.drop p)), p⟩ := ⟨_, rfl⟩
        have HRd2 : Hid (Read s.data.toList X (acc ++ [T])) := by
         have hl := HP0.out
         have := HRd.out.tok (by rw [hl]; exact hx) (by rw [hk]; decide)
         rw [hl, hk, hE] at this
         rw [hT]
         exact this
        have hpe : p < X ∧ X ≤ s.size := by omega
        have HT : Hid (T.cells = [.int .i64 1, .string (s.extract p X), .int .i64 (p : Int)]) := by
         show _ = _
         rw [hT, ← hE, extract_piece]; rfl
        have hbs : p + (s.extract p X).size = X := by rw [ByteArray.size_extract]; omega
        have hb1 : p + (s.extract p X).size ≤ X := by omega
        have hb2 : X ≤ p + (s.extract p X).size := by omega
        have hsl : ∀ W : World, (Instr.slice 9 (.string s) (some (.int .i64 (p : Int))) (some (.int .i64 (X : Int))) none).run Tryz.prog W = .ok (.string (s.extract p X)) W := fun W => slice_text W s p X (by omega) (by omega)
        have HL : Hid (letB c = true) := hl
        clear hx hE hT hl hk hpb hbs
        generalize s.extract p X = B at *
        generalize s.extract p (p + 1) = B0 at *
        go_wp2_with fail
        refine (rletter_any c _).mono ?_
        rintro e w2 ⟨rfl, rfl⟩
        rw [HL.out]
        go_wp2_with fail
        refine (HW.out _).mono ?_
        rintro e w3 ⟨rfl, rfl⟩
        go_wp2_with (first
         | (at_builtin; refine wpList_append_own _ rfl _ _ 57 rfl w.heap.size 85 i0 _ 3 32 Tryz.underlying57 hi hz0 hz1 hz2 rfl (by decide) _ _ _ rfl ((HO.out.alloc _).alloc _) ⟨w1.heap.size + 1, 0, none⟩ 1 1 [.int .i64 1, .string B, .int .i64 (p : Int)] rfl rfl ?c1 ?c2 ?c3 ?c4 ?c5 ?_)
         | fail)
        case c1 =>
         intro j u hj
         match j, hj with
         | 0, hj | 1, hj | 2, hj => simp at hj; subst hj; simp [Addr.add]
        case c2 => intro u hu; simp at hu; rcases hu with rfl | rfl | rfl <;> rfl
        case c3 => unfold maxLen; omega
        case c4 => omega
        case c5 => simp; omega
        intro v w4 ho4 hg4 _
        have hcell : w4.cell? ⟨w1.heap.size, 1, none⟩ = some (.string B) := hg4.cell (by simp) (fun e => by have := (HO.out.lt _ e.symm).2; simp at this)
        have hb4 : Below w.heap.size w w4 := ((hbel.alloc hws _).alloc (by simp; omega) _).grown hg4 (by simp; omega) (fun k hk => (HO.out.lt k hk).1)
        have HO4 : Hid (w4.ownsRow w.heap.size 85 3 v (acc ++ [T]).length (tkCells (acc ++ [T]))) := by
         show World.ownsRow _ _ _ _ _ _ _
         rw [(tkCells_snoc acc _).1, (tkCells_snoc acc _).2, HT.out]
         exact ho4
        have hlen : (acc ++ [T]).length ≤ X := by simp; omega
        clear ho4 hg4
        go_wp2_with fail
        go_roundw
        case rel => exact ⟨acc ++ [T], X, X, by congr 1; omega, hpe.2, hlen, rfl, HRd2, HO4, hb4⟩
        case measure => simp [intOf]; omega
       | false =>
        have HL : Hid (letB c = false) := hl
        cases hdg : digB c with
        | true =>
         have hk : kindN c = 2 := by unfold kindN; rw [if_neg (by simp [hl]), if_pos hdg]
         rw [hk] at hpb
         obtain ⟨X, hE⟩ : ∃ X, p + pieceN 2 m (s.data.toList.drop p) = X := ⟨_, rfl⟩
         have HW : Hid (∀ W : World, Calls Tryz.prog 80 #[.string s, .int .i64 (p : Int), .bool true] W fun e w' => e = .returned (.int .i64 (X : Int)) ∧ w' = W) := fun W => by
          have := rword_any s p true W hs hp
          rw [if_pos rfl, runN_yes hx (by simp [goesB, hdg])] at this
          unfold pieceN at hE
          rwa [hE] at this
         obtain ⟨T, hT⟩ : ∃ T : Tk, T = ⟨2, (s.data.toList.drop p).take (pieceN 2 m (s.data.toList.drop p)), p⟩ := ⟨_, rfl⟩
         have HRd2 : Hid (Read s.data.toList X (acc ++ [T])) := by
          have hl := HP0.out
          have := HRd.out.tok (by rw [hl]; exact hx) (by rw [hk]; decide)
          rw [hl, hk, hE] at this
          rw [hT]
          exact this
         have hpe : p < X ∧ X ≤ s.size := by omega
         have HT : Hid (T.cells = [.int .i64 2, .string (s.extract p X), .int .i64 (p : Int)]) := by
          show _ = _
          rw [hT, ← hE, extract_piece]; rfl
         have hbs : p + (s.extract p X).size = X := by rw [ByteArray.size_extract]; omega
         have hb1 : p + (s.extract p X).size ≤ X := by omega
         have hb2 : X ≤ p + (s.extract p X).size := by omega
         have hsl : ∀ W : World, (Instr.slice 9 (.string s) (some (.int .i64 (p : Int))) (some (.int .i64 (X : Int))) none).run Tryz.prog W = .ok (.string (s.extract p X)) W := fun W => slice_text W s p X (by omega) (by omega)
         have HDG : Hid (digB c = true) := hdg
         clear hx hE hT hl hk hpb hbs hdg
         generalize s.extract p X = B at *
         generalize s.extract p (p + 1) = B0 at *
         go_wp2_with fail
         refine (rletter_any c _).mono ?_
         rintro e w2 ⟨rfl, rfl⟩
         rw [HL.out]
         go_wp2_with fail
         refine (rdigit_any c _).mono ?_
         rintro e w2 ⟨rfl, rfl⟩
         rw [HDG.out]
         go_wp2_with fail
         refine (HW.out _).mono ?_
         rintro e w3 ⟨rfl, rfl⟩
         go_wp2_with (first
          | (at_builtin; refine wpList_append_own _ rfl _ _ 57 rfl w.heap.size 85 i0 _ 3 32 Tryz.underlying57 hi hz0 hz1 hz2 rfl (by decide) _ _ _ rfl ((HO.out.alloc _).alloc _) ⟨w1.heap.size + 1, 0, none⟩ 1 1 [.int .i64 2, .string B, .int .i64 (p : Int)] rfl rfl ?c1 ?c2 ?c3 ?c4 ?c5 ?_)
          | fail)
         case c1 =>
          intro j u hj
          match j, hj with
          | 0, hj | 1, hj | 2, hj => simp at hj; subst hj; simp [Addr.add]
         case c2 => intro u hu; simp at hu; rcases hu with rfl | rfl | rfl <;> rfl
         case c3 => unfold maxLen; omega
         case c4 => omega
         case c5 => simp; omega
         intro v w4 ho4 hg4 _
         have hcell : w4.cell? ⟨w1.heap.size, 1, none⟩ = some (.string B) := hg4.cell (by simp) (fun e => by have := (HO.out.lt _ e.symm).2; simp at this)
         have hb4 : Below w.heap.size w w4 := ((hbel.alloc hws _).alloc (by simp; omega) _).grown hg4 (by simp; omega) (fun k hk => (HO.out.lt k hk).1)
         have HO4 : Hid (w4.ownsRow w.heap.size 85 3 v (acc ++ [T]).length (tkCells (acc ++ [T]))) := by
          show World.ownsRow _ _ _ _ _ _ _
          rw [(tkCells_snoc acc _).1, (tkCells_snoc acc _).2, HT.out]
          exact ho4
         have hlen : (acc ++ [T]).length ≤ X := by simp; omega
         clear ho4 hg4
         go_wp2_with fail
         go_roundw
         case rel => exact ⟨acc ++ [T], X, X, by congr 1; omega, hpe.2, hlen, rfl, HRd2, HO4, hb4⟩
         case measure => simp [intOf]; omega
        | false =>
         have HDG : Hid (digB c = false) := hdg
         cases hsg : signB c with
         | true =>
          have hk : kindN c = 3 := by unfold kindN; rw [if_neg (by simp [hl]), if_neg (by simp [hdg]), if_pos hsg]
          have hm1 : m = 1 := by
           have := hx
           rw [HD.out] at this
           rcases nx_small this with ⟨_, _, h⟩ | ⟨_, h⟩
           ·exact h
           ·unfold signB at hsg; simp only [decide_eq_true_eq] at hsg; omega
          obtain ⟨X, hE⟩ : ∃ X, p + pieceN 3 m (s.data.toList.drop p) = X := ⟨_, rfl⟩
          have hX1 : X = p + 1 := by rw [← hE, piece_sign, hm1]
          obtain ⟨T, hT⟩ : ∃ T : Tk, T = ⟨3, (s.data.toList.drop p).take (pieceN 3 m (s.data.toList.drop p)), p⟩ := ⟨_, rfl⟩
          have HRd2 : Hid (Read s.data.toList X (acc ++ [T])) := by
           have hl := HP0.out
           have := HRd.out.tok (by rw [hl]; exact hx) (by rw [hk]; decide)
           rw [hl, hk, hE] at this
           rw [hT]
           exact this
          have hpe : p < X ∧ X ≤ s.size := by omega
          have HT : Hid (T.cells = [.int .i64 3, .string (s.extract p X), .int .i64 (p : Int)]) := by
           show _ = _
           rw [hT, ← hE, extract_piece]; rfl
          have hbs : p + (s.extract p X).size = X := by rw [ByteArray.size_extract]; omega
          have hb1 : p + (s.extract p X).size ≤ X := by omega
          have hb2 : X ≤ p + (s.extract p X).size := by omega
          have hsl : ∀ W : World, (Instr.slice 9 (.string s) (some (.int .i64 (p : Int))) (some (.int .i64 ((p : Int) + 1))) none).run Tryz.prog W = .ok (.string (s.extract p X)) W := by rw [hX1]; exact hsl1
          have hsy := sign_yes (HSG.out.trans hsg)
          clear hx hE hT hl hk hpb hbs hdg hsl1 hX1 hm1 hsg
          generalize s.extract p X = B at *
          rcases hsy with s1 | ⟨s1, s2⟩ | ⟨s1, s2, s3⟩ | ⟨s1, s2, s3, s4⟩ | ⟨s1, s2, s3, s4, s5⟩ | ⟨s1, s2, s3, s4, s5, s6⟩ | ⟨s1, s2, s3, s4, s5, s6, s7⟩
          all_goals
           go_wp2_with fail
           refine (rletter_any c _).mono ?_
           rintro e w2 ⟨rfl, rfl⟩
           rw [HL.out]
           go_wp2_with fail
           refine (rdigit_any c _).mono ?_
           rintro e w2 ⟨rfl, rfl⟩
           rw [HDG.out]
           go_wp2_with (first
            | (at_builtin; refine wpList_append_own _ rfl _ _ 57 rfl w.heap.size 85 i0 _ 3 32 Tryz.underlying57 hi hz0 hz1 hz2 rfl (by decide) _ _ _ rfl ((HO.out.alloc _).alloc _) ⟨w1.heap.size + 1, 0, none⟩ 1 1 [.int .i64 3, .string B, .int .i64 (p : Int)] rfl rfl ?c1 ?c2 ?c3 ?c4 ?c5 ?_)
            | fail)
           case c1 =>
            intro j u hj
            match j, hj with
            | 0, hj | 1, hj | 2, hj => simp at hj; subst hj; simp [Addr.add]
           case c2 => intro u hu; simp at hu; rcases hu with rfl | rfl | rfl <;> rfl
           case c3 => unfold maxLen; omega
           case c4 => omega
           case c5 => simp; omega
           intro v w4 ho4 hg4 _
           have hcell : w4.cell? ⟨w1.heap.size, 1, none⟩ = some (.string B) := hg4.cell (by simp) (fun e => by have := (HO.out.lt _ e.symm).2; simp at this)
           have hb4 : Below w.heap.size w w4 := ((hbel.alloc hws _).alloc (by simp; omega) _).grown hg4 (by simp; omega) (fun k hk => (HO.out.lt k hk).1)
           have HO4 : Hid (w4.ownsRow w.heap.size 85 3 v (acc ++ [T]).length (tkCells (acc ++ [T]))) := by
            show World.ownsRow _ _ _ _ _ _ _
            rw [(tkCells_snoc acc _).1, (tkCells_snoc acc _).2, HT.out]
            exact ho4
           have hlen : (acc ++ [T]).length ≤ X := by simp; omega
           clear ho4 hg4
           go_wp2_with fail
           go_roundw
           case rel => exact ⟨acc ++ [T], X, X, by congr 1; omega, hpe.2, hlen, rfl, HRd2, HO4, hb4⟩
           case measure => simp [intOf]; omega
         | false =>
          have hk : kindN c = 0 := by unfold kindN; rw [if_neg (by simp [hl]), if_neg (by simp [hdg]), if_neg (by simp [hsg])]
          have hR : R = ([], p, 5) := by
           have hl := HP0.out
           rw [← HR.out, HRd.out.syn (by rw [hl]; exact hx) hk, hl]; rfl
          subst hR
          obtain ⟨s1, s2, s3, s4, s5, s6, s7⟩ := sign_not (HSG.out.trans hsg)
          clear hx hl hk hpb hdg hsg HR HP0 HRd HO
          generalize s.extract p (p + 1) = B0 at *
          go_wp2_with fail
          refine (rletter_any c _).mono ?_
          rintro e w2 ⟨rfl, rfl⟩
          rw [HL.out]
          go_wp2_with fail
          refine (rdigit_any c _).mono ?_
          rintro e w2 ⟨rfl, rfl⟩
          rw [HDG.out]
          go_wp2_with fail
          go_ret3
          exact ⟨_, rfl, World.ownsRow_nil _ _ _ _, hbel.alloc hws _⟩
   ·have hR : R = (acc, 0, 0) := by
     have h0 : s.data.toList.drop p = [] := drop_none s p (by omega)
     have hl := HP.out
     rw [h0, skipN_nil] at hl
     rw [← HR.out, HRd.out.fin (by rw [hl, len_data]; omega)]; rfl
    subst hR
    clear HP HRd HR
    go_wp2_with fail
    go_ret3
    exact ⟨_, rfl, HO.out, hbel⟩
def kindK (c : Int) (m : MsS) (j : Nat) (f : FlS) : MsS := ⟨m.name, m.fields.set j ⟨f.name, f.tag, f.label, c, f.tname⟩, m.reserved⟩
theorem MsO.setKK (c : Int) {w : World} {B : Nat} {v : Value} {ms : List MsS} {ps : List (Value × Value)} (h : MsO w B v ms ps) {i j q n cap : Nat} {m : MsS} {p : Value × Value} {f : FlS} (hm : ms[i]? = some m) (hp : ps[i]? = some p) (hf : m.fields[j]? = some f) (hv : p.1 = .slice (some ⟨q, 0, none⟩) n cap) :
  MsO (w.setCell ⟨q, j * 5 + 3, none⟩ (.int .i64 c)) B v (ms.set i (kindK c m j f)) ps := by
 have hb : p.1.ownBlock = some q := by rw [hv]; rfl
 have hF := (h.each i m p hm hp).1
 have hk : Kp (fun k => p.1.ownBlock = some k) w (w.setCell ⟨q, j * 5 + 3, none⟩ (.int .i64 c)) := Kp.setCell (p := ⟨q, j * 5 + 3, none⟩) (Kp.refl _ w) (fun _ => hb) _
 have hn : m.fields.length = n := by
  obtain ⟨a, c, e⟩ := own_form hF
  rw [hv] at e
  simp only [Value.slice.injEq] at e
  exact e.2.1.symm
 refine ⟨by rw [List.length_set]; exact h.len, ?_, ?_, h.apart⟩
 ·have e : msRows (ms.set i (kindK c m j f)) ps = msRows ms ps := by
   apply List.ext_getElem?
   intro a
   unfold msRows
   rw [List.getElem?_zipWith, List.getElem?_zipWith, List.getElem?_set]
   by_cases ha : i = a
   ·subst ha
    rw [if_pos rfl, if_pos (List.getElem?_eq_some_iff.1 hm).1, hm, hp]
    rfl
   ·rw [if_neg ha]
  rw [e, List.length_set]
  exact own_kpV h.own hk (fun k hk hv' => own_apart hF h.own (by decide) k hv' hk)
 ·intro a m' p' hm' hp'
  rw [List.getElem?_set] at hm'
  by_cases ha : i = a
  ·subst ha
   rw [if_pos rfl] at hm'
   split at hm' <;> simp at hm'
   subst hm'
   rw [hp] at hp'
   cases hp'
   constructor
   ·show World.ownsRow _ _ _ _ _ (m.fields.set j _).length (flRows (m.fields.set j _)).flatten
    rw [List.length_set, ← fl_set m.fields j f c hf, hv, hn]
    rw [hv, hn] at hF
    exact own_set hF _
   ·exact own_kpV (h.each i m p hm hp).2 hk (fun k hk hv' => own_apart hF (h.each i m p hm hp).2 (by decide) k hv' hk)
  ·rw [if_neg ha] at hm'
   exact ⟨own_kpV (h.each a m' p' hm' hp').1 hk (fun k hk hv' => ha (h.apart i a p p' k hp hp' hv' hk)), own_kpV (h.each a m' p' hm' hp').2 hk (fun k hk hv' => own_apart hF (h.each a m' p' hm' hp').2 (by decide) k hv' hk)⟩
structure PartG (G : FlS → FlS) (ms ms' : List MsS) (i j : Nat) : Prop where
 len : ms'.length = ms.length
 each : ∀ (a : Nat) (m : MsS), ms[a]? = some m → ∃ m', ms'[a]? = some m' ∧ m'.name = m.name ∧ m'.reserved = m.reserved ∧ m'.fields.length = m.fields.length ∧ ∀ (b : Nat) (f : FlS), m.fields[b]? = some f → m'.fields[b]? = some (if a < i ∨ (a = i ∧ b < j) then G f else f)
theorem PartG.start (G : FlS → FlS) (ms : List MsS) : PartG G ms ms 0 0 := ⟨rfl, fun a m hm => ⟨m, hm, rfl, rfl, rfl, fun b f hf => by rw [if_neg (by omega)]; exact hf⟩⟩
theorem PartG.next {G : FlS → FlS} {ms ms' : List MsS} {i j : Nat} {m : MsS} (h : PartG G ms ms' i j) (hm : ms[i]? = some m) (hj : m.fields.length ≤ j) : PartG G ms ms' (i + 1) 0 := by
 refine ⟨h.len, fun a m1 hm1 => ?_⟩
 obtain ⟨m', e1, e2, e3, e4, e5⟩ := h.each a m1 hm1
 refine ⟨m', e1, e2, e3, e4, fun b f hf => ?_⟩
 rw [e5 b f hf]
 congr 1
 by_cases ha : a = i
 ·subst ha
  rw [hm] at hm1
  cases hm1
  have := (List.getElem?_eq_some_iff.1 hf).1
  rw [if_pos (by omega), if_pos (by omega)]
 ·by_cases h2 : a < i
  ·rw [if_pos (by omega), if_pos (by omega)]
  ·rw [if_neg (by omega), if_neg (by omega)]
theorem PartG.no {G : FlS → FlS} {ms ms' : List MsS} {i j : Nat} {m : MsS} {f : FlS} (h : PartG G ms ms' i j) (hm : ms[i]? = some m) (hf : m.fields[j]? = some f) (hs : G f = f) : PartG G ms ms' i (j + 1) := by
 refine ⟨h.len, fun a m1 hm1 => ?_⟩
 obtain ⟨m', e1, e2, e3, e4, e5⟩ := h.each a m1 hm1
 refine ⟨m', e1, e2, e3, e4, fun b f1 hf1 => ?_⟩
 rw [e5 b f1 hf1]
 congr 1
 by_cases ha : a = i ∧ b = j
 ·obtain ⟨rfl, rfl⟩ := ha
  rw [hm] at hm1
  cases hm1
  rw [hf] at hf1
  cases hf1
  rw [if_neg (by omega), if_pos (by omega), hs]
 ·by_cases h2 : a < i ∨ (a = i ∧ b < j)
  ·rw [if_pos h2, if_pos (by omega)]
  ·rw [if_neg h2, if_neg (by omega)]
theorem PartG.yes {G : FlS → FlS} {ms ms' : List MsS} {i j : Nat} {m m' : MsS} {f : FlS} (h : PartG G ms ms' i j) (hm : ms[i]? = some m) (hm' : ms'[i]? = some m') (hf : m.fields[j]? = some f) (c : Int) (hs : G f = ⟨f.name, f.tag, f.label, c, f.tname⟩) : PartG G ms (ms'.set i (kindK c m' j f)) i (j + 1) := by
 refine ⟨by rw [List.length_set]; exact h.len, fun a m1 hm1 => ?_⟩
 obtain ⟨m2, e1, e2, e3, e4, e5⟩ := h.each a m1 hm1
 by_cases ha : a = i
 ·subst ha
  rw [hm] at hm1
  cases hm1
  rw [hm'] at e1
  cases e1
  refine ⟨kindK c m' j f, ?_, e2, e3, ?_, ?_⟩
  ·rw [List.getElem?_set, if_pos rfl, if_pos (List.getElem?_eq_some_iff.1 hm').1]
  ·show (m'.fields.set j _).length = _
   rw [List.length_set]; exact e4
  ·intro b f1 hf1
   show (m'.fields.set j _)[b]? = _
   rw [List.getElem?_set]
   by_cases hb : j = b
   ·subst hb
    rw [hf] at hf1
    cases hf1
    have hlt : j < m'.fields.length := by rw [e4]; exact (List.getElem?_eq_some_iff.1 hf).1
    rw [if_pos rfl, if_pos hlt, if_pos (by omega), hs]
   ·rw [if_neg hb, e5 b f1 hf1]
    congr 1
    by_cases h2 : b < j
    ·rw [if_pos (by omega), if_pos (by omega)]
    ·rw [if_neg (by omega), if_neg (by omega)]
 ·refine ⟨m2, ?_, e2, e3, e4, fun b f1 hf1 => ?_⟩
  ·rw [List.getElem?_set, if_neg (Ne.symm ha)]; exact e1
  ·rw [e5 b f1 hf1]
   congr 1
   by_cases h2 : a < i
   ·rw [if_pos (by omega), if_pos (by omega)]
   ·rw [if_neg (by omega), if_neg (by omega)]
theorem PartG.all {G : FlS → FlS} {ms ms' : List MsS} {i : Nat} (h : PartG G ms ms' i 0) (hi : ms.length ≤ i) : ms' = ms.map (fun m => ⟨m.name, m.fields.map G, m.reserved⟩) := by
 apply List.ext_getElem?
 intro a
 rw [List.getElem?_map]
 cases hm : ms[a]? with
 | none =>
  rw [List.getElem?_eq_none_iff] at hm
  rw [List.getElem?_eq_none_iff.2 (by rw [h.len]; exact hm)]; rfl
 | some m =>
  obtain ⟨m', e1, e2, e3, e4, e5⟩ := h.each a m hm
  have hlt := (List.getElem?_eq_some_iff.1 hm).1
  rw [e1]
  simp only [Option.map_some, Option.some.injEq]
  obtain ⟨n1, f1, r1⟩ := m'
  simp only at e2 e3 e4 e5
  show _ = MsS.mk _ _ _
  rw [e2, e3]
  congr 1
  apply List.ext_getElem?
  intro b
  rw [List.getElem?_map]
  cases hf : m.fields[b]? with
  | none =>
   rw [List.getElem?_eq_none_iff] at hf
   rw [List.getElem?_eq_none_iff.2 (by rw [e4]; exact hf)]; rfl
  | some f =>
   rw [e5 b f hf, if_pos (by omega)]; rfl
theorem PartG.get {G : FlS → FlS} {ms ms' : List MsS} {i j : Nat} {m : MsS} {f : FlS} (h : PartG G ms ms' i j) (hm : ms[i]? = some m) (hf : m.fields[j]? = some f) : ∃ m', ms'[i]? = some m' ∧ m'.fields[j]? = some f ∧ m'.fields.length = m.fields.length := by
 obtain ⟨m', e1, e2, e3, e4, e5⟩ := h.each i m hm
 refine ⟨m', e1, ?_, e4⟩
 rw [e5 j f hf, if_neg (by omega)]
def kc (es : List EnS) (t : ByteArray) : Int := if es.any (fun e => e.name.data.toList == t.data.toList) = true then 6 else 7
theorem kc_yes {es : List EnS} {e : EnS} {t : ByteArray} (h : (e.name.data.toList == t.data.toList) = true) : kc (es ++ [e]) t = 6 := by
 unfold kc
 rw [if_pos (by rw [List.any_append]; simp only [List.any_cons, h, List.any_nil, Bool.true_or, Bool.or_true])]
theorem kc_no {es : List EnS} {e : EnS} {t : ByteArray} (h : (e.name.data.toList == t.data.toList) = false) : kc (es ++ [e]) t = kc es t := by
 unfold kc
 rw [List.any_append]
 simp only [List.any_cons, h, List.any_nil, Bool.or_false]
theorem kindF_zero {es : List EnS} {f : FlS} (h : f.kind = 0) : kindF es f = ⟨f.name, f.tag, f.label, kc es f.tname, f.tname⟩ := by
 unfold kindF kc
 rw [if_pos h]
theorem kindF_other {es : List EnS} {f : FlS} (h : ¬ f.kind = 0) : kindF es f = f := by
 unfold kindF
 rw [if_neg h]
theorem kindK_twice (c d : Int) (m : MsS) (j : Nat) (f : FlS) : kindK d (kindK c m j f) j ⟨f.name, f.tag, f.label, c, f.tname⟩ = kindK d m j f := by
 unfold kindK
 simp only [List.set_set]
theorem kindK_get {c : Int} {m : MsS} {j : Nat} {f : FlS} (h : m.fields[j]? = some f) : (kindK c m j f).fields[j]? = some ⟨f.name, f.tag, f.label, c, f.tname⟩ := by
 show (m.fields.set j _)[j]? = _
 rw [List.getElem?_set, if_pos rfl, if_pos (List.getElem?_eq_some_iff.1 h).1]
theorem set_get {α : Type} {l : List α} {i : Nat} {x : α} (h : l[i]? = some x) (y : α) : (l.set i y)[i]? = some y := by
 rw [List.getElem?_set, if_pos rfl, if_pos (List.getElem?_eq_some_iff.1 h).1]
theorem Rf.new {w : World} {V : Value} {ts : List Tk} (hr : RowT w V ts) (h1 : ts.length ≤ 16384) (h2 : ∀ t ∈ ts, t.bytes.size ≤ 16384) :
  Rf (w.alloc (.cells #[V, .int .i64 0, .bool false] 80)) w.heap.size V ts (.inr (ts.map Tk.bytes)) := by
 have hb : Below w.heap.size w (w.alloc (.cells #[V, .int .i64 0, .bool false] 80)) := (Below.refl _ _).alloc (Nat.le_refl _) _
 obtain ⟨a, cap, e1, e2, e3, e4, e5⟩ := hr.form
 refine ⟨?_, by simp [leftS], ?_, ⟨a, cap, e1, e2, e3, ?_, e5.below hb⟩, fun t ht => by have := h2 t ht; omega, by omega⟩
 ·simp only [leftS, List.length_map, Nat.sub_self, badS]
  exact heap_alloc_new w _
 ·intro r hr'
  simp only [Sum.inr.injEq] at hr'
  subst hr'
  simp
 ·intro hne
  obtain ⟨q, hq⟩ := e4 hne
  refine ⟨q, hq, ?_⟩
  have hlt : 0 < ts.length := by cases ts with | nil => exact absurd rfl hne | cons t r => simp
  rw [hq] at e5
  obtain ⟨c0, _, _⟩ := e5.at0 (List.getElem?_eq_getElem hlt)
  exact World.block_lt_of_cell? _ _ c0
theorem Rf.pos_at {w : World} {g : Nat} {V : Value} {ts : List Tk} {σ : Sg} (h : Rf w g V ts σ) {n : Nat} (hlt : n < ts.length) :
  ∃ q cap, V = .slice (some ⟨q, 0, none⟩) ts.length cap ∧ ts.length ≤ cap ∧ cap ≤ 9223372036854775807 ∧ w.cell? ⟨q, n * 3 + 2, none⟩ = some (.int .i64 ((ts[n].pos : Nat) : Int)) := by
 obtain ⟨a, cap, h1, h2, h3, h4, h5⟩ := h.row
 have hne : ts ≠ [] := by intro e; subst e; simp at hlt
 obtain ⟨q, rfl, _⟩ := h4 hne
 obtain ⟨_, _, b3⟩ := h5.at0 (List.getElem?_eq_getElem hlt)
 exact ⟨q, cap, h1, h2, by unfold maxLen at h3; omega, b3⟩
theorem fb_own {w : World} {B : Nat} {v : Value} {ms : List MsS} {pm : List (Value × Value)} (h : MsO w B v ms pm) {k : Nat} (hk : FB pm k) : B ≤ k ∧ ∃ (u : Value) (n : Nat) (xs : List Value), u.ownBlock = some k ∧ w.ownsRow B 90 5 u n xs := by
 obtain ⟨i, p, hp, hk⟩ := hk
 have hi : i < ms.length := by rw [← h.len]; exact (List.getElem?_eq_some_iff.1 hp).1
 have := (h.each i _ p (List.getElem?_eq_getElem hi) hp).1
 exact ⟨(this.lt k hk).1, _, _, _, hk, this⟩
theorem SO.fb {w w1 : World} {gs : Nat} {s : ScS} {vm ve vt : Value} {pm : List (Value × Value)} {pe : List Value} (h : SO w gs s vm ve vt pm pe) (k : Kp (FB pm) w w1) : Blk w1 gs #[.string s.name, vm, ve, vt] 27 ∧ EnO w1 (gs + 1) ve s.enums pe ∧ w1.ownsRow (gs + 1) 46 3 vt s.methods.length (mtRows s.methods).flatten := by
 refine ⟨h.bs.kp k (fun hS => by have := (fb_own h.ms hS).1; omega), ⟨h.en.len, own_kpV h.en.own k (fun j hj hS => ?_), fun i e p he hp => own_kpV (h.en.each i e p he hp) k (fun j hj hS => ?_)⟩, own_kpV h.mt k (fun j hj hS => ?_)⟩
 ·obtain ⟨_, _, _, _, hb, hf⟩ := fb_own h.ms hS
  exact own_apart hf h.en.own (by decide) j hb hj
 ·obtain ⟨_, _, _, _, hb, hf⟩ := fb_own h.ms hS
  exact own_apart hf (h.en.each i e p he hp) (by decide) j hb hj
 ·obtain ⟨_, _, _, _, hb, hf⟩ := fb_own h.ms hS
  exact own_apart hf h.mt (by decide) j hb hj
set_option maxHeartbeats 8000000 in
theorem rparse_any (s : ByteArray) (w : World) (hs : s.size ≤ 140737488351232) :
  Calls Tryz.prog 13 #[.string s] w fun e w' => ∃ v, e = .returned (.tuple #[v, .int .i64 ((parseA s).2.1 : Int), .int .i64 ((parseA s).2.2 : Int)]) ∧ ScF w' w.heap.size v (parseA s).1 ∧ Below w.heap.size w w' := by
 obtain ⟨⟨ts, p, e⟩, hA⟩ : ∃ A, tokA s = A := ⟨_, rfl⟩
 have HA : Hid (tokA s = (ts, p, e)) := hA
 have HTok : Hid (∀ W : World, Calls Tryz.prog 36 #[.string s] W fun x w' => ∃ v, x = .returned (.tuple #[v, .int .i64 (p : Int), .int .i64 (e : Int)]) ∧ RowT w' v ts ∧ Below W.heap.size W w') := fun W => by
  refine (rtokens_any s W hs).mono ?_
  rintro x w' ⟨v, rfl, h1, h2⟩
  rw [hA] at h1 ⊢
  exact ⟨v, rfl, row_own h1, h2⟩
 have hb0 : Below w.heap.size w (w.alloc (.cells #[.string ⟨#[]⟩, .slice none 0 0, .slice none 0 0, .slice none 0 0] 27)) := (Below.refl _ _).alloc (Nat.le_refl _) _
 have B0 := Blk.new w #[.string ⟨#[]⟩, .slice none 0 0, .slice none 0 0, .slice none 0 0] 27
 obtain ⟨R, hR⟩ : ∃ R, w.heap.size = R := ⟨_, rfl⟩
 have HR : Hid (w.heap.size = R) := hR
 rw [hR] at hb0 B0
 by_cases he : e = 0
 ·subst he
  obtain ⟨hf1, hf2⟩ := tok_few hA
  obtain ⟨z1, z2, rfl⟩ := tokA_zero hA
  have HF : Hid (ts.length ≤ 16384 ∧ ∀ t ∈ ts, t.bytes.size ≤ 16384) := ⟨hf1, hf2⟩
  obtain ⟨Z, hZ⟩ : ∃ Z, pText (ts.map Tk.bytes) = Z := ⟨_, rfl⟩
  have HZ0 : Hid (Z = pOn (stX (pOn (stX (pOn (stX (pOn (.inr (ts.map Tk.bytes)) (pMust kSchema))) pName)) (pMust kSemi))) fun r => pDecls r.length ⟨res noT (pOn (stX (pOn (.inr (ts.map Tk.bytes)) (pMust kSchema))) pName), [], [], []⟩ r) := by
   show Z = _
   rw [← hZ]; exact text_st (.inr (ts.map Tk.bytes))
  have HPn : Hid (∀ n, Z = .inl n → parseA s = (zeroS, placeN ts s.size n, 5)) := fun n e => parse_no hA (hZ.trans e)
  have HPy : Hid (∀ x r, Z = .inr (x, r) → parseA s = (kindS x, 0, 0) ∧ GoodS x) := fun x r e => ⟨parse_yes hA (hZ.trans e), text_good (hZ.trans e)⟩
  clear hZ hA z1 z2 hf1 hf2 HA
  go_enter Tryz.func13, Tryz.ntmps13
  go_wp2_with fail
  refine (HTok.out _).mono ?_
  rintro e w1 ⟨V, rfl, hrow, hb1⟩
  clear hR
  have B1 := B0.below hb1
  have hb1' : Below R w w1 := hb0.trans (hb1.mono (by simp [HR.out]))
  have hRf := Rf.new hrow HF.out.1 HF.out.2
  have B2 := B1.below ((Below.refl _ _).alloc (Nat.le_refl _) (.cells #[V, .int .i64 0, .bool false] 80))
  have hb2 : Below R w (w1.alloc (.cells #[V, .int .i64 0, .bool false] 80)) := hb1'.alloc (by have := hb1'.size; have := HR.out; omega) _
  have hRg : R < w1.heap.size := B1.lt
  obtain ⟨va, vc, hV⟩ := hRf.form
  subst hV
  clear B1 hb1' hb1 hrow B0 hb0 HTok
  obtain ⟨nT, hnT⟩ : ∃ n, ts.length = n := ⟨_, rfl⟩
  have HNT : Hid (ts.length = nT) := hnT
  rw [hnT] at hRf B2 hb2 ⊢
  clear hnT
  go_wp2_with fail
  refine (rmust_any kSchema hRf (by decide +kernel)).mono ?_
  rintro e w2 ⟨rfl, h3, k3⟩
  generalize w1.heap.size = g at *
  have B3 := B2.kp k3 (by omega)
  have hb3 : Below R w w2 := hb2.trans (k3.toBelow (by have := B2.lt; omega) (fun k hk => by omega))
  clear hRf k3 B2 hb2
  generalize stX (pOn (.inr (ts.map Tk.bytes)) (pMust kSchema)) = σ1 at *
  go_wp2_with fail
  refine (pname_any h3).mono ?_
  rintro e w3 ⟨rfl, h4, k4⟩
  have B4 := B3.kp k4 (by omega)
  have hb4 : Below R w w3 := hb3.trans (k4.toBelow (by have := B3.lt; omega) (fun k hk => by omega))
  clear h3 k4 B3 hb3
  generalize res noT (pOn σ1 pName) = x1 at *
  generalize stX (pOn σ1 pName) = σ2 at *
  have hgs : g < w3.heap.size := h4.lt
  have BS := Blk.new w3 #[.string x1, .slice none 0 0, .slice none 0 0, .slice none 0 0] 27
  have h5 := h4.alloc (.cells #[.string x1, .slice none 0 0, .slice none 0 0, .slice none 0 0] 27)
  have B5 := B4.below ((Below.refl _ _).alloc (Nat.le_refl _) (.cells #[.string x1, .slice none 0 0, .slice none 0 0, .slice none 0 0] 27))
  have hb5 : Below R w (w3.alloc (.cells #[.string x1, .slice none 0 0, .slice none 0 0, .slice none 0 0] 27)) := hb4.alloc (by have := B4.lt; omega) _
  clear h4 B4 hb4
  go_wp2_with fail
  refine (rmust_any kSemi h5 (by decide +kernel)).mono ?_
  rintro e w4 ⟨rfl, h6, k6⟩
  generalize w3.heap.size = gs at *
  have B6 := B5.kp k6 (by omega)
  have BS6 := BS.kp k6 (by omega)
  have hb6 : Below R w w4 := hb5.trans (k6.toBelow (by have := B5.lt; omega) (fun k hk => by omega))
  clear h5 k6 B5 BS hb5
  generalize stX (pOn σ2 (pMust kSemi)) = σ3 at *
  go_wp2_with fail
  go_loopw [35] (fun _ wr => ∃ (sc : ScS) (vm ve vt : Value) (pm : List (Value × Value)) (pe : List Value) (σ1 : Sg), Hid (Z = pOn σ1 fun r => pDecls r.length sc r) ∧ SO wr gs sc vm ve vt pm pe ∧ Rf wr g (.slice va nT vc) ts σ1 ∧ Below R w wr ∧ Hid (Bd3 ts.length σ1 sc) ∧ Blk wr R #[.string ⟨#[]⟩, .slice none 0 0, .slice none 0 0, .slice none 0 0] 27) (fun _ wr => msrf g ts.length wr)
  case atStart =>
   have hb : Bd ts.length σ3 0 := ⟨by simp, fun r hr => by have := h6.left; rw [hr] at this; simp only [leftS] at this; simpa using this⟩
   exact ⟨⟨x1, [], [], []⟩, _, _, _, [], [], σ3, HZ0, ⟨BS6, MsO.nil _ _, EnO.nil _ _, World.ownsRow_nil _ _ _ _⟩, h6, hb6, ⟨hb, hb, hb⟩, B6⟩
  case round =>
   obtain ⟨sc, vm, ve, vt, pm, pe, σ, HZ, hSO, hr, hbR, HB, BR⟩ := hrel
   clear HZ0 h6 hb6 B6 BS6
   have hms := msr_rf hr
   have HSO : Hid (SO wr gs sc vm ve vt pm pe) := hSO
   have hgw : gs < wr.heap.size := hSO.bs.lt
   clear hSO
   obtain ⟨n, hn, hm, c0, c1, c2, f1, f3⟩ := hr.open
   cases σ with
   | inl k =>
    have eZ : Z = .inl k := by rw [HZ.out]; rfl
    subst eZ
    have HP2 : Hid (parseA s = (zeroS, placeN ts s.size k, 5)) := HPn.out k rfl
    clear HPn HPy HZ hms HB
    simp only [badS] at c2
    simp only [leftS] at hn
    by_cases hlt : n < ts.length
    ·obtain ⟨q, cap, hq, hcap, hcap2, b3⟩ := hr.pos_at hlt
     rw [HNT.out] at hq hcap
     simp only [Value.slice.injEq, true_and] at hq
     obtain ⟨rfl, rfl⟩ := hq
     have e : placeN ts s.size k = ts[n].pos := by
      unfold placeN
      rw [show ts.length - k = n by omega, List.getElem?_eq_getElem hlt]
     rw [e] at HP2
     generalize ts[n].pos = P at *
     rw [HNT.out] at hlt hm
     clear hr e hn HSO f1 f3
     have r0 := BR.cell 0
     have r1 := BR.cell 1
     have r2 := BR.cell 2
     have r3 := BR.cell 3
     have f0 := BR.froz 0
     have f1 := BR.froz 1
     have f2 := BR.froz 2
     have f3 := BR.froz 3
     simp only [List.getElem?_toArray, List.getElem?_cons_succ, List.getElem?_cons_zero] at r0 r1 r2 r3
     have hdl : decide (n < nT) = true := by simp; omega
     go_wp2_with fail
     go_quiet (fail)
     go_wp2_with fail
     go_quiet (fail)
     go_wp2_with fail
     go_quiet (fail)
     go_wp2_with fail
     refine bodyPost_ret (results_three rfl _ _ _ ⟨R, 0, none⟩ (.agg #[.string ⟨#[]⟩, .slice none 0 0, .slice none 0 0, .slice none 0 0]) (by go_simp) (by go_simp)) rfl ?_
     rw [HP2.out]
     refine ⟨_, rfl, ScF.zero _ _, ?_⟩
     rw [HR.out]
     exact ((((below_drewN _ hbR).setCell (Nat.le_refl _) _).setCell (Nat.le_refl _) _).setCell (Nat.le_refl _) _).setCell (Nat.le_refl _) _
    ·have e : placeN ts s.size k = s.size := by
      unfold placeN
      rw [List.getElem?_eq_none (by omega)]
     rw [e] at HP2
     rw [HNT.out] at hlt hm
     have hdl : decide (n < nT) = false := by simp; omega
     clear hr e hn HSO f1 f3
     have r0 := BR.cell 0
     have r1 := BR.cell 1
     have r2 := BR.cell 2
     have r3 := BR.cell 3
     have f0 := BR.froz 0
     have f1 := BR.froz 1
     have f2 := BR.froz 2
     have f3 := BR.froz 3
     simp only [List.getElem?_toArray, List.getElem?_cons_succ, List.getElem?_cons_zero] at r0 r1 r2 r3
     go_wp2_with fail
     go_quiet (fail)
     go_wp2_with fail
     go_quiet (fail)
     go_wp2_with fail
     refine bodyPost_ret (results_three rfl _ _ _ ⟨R, 0, none⟩ (.agg #[.string ⟨#[]⟩, .slice none 0 0, .slice none 0 0, .slice none 0 0]) (by go_simp) (by go_simp)) rfl ?_
     rw [HP2.out]
     refine ⟨_, rfl, ScF.zero _ _, ?_⟩
     rw [HR.out]
     exact ((((below_drewN _ hbR).setCell (Nat.le_refl _) _).setCell (Nat.le_refl _) _).setCell (Nat.le_refl _) _).setCell (Nat.le_refl _) _
   | inr rs =>
    simp only [badS] at c2
    cases rs with
    | nil =>
     have eZ : Z = .inr (sc, []) := by rw [HZ.out]; rfl
     subst eZ
     obtain ⟨q1, q2⟩ := HPy.out sc [] rfl
     have HP2 : Hid (parseA s = (kindS sc, 0, 0)) := q1
     have hlt : n = nT := by rw [← HNT.out]; simp only [leftS, List.length_nil] at hn; omega
     have hdl : decide (nT < nT) = false := by simp
     subst hlt
     clear HZ hms hn f1 f3 HPn HPy HB q1 q2
     obtain ⟨ma, mc, hvv⟩ := own_form HSO.out.ms.own
     subst hvv
     obtain ⟨ea, ec, hvv⟩ := own_form HSO.out.en.own
     subst hvv
     obtain ⟨ta, tc, hvv⟩ := own_form HSO.out.mt
     subst hvv
     obtain ⟨nM, hnM⟩ : ∃ x, sc.msgs.length = x := ⟨_, rfl⟩
     obtain ⟨nE, hnE⟩ : ∃ x, sc.enums.length = x := ⟨_, rfl⟩
     obtain ⟨nC, hnC⟩ : ∃ x, sc.methods.length = x := ⟨_, rfl⟩
     have HNM : Hid (sc.msgs.length = nM) := hnM
     have HNE : Hid (sc.enums.length = nE) := hnE
     have HNC : Hid (sc.methods.length = nC) := hnC
     rw [hnM, hnE, hnC] at HSO
     have hl1 : nM ≤ 9223372036854775807 := by rw [← hnM]; exact own_le HSO.out.ms.own
     have hl2 : nE ≤ 9223372036854775807 := by rw [← hnE]; exact own_le HSO.out.en.own
     clear hnM hnE hnC
     go_wp2_with fail
     go_quiet (fail)
     go_wp2_with fail
     have hbq : Below wr.heap.size wr (wr.drewN nq) := below_drewN _ (Below.refl _ _)
     have HS5 : Hid (SO (wr.drewN nq) gs sc (.slice ma nM mc) (.slice ea nE ec) (.slice ta nC tc) pm pe) := HSO.out.below hbq
     have hb5 : Below R w (wr.drewN nq) := below_drewN _ hbR
     have BR5 := BR.below hbq
     clear hr HSO hbR BR c0 c1 c2 hbq hdl hgw hm
     generalize wr.drewN nq = w5 at *
     have HG5 : Hid (∀ k, FB pm k → gs + 1 ≤ k) := fun k hk => (fb_own HS5.out.ms hk).1
     go_loopw [10] (fun iv wr => ∃ (i : Nat) (ms' : List MsS), iv = .int .i64 (i : Int) ∧ i ≤ nM ∧ Hid (PartG (kindF sc.enums) sc.msgs ms' i 0) ∧ Hid (MsO wr (gs + 1) (.slice ma nM mc) ms' pm) ∧ Kp (FB pm) w5 wr) (fun iv _ => nM - (intOf iv).toNat)
     case atStart => exact ⟨0, sc.msgs, rfl, by omega, PartG.start _ _, HS5.out.ms, Kp.refl _ _⟩
     case round =>
      obtain ⟨i, ms', rfl, hi, HP, HM, KF⟩ := hrel
      obtain ⟨bS, hE, hT⟩ := HS5.out.fb KF
      have a1 := bS.cell 1
      simp only [List.getElem?_toArray, List.getElem?_cons_succ, List.getElem?_cons_zero] at a1
      by_cases hilt : i < nM
      ·clear bS hE hT
       obtain ⟨m, hm⟩ : ∃ m, sc.msgs[i]? = some m := ⟨_, List.getElem?_eq_getElem (by rw [HNM.out]; exact hilt)⟩
       obtain ⟨m', e1, e2, e3, e4, e5⟩ := HP.out.each i m hm
       have hMO := HM.out
       have hl' : ms'.length = nM := by rw [HP.out.len, HNM.out]
       obtain ⟨p, hp⟩ : ∃ p, pm[i]? = some p := ⟨_, List.getElem?_eq_getElem (by rw [hMO.len, hl']; exact hilt)⟩
       obtain ⟨q, cap, hq, hq2, hq3, hq4, hq5⟩ := own_addr hMO.own (by rw [hl']; omega)
       rw [hl'] at hq hq2
       simp only [Value.slice.injEq, true_and] at hq
       obtain ⟨rfl, rfl⟩ := hq
       obtain ⟨pv, pr⟩ := p
       obtain ⟨pa, pc, hpv⟩ := own_form (hMO.each i m' _ e1 hp).1
       simp only at hpv
       subst hpv
       obtain ⟨nF, hnF⟩ : ∃ n, m.fields.length = n := ⟨_, rfl⟩
       have HNF : Hid (m.fields.length = nF) := hnF
       have HP1 : Hid (pm[i]? = some (.slice pa nF pc, pr)) := by rw [← hnF, ← e4]; exact hp
       have hnF2 : nF ≤ 9223372036854775807 := by rw [← hnF, ← e4]; exact own_le (hMO.each i m' _ e1 hp).1
       have HMm : Hid (sc.msgs[i]? = some m) := hm
       have hmc : nM ≤ mc := hq2
       have hmc2 : mc ≤ 9223372036854775807 := by unfold maxLen at hq3; omega
       clear hMO e1 e2 e3 e4 e5 hp hm hl' hnF hq2 hq3 hq4 hq5
       go_wp2_with fail
       clear a1
       go_loopw [11] (fun jv wr => ∃ (j : Nat) (ms' : List MsS), jv = .int .i64 (j : Int) ∧ j ≤ nF ∧ Hid (PartG (kindF sc.enums) sc.msgs ms' i j) ∧ Hid (MsO wr (gs + 1) (.slice (some ⟨q, 0, none⟩) nM mc) ms' pm) ∧ Kp (FB pm) w5 wr) (fun jv _ => nF - (intOf jv).toNat)
       case atStart => exact ⟨0, ms', rfl, by omega, HP, HM, KF⟩
       case round =>
        obtain ⟨j, ms2, rfl, hj, HP, HM, KF⟩ := hrel
        obtain ⟨bS, hE, hT⟩ := HS5.out.fb KF
        have a1 := bS.cell 1
        simp only [List.getElem?_toArray, List.getElem?_cons_succ, List.getElem?_cons_zero] at a1
        clear bS hE hT
        obtain ⟨m2, g1, _, _, g3, _⟩ := HP.out.each i m HMm.out
        have hown := HM.out.own
        rw [HP.out.len, HNM.out] at hown
        have c1 := own_at (ms_len ms2 pm) hown (ms_get g1 HP1.out) (j := 1) rfl
        simp only at c1
        clear hown
        by_cases hjlt : j < nF
        ·obtain ⟨f, hf⟩ : ∃ f, m.fields[j]? = some f := ⟨_, List.getElem?_eq_getElem (by rw [HNF.out]; exact hjlt)⟩
         obtain ⟨m3, g1', g2, g3'⟩ := HP.out.get HMm.out hf
         rw [g1] at g1'
         cases g1'
         clear g3'
         have hF := (HM.out.each i m2 _ g1 HP1.out).1
         simp only at hF
         rw [g3, HNF.out] at hF
         obtain ⟨q2, cap2, hq, hq2, hq3, hq4, hq5⟩ := own_addr hF (by omega)
         simp only [Value.slice.injEq, true_and] at hq
         obtain ⟨rfl, rfl⟩ := hq
         have hpc : nF ≤ pc := hq2
         have hpc2 : pc ≤ 9223372036854775807 := by unfold maxLen at hq3; omega
         have d3 := own_at (fl_len m2.fields) hF (fl_get g2) (j := 3) rfl
         have fz3 := own_froz hF (j * 5 + 3)
         have HG : Hid (ms2[i]? = some m2 ∧ m2.fields[j]? = some f ∧ m.fields[j]? = some f ∧ m2.fields.length = nF) := ⟨g1, g2, hf, by rw [g3, HNF.out]⟩
         clear hF g1 g2 g3 hf hq2 hq3 hq4 hq5
         by_cases hk0 : f.kind = 0
         ·rw [hk0] at d3
          have HK0 : Hid (f.kind = 0) := hk0
          clear hk0
          have HM3 : Hid (MsO (wr.setCell ⟨q2, j * 5 + 3, none⟩ (.int .i64 7)) (gs + 1) (.slice (some ⟨q, 0, none⟩) nM mc) (ms2.set i (kindK (kc (sc.enums.take 0) f.tname) m2 j f)) pm) := HM.out.setKK 7 HG.out.1 HP1.out HG.out.2.1 rfl
          have KF3 : Kp (FB pm) w5 (wr.setCell ⟨q2, j * 5 + 3, none⟩ (.int .i64 7)) := Kp.setCell (p := ⟨q2, j * 5 + 3, none⟩) KF (fun _ => ⟨i, _, HP1.out, rfl⟩) _
          go_wp2_with fail
          clear a1 c1 d3 fz3 KF HM
          go_loopw [13] (fun ev wr => ∃ (x : Nat), ev = .int .i64 (x : Int) ∧ x ≤ nE ∧ Hid (MsO wr (gs + 1) (.slice (some ⟨q, 0, none⟩) nM mc) (ms2.set i (kindK (kc (sc.enums.take x) f.tname) m2 j f)) pm) ∧ Kp (FB pm) w5 wr) (fun ev _ => nE - (intOf ev).toNat)
          case atStart => exact ⟨0, rfl, by omega, HM3, KF3⟩
          case round =>
           obtain ⟨x, rfl, hx, HM, KF⟩ := hrel
           clear HM3 KF3
           obtain ⟨bS, hE, hT⟩ := HS5.out.fb KF
           have a2 := bS.cell 2
           simp only [List.getElem?_toArray, List.getElem?_cons_succ, List.getElem?_cons_zero] at a2
           clear bS hT
           by_cases hxlt : x < nE
           ·obtain ⟨q3, cap3, hq, hq2, hq3', hq4, hq5⟩ := own_addr hE.own (by rw [HNE.out]; omega)
            rw [HNE.out] at hq hq2
            simp only [Value.slice.injEq, true_and] at hq
            obtain ⟨rfl, rfl⟩ := hq
            have hec : nE ≤ ec := hq2
            have hec2 : ec ≤ 9223372036854775807 := by unfold maxLen at hq3'; omega
            obtain ⟨en, hen⟩ : ∃ e, sc.enums[x]? = some e := ⟨_, List.getElem?_eq_getElem (by rw [HNE.out]; exact hxlt)⟩
            obtain ⟨pp, hpp⟩ : ∃ p, pe[x]? = some p := ⟨_, List.getElem?_eq_getElem (by rw [hE.len, HNE.out]; exact hxlt)⟩
            have hown := hE.own
            rw [HNE.out] at hown
            have n0 := own_at (en_len sc.enums pe) hown (en_get hen hpp) (j := 0) rfl
            rw [Nat.add_zero] at n0
            have hF := (HM.out.each i _ _ (set_get HG.out.1 _) HP1.out).1
            simp only at hF
            rw [show (kindK (kc (sc.enums.take x) f.tname) m2 j f).fields.length = nF from by show (m2.fields.set j _).length = nF; rw [List.length_set]; exact HG.out.2.2.2] at hF
            have d3 := own_at (fl_len _) hF (fl_get (kindK_get HG.out.2.1)) (j := 3) rfl
            have d4 := own_at (fl_len _) hF (fl_get (kindK_get HG.out.2.1)) (j := 4) rfl
            have fz3 := own_froz hF (j * 5 + 3)
            have HTk : Hid (sc.enums.take (x + 1) = sc.enums.take x ++ [en]) := take_snoc hen
            clear hF hown hen hpp hq2 hq3' hq4 hq5 hE
            obtain ⟨enm, evs⟩ := en
            simp only at n0
            cases hqq : (enm.data.toList == f.tname.data.toList) with
            | true =>
             have hd : (enm.toList == f.tname.toList) = true := by rw [ByteArray.toList_eq, ByteArray.toList_eq]; exact hqq
             have HQQ : Hid ((enm.data.toList == f.tname.data.toList) = true) := hqq
             clear hqq
             go_wp2_with fail
             go_quiet (fail)
             go_wp2_with fail
             have HM5 : Hid (MsO ((wr.drewN nq).setCell ⟨q2, j * 5 + 3, none⟩ (.int .i64 6)) (gs + 1) (.slice (some ⟨q, 0, none⟩) nM mc) (ms2.set i (kindK (kc (sc.enums.take (x + 1)) f.tname) m2 j f)) pm) := by
              show MsO _ _ _ _ _
              rw [HTk.out, kc_yes HQQ.out]
              have := (HM.out.below (below_drewN nq (Below.refl _ _))).setKK 6 (set_get HG.out.1 _) HP1.out (kindK_get HG.out.2.1) rfl
              rw [kindK_twice, List.set_set] at this
              exact this
             have KF5 : Kp (FB pm) w5 ((wr.drewN nq).setCell ⟨q2, j * 5 + 3, none⟩ (.int .i64 6)) := Kp.setCell (p := ⟨q2, j * 5 + 3, none⟩) (KF.below (below_drewN _ (Below.refl _ _))) (fun _ => ⟨i, _, HP1.out, rfl⟩) _
             go_roundw
             case rel => exact ⟨x + 1, rfl, by omega, HM5, KF5⟩
             case measure => simp [intOf]; omega
            | false =>
             have hd : (enm.toList == f.tname.toList) = false := by rw [ByteArray.toList_eq, ByteArray.toList_eq]; exact hqq
             have HM4 : Hid (MsO wr (gs + 1) (.slice (some ⟨q, 0, none⟩) nM mc) (ms2.set i (kindK (kc (sc.enums.take (x + 1)) f.tname) m2 j f)) pm) := by
              show MsO _ _ _ _ _
              rw [HTk.out, kc_no hqq]; exact HM.out
             clear hqq HM
             go_wp2_with fail
             go_quiet (fail)
             go_wp2_with fail
             have HM5 : Hid (MsO (wr.drewN nq) (gs + 1) (.slice (some ⟨q, 0, none⟩) nM mc) (ms2.set i (kindK (kc (sc.enums.take (x + 1)) f.tname) m2 j f)) pm) := HM4.out.below (below_drewN _ (Below.refl _ _))
             have KF5 : Kp (FB pm) w5 (wr.drewN nq) := KF.below (below_drewN _ (Below.refl _ _))
             go_roundw
             case rel => exact ⟨x + 1, rfl, by omega, HM5, KF5⟩
             case measure => simp [intOf]; omega
           ·obtain rfl : x = nE := by omega
            have HP3 : Hid (PartG (kindF sc.enums) sc.msgs (ms2.set i (kindK (kc (sc.enums.take x) f.tname) m2 j f)) i (j + 1)) := by
             show PartG _ _ _ _ _
             rw [List.take_of_length_le (by rw [HNE.out]; omega)]
             exact HP.out.yes HMm.out HG.out.1 HG.out.2.2.1 _ (kindF_zero HK0.out)
            go_wp2_with fail
            go_roundw
            case rel => exact ⟨j + 1, _, rfl, by omega, HP3, HM, KF⟩
            case measure => simp [intOf]; omega
         ·have hd : (f.kind == 0) = false := by rw [beq_eq_false_iff_ne]; exact hk0
          have HP3 : Hid (PartG (kindF sc.enums) sc.msgs ms2 i (j + 1)) := HP.out.no HMm.out HG.out.2.2.1 (kindF_other hk0)
          clear hk0
          go_wp2_with fail
          go_roundw
          case rel => exact ⟨j + 1, _, rfl, by omega, HP3, HM, KF⟩
          case measure => simp [intOf]; omega
        ·have HP3 : Hid (PartG (kindF sc.enums) sc.msgs ms2 (i + 1) 0) := HP.out.next HMm.out (by rw [HNF.out]; omega)
         go_wp2_with fail
         go_roundw
         case rel => exact ⟨i + 1, _, rfl, by omega, HP3, HM, KF⟩
         case measure => simp [intOf]; omega
      ·have eM : ms' = sc.msgs.map (fun m => ⟨m.name, m.fields.map (kindF sc.enums), m.reserved⟩) := HP.out.all (by rw [HNM.out]; omega)
       subst eM
       have B6 := BR5.kp KF (fun hS => by have := HG5.out _ hS; omega)
       have hb6 : Below R w wr := hb5.trans (KF.toBelow (by have := BR5.lt; omega) (fun k hS => by have := HG5.out k hS; omega))
       have HE6 : Hid _ := hE
       have HT6 : Hid _ := hT
       have b0 := bS.cell 0
       have b2 := bS.cell 2
       have b3 := bS.cell 3
       have r0 := B6.cell 0
       have r1 := B6.cell 1
       have r2 := B6.cell 2
       have r3 := B6.cell 3
       have f0 := B6.froz 0
       have f1 := B6.froz 1
       have f2 := B6.froz 2
       have f3 := B6.froz 3
       simp only [List.getElem?_toArray, List.getElem?_cons_succ, List.getElem?_cons_zero] at b0 b2 b3 r0 r1 r2 r3
       clear hE hT bS HP BR5 hb5 KF
       go_wp2_with fail
       refine bodyPost_ret (results_three rfl _ _ _ ⟨R, 0, none⟩ (.agg #[.string sc.name, .slice ma nM mc, .slice ea nE ec, .slice ta nC tc]) (by go_simp) (by go_simp)) rfl ?_
       have k6 : Kp (fun k => k = R) wr ((((wr.setCell ⟨R, 0, none⟩ (.string sc.name)).setCell ⟨R, 1, none⟩ (.slice ma nM mc)).setCell ⟨R, 2, none⟩ (.slice ea nE ec)).setCell ⟨R, 3, none⟩ (.slice ta nC tc)) := Kp.setCell (p := ⟨R, 3, none⟩) (Kp.setCell (p := ⟨R, 2, none⟩) (Kp.setCell (p := ⟨R, 1, none⟩) (Kp.setCell (p := ⟨R, 0, none⟩) (Kp.refl (fun k => k = R) wr) (fun _ => rfl) _) (fun _ => rfl) _) (fun _ => rfl) _) (fun _ => rfl) _
       rw [HP2.out]
       refine ⟨_, rfl, ⟨_, _, _, pm, pe, rfl, ?_, ?_, ?_⟩, ?_⟩
       ·exact (HM.out.kp k6 (fun k hk => by omega)).base (by rw [HR.out]; omega)
       ·exact (HE6.out.kp k6 (fun k hk => by omega)).base (by rw [HR.out]; omega)
       ·exact own_base (own_kp HT6.out k6 (fun k hk => by omega)) (by rw [HR.out]; omega)
       ·rw [HR.out]
        exact (((hb6.setCell (Nat.le_refl _) _).setCell (Nat.le_refl _) _).setCell (Nat.le_refl _) _).setCell (Nat.le_refl _) _
    | cons t r =>
     have HZ2 : Hid (∀ s' : ScS, Res (pDecl sc (t :: r)) s' → Z = pOn (stX (pDecl sc (t :: r))) fun r => pDecls r.length s' r) := by
      intro v hv
      rw [HZ.out]
      exact decls_step hv
     have HW : Hid (weigh (stX (pDecl sc (t :: r))) < msrf g ts.length wr) := by show _ < _; rw [hms]; exact weigh_lt (decl_lt sc (t :: r)) (decl_in sc (t :: r))
     have hlt : n < nT := by rw [← HNT.out]; simp only [leftS, List.length_cons] at hn; omega
     have hdl : decide (n < nT) = true := by simp; omega
     clear HZ hms hn f1 f3 HPn HPy
     go_wp2_with fail
     go_quiet (fail)
     go_wp2_with fail
     refine (rdecl_any (hr.below (below_drewN _ (Below.refl _ _))) hgs (HSO.out.below (below_drewN _ (Below.refl _ _))) HB.out).mono ?_
     rintro e w5 ⟨rfl, s', vm', ve', vt', pm', pe', q1, h7, hS7, k7, hB7⟩
     have BR7 := (BR.below (below_drewN _ (Below.refl _ _))).kp k7 (by omega)
     have hb7 : Below R w w5 := (below_drewN _ hbR).trans (k7.toBelow (by show R ≤ wr.heap.size; have := BR.lt; omega) (fun k hk => by omega))
     have HZ3 : Hid (Z = pOn (stX (pDecl sc (t :: r))) fun r => pDecls r.length s' r) := HZ2.out s' q1
     have HB8 : Hid (Bd3 ts.length (stX (pDecl sc (t :: r))) s') := hB7
     have HM : Hid (msrf g ts.length w5 < msrf g ts.length wr) := by
      show _ < _
      rw [msr_rf h7]; exact HW.out
     clear HZ2 q1 hB7 HW k7 hr HSO HB BR hbR c0 c1 c2 hlt hdl
     generalize stX (pDecl sc (t :: r)) = σ4 at *
     go_wp2_with fail
     go_roundw
     case rel => exact ⟨s', vm', ve', vt', pm', pe', σ4, HZ3, hS7, h7, hb7, HB8, BR7⟩
     case measure => exact HM.out
 ·have HP2 : Hid (parseA s = (zeroS, p, e)) := parse_err hA he
  have hd : ((e : Int) == 0) = false := by rw [beq_eq_false_iff_ne]; omega
  clear hA HA he
  go_enter Tryz.func13, Tryz.ntmps13
  go_wp2_with fail
  refine (HTok.out _).mono ?_
  rintro x w1 ⟨V, rfl, hrow, hb1⟩
  clear hR
  have B1 := B0.below hb1
  have hb1' : Below R w w1 := hb0.trans (hb1.mono (by simp [HR.out]))
  have r0 := B1.cell 0
  have r1 := B1.cell 1
  have r2 := B1.cell 2
  have r3 := B1.cell 3
  have f0 := B1.froz 0
  have f1 := B1.froz 1
  have f2 := B1.froz 2
  have f3 := B1.froz 3
  simp only [List.getElem?_toArray, List.getElem?_cons_succ, List.getElem?_cons_zero] at r0 r1 r2 r3
  clear hb1 hrow B0 hb0 HTok
  go_wp2_with fail
  refine bodyPost_ret (results_three rfl _ _ _ ⟨R, 0, none⟩ (.agg #[.string ⟨#[]⟩, .slice none 0 0, .slice none 0 0, .slice none 0 0]) (by go_simp) (by go_simp)) rfl ?_
  rw [HP2.out]
  refine ⟨_, rfl, ScF.zero _ _, ?_⟩
  rw [HR.out]
  exact (((hb1'.setCell (Nat.le_refl _) _).setCell (Nat.le_refl _) _).setCell (Nat.le_refl _) _).setCell (Nat.le_refl _) _
end Go.Proofs.YtcjfeandnmochaaGreatDoor
namespace Go.Proofs.YtcjfeandnmochaaGreatDoor
open Go.ChangeShapes Go.WideShapes Go.ChangeAt Go.RowKit Go.Maps
set_option linter.unusedVariables false
set_option linter.unusedSimpArgs false
set_option maxRecDepth 20000
def zeroM : MsS := ⟨⟨#[]⟩, [], []⟩
def zeroN : EnS := ⟨⟨#[]⟩, []⟩
def zeroF : FlS := ⟨⟨#[]⟩, 0, 0, 0, ⟨#[]⟩⟩
def flV (m : FlS) : Value := .agg #[.string m.name, .int .i64 m.tag, .int .i64 m.label, .int .i64 m.kind, .string m.tname]
theorem ret_two {a b c d : Value} (h1 : a = c) (h2 : b = d) : Ending.returned (.tuple #[a, b]) = .returned (.tuple #[c, d]) := by rw [h1, h2]
theorem results_two {fn : Func} {p u : Tmp} {ty : TypeId} (h : fn.results = #[.cell p ty, .tmp u]) (tmps : Array Value) (P : Program) (w : World) (a : Addr) (x : Value) (ha : (asAddr (tmps.getD p undef)).run P w = .ok a w) (hl : (loadVar ty a).run P w = .ok x w) :
  (results fn tmps).run P w = .ok (.tuple #[x, tmps.getD u undef]) w := by
 simp only [results, h]
 simp only [Array.getD_eq_getD_getElem?] at ha
 simp [Sem.run_bind, Result.andThen, ha, hl]
theorem bytes_ne {a b : ByteArray} (h : ¬ a = b) : (a.toList == b.toList) = false := by
 rw [ByteArray.toList_eq, ByteArray.toList_eq, beq_bytes]; exact decide_eq_false h
end Go.Proofs.YtcjfeandnmochaaGreatDoor

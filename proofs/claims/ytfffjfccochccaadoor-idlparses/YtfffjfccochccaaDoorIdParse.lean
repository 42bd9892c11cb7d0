/- What the program's Parse answers, at every text. -/
import Derived.Test.YtfffjfccochccaaDoorIdSchema
import Derived.Test.YtfffjfccochccaaDoorIdSettle
namespace Go.Proofs.YtfffjfccochccaaDoor
open Go.ChangeShapes Go.WideShapes Go.ChangeAt Go.RowKit
set_option linter.unusedVariables false
set_option linter.unusedSimpArgs false
set_option maxRecDepth 20000

theorem results_three {fn : Func} {p u v : Tmp} {ty : TypeId} (h : fn.results = #[.cell p ty, .tmp u, .tmp v]) (tmps : Array Value) (P : Program) (w : World) (a : Addr) (x : Value) (ha : (asAddr (tmps.getD p undef)).run P w = .ok a w) (hl : (loadVar ty a).run P w = .ok x w) :
    (results fn tmps).run P w = .ok (.tuple #[x, tmps.getD u undef, tmps.getD v undef]) w := by
  simp only [results, h]
  simp only [Array.getD_eq_getD_getElem?] at ha
  simp [Sem.run_bind, Result.andThen, ha, hl]
theorem lex_few {l : List UInt8} {ts : List Tk} (h : lexO l 0 = .inr ts) : ts.length ≤ l.length := by
  have step : ∀ i, i ≤ ts.length → i ≤ endOf (ts.take i) := by
    intro i
    induction i with
    | zero => intro _; omega
    | succ i ih =>
      intro hi
      obtain ⟨e1, e2, e3, e4, e5, _⟩ := piece_at h (List.getElem?_eq_getElem (show i < ts.length by omega))
      have := ih (by omega)
      omega
  cases hn : ts.length with
  | zero => omega
  | succ n =>
    obtain ⟨e1, e2, e3, e4, e5, _⟩ := piece_at h (List.getElem?_eq_getElem (show n < ts.length by omega))
    have := step (n + 1) (by omega)
    omega
/-- Texts that Tokens takes. -/
theorem tokA_zero {s : ByteArray} {ts : List Tk} {p : Nat} (h : tokA s = (ts, p, 0)) : s.size ≤ 16384 ∧ lexO s.data.toList 0 = .inr ts ∧ p = 0 := by
  unfold tokA at h
  split at h
  · simp at h
  · rename_i hs
    cases hl : lexO s.data.toList 0 with
    | inl x =>
      obtain ⟨q, e⟩ := x
      have he := lex_err hl
      rw [hl] at h
      simp only [ansA, Prod.mk.injEq] at h
      omega
    | inr x =>
      rw [hl] at h
      simp only [ansA, Prod.mk.injEq] at h
      exact ⟨by omega, by rw [h.1], h.2.1.symm⟩
theorem tok_few {s : ByteArray} {ts : List Tk} {p : Nat} (h : tokA s = (ts, p, 0)) : ts.length ≤ 16384 ∧ ∀ t ∈ ts, t.bytes.size ≤ 16384 := by
  obtain ⟨h1, h2, _⟩ := tokA_zero h
  have h3 := lex_few h2
  rw [len_data] at h3
  refine ⟨by omega, fun t ht => ?_⟩
  obtain ⟨i, hi⟩ := List.getElem?_of_mem ht
  obtain ⟨_, e2, _⟩ := piece_at h2 hi
  rw [len_data] at e2
  have : t.bytes.size = t.text.length := by simp [Tk.bytes, ByteArray.size]
  omega
theorem MsO.to_in {w : World} {B : Nat} {v : Value} {ms : List MsS} {ps : List (Value × Value)} (h : MsO w B v ms ps) : MsIn w v ms := by
  obtain ⟨h1, h2⟩ := RowG.own (ms_len ms ps) (by decide) h.own
  refine ⟨msRows ms ps, h1, h2.symm, fun i m hm => ?_⟩
  have hi := (List.getElem?_eq_some_iff.1 hm).1
  obtain ⟨p, hp⟩ : ∃ p, ps[i]? = some p := ⟨_, List.getElem?_eq_getElem (by rw [h.len]; exact hi)⟩
  exact ⟨p.1, p.2, ms_get hm hp, (RowG.own (fl_len m.fields) (by decide) (h.each i m p hm hp).1).1, (RowG.own (fun r hr => by simp only [inRows, List.mem_map] at hr; obtain ⟨_, _, rfl⟩ := hr; rfl) (by decide) (h.each i m p hm hp).2).1⟩
theorem EnO.to_in {w : World} {B : Nat} {v : Value} {ms : List EnS} {ps : List Value} (h : EnO w B v ms ps) : EnIn w v ms := by
  obtain ⟨h1, h2⟩ := RowG.own (en_len ms ps) (by decide) h.own
  refine ⟨enRows ms ps, h1, h2.symm, fun i m hm => ?_⟩
  have hi := (List.getElem?_eq_some_iff.1 hm).1
  obtain ⟨p, hp⟩ : ∃ p, ps[i]? = some p := ⟨_, List.getElem?_eq_getElem (by rw [h.len]; exact hi)⟩
  exact ⟨p, en_get hm hp, (RowG.own (fun r hr => by simp only [nmRows, List.mem_map] at hr; obtain ⟨_, _, rfl⟩ := hr; rfl) (by decide) (h.each i m p hm hp)).1⟩
theorem mt_in {w : World} {B : Nat} {v : Value} {ms : List MtS} (h : w.ownsRow B 73 3 v ms.length (mtRows ms).flatten) : RowG w v 3 (mtRows ms) :=
  (RowG.own (fun r hr => by simp only [mtRows, List.mem_map] at hr; obtain ⟨_, _, rfl⟩ := hr; rfl) (by decide) h).1
/-- Where the reader stands. -/
theorem Rd.pos_at {w : World} {g : Nat} {V : Value} {ts : List Tk} {E : Nat} {σ : Sg} (h : Rd w g V ts E σ) {n : Nat} (hlt : n < ts.length) :
    ∃ q cap, V = .slice (some ⟨q, 0, none⟩) ts.length cap ∧ ts.length ≤ cap ∧ cap ≤ 9223372036854775807 ∧ w.cell? ⟨q, n * 3 + 2, none⟩ = some (.int .i64 ((ts[n].pos : Nat) : Int)) := by
  obtain ⟨a, cap, h1, h2, h3, h4, h5⟩ := h.row
  have hne : ts ≠ [] := by intro e; subst e; simp at hlt
  obtain ⟨q, rfl, _⟩ := h4 hne
  obtain ⟨_, _, b3⟩ := h5.at0 (List.getElem?_eq_getElem hlt)
  exact ⟨q, cap, h1, h2, by unfold maxLen at h3; omega, b3⟩
set_option maxHeartbeats 1000000 in
theorem rplace_any {w : World} {g : Nat} {V : Value} {ts : List Tk} {E : Nat} {σ : Sg} (h : Rd w g V ts E σ) :
    Calls Tryd.prog 17 #[.pointer (some ⟨g, 0, none⟩)] w fun e w' => e = .returned (.int .i64 ((placeN ts E (leftS σ) : Nat) : Int)) ∧ Below w.heap.size w w' := by
  obtain ⟨n, hn, hm, c0, c1, c2, c3, f1, f3⟩ := h.open
  by_cases hlt : n < ts.length
  · obtain ⟨q, cap, rfl, hcap, hcap2, b3⟩ := h.pos_at hlt
    have e : placeN ts E (leftS σ) = ts[n].pos := by
      unfold placeN
      rw [show ts.length - leftS σ = n by omega, List.getElem?_eq_getElem hlt]
    rw [e]
    generalize ts[n].pos = P at *
    clear h e
    have hd : ((n : Int) == (ts.length : Int)) = false := by rw [beq_eq_false_iff_ne]; omega
    generalize ts.length = N at *
    clear hn
    go_enter Tryd.func17, Tryd.ntmps17
    go_wp2_with fail
    go_quiet (fail)
    go_wp2_with fail
    go_quiet (fail)
    go_wp2_with fail
    go_ret
    exact ⟨rfl, below_drewN _ (below_drewN _ (Below.refl _ _))⟩
  · have e : placeN ts E (leftS σ) = E := by
      unfold placeN
      rw [List.getElem?_eq_none (by omega)]
    rw [e]
    obtain ⟨a, cap, rfl⟩ := h.form
    obtain rfl : n = ts.length := by omega
    clear h e hlt hn
    generalize ts.length = N at *
    have hd : ((N : Int) == (N : Int)) = true := by simp
    go_enter Tryd.func17, Tryd.ntmps17
    go_wp2_with fail
    go_quiet (fail)
    go_wp2_with fail
    go_ret
    exact ⟨rfl, below_drewN _ (Below.refl _ _)⟩
theorem own_type {w : World} {B : Nat} {e : TypeId} {sz : Nat} {v : Value} {n : Nat} {xs : List Value} {k : Nat} {cs : Array Value} {t : TypeId} (h : w.ownsRow B e sz v n xs) (hk : v.ownBlock = some k) (hb : Blk w k cs t) : e = t := by
  rcases h.2 with ⟨rfl, _⟩ | ⟨q, cap, cur, rfl, _, hq, _⟩
  · cases hk
  · simp only [Value.ownBlock, Option.some.injEq] at hk
    subst hk
    unfold Blk at hb
    rw [hq] at hb
    simp only [Option.some.injEq, Obj.cells.injEq] at hb
    exact hb.2.1
theorem parse_no {s : ByteArray} {ts : List Tk} {p n : Nat} (hA : tokA s = (ts, p, 0)) (hQ : pText (ts.map Tk.bytes) = .inl n) : parseA s = (zeroS, placeN ts s.size n, 5) := by
  unfold parseA
  simp only [hA, ne_eq, not_true_eq_false, if_false, hQ]
theorem parse_yes {s : ByteArray} {ts : List Tk} {p : Nat} {x : ScS} {r : List ByteArray} (hA : tokA s = (ts, p, 0)) (hQ : pText (ts.map Tk.bytes) = .inr (x, r)) : parseA s = (kindS x, 0, 0) := by
  unfold parseA
  simp only [hA, ne_eq, not_true_eq_false, if_false, hQ]
theorem parse_err {s : ByteArray} {ts : List Tk} {p e : Nat} (hA : tokA s = (ts, p, e)) (he : e ≠ 0) : parseA s = (zeroS, p, e) := by
  unfold parseA
  simp only [hA]
  rw [if_pos he]
theorem MsO.base {w : World} {B B' : Nat} {v : Value} {ms : List MsS} {ps : List (Value × Value)} (h : MsO w B v ms ps) (hb : B' ≤ B) : MsO w B' v ms ps :=
  ⟨h.len, own_base h.own hb, fun i m p hm hp => ⟨own_base (h.each i m p hm hp).1 hb, own_base (h.each i m p hm hp).2 hb⟩, h.apart⟩
theorem EnO.base {w : World} {B B' : Nat} {v : Value} {ms : List EnS} {ps : List Value} (h : EnO w B v ms ps) (hb : B' ≤ B) : EnO w B' v ms ps :=
  ⟨h.len, own_base h.own hb, fun i m p hm hp => own_base (h.each i m p hm hp) hb⟩
/-- A schema that lies in blocks from B on. -/
def ScF (w : World) (B : Nat) (v : Value) (s : ScS) : Prop := ∃ vm ve vt pm pe, v = .agg #[.string s.name, vm, ve, vt] ∧ MsO w B vm s.msgs pm ∧ EnO w B ve s.enums pe ∧ w.ownsRow B 73 3 vt s.methods.length (mtRows s.methods).flatten
theorem ScF.zero (w : World) (B : Nat) : ScF w B (.agg #[.string ⟨#[]⟩, .slice none 0 0, .slice none 0 0, .slice none 0 0]) zeroS := ⟨_, _, _, [], [], rfl, MsO.nil _ _, EnO.nil _ _, World.ownsRow_nil _ _ _ _⟩
theorem ScF.to_in {w : World} {B : Nat} {v : Value} {s : ScS} (h : ScF w B v s) : ScIn w v s := by
  obtain ⟨vm, ve, vt, pm, pe, rfl, h1, h2, h3⟩ := h
  exact ⟨vm, ve, vt, rfl, h1.to_in, h2.to_in, mt_in h3⟩
theorem ScF.kp {S : Nat → Prop} {w w1 : World} {B : Nat} {v : Value} {s : ScS} (h : ScF w B v s) (hk : Kp S w w1) (hs : ∀ k, B ≤ k → ¬ S k) : ScF w1 B v s := by
  obtain ⟨vm, ve, vt, pm, pe, rfl, h1, h2, h3⟩ := h
  exact ⟨vm, ve, vt, pm, pe, rfl, h1.kp hk hs, h2.kp hk hs, own_kp h3 hk hs⟩
/-- A reader newly laid, at the first piece. -/
theorem Rd.new {w : World} {V : Value} {ts : List Tk} {E : Nat} (hG : Glob w) (hr : RowT w V ts) (h1 : ts.length ≤ 16384) (h2 : ∀ t ∈ ts, t.bytes.size ≤ 16384) :
    Rd (w.alloc (.cells #[V, .int .i64 0, .int .i64 (E : Int), .bool false] 53)) w.heap.size V ts E (.inr (ts.map Tk.bytes)) := by
  have hb : Below w.heap.size w (w.alloc (.cells #[V, .int .i64 0, .int .i64 (E : Int), .bool false] 53)) := (Below.refl _ _).alloc (Nat.le_refl _) _
  obtain ⟨a, cap, e1, e2, e3, e4, e5⟩ := hr.form
  refine ⟨hG.below hb, hG.lt, ?_, by simp [leftS], ?_, ⟨a, cap, e1, e2, e3, ?_, e5.below hb⟩, fun t ht => by have := h2 t ht; omega, by omega⟩
  · simp only [leftS, List.length_map, Nat.sub_self, badS]
    exact heap_alloc_new w _
  · intro r hr'
    simp only [Sum.inr.injEq] at hr'
    subst hr'
    simp
  · intro hne
    obtain ⟨q, hq⟩ := e4 hne
    refine ⟨q, hq, ?_⟩
    have hlt : 0 < ts.length := by cases ts with | nil => exact absurd rfl hne | cons t r => simp
    rw [hq] at e5
    obtain ⟨c0, _, _⟩ := e5.at0 (List.getElem?_eq_getElem hlt)
    exact World.block_lt_of_cell? _ _ c0
set_option maxHeartbeats 4000000 in
theorem parse_any (s : ByteArray) (w : World) (hs : s.size ≤ 140737488351232) (hG : Glob w) :
    Calls Tryd.prog 10 #[.string s] w fun e w' => ∃ v, e = .returned (.tuple #[v, .int .i64 ((parseA s).2.1 : Int), .int .i64 ((parseA s).2.2 : Int)]) ∧ ScF w' w.heap.size v (parseA s).1 ∧ Below w.heap.size w w' := by
  obtain ⟨⟨ts, p, e⟩, hA⟩ : ∃ A, tokA s = A := ⟨_, rfl⟩
  have HA : Hid (tokA s = (ts, p, e)) := hA
  have HTok : Hid (∀ W : World, Calls Tryd.prog 15 #[.string s] W fun x w' => ∃ v, x = .returned (.tuple #[v, .int .i64 (p : Int), .int .i64 (e : Int)]) ∧ RowT w' v ts ∧ Below W.heap.size W w') := fun W => tokens_row s W hs ts p e hA
  have hb0 : Below w.heap.size w (w.alloc (.cells #[.string ⟨#[]⟩, .slice none 0 0, .slice none 0 0, .slice none 0 0] 27)) := (Below.refl _ _).alloc (Nat.le_refl _) _
  have B0 := Blk.new w #[.string ⟨#[]⟩, .slice none 0 0, .slice none 0 0, .slice none 0 0] 27
  obtain ⟨R, hR⟩ : ∃ R, w.heap.size = R := ⟨_, rfl⟩
  have HR : Hid (w.heap.size = R) := hR
  have hG0 := hG.below hb0
  rw [hR] at hb0 B0
  by_cases he : e = 0
  · subst he
    obtain ⟨hf1, hf2⟩ := tok_few hA
    obtain ⟨z1, z2, rfl⟩ := tokA_zero hA
    have HF : Hid (ts.length ≤ 16384 ∧ ∀ t ∈ ts, t.bytes.size ≤ 16384) := ⟨hf1, hf2⟩
    obtain ⟨Q, hQ⟩ : ∃ Q, pText (ts.map Tk.bytes) = Q := ⟨_, rfl⟩
    have HQ : Hid (pText (ts.map Tk.bytes) = Q) := hQ
    have HPn : Hid (∀ n, Q = .inl n → parseA s = (zeroS, placeN ts s.size n, 5)) := fun n e => parse_no hA (hQ.trans e)
    have HPy : Hid (∀ x r, Q = .inr (x, r) → parseA s = (kindS x, 0, 0) ∧ GoodS x) := fun x r e => ⟨parse_yes hA (hQ.trans e), text_good (hQ.trans e)⟩
    clear hQ hA z1 z2 hf1 hf2 HA
    go_enter Tryd.func10, Tryd.ntmps10
    go_wp2_with fail
    refine (HTok.out _).mono ?_
    rintro e w1 ⟨V, rfl, hrow, hb1⟩
    clear hR
    have B1 := B0.below hb1
    have hb1' : Below R w w1 := hb0.trans (hb1.mono (by simp [HR.out]))
    have hG1 := hG0.below hb1
    have hRd := Rd.new (E := s.size) hG1 hrow HF.out.1 HF.out.2
    have B2 := B1.below ((Below.refl _ _).alloc (Nat.le_refl _) (.cells #[V, .int .i64 0, .int .i64 (s.size : Int), .bool false] 53))
    have hb2 : Below R w (w1.alloc (.cells #[V, .int .i64 0, .int .i64 (s.size : Int), .bool false] 53)) := hb1'.alloc (by have := hb1'.size; have := HR.out; omega) _
    have hRg : R < w1.heap.size := B1.lt
    obtain ⟨va, vc, hV⟩ := hRd.form
    subst hV
    clear B1 hb1' hG1 hb1 hrow hG0 B0 hb0 HTok
    obtain ⟨nT, hnT⟩ : ∃ n, ts.length = n := ⟨_, rfl⟩
    rw [hnT] at hRd B2 hb2 ⊢
    go_wp2_with fail
    generalize hw2 : w1.alloc (.cells #[.slice va nT vc, .int .i64 0, .int .i64 (s.size : Int), .bool false] 53) = w2 at *
    generalize w1.heap.size = g at *
    clear hw2 hnT
    refine (rschema_any hRd).mono ?_
    rintro e w3 ⟨sc, vm, ve, vt, pm, pe, B, rfl, rsc, h3, k3, hB3, HM, HE, HT⟩
    have e0 : pOn (.inr (ts.map Tk.bytes)) pText = Q := HQ.out
    rw [e0] at h3 rsc
    have B3 := B2.kp k3 (by omega)
    have hb3 : Below R w w3 := hb2.trans (k3.toBelow (by have := B2.lt; omega) (fun k hk => by omega))
    have hg2 : g < w2.heap.size := hRd.lt
    clear e0 hRd k3 B2 hb2 HQ
    obtain ⟨ma, mc, hv⟩ := own_form HM.own
    subst hv
    obtain ⟨ea, ec, hv⟩ := own_form HE.own
    subst hv
    obtain ⟨ta, tc, hv⟩ := own_form HT
    subst hv
    obtain ⟨nM, hnM⟩ : ∃ n, (sc.msgs.map preM).length = n := ⟨_, rfl⟩
    obtain ⟨nE, hnE⟩ : ∃ n, sc.enums.length = n := ⟨_, rfl⟩
    obtain ⟨nC, hnC⟩ : ∃ n, sc.methods.length = n := ⟨_, rfl⟩
    rw [hnM] at HM ⊢
    rw [hnE] at HE ⊢
    have HT' := HT
    rw [hnC] at HT ⊢
    have HNC : Hid (sc.methods.length = nC) := hnC
    clear hnM hnE hnC
    have HM3 : Hid _ := HM
    have HE3 : Hid _ := HE
    have HT3 : Hid _ := HT
    clear HM HE HT HT'
    have hbA : Below w3.heap.size w3 (w3.alloc (.cells #[.string sc.name, .slice ma nM mc, .slice ea nE ec, .slice ta nC tc] 27)) := (Below.refl _ _).alloc (Nat.le_refl _) _
    have h4 := h3.below hbA
    have B4 := B3.below hbA
    have BA := Blk.new w3 #[.string sc.name, .slice ma nM mc, .slice ea nE ec, .slice ta nC tc] 27
    have hb4 : Below R w (w3.alloc (.cells #[.string sc.name, .slice ma nM mc, .slice ea nE ec, .slice ta nC tc] 27)) := hb3.alloc (by have := B3.lt; omega) _
    have HM4 : Hid _ := HM3.out.below hbA
    have HE4 : Hid _ := HE3.out.below hbA
    have HT4 : Hid _ := own_below HT3.out hbA
    have hAb : R < w3.heap.size := B3.lt
    have hgA : g < w3.heap.size := h3.lt
    clear h3 B3 hb3 HM3 HE3 HT3
    obtain ⟨n, hn, hm, c0, c1, c2, c3, f1, f3⟩ := h4.open
    clear hn hm c0 c1 c2 f1 f3
    cases Q with
    | inl n =>
      have HP2 : Hid (parseA s = (zeroS, placeN ts s.size n, 5)) := HPn.out n rfl
      simp only [stX, badS] at h4 c3
      go_wp2_with fail
      generalize w3.alloc (.cells #[.string sc.name, .slice ma nM mc, .slice ea nE ec, .slice ta nC tc] 27) = w4 at *
      generalize w3.heap.size = Ab at *
      clear hbA c3
      refine (rplace_any h4).mono ?_
      rintro e w5 ⟨rfl, hb5⟩
      have B5 := B4.below hb5
      have hb5' : Below R w w5 := hb4.trans (hb5.mono (by have := B4.lt; omega))
      simp only [leftS]
      generalize hpl : placeN ts s.size n = pl at *
      clear hpl HM4 HE4 HT4 h4 hb4 hb5 B4 BA
      have r0 := B5.cell 0
      have r1 := B5.cell 1
      have r2 := B5.cell 2
      have r3 := B5.cell 3
      have f0 := B5.froz 0
      have f1 := B5.froz 1
      have f2 := B5.froz 2
      have f3 := B5.froz 3
      simp only [List.getElem?_toArray, List.getElem?_cons_succ, List.getElem?_cons_zero] at r0 r1 r2 r3
      go_wp2_with fail
      refine bodyPost_ret (results_three rfl _ _ _ ⟨R, 0, none⟩ (.agg #[.string ⟨#[]⟩, .slice none 0 0, .slice none 0 0, .slice none 0 0]) (by go_simp) (by go_simp)) rfl ?_
      rw [HP2.out]
      refine ⟨_, rfl, ScF.zero _ _, ?_⟩
      rw [HR.out]
      exact (((hb5'.setCell (Nat.le_refl _) _).setCell (Nat.le_refl _) _).setCell (Nat.le_refl _) _).setCell (Nat.le_refl _) _
    | inr x =>
      obtain ⟨x, r⟩ := x
      have := rsc x r rfl
      subst this
      obtain ⟨q1, q2⟩ := HPy.out sc r rfl
      have HP2 : Hid (parseA s = (kindS sc, 0, 0)) := q1
      have HGd : Hid (GoodS sc) := q2
      clear q1 q2 HPn HPy rsc
      simp only [stX, badS] at h4 c3
      have HES : Hid (∀ e ∈ sc.enums, e.name.size ≤ 80) := fun e he => name_size (HGd.out.2 e he)
      have HMS : Hid (∀ m ∈ sc.msgs.map preM, ∀ f ∈ m.fields, f.tname.size ≤ 80) := by
        intro m hm f hf
        simp only [List.mem_map] at hm
        obtain ⟨m0, hm0, rfl⟩ := hm
        simp only [preM, List.mem_map] at hf
        obtain ⟨f0, hf0, rfl⟩ := hf
        rcases HGd.out.1 m0 hm0 f0 hf0 with ⟨_, e⟩ | ⟨_, e⟩
        · exact name_size e
        · show f0.tname.size ≤ 80
          rw [e]; decide
      have a0 := BA.cell 0
      have a1 := BA.cell 1
      have a2 := BA.cell 2
      have a3 := BA.cell 3
      simp only [List.getElem?_toArray, List.getElem?_cons_succ, List.getElem?_cons_zero] at a0 a1 a2 a3
      go_wp2_with fail
      generalize w3.alloc (.cells #[.string sc.name, .slice ma nM mc, .slice ea nE ec, .slice ta nC tc] 27) = w4 at *
      generalize w3.heap.size = Ab at *
      clear hbA c3 a0 a1 a2 a3
      refine (settle_any HM4.out HE4.out ⟨_, _, _, rfl⟩ HES.out HMS.out).mono ?_
      rintro e w5 ⟨rfl, hM5, k5⟩
      have hFB : ∀ k, FB pm k → B ≤ k ∧ ∃ (i : Nat) (p : Value × Value) (m : MsS), pm[i]? = some p ∧ p.1.ownBlock = some k ∧ w4.ownsRow B 43 5 p.1 m.fields.length (flRows m.fields).flatten := by
        rintro k ⟨i, p, hp, hk⟩
        have hi : i < (sc.msgs.map preM).length := by rw [← HM4.out.len]; exact (List.getElem?_eq_some_iff.1 hp).1
        have := (HM4.out.each i _ p (List.getElem?_eq_getElem hi) hp).1
        exact ⟨(this.lt k hk).1, i, p, _, hp, hk, this⟩
      have HE5 : Hid (EnO w5 B (.slice ea nE ec) sc.enums pe) := by
        refine ⟨HE4.out.len, own_kpV HE4.out.own k5 (fun k hk hS => ?_), fun i e p he hp => own_kpV (HE4.out.each i e p he hp) k5 (fun k hk hS => ?_)⟩
        · obtain ⟨_, _, _, _, _, hb, hf⟩ := hFB k hS
          exact own_apart hf HE4.out.own (by decide) k hb hk
        · obtain ⟨_, _, _, _, _, hb, hf⟩ := hFB k hS
          exact own_apart hf (HE4.out.each i e p he hp) (by decide) k hb hk
      have HT5 : Hid (w5.ownsRow B 73 3 (.slice ta nC tc) nC (mtRows sc.methods).flatten) := own_kpV HT4.out k5 (fun k hk hS => by
        obtain ⟨_, _, _, _, _, hb, hf⟩ := hFB k hS
        exact own_apart hf HT4.out (by decide) k hb hk)
      have B5 := B4.kp k5 (fun hS => by have := (hFB _ hS).1; omega)
      have BA5 := BA.kp k5 (fun hS => by
        obtain ⟨_, _, _, _, _, hb, hf⟩ := hFB _ hS
        exact absurd (own_type hf hb BA) (by decide))
      have hb5 : Below R w w5 := hb4.trans (k5.toBelow (by have := B4.lt; omega) (fun k hS => by have := (hFB k hS).1; omega))
      have HM5 : Hid (MsO w5 B (.slice ma nM mc) (sc.msgs.map (kindM sc.enums)) pm) := by
        have := hM5
        rw [set_kinds HGd.out] at this
        exact this
      clear hM5 k5 hFB HM4 HE4 HT4 h4 hb4 B4 BA HES HMS HGd
      have a0 := BA5.cell 0
      have a1 := BA5.cell 1
      have a2 := BA5.cell 2
      have a3 := BA5.cell 3
      have r0 := B5.cell 0
      have r1 := B5.cell 1
      have r2 := B5.cell 2
      have r3 := B5.cell 3
      have f0 := B5.froz 0
      have f1 := B5.froz 1
      have f2 := B5.froz 2
      have f3 := B5.froz 3
      simp only [List.getElem?_toArray, List.getElem?_cons_succ, List.getElem?_cons_zero] at a0 a1 a2 a3 r0 r1 r2 r3
      go_wp2_with fail
      refine bodyPost_ret (results_three rfl _ _ _ ⟨R, 0, none⟩ (.agg #[.string sc.name, .slice ma nM mc, .slice ea nE ec, .slice ta nC tc]) (by go_simp) (by go_simp)) rfl ?_
      have k6 : Kp (fun k => k = R) w5 ((((w5.setCell ⟨R, 0, none⟩ (.string sc.name)).setCell ⟨R, 1, none⟩ (.slice ma nM mc)).setCell ⟨R, 2, none⟩ (.slice ea nE ec)).setCell ⟨R, 3, none⟩ (.slice ta nC tc)) := Kp.setCell (p := ⟨R, 3, none⟩) (Kp.setCell (p := ⟨R, 2, none⟩) (Kp.setCell (p := ⟨R, 1, none⟩) (Kp.setCell (p := ⟨R, 0, none⟩) (Kp.refl (fun k => k = R) w5) (fun _ => rfl) _) (fun _ => rfl) _) (fun _ => rfl) _) (fun _ => rfl) _
      rw [HP2.out]
      refine ⟨_, rfl, ⟨_, _, _, pm, pe, rfl, ?_, ?_, ?_⟩, ?_⟩
      · exact (HM5.out.kp k6 (fun k hk => by omega)).base (by rw [HR.out]; omega)
      · exact (HE5.out.kp k6 (fun k hk => by omega)).base (by rw [HR.out]; omega)
      · show World.ownsRow _ _ _ _ _ sc.methods.length _
        rw [HNC.out]
        exact own_base (own_kp HT5.out k6 (fun k hk => by omega)) (by rw [HR.out]; omega)
      · rw [HR.out]
        exact (((hb5.setCell (Nat.le_refl _) _).setCell (Nat.le_refl _) _).setCell (Nat.le_refl _) _).setCell (Nat.le_refl _) _
  · have HP2 : Hid (parseA s = (zeroS, p, e)) := parse_err hA he
    have hd : ((e : Int) == 0) = false := by rw [beq_eq_false_iff_ne]; omega
    clear hA HA he
    go_enter Tryd.func10, Tryd.ntmps10
    go_wp2_with fail
    refine (HTok.out _).mono ?_
    rintro x w1 ⟨V, rfl, hrow, hb1⟩
    clear hR
    have B1 := B0.below hb1
    have hb1' : Below R w w1 := hb0.trans (hb1.mono (by simp [HR.out]))
    have r0 := B1.cell 0
    have r1 := B1.cell 1
    have r2 := B1.cell 2
    have r3 := B1.cell 3
    have f0 := B1.froz 0
    have f1 := B1.froz 1
    have f2 := B1.froz 2
    have f3 := B1.froz 3
    simp only [List.getElem?_toArray, List.getElem?_cons_succ, List.getElem?_cons_zero] at r0 r1 r2 r3
    clear hb1 hrow hG0 B0 hb0 HTok
    go_wp2_with fail
    refine bodyPost_ret (results_three rfl _ _ _ ⟨R, 0, none⟩ (.agg #[.string ⟨#[]⟩, .slice none 0 0, .slice none 0 0, .slice none 0 0]) (by go_simp) (by go_simp)) rfl ?_
    rw [HP2.out]
    refine ⟨_, rfl, ScF.zero _ _, ?_⟩
    rw [HR.out]
    exact (((hb1'.setCell (Nat.le_refl _) _).setCell (Nat.le_refl _) _).setCell (Nat.le_refl _) _).setCell (Nat.le_refl _) _
end Go.Proofs.YtfffjfccochccaaDoor

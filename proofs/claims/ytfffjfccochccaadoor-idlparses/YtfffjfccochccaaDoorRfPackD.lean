/- What the reference's Parse answers. The document's example of layer 6 holds: awake answers true; the closed texts. A region that draws its order and whose callees only make memory: one walk in the order of the text serves every order. (The library's theorem on quiet regions, at the class of worlds that keep what lay below a block.) What SameInts, SameEnums, SameMessages, SameSchemas answer of one thing in two places. What SameSchemas answers of one schema in two places. IdlParses answers true at every text. -/
import Derived.Test.YtfffjfccochccaaDoorRfPackC
import Derived.Test.YtfffjfccochccaaDoorIdParse
import Derived.Test.YtfffjfccochccaaDoorIxTP
import Derived.WalkKit
import Derived.Below
import Derived.Deep.QuietTactic
import Derived.BigQuiet
import Derived.Deep.RegionWith
import Derived.Test.YtfffjfccochccaaDoorScRow
import Derived.Test.YtfffjfccochccaaDoorKpFrame
import Derived.Test.YtfffjfccochccaaDoorRg3
/- What the reference's Parse answers. -/
namespace Go.Proofs.YtfffjfccochccaaDoor
open Go.ChangeShapes Go.WideShapes Go.ChangeAt Go.RowKit
set_option linter.unusedVariables false
set_option linter.unusedSimpArgs false
set_option maxRecDepth 20000

theorem Rf.new {w : World} {V : Value} {ts : List Tk} (hr : RowT w V ts) (h1 : ts.length ≤ 16384) (h2 : ∀ t ∈ ts, t.bytes.size ≤ 16384) :
    Rf (w.alloc (.cells #[V, .int .i64 0, .bool false] 59)) w.heap.size V ts (.inr (ts.map Tk.bytes)) := by
  have hb : Below w.heap.size w (w.alloc (.cells #[V, .int .i64 0, .bool false] 59)) := (Below.refl _ _).alloc (Nat.le_refl _) _
  obtain ⟨a, cap, e1, e2, e3, e4, e5⟩ := hr.form
  refine ⟨?_, by simp [leftS], ?_, ⟨a, cap, e1, e2, e3, ?_, e5.below hb⟩, fun t ht => by have := h2 t ht; omega, by omega⟩
  · simp only [leftS, List.length_map, Nat.sub_self, badS]
    exact heap_alloc_new w _
  · intro r hr'
    simp only [Sum.inr.injEq] at hr'
    subst hr'
    simp
  · intro hne
    obtain ⟨q, hq⟩ := e4 hne
    refine ⟨q, hq, ?_⟩
    have hlt : 0 < ts.length := by cases ts with | nil => exact absurd rfl hne | cons t r => simp
    rw [hq] at e5
    obtain ⟨c0, _, _⟩ := e5.at0 (List.getElem?_eq_getElem hlt)
    exact World.block_lt_of_cell? _ _ c0
theorem Rf.pos_at {w : World} {g : Nat} {V : Value} {ts : List Tk} {σ : Sg} (h : Rf w g V ts σ) {n : Nat} (hlt : n < ts.length) :
    ∃ q cap, V = .slice (some ⟨q, 0, none⟩) ts.length cap ∧ ts.length ≤ cap ∧ cap ≤ 9223372036854775807 ∧ w.cell? ⟨q, n * 3 + 2, none⟩ = some (.int .i64 ((ts[n].pos : Nat) : Int)) := by
  obtain ⟨a, cap, h1, h2, h3, h4, h5⟩ := h.row
  have hne : ts ≠ [] := by intro e; subst e; simp at hlt
  obtain ⟨q, rfl, _⟩ := h4 hne
  obtain ⟨_, _, b3⟩ := h5.at0 (List.getElem?_eq_getElem hlt)
  exact ⟨q, cap, h1, h2, by unfold maxLen at h3; omega, b3⟩
theorem fb_own {w : World} {B : Nat} {v : Value} {ms : List MsS} {pm : List (Value × Value)} (h : MsO w B v ms pm) {k : Nat} (hk : FB pm k) : B ≤ k ∧ ∃ (u : Value) (n : Nat) (xs : List Value), u.ownBlock = some k ∧ w.ownsRow B 43 5 u n xs := by
  obtain ⟨i, p, hp, hk⟩ := hk
  have hi : i < ms.length := by rw [← h.len]; exact (List.getElem?_eq_some_iff.1 hp).1
  have := (h.each i _ p (List.getElem?_eq_getElem hi) hp).1
  exact ⟨(this.lt k hk).1, _, _, _, hk, this⟩
theorem SO.fb {w w1 : World} {gs : Nat} {s : ScS} {vm ve vt : Value} {pm : List (Value × Value)} {pe : List Value} (h : SO w gs s vm ve vt pm pe) (k : Kp (FB pm) w w1) : Blk w1 gs #[.string s.name, vm, ve, vt] 27 ∧ EnO w1 (gs + 1) ve s.enums pe ∧ w1.ownsRow (gs + 1) 73 3 vt s.methods.length (mtRows s.methods).flatten := by
  refine ⟨h.bs.kp k (fun hS => by have := (fb_own h.ms hS).1; omega), ⟨h.en.len, own_kpV h.en.own k (fun j hj hS => ?_), fun i e p he hp => own_kpV (h.en.each i e p he hp) k (fun j hj hS => ?_)⟩, own_kpV h.mt k (fun j hj hS => ?_)⟩
  · obtain ⟨_, _, _, _, hb, hf⟩ := fb_own h.ms hS
    exact own_apart hf h.en.own (by decide) j hb hj
  · obtain ⟨_, _, _, _, hb, hf⟩ := fb_own h.ms hS
    exact own_apart hf (h.en.each i e p he hp) (by decide) j hb hj
  · obtain ⟨_, _, _, _, hb, hf⟩ := fb_own h.ms hS
    exact own_apart hf h.mt (by decide) j hb hj
set_option maxHeartbeats 8000000 in
theorem rparse_any (s : ByteArray) (w : World) (hs : s.size ≤ 140737488351232) :
    Calls Tryd.prog 11 #[.string s] w fun e w' => ∃ v, e = .returned (.tuple #[v, .int .i64 ((parseA s).2.1 : Int), .int .i64 ((parseA s).2.2 : Int)]) ∧ ScF w' w.heap.size v (parseA s).1 ∧ Below w.heap.size w w' := by
  obtain ⟨⟨ts, p, e⟩, hA⟩ : ∃ A, tokA s = A := ⟨_, rfl⟩
  have HA : Hid (tokA s = (ts, p, e)) := hA
  have HTok : Hid (∀ W : World, Calls Tryd.prog 19 #[.string s] W fun x w' => ∃ v, x = .returned (.tuple #[v, .int .i64 (p : Int), .int .i64 (e : Int)]) ∧ RowT w' v ts ∧ Below W.heap.size W w') := fun W => by
    refine (rtokens_any s W hs).mono ?_
    rintro x w' ⟨v, rfl, h1, h2⟩
    rw [hA] at h1 ⊢
    exact ⟨v, rfl, row_own h1, h2⟩
  have hb0 : Below w.heap.size w (w.alloc (.cells #[.string ⟨#[]⟩, .slice none 0 0, .slice none 0 0, .slice none 0 0] 27)) := (Below.refl _ _).alloc (Nat.le_refl _) _
  have B0 := Blk.new w #[.string ⟨#[]⟩, .slice none 0 0, .slice none 0 0, .slice none 0 0] 27
  obtain ⟨R, hR⟩ : ∃ R, w.heap.size = R := ⟨_, rfl⟩
  have HR : Hid (w.heap.size = R) := hR
  rw [hR] at hb0 B0
  by_cases he : e = 0
  · subst he
    obtain ⟨hf1, hf2⟩ := tok_few hA
    obtain ⟨z1, z2, rfl⟩ := tokA_zero hA
    have HF : Hid (ts.length ≤ 16384 ∧ ∀ t ∈ ts, t.bytes.size ≤ 16384) := ⟨hf1, hf2⟩
    obtain ⟨Z, hZ⟩ : ∃ Z, pText (ts.map Tk.bytes) = Z := ⟨_, rfl⟩
    have HZ0 : Hid (Z = pOn (stX (pOn (stX (pOn (stX (pOn (.inr (ts.map Tk.bytes)) (pMust kSchema))) pName)) (pMust kSemi))) fun r => pDecls r.length ⟨res noT (pOn (stX (pOn (.inr (ts.map Tk.bytes)) (pMust kSchema))) pName), [], [], []⟩ r) := by
      show Z = _
      rw [← hZ]; exact text_st (.inr (ts.map Tk.bytes))
    have HPn : Hid (∀ n, Z = .inl n → parseA s = (zeroS, placeN ts s.size n, 5)) := fun n e => parse_no hA (hZ.trans e)
    have HPy : Hid (∀ x r, Z = .inr (x, r) → parseA s = (kindS x, 0, 0) ∧ GoodS x) := fun x r e => ⟨parse_yes hA (hZ.trans e), text_good (hZ.trans e)⟩
    clear hZ hA z1 z2 hf1 hf2 HA
    go_enter Tryd.func11, Tryd.ntmps11
    go_wp2_with fail
    refine (HTok.out _).mono ?_
    rintro e w1 ⟨V, rfl, hrow, hb1⟩
    clear hR
    have B1 := B0.below hb1
    have hb1' : Below R w w1 := hb0.trans (hb1.mono (by simp [HR.out]))
    have hRf := Rf.new hrow HF.out.1 HF.out.2
    have B2 := B1.below ((Below.refl _ _).alloc (Nat.le_refl _) (.cells #[V, .int .i64 0, .bool false] 59))
    have hb2 : Below R w (w1.alloc (.cells #[V, .int .i64 0, .bool false] 59)) := hb1'.alloc (by have := hb1'.size; have := HR.out; omega) _
    have hRg : R < w1.heap.size := B1.lt
    obtain ⟨va, vc, hV⟩ := hRf.form
    subst hV
    clear B1 hb1' hb1 hrow B0 hb0 HTok
    obtain ⟨nT, hnT⟩ : ∃ n, ts.length = n := ⟨_, rfl⟩
    have HNT : Hid (ts.length = nT) := hnT
    rw [hnT] at hRf B2 hb2 ⊢
    clear hnT
    go_wp2_with fail
    refine (rmust_any kSchema hRf (by decide +kernel)).mono ?_
    rintro e w2 ⟨rfl, h3, k3⟩
    generalize w1.heap.size = g at *
    have B3 := B2.kp k3 (by omega)
    have hb3 : Below R w w2 := hb2.trans (k3.toBelow (by have := B2.lt; omega) (fun k hk => by omega))
    clear hRf k3 B2 hb2
    generalize stX (pOn (.inr (ts.map Tk.bytes)) (pMust kSchema)) = σ1 at *
    go_wp2_with fail
    refine (pname_any h3).mono ?_
    rintro e w3 ⟨rfl, h4, k4⟩
    have B4 := B3.kp k4 (by omega)
    have hb4 : Below R w w3 := hb3.trans (k4.toBelow (by have := B3.lt; omega) (fun k hk => by omega))
    clear h3 k4 B3 hb3
    generalize res noT (pOn σ1 pName) = x1 at *
    generalize stX (pOn σ1 pName) = σ2 at *
    have hgs : g < w3.heap.size := h4.lt
    have BS := Blk.new w3 #[.string x1, .slice none 0 0, .slice none 0 0, .slice none 0 0] 27
    have h5 := h4.alloc (.cells #[.string x1, .slice none 0 0, .slice none 0 0, .slice none 0 0] 27)
    have B5 := B4.below ((Below.refl _ _).alloc (Nat.le_refl _) (.cells #[.string x1, .slice none 0 0, .slice none 0 0, .slice none 0 0] 27))
    have hb5 : Below R w (w3.alloc (.cells #[.string x1, .slice none 0 0, .slice none 0 0, .slice none 0 0] 27)) := hb4.alloc (by have := B4.lt; omega) _
    clear h4 B4 hb4
    go_wp2_with fail
    refine (rmust_any kSemi h5 (by decide +kernel)).mono ?_
    rintro e w4 ⟨rfl, h6, k6⟩
    generalize w3.heap.size = gs at *
    have B6 := B5.kp k6 (by omega)
    have BS6 := BS.kp k6 (by omega)
    have hb6 : Below R w w4 := hb5.trans (k6.toBelow (by have := B5.lt; omega) (fun k hk => by omega))
    clear h5 k6 B5 BS hb5
    generalize stX (pOn σ2 (pMust kSemi)) = σ3 at *
    go_wp2_with fail
    go_loopw [35] (fun _ wr => ∃ (sc : ScS) (vm ve vt : Value) (pm : List (Value × Value)) (pe : List Value) (σ1 : Sg), Hid (Z = pOn σ1 fun r => pDecls r.length sc r) ∧ SO wr gs sc vm ve vt pm pe ∧ Rf wr g (.slice va nT vc) ts σ1 ∧ Below R w wr ∧ Hid (Bd3 ts.length σ1 sc) ∧ Blk wr R #[.string ⟨#[]⟩, .slice none 0 0, .slice none 0 0, .slice none 0 0] 27) (fun _ wr => msrf g ts.length wr)
    case atStart =>
      have hb : Bd ts.length σ3 0 := ⟨by simp, fun r hr => by have := h6.left; rw [hr] at this; simp only [leftS] at this; simpa using this⟩
      exact ⟨⟨x1, [], [], []⟩, _, _, _, [], [], σ3, HZ0, ⟨BS6, MsO.nil _ _, EnO.nil _ _, World.ownsRow_nil _ _ _ _⟩, h6, hb6, ⟨hb, hb, hb⟩, B6⟩
    case round =>
      obtain ⟨sc, vm, ve, vt, pm, pe, σ, HZ, hSO, hr, hbR, HB, BR⟩ := hrel
      clear HZ0 h6 hb6 B6 BS6
      have hms := msr_rf hr
      have HSO : Hid (SO wr gs sc vm ve vt pm pe) := hSO
      have hgw : gs < wr.heap.size := hSO.bs.lt
      clear hSO
      obtain ⟨n, hn, hm, c0, c1, c2, f1, f3⟩ := hr.open
      cases σ with
      | inl k =>
        have eZ : Z = .inl k := by rw [HZ.out]; rfl
        subst eZ
        have HP2 : Hid (parseA s = (zeroS, placeN ts s.size k, 5)) := HPn.out k rfl
        clear HPn HPy HZ hms HB
        simp only [badS] at c2
        simp only [leftS] at hn
        by_cases hlt : n < ts.length
        · obtain ⟨q, cap, hq, hcap, hcap2, b3⟩ := hr.pos_at hlt
          rw [HNT.out] at hq hcap
          simp only [Value.slice.injEq, true_and] at hq
          obtain ⟨rfl, rfl⟩ := hq
          have e : placeN ts s.size k = ts[n].pos := by
            unfold placeN
            rw [show ts.length - k = n by omega, List.getElem?_eq_getElem hlt]
          rw [e] at HP2
          generalize ts[n].pos = P at *
          rw [HNT.out] at hlt hm
          clear hr e hn HSO f1 f3
          have r0 := BR.cell 0
          have r1 := BR.cell 1
          have r2 := BR.cell 2
          have r3 := BR.cell 3
          have f0 := BR.froz 0
          have f1 := BR.froz 1
          have f2 := BR.froz 2
          have f3 := BR.froz 3
          simp only [List.getElem?_toArray, List.getElem?_cons_succ, List.getElem?_cons_zero] at r0 r1 r2 r3
          have hdl : decide (n < nT) = true := by simp; omega
          go_wp2_with fail
          go_quiet (fail)
          go_wp2_with fail
          go_quiet (fail)
          go_wp2_with fail
          go_quiet (fail)
          go_wp2_with fail
          refine bodyPost_ret (results_three rfl _ _ _ ⟨R, 0, none⟩ (.agg #[.string ⟨#[]⟩, .slice none 0 0, .slice none 0 0, .slice none 0 0]) (by go_simp) (by go_simp)) rfl ?_
          rw [HP2.out]
          refine ⟨_, rfl, ScF.zero _ _, ?_⟩
          rw [HR.out]
          exact ((((below_drewN _ hbR).setCell (Nat.le_refl _) _).setCell (Nat.le_refl _) _).setCell (Nat.le_refl _) _).setCell (Nat.le_refl _) _
        · have e : placeN ts s.size k = s.size := by
            unfold placeN
            rw [List.getElem?_eq_none (by omega)]
          rw [e] at HP2
          rw [HNT.out] at hlt hm
          have hdl : decide (n < nT) = false := by simp; omega
          clear hr e hn HSO f1 f3
          have r0 := BR.cell 0
          have r1 := BR.cell 1
          have r2 := BR.cell 2
          have r3 := BR.cell 3
          have f0 := BR.froz 0
          have f1 := BR.froz 1
          have f2 := BR.froz 2
          have f3 := BR.froz 3
          simp only [List.getElem?_toArray, List.getElem?_cons_succ, List.getElem?_cons_zero] at r0 r1 r2 r3
          go_wp2_with fail
          go_quiet (fail)
          go_wp2_with fail
          go_quiet (fail)
          go_wp2_with fail
          refine bodyPost_ret (results_three rfl _ _ _ ⟨R, 0, none⟩ (.agg #[.string ⟨#[]⟩, .slice none 0 0, .slice none 0 0, .slice none 0 0]) (by go_simp) (by go_simp)) rfl ?_
          rw [HP2.out]
          refine ⟨_, rfl, ScF.zero _ _, ?_⟩
          rw [HR.out]
          exact ((((below_drewN _ hbR).setCell (Nat.le_refl _) _).setCell (Nat.le_refl _) _).setCell (Nat.le_refl _) _).setCell (Nat.le_refl _) _
      | inr rs =>
        simp only [badS] at c2
        cases rs with
        | nil =>
          have eZ : Z = .inr (sc, []) := by rw [HZ.out]; rfl
          subst eZ
          obtain ⟨q1, q2⟩ := HPy.out sc [] rfl
          have HP2 : Hid (parseA s = (kindS sc, 0, 0)) := q1
          have hlt : n = nT := by rw [← HNT.out]; simp only [leftS, List.length_nil] at hn; omega
          have hdl : decide (nT < nT) = false := by simp
          subst hlt
          clear HZ hms hn f1 f3 HPn HPy HB q1 q2
          obtain ⟨ma, mc, hvv⟩ := own_form HSO.out.ms.own
          subst hvv
          obtain ⟨ea, ec, hvv⟩ := own_form HSO.out.en.own
          subst hvv
          obtain ⟨ta, tc, hvv⟩ := own_form HSO.out.mt
          subst hvv
          obtain ⟨nM, hnM⟩ : ∃ x, sc.msgs.length = x := ⟨_, rfl⟩
          obtain ⟨nE, hnE⟩ : ∃ x, sc.enums.length = x := ⟨_, rfl⟩
          obtain ⟨nC, hnC⟩ : ∃ x, sc.methods.length = x := ⟨_, rfl⟩
          have HNM : Hid (sc.msgs.length = nM) := hnM
          have HNE : Hid (sc.enums.length = nE) := hnE
          have HNC : Hid (sc.methods.length = nC) := hnC
          rw [hnM, hnE, hnC] at HSO
          have hl1 : nM ≤ 9223372036854775807 := by rw [← hnM]; exact own_le HSO.out.ms.own
          have hl2 : nE ≤ 9223372036854775807 := by rw [← hnE]; exact own_le HSO.out.en.own
          clear hnM hnE hnC
          go_wp2_with fail
          go_quiet (fail)
          go_wp2_with fail
          have hbq : Below wr.heap.size wr (wr.drewN nq) := below_drewN _ (Below.refl _ _)
          have HS5 : Hid (SO (wr.drewN nq) gs sc (.slice ma nM mc) (.slice ea nE ec) (.slice ta nC tc) pm pe) := HSO.out.below hbq
          have hb5 : Below R w (wr.drewN nq) := below_drewN _ hbR
          have BR5 := BR.below hbq
          clear hr HSO hbR BR c0 c1 c2 hbq hdl hgw hm
          generalize wr.drewN nq = w5 at *
          have HG5 : Hid (∀ k, FB pm k → gs + 1 ≤ k) := fun k hk => (fb_own HS5.out.ms hk).1
          go_loopw [10] (fun iv wr => ∃ (i : Nat) (ms' : List MsS), iv = .int .i64 (i : Int) ∧ i ≤ nM ∧ Hid (PartG (kindF sc.enums) sc.msgs ms' i 0) ∧ Hid (MsO wr (gs + 1) (.slice ma nM mc) ms' pm) ∧ Kp (FB pm) w5 wr) (fun iv _ => nM - (intOf iv).toNat)
          case atStart => exact ⟨0, sc.msgs, rfl, by omega, PartG.start _ _, HS5.out.ms, Kp.refl _ _⟩
          case round =>
            obtain ⟨i, ms', rfl, hi, HP, HM, KF⟩ := hrel
            obtain ⟨bS, hE, hT⟩ := HS5.out.fb KF
            have a1 := bS.cell 1
            simp only [List.getElem?_toArray, List.getElem?_cons_succ, List.getElem?_cons_zero] at a1
            by_cases hilt : i < nM
            · clear bS hE hT
              obtain ⟨m, hm⟩ : ∃ m, sc.msgs[i]? = some m := ⟨_, List.getElem?_eq_getElem (by rw [HNM.out]; exact hilt)⟩
              obtain ⟨m', e1, e2, e3, e4, e5⟩ := HP.out.each i m hm
              have hMO := HM.out
              have hl' : ms'.length = nM := by rw [HP.out.len, HNM.out]
              obtain ⟨p, hp⟩ : ∃ p, pm[i]? = some p := ⟨_, List.getElem?_eq_getElem (by rw [hMO.len, hl']; exact hilt)⟩
              obtain ⟨q, cap, hq, hq2, hq3, hq4, hq5⟩ := own_addr hMO.own (by rw [hl']; omega)
              rw [hl'] at hq hq2
              simp only [Value.slice.injEq, true_and] at hq
              obtain ⟨rfl, rfl⟩ := hq
              obtain ⟨pv, pr⟩ := p
              obtain ⟨pa, pc, hpv⟩ := own_form (hMO.each i m' _ e1 hp).1
              simp only at hpv
              subst hpv
              obtain ⟨nF, hnF⟩ : ∃ n, m.fields.length = n := ⟨_, rfl⟩
              have HNF : Hid (m.fields.length = nF) := hnF
              have HP1 : Hid (pm[i]? = some (.slice pa nF pc, pr)) := by rw [← hnF, ← e4]; exact hp
              have hnF2 : nF ≤ 9223372036854775807 := by rw [← hnF, ← e4]; exact own_le (hMO.each i m' _ e1 hp).1
              have HMm : Hid (sc.msgs[i]? = some m) := hm
              have hmc : nM ≤ mc := hq2
              have hmc2 : mc ≤ 9223372036854775807 := by unfold maxLen at hq3; omega
              clear hMO e1 e2 e3 e4 e5 hp hm hl' hnF hq2 hq3 hq4 hq5
              go_wp2_with fail
              clear a1
              go_loopw [11] (fun jv wr => ∃ (j : Nat) (ms' : List MsS), jv = .int .i64 (j : Int) ∧ j ≤ nF ∧ Hid (PartG (kindF sc.enums) sc.msgs ms' i j) ∧ Hid (MsO wr (gs + 1) (.slice (some ⟨q, 0, none⟩) nM mc) ms' pm) ∧ Kp (FB pm) w5 wr) (fun jv _ => nF - (intOf jv).toNat)
              case atStart => exact ⟨0, ms', rfl, by omega, HP, HM, KF⟩
              case round =>
                obtain ⟨j, ms2, rfl, hj, HP, HM, KF⟩ := hrel
                obtain ⟨bS, hE, hT⟩ := HS5.out.fb KF
                have a1 := bS.cell 1
                simp only [List.getElem?_toArray, List.getElem?_cons_succ, List.getElem?_cons_zero] at a1
                clear bS hE hT
                obtain ⟨m2, g1, _, _, g3, _⟩ := HP.out.each i m HMm.out
                have hown := HM.out.own
                rw [HP.out.len, HNM.out] at hown
                have c1 := own_at (ms_len ms2 pm) hown (ms_get g1 HP1.out) (j := 1) rfl
                simp only at c1
                clear hown
                by_cases hjlt : j < nF
                · obtain ⟨f, hf⟩ : ∃ f, m.fields[j]? = some f := ⟨_, List.getElem?_eq_getElem (by rw [HNF.out]; exact hjlt)⟩
                  obtain ⟨m3, g1', g2, g3'⟩ := HP.out.get HMm.out hf
                  rw [g1] at g1'
                  cases g1'
                  clear g3'
                  have hF := (HM.out.each i m2 _ g1 HP1.out).1
                  simp only at hF
                  rw [g3, HNF.out] at hF
                  obtain ⟨q2, cap2, hq, hq2, hq3, hq4, hq5⟩ := own_addr hF (by omega)
                  simp only [Value.slice.injEq, true_and] at hq
                  obtain ⟨rfl, rfl⟩ := hq
                  have hpc : nF ≤ pc := hq2
                  have hpc2 : pc ≤ 9223372036854775807 := by unfold maxLen at hq3; omega
                  have d3 := own_at (fl_len m2.fields) hF (fl_get g2) (j := 3) rfl
                  have fz3 := own_froz hF (j * 5 + 3)
                  have HG : Hid (ms2[i]? = some m2 ∧ m2.fields[j]? = some f ∧ m.fields[j]? = some f ∧ m2.fields.length = nF) := ⟨g1, g2, hf, by rw [g3, HNF.out]⟩
                  clear hF g1 g2 g3 hf hq2 hq3 hq4 hq5
                  by_cases hk0 : f.kind = 0
                  · rw [hk0] at d3
                    have HK0 : Hid (f.kind = 0) := hk0
                    clear hk0
                    have HM3 : Hid (MsO (wr.setCell ⟨q2, j * 5 + 3, none⟩ (.int .i64 7)) (gs + 1) (.slice (some ⟨q, 0, none⟩) nM mc) (ms2.set i (kindK (kc (sc.enums.take 0) f.tname) m2 j f)) pm) := HM.out.setKK 7 HG.out.1 HP1.out HG.out.2.1 rfl
                    have KF3 : Kp (FB pm) w5 (wr.setCell ⟨q2, j * 5 + 3, none⟩ (.int .i64 7)) := Kp.setCell (p := ⟨q2, j * 5 + 3, none⟩) KF (fun _ => ⟨i, _, HP1.out, rfl⟩) _
                    go_wp2_with fail
                    clear a1 c1 d3 fz3 KF HM
                    go_loopw [13] (fun ev wr => ∃ (x : Nat), ev = .int .i64 (x : Int) ∧ x ≤ nE ∧ Hid (MsO wr (gs + 1) (.slice (some ⟨q, 0, none⟩) nM mc) (ms2.set i (kindK (kc (sc.enums.take x) f.tname) m2 j f)) pm) ∧ Kp (FB pm) w5 wr) (fun ev _ => nE - (intOf ev).toNat)
                    case atStart => exact ⟨0, rfl, by omega, HM3, KF3⟩
                    case round =>
                      obtain ⟨x, rfl, hx, HM, KF⟩ := hrel
                      clear HM3 KF3
                      obtain ⟨bS, hE, hT⟩ := HS5.out.fb KF
                      have a2 := bS.cell 2
                      simp only [List.getElem?_toArray, List.getElem?_cons_succ, List.getElem?_cons_zero] at a2
                      clear bS hT
                      by_cases hxlt : x < nE
                      · obtain ⟨q3, cap3, hq, hq2, hq3', hq4, hq5⟩ := own_addr hE.own (by rw [HNE.out]; omega)
                        rw [HNE.out] at hq hq2
                        simp only [Value.slice.injEq, true_and] at hq
                        obtain ⟨rfl, rfl⟩ := hq
                        have hec : nE ≤ ec := hq2
                        have hec2 : ec ≤ 9223372036854775807 := by unfold maxLen at hq3'; omega
                        obtain ⟨en, hen⟩ : ∃ e, sc.enums[x]? = some e := ⟨_, List.getElem?_eq_getElem (by rw [HNE.out]; exact hxlt)⟩
                        obtain ⟨pp, hpp⟩ : ∃ p, pe[x]? = some p := ⟨_, List.getElem?_eq_getElem (by rw [hE.len, HNE.out]; exact hxlt)⟩
                        have hown := hE.own
                        rw [HNE.out] at hown
                        have n0 := own_at (en_len sc.enums pe) hown (en_get hen hpp) (j := 0) rfl
                        rw [Nat.add_zero] at n0
                        have hF := (HM.out.each i _ _ (set_get HG.out.1 _) HP1.out).1
                        simp only at hF
                        rw [show (kindK (kc (sc.enums.take x) f.tname) m2 j f).fields.length = nF from by show (m2.fields.set j _).length = nF; rw [List.length_set]; exact HG.out.2.2.2] at hF
                        have d3 := own_at (fl_len _) hF (fl_get (kindK_get HG.out.2.1)) (j := 3) rfl
                        have d4 := own_at (fl_len _) hF (fl_get (kindK_get HG.out.2.1)) (j := 4) rfl
                        have fz3 := own_froz hF (j * 5 + 3)
                        have HTk : Hid (sc.enums.take (x + 1) = sc.enums.take x ++ [en]) := take_snoc hen
                        clear hF hown hen hpp hq2 hq3' hq4 hq5 hE
                        obtain ⟨enm, evs⟩ := en
                        simp only at n0
                        cases hqq : (enm.data.toList == f.tname.data.toList) with
                        | true =>
                          have hd : (enm.toList == f.tname.toList) = true := by rw [ByteArray.toList_eq, ByteArray.toList_eq]; exact hqq
                          have HQQ : Hid ((enm.data.toList == f.tname.data.toList) = true) := hqq
                          clear hqq
                          go_wp2_with fail
                          go_quiet (fail)
                          go_wp2_with fail
                          have HM5 : Hid (MsO ((wr.drewN nq).setCell ⟨q2, j * 5 + 3, none⟩ (.int .i64 6)) (gs + 1) (.slice (some ⟨q, 0, none⟩) nM mc) (ms2.set i (kindK (kc (sc.enums.take (x + 1)) f.tname) m2 j f)) pm) := by
                            show MsO _ _ _ _ _
                            rw [HTk.out, kc_yes HQQ.out]
                            have := (HM.out.below (below_drewN nq (Below.refl _ _))).setKK 6 (set_get HG.out.1 _) HP1.out (kindK_get HG.out.2.1) rfl
                            rw [kindK_twice, List.set_set] at this
                            exact this
                          have KF5 : Kp (FB pm) w5 ((wr.drewN nq).setCell ⟨q2, j * 5 + 3, none⟩ (.int .i64 6)) := Kp.setCell (p := ⟨q2, j * 5 + 3, none⟩) (KF.below (below_drewN _ (Below.refl _ _))) (fun _ => ⟨i, _, HP1.out, rfl⟩) _
                          go_roundw
                          case rel => exact ⟨x + 1, rfl, by omega, HM5, KF5⟩
                          case measure => simp [intOf]; omega
                        | false =>
                          have hd : (enm.toList == f.tname.toList) = false := by rw [ByteArray.toList_eq, ByteArray.toList_eq]; exact hqq
                          have HM4 : Hid (MsO wr (gs + 1) (.slice (some ⟨q, 0, none⟩) nM mc) (ms2.set i (kindK (kc (sc.enums.take (x + 1)) f.tname) m2 j f)) pm) := by
                            show MsO _ _ _ _ _
                            rw [HTk.out, kc_no hqq]; exact HM.out
                          clear hqq HM
                          go_wp2_with fail
                          go_quiet (fail)
                          go_wp2_with fail
                          have HM5 : Hid (MsO (wr.drewN nq) (gs + 1) (.slice (some ⟨q, 0, none⟩) nM mc) (ms2.set i (kindK (kc (sc.enums.take (x + 1)) f.tname) m2 j f)) pm) := HM4.out.below (below_drewN _ (Below.refl _ _))
                          have KF5 : Kp (FB pm) w5 (wr.drewN nq) := KF.below (below_drewN _ (Below.refl _ _))
                          go_roundw
                          case rel => exact ⟨x + 1, rfl, by omega, HM5, KF5⟩
                          case measure => simp [intOf]; omega
                      · obtain rfl : x = nE := by omega
                        have HP3 : Hid (PartG (kindF sc.enums) sc.msgs (ms2.set i (kindK (kc (sc.enums.take x) f.tname) m2 j f)) i (j + 1)) := by
                          show PartG _ _ _ _ _
                          rw [List.take_of_length_le (by rw [HNE.out]; omega)]
                          exact HP.out.yes HMm.out HG.out.1 HG.out.2.2.1 _ (kindF_zero HK0.out)
                        go_wp2_with fail
                        go_roundw
                        case rel => exact ⟨j + 1, _, rfl, by omega, HP3, HM, KF⟩
                        case measure => simp [intOf]; omega
                  · have hd : (f.kind == 0) = false := by rw [beq_eq_false_iff_ne]; exact hk0
                    have HP3 : Hid (PartG (kindF sc.enums) sc.msgs ms2 i (j + 1)) := HP.out.no HMm.out HG.out.2.2.1 (kindF_other hk0)
                    clear hk0
                    go_wp2_with fail
                    go_roundw
                    case rel => exact ⟨j + 1, _, rfl, by omega, HP3, HM, KF⟩
                    case measure => simp [intOf]; omega
                · have HP3 : Hid (PartG (kindF sc.enums) sc.msgs ms2 (i + 1) 0) := HP.out.next HMm.out (by rw [HNF.out]; omega)
                  go_wp2_with fail
                  go_roundw
                  case rel => exact ⟨i + 1, _, rfl, by omega, HP3, HM, KF⟩
                  case measure => simp [intOf]; omega
            · have eM : ms' = sc.msgs.map (fun m => ⟨m.name, m.fields.map (kindF sc.enums), m.reserved⟩) := HP.out.all (by rw [HNM.out]; omega)
              subst eM
              have B6 := BR5.kp KF (fun hS => by have := HG5.out _ hS; omega)
              have hb6 : Below R w wr := hb5.trans (KF.toBelow (by have := BR5.lt; omega) (fun k hS => by have := HG5.out k hS; omega))
              have HE6 : Hid _ := hE
              have HT6 : Hid _ := hT
              have b0 := bS.cell 0
              have b2 := bS.cell 2
              have b3 := bS.cell 3
              have r0 := B6.cell 0
              have r1 := B6.cell 1
              have r2 := B6.cell 2
              have r3 := B6.cell 3
              have f0 := B6.froz 0
              have f1 := B6.froz 1
              have f2 := B6.froz 2
              have f3 := B6.froz 3
              simp only [List.getElem?_toArray, List.getElem?_cons_succ, List.getElem?_cons_zero] at b0 b2 b3 r0 r1 r2 r3
              clear hE hT bS HP BR5 hb5 KF
              go_wp2_with fail
              refine bodyPost_ret (results_three rfl _ _ _ ⟨R, 0, none⟩ (.agg #[.string sc.name, .slice ma nM mc, .slice ea nE ec, .slice ta nC tc]) (by go_simp) (by go_simp)) rfl ?_
              have k6 : Kp (fun k => k = R) wr ((((wr.setCell ⟨R, 0, none⟩ (.string sc.name)).setCell ⟨R, 1, none⟩ (.slice ma nM mc)).setCell ⟨R, 2, none⟩ (.slice ea nE ec)).setCell ⟨R, 3, none⟩ (.slice ta nC tc)) := Kp.setCell (p := ⟨R, 3, none⟩) (Kp.setCell (p := ⟨R, 2, none⟩) (Kp.setCell (p := ⟨R, 1, none⟩) (Kp.setCell (p := ⟨R, 0, none⟩) (Kp.refl (fun k => k = R) wr) (fun _ => rfl) _) (fun _ => rfl) _) (fun _ => rfl) _) (fun _ => rfl) _
              rw [HP2.out]
              refine ⟨_, rfl, ⟨_, _, _, pm, pe, rfl, ?_, ?_, ?_⟩, ?_⟩
              · exact (HM.out.kp k6 (fun k hk => by omega)).base (by rw [HR.out]; omega)
              · exact (HE6.out.kp k6 (fun k hk => by omega)).base (by rw [HR.out]; omega)
              · exact own_base (own_kp HT6.out k6 (fun k hk => by omega)) (by rw [HR.out]; omega)
              · rw [HR.out]
                exact (((hb6.setCell (Nat.le_refl _) _).setCell (Nat.le_refl _) _).setCell (Nat.le_refl _) _).setCell (Nat.le_refl _) _
        | cons t r =>
          have HZ2 : Hid (∀ s' : ScS, Res (pDecl sc (t :: r)) s' → Z = pOn (stX (pDecl sc (t :: r))) fun r => pDecls r.length s' r) := by
            intro v hv
            rw [HZ.out]
            exact decls_step hv
          have HW : Hid (weigh (stX (pDecl sc (t :: r))) < msrf g ts.length wr) := by show _ < _; rw [hms]; exact weigh_lt (decl_lt sc (t :: r)) (decl_in sc (t :: r))
          have hlt : n < nT := by rw [← HNT.out]; simp only [leftS, List.length_cons] at hn; omega
          have hdl : decide (n < nT) = true := by simp; omega
          clear HZ hms hn f1 f3 HPn HPy
          go_wp2_with fail
          go_quiet (fail)
          go_wp2_with fail
          refine (rdecl_any (hr.below (below_drewN _ (Below.refl _ _))) hgs (HSO.out.below (below_drewN _ (Below.refl _ _))) HB.out).mono ?_
          rintro e w5 ⟨rfl, s', vm', ve', vt', pm', pe', q1, h7, hS7, k7, hB7⟩
          have BR7 := (BR.below (below_drewN _ (Below.refl _ _))).kp k7 (by omega)
          have hb7 : Below R w w5 := (below_drewN _ hbR).trans (k7.toBelow (by show R ≤ wr.heap.size; have := BR.lt; omega) (fun k hk => by omega))
          have HZ3 : Hid (Z = pOn (stX (pDecl sc (t :: r))) fun r => pDecls r.length s' r) := HZ2.out s' q1
          have HB8 : Hid (Bd3 ts.length (stX (pDecl sc (t :: r))) s') := hB7
          have HM : Hid (msrf g ts.length w5 < msrf g ts.length wr) := by
            show _ < _
            rw [msr_rf h7]; exact HW.out
          clear HZ2 q1 hB7 HW k7 hr HSO HB BR hbR c0 c1 c2 hlt hdl
          generalize stX (pDecl sc (t :: r)) = σ4 at *
          go_wp2_with fail
          go_roundw
          case rel => exact ⟨s', vm', ve', vt', pm', pe', σ4, HZ3, hS7, h7, hb7, HB8, BR7⟩
          case measure => exact HM.out
  · have HP2 : Hid (parseA s = (zeroS, p, e)) := parse_err hA he
    have hd : ((e : Int) == 0) = false := by rw [beq_eq_false_iff_ne]; omega
    clear hA HA he
    go_enter Tryd.func11, Tryd.ntmps11
    go_wp2_with fail
    refine (HTok.out _).mono ?_
    rintro x w1 ⟨V, rfl, hrow, hb1⟩
    clear hR
    have B1 := B0.below hb1
    have hb1' : Below R w w1 := hb0.trans (hb1.mono (by simp [HR.out]))
    have r0 := B1.cell 0
    have r1 := B1.cell 1
    have r2 := B1.cell 2
    have r3 := B1.cell 3
    have f0 := B1.froz 0
    have f1 := B1.froz 1
    have f2 := B1.froz 2
    have f3 := B1.froz 3
    simp only [List.getElem?_toArray, List.getElem?_cons_succ, List.getElem?_cons_zero] at r0 r1 r2 r3
    clear hb1 hrow B0 hb0 HTok
    go_wp2_with fail
    refine bodyPost_ret (results_three rfl _ _ _ ⟨R, 0, none⟩ (.agg #[.string ⟨#[]⟩, .slice none 0 0, .slice none 0 0, .slice none 0 0]) (by go_simp) (by go_simp)) rfl ?_
    rw [HP2.out]
    refine ⟨_, rfl, ScF.zero _ _, ?_⟩
    rw [HR.out]
    exact (((hb1'.setCell (Nat.le_refl _) _).setCell (Nat.le_refl _) _).setCell (Nat.le_refl _) _).setCell (Nat.le_refl _) _
end Go.Proofs.YtfffjfccochccaaDoor
/- The document's example of layer 6 holds: awake answers true; the closed texts. -/
namespace Go.Proofs.YtfffjfccochccaaDoor
open Go.ChangeShapes Go.WideShapes Go.ChangeAt Go.RowKit
set_option linter.unusedVariables false
set_option linter.unusedSimpArgs false
set_option maxRecDepth 20000

theorem parse_row (s : ByteArray) (w : World) (hs : s.size ≤ 140737488351232) (hG : Glob w) (sc : ScS) (p e : Nat) (h : parseA s = (sc, p, e)) :
    Calls Tryd.prog 10 #[.string s] w fun x w' => ∃ vm ve vt, x = .returned (.tuple #[.agg #[.string sc.name, vm, ve, vt], .int .i64 (p : Int), .int .i64 (e : Int)]) ∧ MsIn w' vm sc.msgs ∧ EnIn w' ve sc.enums ∧ RowG w' vt 3 (mtRows sc.methods) ∧ Below w.heap.size w w' := by
  refine (parse_any s w hs hG).mono ?_
  rintro x w' ⟨v, rfl, hF, hb⟩
  obtain ⟨vm, ve, vt, rfl, h1, h2, h3⟩ := hF.to_in
  rw [h] at h1 h2 h3 ⊢
  exact ⟨vm, ve, vt, rfl, h1, h2, h3, hb⟩
/-- A slice's form, from its row. -/
theorem ms_form {w : World} {v : Value} {ms : List MsS} (h : MsIn w v ms) : ∃ a c, v = .slice a ms.length c := by
  obtain ⟨a, cap, e1, _⟩ := h.open
  exact ⟨a, cap, e1⟩
theorem en_form {w : World} {v : Value} {ms : List EnS} (h : EnIn w v ms) : ∃ a c, v = .slice a ms.length c := by
  obtain ⟨a, cap, e1, _⟩ := h.open
  exact ⟨a, cap, e1⟩
theorem row_form {w : World} {v : Value} {size : Nat} {rs : List (List Value)} (h : RowG w v size rs) : ∃ a c, v = .slice a rs.length c := by
  obtain ⟨a, cap, e1, _⟩ := h.open
  exact ⟨a, cap, e1⟩
set_option maxHeartbeats 1000000 in
theorem iawake_any (w : World) (hG : Glob w) :
    Calls Tryd.prog 9 #[] w fun e w' => e = .returned (.bool true) ∧ Below w.heap.size w w' := by
  go_enter Tryd.func9, Tryd.ntmps9
  go_wp2_with fail
  refine (parse_row _ _ (by decide) hG _ _ _ parse_awake).mono ?_
  rintro e w1 ⟨vm, ve, vt, rfl, h1, h2, h3, hb⟩
  obtain ⟨a, cap, rfl, g1, g2, g3, g4⟩ := h1.open
  obtain ⟨g, off, rfl⟩ := g3 (by simp)
  obtain ⟨vf, vr, c0, c1, c2, hf, hr⟩ := g4 g off rfl 0 _ rfl
  obtain ⟨fa, fcap, rfl, q1, q2, q3, q4⟩ := row_fields hf
  obtain ⟨fg, foff, rfl⟩ := q3 (by simp)
  obtain ⟨d0, d1, d2, d3, d4⟩ := q4 fg foff rfl 0 _ rfl
  obtain ⟨ea, ec, rfl⟩ := en_form h2
  obtain ⟨ta, tc, rfl⟩ := row_form h3
  obtain ⟨ra, rc, rfl⟩ := row_form hr
  simp only [List.length_cons, List.length_nil, Nat.zero_mul, Nat.add_zero, mtRows, List.map_nil, inRows] at c0 c1 c2 d0 d1 d2 d3 d4 g1 q1 ⊢
  have hbw := hb
  have l1 := World.block_lt_of_cell? _ _ c0
  have l2 := World.block_lt_of_cell? _ _ d0
  simp only at l1 l2
  unfold maxLen at g2 q2
  clear g3 g4 q3 q4 hf hr h1 h2 h3
  go_wp2_with fail
  go_ret
  exact ⟨rfl, hb.alloc hb.size _⟩
end Go.Proofs.YtfffjfccochccaaDoor
/- A region that draws its order and whose callees only make memory: one walk in the order of the text serves every order. (The library's theorem on quiet regions, at the class of worlds that keep what lay below a block.) -/
namespace Go.Proofs.YtfffjfccochccaaDoor
open Go.RowKit

/-- A world that keeps what lay below block B of w0. -/
structure Kept (B : Nat) (w0 : World) where
  w : World
  below : Below B w0 w

theorem wp_region_qb {P : Program} {id : Nat} {Q : Exit → Act → World → Prop} {a : Act} {w : World} {l : List Oper} {B : Nat} {w0 : World} (h0 : Below B w0 w) (hm : P.follows .mixedOrders = true) (hB : Region.lexB .any l.toArray = true)
    (h : wpQuiet P l.toArray (fun w' => ∃ x : Kept B w0, w' = x.w) (fun a' => ∀ w', (∃ x : Kept B w0, w' = x.w) → Q .normal a' w') l a) : (Code.region id l.toArray true).wp P Q a w :=
  wp_region_quiet (C := fun w' => ∃ x : Kept B w0, w' = x.w) hm hB ⟨⟨_, h0.drew⟩, rfl⟩ (by simpa using h)

theorem nonempty_qb {B : Nat} {w0 w : World} (h0 : Below B w0 w) : Nonempty (Kept B w0) := ⟨⟨w, h0⟩⟩

theorem qb_call {P : Program} {f : FuncId} {args : Array Value} {B : Nat} {w0 : World} {x : Kept B w0} {v : Value}
    (h : ∀ W, Below B w0 W → Calls P f args W fun e W' => e = .returned v ∧ Below B w0 W') : Calls P f args x.w fun e w'' => e = .returned v ∧ ∃ y : Kept B w0, w'' = y.w :=
  (h _ x.below).mono fun _ W' h => ⟨h.1, ⟨⟨W', h.2⟩, rfl⟩⟩
theorem qb_same {P : Program} {f : FuncId} {args : Array Value} {B : Nat} {w0 : World} {x : Kept B w0} {v : Value}
    (h : ∀ W, Calls P f args W fun e W' => e = .returned v ∧ W' = W) : Calls P f args x.w fun e w'' => e = .returned v ∧ ∃ y : Kept B w0, w'' = y.w :=
  (h _).mono fun _ _ h => ⟨h.1, ⟨x, h.2⟩⟩
end Go.Proofs.YtfffjfccochccaaDoor
/- What SameInts, SameEnums, SameMessages, SameSchemas answer of one thing in two places. -/
namespace Go.Proofs.YtfffjfccochccaaDoor
open Go.ChangeShapes Go.WideShapes Go.ChangeAt Go.RowKit
set_option linter.unusedVariables false
set_option linter.unusedSimpArgs false
set_option maxRecDepth 20000

/-- An element's cells. -/
theorem RowG.get {w : World} {a : Option Addr} {N cap size : Nat} {rs : List (List Value)} (h : RowG w (.slice a N cap) size rs) {i : Nat} {c : List Value} (hi : rs[i]? = some c) : ∃ g off, a = some ⟨g, off, none⟩ ∧ ∀ j u, c[j]? = some u → w.cell? ⟨g, off + i * size + j, none⟩ = some u := by
  obtain ⟨a', cap', e1, e2, e3, e4, e5⟩ := h.open
  simp only [Value.slice.injEq] at e1
  obtain ⟨rfl, _, _⟩ := e1
  obtain ⟨g, off, rfl⟩ := e4 (by intro e; rw [e] at hi; simp at hi)
  exact ⟨g, off, rfl, fun j u hu => e5 g off rfl i c hi j u hu⟩
theorem RowG.form2 {w : World} {v : Value} {size : Nat} {rs : List (List Value)} (h : RowG w v size rs) : ∃ a cap, v = .slice a rs.length cap ∧ rs.length ≤ cap ∧ cap ≤ 9223372036854775807 := by
  obtain ⟨a', cap', e1, e2, e3, _⟩ := h.open
  exact ⟨a', cap', e1, e2, by unfold maxLen at e3; omega⟩
set_option maxHeartbeats 1000000 in
theorem sints_any {w : World} {v1 v2 : Value} {ns : List Int} (h1 : RowG w v1 1 (inRows ns)) (h2 : RowG w v2 1 (inRows ns)) :
    Calls Tryd.prog 44 #[v1, v2] w fun e w' => e = .returned (.bool true) ∧ Below w.heap.size w w' := by
  obtain ⟨a, c, rfl, q1, q2⟩ := h1.form2
  obtain ⟨b, d, rfl, q3, q4⟩ := h2.form2
  have H1 : Hid _ := h1
  have H2 : Hid _ := h2
  clear h1 h2
  have hN : (inRows ns).length = ns.length := by simp [inRows]
  rw [hN] at H1 H2 q1 q3 ⊢
  clear hN
  obtain ⟨N, hN⟩ : ∃ N, ns.length = N := ⟨_, rfl⟩
  rw [hN] at H1 H2 q1 q3 ⊢
  have HN : Hid (ns.length = N) := hN
  clear hN
  go_enter Tryd.func44, Tryd.ntmps44
  go_wp2_with fail
  go_loopw [5] (fun iv wr => ∃ i : Nat, iv = .int .i64 (i : Int) ∧ i ≤ N ∧ Below w.heap.size w wr) (fun iv _ => N - (intOf iv).toNat)
  case atStart => exact ⟨0, rfl, by omega, Below.refl _ _⟩
  case round =>
    obtain ⟨i, rfl, hi, hbel⟩ := hrel
    by_cases hlt : i < N
    · obtain ⟨n, hn⟩ : ∃ n, ns[i]? = some n := ⟨_, List.getElem?_eq_getElem (by rw [HN.out]; exact hlt)⟩
      have hr : (inRows ns)[i]? = some [.int .i64 n] := by simp [inRows, hn]
      obtain ⟨g, off, rfl, c1⟩ := (H1.out.below hbel).get hr
      obtain ⟨g2, off2, rfl, c2⟩ := (H2.out.below hbel).get hr
      have p0 := c1 0 _ rfl
      have p1 := c2 0 _ rfl
      simp only [Nat.mul_one, Nat.add_zero] at p0 p1
      clear c1 c2 hr hn
      go_wp2_with fail
      go_quiet (fail)
      have hbn := below_drewN nq hbel
      clear p0 p1 hbel
      go_wp2_with fail
      go_roundw
      case rel => exact ⟨i + 1, by go_num, by omega, hbn⟩
      case measure => simp [intOf]; omega
    · go_wp2_with fail
      go_ret
      exact ⟨rfl, hbel⟩
theorem cells_two (w : World) (A B : Array Value) (t u : TypeId) (W : World) (hb : Below (w.heap.size + 2) ((w.alloc (.cells A t)).alloc (.cells B u)) W) (k : Nat) : W.cell? ⟨w.heap.size, k, none⟩ = A[k]? ∧ W.cell? ⟨w.heap.size + 1, k, none⟩ = B[k]? := by
  constructor
  · rw [hb.cell (by simp only; omega), World.cell?_alloc_past _ _ _ (by simp), World.cell?_alloc_at _ _ _ _ rfl]
  · rw [hb.cell (by simp only; omega), World.cell?_alloc_at _ _ _ _ (by simp)]
set_option maxHeartbeats 1000000 in
theorem senums_any {w : World} {v1 v2 : Value} {nm : ByteArray} {vs : List NmS} (h1 : RowG w v1 2 (nmRows vs)) (h2 : RowG w v2 2 (nmRows vs)) :
    Calls Tryd.prog 24 #[.agg #[.string nm, v1], .agg #[.string nm, v2]] w fun e w' => e = .returned (.bool true) ∧ Below w.heap.size w w' := by
  obtain ⟨a, c, rfl, q1, q2⟩ := h1.form2
  obtain ⟨b, d, rfl, q3, q4⟩ := h2.form2
  have H1 : Hid _ := h1
  have H2 : Hid _ := h2
  clear h1 h2
  have hN : (nmRows vs).length = vs.length := by simp [nmRows]
  rw [hN] at H1 H2 q1 q3 ⊢
  clear hN
  obtain ⟨N, hN⟩ : ∃ N, vs.length = N := ⟨_, rfl⟩
  rw [hN] at H1 H2 q1 q3 ⊢
  have HN : Hid (vs.length = N) := hN
  clear hN
  have hb0 : Below w.heap.size w ((w.alloc (.cells #[.string nm, .slice a N c] 69)).alloc (.cells #[.string nm, .slice b N d] 69)) := ((Below.refl _ _).alloc (Nat.le_refl _) _).alloc (by simp) _
  have HC : Hid (∀ W, Below (w.heap.size + 2) ((w.alloc (.cells #[.string nm, .slice a N c] 69)).alloc (.cells #[.string nm, .slice b N d] 69)) W → W.cell? ⟨w.heap.size, 1, none⟩ = some (.slice a N c) ∧ W.cell? ⟨w.heap.size + 1, 1, none⟩ = some (.slice b N d)) := fun W hW => cells_two w _ _ _ _ W hW 1
  go_enter Tryd.func24, Tryd.ntmps24
  go_wp2_with fail
  go_loopw [5] (fun iv wr => ∃ i : Nat, iv = .int .i64 (i : Int) ∧ i ≤ N ∧ Below w.heap.size w wr ∧ Below (w.heap.size + 2) ((w.alloc (.cells #[.string nm, .slice a N c] 69)).alloc (.cells #[.string nm, .slice b N d] 69)) wr) (fun iv _ => N - (intOf iv).toNat)
  case atStart => exact ⟨0, rfl, by omega, hb0, Below.refl _ _⟩
  case round =>
    obtain ⟨i, rfl, hi, hbel, hbox⟩ := hrel
    obtain ⟨x1, x2⟩ := HC.out wr hbox
    by_cases hlt : i < N
    · obtain ⟨n, hn⟩ : ∃ n, vs[i]? = some n := ⟨_, List.getElem?_eq_getElem (by rw [HN.out]; exact hlt)⟩
      have hr : (nmRows vs)[i]? = some n.cells := by simp [nmRows, hn]
      obtain ⟨g, off, rfl, c1⟩ := (H1.out.below hbel).get hr
      obtain ⟨g2, off2, rfl, c2⟩ := (H2.out.below hbel).get hr
      obtain ⟨nn, nv⟩ := n
      have p0 := c1 0 _ rfl
      have p1 := c1 1 _ rfl
      have r0 := c2 0 _ rfl
      have r1 := c2 1 _ rfl
      simp only [Nat.add_zero] at p0 p1 r0 r1
      clear c1 c2 hr hn
      go_wp2_with fail
      go_quiet (fail)
      have hbn := below_drewN nq hbel
      have hbx := below_drewN nq hbox
      clear p0 p1 r0 r1 hbel hbox x1 x2
      go_wp2_with fail
      go_roundw
      case rel => exact ⟨i + 1, by go_num, by omega, hbn, hbx⟩
      case measure => simp [intOf]; omega
    · go_wp2_with fail
      go_ret
      exact ⟨rfl, hbel⟩
set_option maxHeartbeats 1000000 in
theorem smsgs_any {w : World} {v1 v2 r1 r2 : Value} {nm : ByteArray} {fs : List FlS} {ns : List Int} (h1 : RowG w v1 5 (flRows fs)) (h2 : RowG w v2 5 (flRows fs)) (h3 : RowG w r1 1 (inRows ns)) (h4 : RowG w r2 1 (inRows ns)) :
    Calls Tryd.prog 23 #[.agg #[.string nm, v1, r1], .agg #[.string nm, v2, r2]] w fun e w' => e = .returned (.bool true) ∧ Below w.heap.size w w' := by
  obtain ⟨a, c, rfl, q1, q2⟩ := h1.form2
  obtain ⟨b, d, rfl, q3, q4⟩ := h2.form2
  obtain ⟨a3, c3, rfl, _, _⟩ := h3.form2
  obtain ⟨a4, c4, rfl, _, _⟩ := h4.form2
  have H1 : Hid _ := h1
  have H2 : Hid _ := h2
  have H3 : Hid _ := h3
  have H4 : Hid _ := h4
  clear h1 h2 h3 h4
  have hN : (flRows fs).length = fs.length := by simp [flRows]
  rw [hN] at H1 H2 q1 q3 ⊢
  clear hN
  obtain ⟨N, hN⟩ : ∃ N, fs.length = N := ⟨_, rfl⟩
  rw [hN] at H1 H2 q1 q3 ⊢
  have HN : Hid (fs.length = N) := hN
  clear hN
  generalize (inRows ns).length = K at *
  have hb0 : Below w.heap.size w ((w.alloc (.cells #[.string nm, .slice a N c, .slice a3 K c3] 45)).alloc (.cells #[.string nm, .slice b N d, .slice a4 K c4] 45)) := ((Below.refl _ _).alloc (Nat.le_refl _) _).alloc (by simp) _
  have HC : Hid (∀ W, Below (w.heap.size + 2) ((w.alloc (.cells #[.string nm, .slice a N c, .slice a3 K c3] 45)).alloc (.cells #[.string nm, .slice b N d, .slice a4 K c4] 45)) W → W.cell? ⟨w.heap.size, 1, none⟩ = some (.slice a N c) ∧ W.cell? ⟨w.heap.size + 1, 1, none⟩ = some (.slice b N d)) := fun W hW => cells_two w _ _ _ _ W hW 1
  have HI : Hid (Calls Tryd.prog 44 #[.slice a3 K c3, .slice a4 K c4] ((w.alloc (.cells #[.string nm, .slice a N c, .slice a3 K c3] 45)).alloc (.cells #[.string nm, .slice b N d, .slice a4 K c4] 45)) fun e w' => e = .returned (.bool true) ∧ Below ((w.alloc (.cells #[.string nm, .slice a N c, .slice a3 K c3] 45)).alloc (.cells #[.string nm, .slice b N d, .slice a4 K c4] 45)).heap.size ((w.alloc (.cells #[.string nm, .slice a N c, .slice a3 K c3] 45)).alloc (.cells #[.string nm, .slice b N d, .slice a4 K c4] 45)) w') := sints_any (H3.out.below hb0) (H4.out.below hb0)
  go_enter Tryd.func23, Tryd.ntmps23
  go_wp2_with fail
  refine HI.out.mono ?_
  rintro e w1 ⟨rfl, hb1⟩
  have hbw : Below w.heap.size w w1 := hb0.trans (hb1.mono hb0.size)
  have hbx : Below (w.heap.size + 2) ((w.alloc (.cells #[.string nm, .slice a N c, .slice a3 K c3] 45)).alloc (.cells #[.string nm, .slice b N d, .slice a4 K c4] 45)) w1 := hb1.mono (by simp)
  clear hb1 hb0 HI
  go_wp2_with fail
  go_loopw [5] (fun iv wr => ∃ i : Nat, iv = .int .i64 (i : Int) ∧ i ≤ N ∧ Below w.heap.size w wr ∧ Below (w.heap.size + 2) ((w.alloc (.cells #[.string nm, .slice a N c, .slice a3 K c3] 45)).alloc (.cells #[.string nm, .slice b N d, .slice a4 K c4] 45)) wr) (fun iv _ => N - (intOf iv).toNat)
  case atStart => exact ⟨0, rfl, by omega, hbw, hbx⟩
  case round =>
    obtain ⟨i, rfl, hi, hbel, hbox⟩ := hrel
    obtain ⟨x1, x2⟩ := HC.out wr hbox
    clear hbw hbx
    by_cases hlt : i < N
    · obtain ⟨n, hn⟩ : ∃ n, fs[i]? = some n := ⟨_, List.getElem?_eq_getElem (by rw [HN.out]; exact hlt)⟩
      have hr : (flRows fs)[i]? = some n.cells := by simp [flRows, hn]
      obtain ⟨g, off, rfl, c1⟩ := (H1.out.below hbel).get hr
      obtain ⟨g2, off2, rfl, c2⟩ := (H2.out.below hbel).get hr
      obtain ⟨n0, n1, n2, n3, n4⟩ := n
      have p0 := c1 0 _ rfl
      have p1 := c1 1 _ rfl
      have p2 := c1 2 _ rfl
      have p3 := c1 3 _ rfl
      have p4 := c1 4 _ rfl
      have r0 := c2 0 _ rfl
      have r1 := c2 1 _ rfl
      have r2 := c2 2 _ rfl
      have r3 := c2 3 _ rfl
      have r4 := c2 4 _ rfl
      simp only [Nat.add_zero] at p0 p1 p2 p3 p4 r0 r1 r2 r3 r4
      clear c1 c2 hr hn
      go_wp2_with fail
      go_quiet (fail)
      have hbn := below_drewN nq hbel
      have hbx := below_drewN nq hbox
      clear p0 p1 p2 p3 p4 r0 r1 r2 r3 r4 hbel hbox x1 x2
      go_wp2_with fail
      go_roundw
      case rel => exact ⟨i + 1, by go_num, by omega, hbn, hbx⟩
      case measure => simp [intOf]; omega
    · go_wp2_with fail
      go_ret
      exact ⟨rfl, hbel⟩
end Go.Proofs.YtfffjfccochccaaDoor
/- What SameSchemas answers of one schema in two places. -/
namespace Go.Proofs.YtfffjfccochccaaDoor
open Go.ChangeShapes Go.WideShapes Go.ChangeAt Go.RowKit
set_option linter.unusedVariables false
set_option linter.unusedSimpArgs false
set_option maxRecDepth 20000

theorem MsIn.get {w : World} {a : Option Addr} {N cap : Nat} {ms : List MsS} (h : MsIn w (.slice a N cap) ms) {i : Nat} {m : MsS} (hi : ms[i]? = some m) : ∃ g off vf vr, a = some ⟨g, off, none⟩ ∧ w.cell? ⟨g, off + i * 3, none⟩ = some (.string m.name) ∧ w.cell? ⟨g, off + i * 3 + 1, none⟩ = some vf ∧ w.cell? ⟨g, off + i * 3 + 2, none⟩ = some vr ∧ RowG w vf 5 (flRows m.fields) ∧ RowG w vr 1 (inRows m.reserved) := by
  obtain ⟨a', cap', e1, e2, e3, e4, e5⟩ := h.open
  simp only [Value.slice.injEq] at e1
  obtain ⟨rfl, _, _⟩ := e1
  obtain ⟨g, off, rfl⟩ := e4 (by intro e; rw [e] at hi; simp at hi)
  obtain ⟨vf, vr, h1, h2, h3, h4, h5⟩ := e5 g off rfl i m hi
  exact ⟨g, off, vf, vr, rfl, h1, h2, h3, h4, h5⟩
theorem EnIn.get {w : World} {a : Option Addr} {N cap : Nat} {ms : List EnS} (h : EnIn w (.slice a N cap) ms) {i : Nat} {m : EnS} (hi : ms[i]? = some m) : ∃ g off vv, a = some ⟨g, off, none⟩ ∧ w.cell? ⟨g, off + i * 2, none⟩ = some (.string m.name) ∧ w.cell? ⟨g, off + i * 2 + 1, none⟩ = some vv ∧ RowG w vv 2 (nmRows m.values) := by
  obtain ⟨a', cap', e1, e2, e3, e4, e5⟩ := h.open
  simp only [Value.slice.injEq] at e1
  obtain ⟨rfl, _, _⟩ := e1
  obtain ⟨g, off, rfl⟩ := e4 (by intro e; rw [e] at hi; simp at hi)
  obtain ⟨vv, h1, h2, h3⟩ := e5 g off rfl i m hi
  exact ⟨g, off, vv, rfl, h1, h2, h3⟩
theorem MsIn.form2 {w : World} {v : Value} {ms : List MsS} (h : MsIn w v ms) : ∃ a cap, v = .slice a ms.length cap ∧ ms.length ≤ cap ∧ cap ≤ 9223372036854775807 := by
  obtain ⟨a', cap', e1, e2, e3, _⟩ := h.open
  exact ⟨a', cap', e1, e2, by unfold maxLen at e3; omega⟩
theorem EnIn.form2 {w : World} {v : Value} {ms : List EnS} (h : EnIn w v ms) : ∃ a cap, v = .slice a ms.length cap ∧ ms.length ≤ cap ∧ cap ≤ 9223372036854775807 := by
  obtain ⟨a', cap', e1, e2, e3, _⟩ := h.open
  exact ⟨a', cap', e1, e2, by unfold maxLen at e3; omega⟩
theorem kept_cell {w : World} {a : Addr} {u : Value} (h : w.cell? a = some u) (x : Kept w.heap.size w) : x.w.cell? a = some u := by
  rw [x.below.cell (World.block_lt_of_cell? _ _ h)]; exact h
set_option maxHeartbeats 4000000 in
theorem sschemas_any {w : World} {v1 v2 : Value} {s : ScS} (h1 : ScIn w v1 s) (h2 : ScIn w v2 s) :
    Calls Tryd.prog 12 #[v1, v2] w fun e w' => e = .returned (.bool true) ∧ Below w.heap.size w w' := by
  obtain ⟨vm1, ve1, vt1, rfl, m1, e1, t1⟩ := h1
  obtain ⟨vm2, ve2, vt2, rfl, m2, e2, t2⟩ := h2
  obtain ⟨am1, cm1, rfl, qm1, qm2⟩ := m1.form2
  obtain ⟨am2, cm2, rfl, qm3, qm4⟩ := m2.form2
  obtain ⟨ae1, ce1, rfl, qe1, qe2⟩ := e1.form2
  obtain ⟨ae2, ce2, rfl, qe3, qe4⟩ := e2.form2
  obtain ⟨at1, ct1, rfl, qt1, qt2⟩ := t1.form2
  obtain ⟨at2, ct2, rfl, qt3, qt4⟩ := t2.form2
  have hT : (mtRows s.methods).length = s.methods.length := by simp [mtRows]
  rw [hT] at t1 t2 qt1 qt3 ⊢
  clear hT
  have HM1 : Hid (MsIn w (.slice am1 s.msgs.length cm1) s.msgs) := m1
  have HM2 : Hid (MsIn w (.slice am2 s.msgs.length cm2) s.msgs) := m2
  have HE1 : Hid (EnIn w (.slice ae1 s.enums.length ce1) s.enums) := e1
  have HE2 : Hid (EnIn w (.slice ae2 s.enums.length ce2) s.enums) := e2
  have HT1 : Hid (RowG w (.slice at1 s.methods.length ct1) 3 (mtRows s.methods)) := t1
  have HT2 : Hid (RowG w (.slice at2 s.methods.length ct2) 3 (mtRows s.methods)) := t2
  clear m1 m2 e1 e2 t1 t2
  obtain ⟨M, hM⟩ : ∃ N, s.msgs.length = N := ⟨_, rfl⟩
  obtain ⟨N, hN⟩ : ∃ N, s.enums.length = N := ⟨_, rfl⟩
  obtain ⟨T, hT⟩ : ∃ N, s.methods.length = N := ⟨_, rfl⟩
  rw [hM] at HM1 HM2 qm1 qm3 ⊢
  rw [hN] at HE1 HE2 qe1 qe3 ⊢
  rw [hT] at HT1 HT2 qt1 qt3 ⊢
  have HNM : Hid (s.msgs.length = M) := hM
  have HNN : Hid (s.enums.length = N) := hN
  have HNT : Hid (s.methods.length = T) := hT
  clear hM hN hT
  obtain ⟨nm, ms, es, mt⟩ := s
  simp only at HNM HNN HNT ⊢
  have HM1 : Hid (MsIn w (.slice am1 M cm1) ms) := HM1
  have HM2 : Hid (MsIn w (.slice am2 M cm2) ms) := HM2
  have HE1 : Hid (EnIn w (.slice ae1 N ce1) es) := HE1
  have HE2 : Hid (EnIn w (.slice ae2 N ce2) es) := HE2
  have HT1 : Hid (RowG w (.slice at1 T ct1) 3 (mtRows mt)) := HT1
  have HT2 : Hid (RowG w (.slice at2 T ct2) 3 (mtRows mt)) := HT2
  have hb0 : Below w.heap.size w ((w.alloc (.cells #[.string nm, .slice am1 M cm1, .slice ae1 N ce1, .slice at1 T ct1] 27)).alloc (.cells #[.string nm, .slice am2 M cm2, .slice ae2 N ce2, .slice at2 T ct2] 27)) := ((Below.refl _ _).alloc (Nat.le_refl _) _).alloc (by simp) _
  have HC : Hid (∀ W, Below (w.heap.size + 2) ((w.alloc (.cells #[.string nm, .slice am1 M cm1, .slice ae1 N ce1, .slice at1 T ct1] 27)).alloc (.cells #[.string nm, .slice am2 M cm2, .slice ae2 N ce2, .slice at2 T ct2] 27)) W → (W.cell? ⟨w.heap.size, 1, none⟩ = some (.slice am1 M cm1) ∧ W.cell? ⟨w.heap.size + 1, 1, none⟩ = some (.slice am2 M cm2)) ∧ (W.cell? ⟨w.heap.size, 2, none⟩ = some (.slice ae1 N ce1) ∧ W.cell? ⟨w.heap.size + 1, 2, none⟩ = some (.slice ae2 N ce2)) ∧ (W.cell? ⟨w.heap.size, 3, none⟩ = some (.slice at1 T ct1) ∧ W.cell? ⟨w.heap.size + 1, 3, none⟩ = some (.slice at2 T ct2))) := fun W hW => ⟨cells_two w _ _ _ _ W hW 1, cells_two w _ _ _ _ W hW 2, cells_two w _ _ _ _ W hW 3⟩
  go_enter Tryd.func12, Tryd.ntmps12
  go_wp2_with fail
  go_loopw [5] (fun iv wr => ∃ i : Nat, iv = .int .i64 (i : Int) ∧ i ≤ M ∧ Below w.heap.size w wr ∧ Below (w.heap.size + 2) ((w.alloc (.cells #[.string nm, .slice am1 M cm1, .slice ae1 N ce1, .slice at1 T ct1] 27)).alloc (.cells #[.string nm, .slice am2 M cm2, .slice ae2 N ce2, .slice at2 T ct2] 27)) wr) (fun iv _ => M - (intOf iv).toNat)
  case atStart => exact ⟨0, rfl, by omega, hb0, Below.refl _ _⟩
  case round =>
    obtain ⟨i, rfl, hi, hbel, hbox⟩ := hrel
    obtain ⟨⟨x1, x2⟩, _⟩ := HC.out wr hbox
    clear hb0
    have hsz : w.heap.size + 2 ≤ wr.heap.size := by have := hbox.size; simp at this; omega
    by_cases hlt : i < M
    · obtain ⟨m, hm⟩ : ∃ n, ms[i]? = some n := ⟨_, List.getElem?_eq_getElem (by rw [HNM.out]; exact hlt)⟩
      obtain ⟨g1, o1, f1, r1, rfl, c0, c1, c2, hf1, hr1⟩ := (HM1.out.below hbel).get hm
      obtain ⟨g2, o2, f2, r2, rfl, d0, d1, d2, hf2, hr2⟩ := (HM2.out.below hbel).get hm
      obtain ⟨af1, cf1, rfl, _, _⟩ := hf1.form2
      obtain ⟨af2, cf2, rfl, _, _⟩ := hf2.form2
      obtain ⟨ar1, cr1, rfl, _, _⟩ := hr1.form2
      obtain ⟨ar2, cr2, rfl, _, _⟩ := hr2.form2
      have HS : Hid (∀ W, Below wr.heap.size wr W → Calls Tryd.prog 23 #[.agg #[.string m.name, .slice af1 (flRows m.fields).length cf1, .slice ar1 (inRows m.reserved).length cr1], .agg #[.string m.name, .slice af2 (flRows m.fields).length cf2, .slice ar2 (inRows m.reserved).length cr2]] W fun e W' => e = .returned (.bool true) ∧ Below wr.heap.size wr W') := fun W hW => by
        refine (smsgs_any (hf1.below hW) (hf2.below hW) (hr1.below hW) (hr2.below hW)).mono ?_
        rintro e W' ⟨rfl, hb⟩
        exact ⟨rfl, hW.trans (hb.mono hW.size)⟩
      have k1 := kept_cell x1
      have k2 := kept_cell x2
      have k3 := kept_cell c0
      have k4 := kept_cell c1
      have k5 := kept_cell c2
      have k6 := kept_cell d0
      have k7 := kept_cell d1
      have k8 := kept_cell d2
      generalize (flRows m.fields).length = nF at *
      generalize (inRows m.reserved).length = nR at *
      generalize m.name = mn at *
      clear hf1 hf2 hr1 hr2 hm c0 c1 c2 d0 d1 d2
      go_wp2_with fail
      clear x1 x2
      haveI := nonempty_qb (Below.refl wr.heap.size wr)
      refine wp_region_qb (Below.refl wr.heap.size wr) (by kernel_rfl) (by kernel_rfl) ?_
      repeat (go_big_quiet_step (first | (go_at_call 23; exact qb_call HS.out)))
      refine wpQuiet_nil ?_
      rintro _ ⟨⟨W, hW⟩, rfl⟩
      have hbn := hbel.trans (hW.mono (by omega))
      have hbx := hbox.trans (hW.mono hsz)
      clear k1 k2 k3 k4 k5 k6 k7 k8 hbel hbox hW
      go_wp2_with fail
      go_roundw
      case rel => exact ⟨i + 1, by go_num, by omega, hbn, hbx⟩
      case measure => simp [intOf]; omega
    · go_wp2_with fail
      clear x1 x2
      go_loopw [6] (fun iv wr => ∃ i : Nat, iv = .int .i64 (i : Int) ∧ i ≤ N ∧ Below w.heap.size w wr ∧ Below (w.heap.size + 2) ((w.alloc (.cells #[.string nm, .slice am1 M cm1, .slice ae1 N ce1, .slice at1 T ct1] 27)).alloc (.cells #[.string nm, .slice am2 M cm2, .slice ae2 N ce2, .slice at2 T ct2] 27)) wr) (fun iv _ => N - (intOf iv).toNat)
      case atStart => exact ⟨0, rfl, by omega, hbel, hbox⟩
      case round =>
        obtain ⟨j, rfl, hj, hbel, hbox⟩ := hrel
        obtain ⟨_, ⟨x1, x2⟩, _⟩ := HC.out wr hbox
        have hsz : w.heap.size + 2 ≤ wr.heap.size := by have := hbox.size; simp at this; omega
        by_cases hlt : j < N
        · obtain ⟨m, hm⟩ : ∃ n, es[j]? = some n := ⟨_, List.getElem?_eq_getElem (by rw [HNN.out]; exact hlt)⟩
          obtain ⟨g1, o1, f1, rfl, c0, c1, hf1⟩ := (HE1.out.below hbel).get hm
          obtain ⟨g2, o2, f2, rfl, d0, d1, hf2⟩ := (HE2.out.below hbel).get hm
          obtain ⟨af1, cf1, rfl, _, _⟩ := hf1.form2
          obtain ⟨af2, cf2, rfl, _, _⟩ := hf2.form2
          have HS : Hid (∀ W, Below wr.heap.size wr W → Calls Tryd.prog 24 #[.agg #[.string m.name, .slice af1 (nmRows m.values).length cf1], .agg #[.string m.name, .slice af2 (nmRows m.values).length cf2]] W fun e W' => e = .returned (.bool true) ∧ Below wr.heap.size wr W') := fun W hW => by
            refine (senums_any (hf1.below hW) (hf2.below hW)).mono ?_
            rintro e W' ⟨rfl, hb⟩
            exact ⟨rfl, hW.trans (hb.mono hW.size)⟩
          have k1 := kept_cell x1
          have k2 := kept_cell x2
          have k3 := kept_cell c0
          have k4 := kept_cell c1
          have k6 := kept_cell d0
          have k7 := kept_cell d1
          generalize (nmRows m.values).length = nF at *
          generalize m.name = mn at *
          clear hf1 hf2 hm c0 c1 d0 d1
          go_wp2_with fail
          clear x1 x2
          haveI := nonempty_qb (Below.refl wr.heap.size wr)
          refine wp_region_qb (Below.refl wr.heap.size wr) (by kernel_rfl) (by kernel_rfl) ?_
          repeat (go_big_quiet_step (first | (go_at_call 24; exact qb_call HS.out)))
          refine wpQuiet_nil ?_
          rintro _ ⟨⟨W, hW⟩, rfl⟩
          have hbn := hbel.trans (hW.mono (by omega))
          have hbx := hbox.trans (hW.mono hsz)
          clear k1 k2 k3 k4 k6 k7 hbel hbox hW
          go_wp2_with fail
          go_roundw
          case rel => exact ⟨j + 1, by go_num, by omega, hbn, hbx⟩
          case measure => simp [intOf]; omega
        · go_wp2_with fail
          clear x1 x2
          go_loopw [7] (fun iv wr => ∃ i : Nat, iv = .int .i64 (i : Int) ∧ i ≤ T ∧ Below w.heap.size w wr ∧ Below (w.heap.size + 2) ((w.alloc (.cells #[.string nm, .slice am1 M cm1, .slice ae1 N ce1, .slice at1 T ct1] 27)).alloc (.cells #[.string nm, .slice am2 M cm2, .slice ae2 N ce2, .slice at2 T ct2] 27)) wr) (fun iv _ => T - (intOf iv).toNat)
          case atStart => exact ⟨0, rfl, by omega, hbel, hbox⟩
          case round =>
            obtain ⟨l, rfl, hl, hbel, hbox⟩ := hrel
            obtain ⟨_, _, ⟨x1, x2⟩⟩ := HC.out wr hbox
            by_cases hlt : l < T
            · obtain ⟨m, hm⟩ : ∃ n, mt[l]? = some n := ⟨_, List.getElem?_eq_getElem (by rw [HNT.out]; exact hlt)⟩
              have hrr : (mtRows mt)[l]? = some m.cells := by simp [mtRows, hm]
              obtain ⟨g1, o1, rfl, c1⟩ := (HT1.out.below hbel).get hrr
              obtain ⟨g2, o2, rfl, c2⟩ := (HT2.out.below hbel).get hrr
              obtain ⟨n0, n1, n2⟩ := m
              have p0 := c1 0 _ rfl
              have p1 := c1 1 _ rfl
              have p2 := c1 2 _ rfl
              have r0 := c2 0 _ rfl
              have r1 := c2 1 _ rfl
              have r2 := c2 2 _ rfl
              simp only [Nat.add_zero] at p0 p1 p2 r0 r1 r2
              clear c1 c2 hrr hm
              go_wp2_with fail
              go_quiet (fail)
              have hbn := below_drewN nq hbel
              have hbx := below_drewN nq hbox
              clear p0 p1 p2 r0 r1 r2 hbel hbox x1 x2
              go_wp2_with fail
              go_roundw
              case rel => exact ⟨l + 1, by go_num, by omega, hbn, hbx⟩
              case measure => simp [intOf]; omega
            · go_wp2_with fail
              go_ret
              exact ⟨rfl, hbel⟩
end Go.Proofs.YtfffjfccochccaaDoor
/- IdlParses answers true at every text. -/
namespace Go.Proofs.YtfffjfccochccaaDoor
open Go.ChangeShapes Go.WideShapes Go.ChangeAt Go.RowKit
set_option linter.unusedVariables false
set_option linter.unusedSimpArgs false
set_option maxRecDepth 20000

theorem rparse_row (s : ByteArray) (w : World) (hs : s.size ≤ 140737488351232) (sc : ScS) (p e : Nat) (h : parseA s = (sc, p, e)) :
    Calls Tryd.prog 11 #[.string s] w fun x w' => ∃ vm ve vt, x = .returned (.tuple #[.agg #[.string sc.name, vm, ve, vt], .int .i64 (p : Int), .int .i64 (e : Int)]) ∧ MsIn w' vm sc.msgs ∧ EnIn w' ve sc.enums ∧ RowG w' vt 3 (mtRows sc.methods) ∧ Below w.heap.size w w' := by
  refine (rparse_any s w hs).mono ?_
  rintro x w' ⟨v, rfl, hF, hb⟩
  obtain ⟨vm, ve, vt, rfl, h1, h2, h3⟩ := hF.to_in
  rw [h] at h1 h2 h3 ⊢
  exact ⟨vm, ve, vt, rfl, h1, h2, h3, hb⟩
set_option maxHeartbeats 4000000 in
theorem idlParses_walk (s : ByteArray) (hs : s.size ≤ 140737488351232) (w : World) (hG : Glob w) :
    Calls Tryd.prog 3 #[.string s] w fun e w' => e = .returned (.bool true) ∧ Below w.heap.size w w' := by
  by_cases hbig : 20000 < s.size
  · have hd : decide (20000 < (s.size : Int)) = true := by simp; omega
    go_enter Tryd.func3, Tryd.ntmps3
    go_wp2_with fail
    refine (iawake_any _ hG).mono ?_
    rintro e w1 ⟨rfl, hb1⟩
    go_wp2_with fail
    go_ret
    exact ⟨rfl, hb1⟩
  · have hd : decide (20000 < (s.size : Int)) = false := by simp; omega
    obtain ⟨⟨sc, p, e⟩, hA⟩ : ∃ A, parseA s = A := ⟨_, rfl⟩
    have HA : Hid (parseA s = (sc, p, e)) := hA
    have HP : Hid (Calls Tryd.prog 10 #[.string s] w fun x w' => ∃ vm ve vt, x = .returned (.tuple #[.agg #[.string sc.name, vm, ve, vt], .int .i64 (p : Int), .int .i64 (e : Int)]) ∧ MsIn w' vm sc.msgs ∧ EnIn w' ve sc.enums ∧ RowG w' vt 3 (mtRows sc.methods) ∧ Below w.heap.size w w') := parse_row _ _ (by omega) hG _ _ _ hA
    clear hA
    go_enter Tryd.func3, Tryd.ntmps3
    go_wp2_with fail
    refine HP.out.mono ?_
    rintro x w1 ⟨vm, ve, vt, rfl, h1, h2, h3, hb⟩
    obtain ⟨a1, c1, rfl⟩ := ms_form h1
    obtain ⟨a2, c2, rfl⟩ := en_form h2
    obtain ⟨a3, c3, rfl⟩ := row_form h3
    have hbB : Below w1.heap.size w1 (w1.alloc (.cells #[.string sc.name, .slice a1 sc.msgs.length c1, .slice a2 sc.enums.length c2, .slice a3 (mtRows sc.methods).length c3] 27)) := (Below.refl _ _).alloc (Nat.le_refl _) _
    have HS : Hid (ScIn (w1.alloc (.cells #[.string sc.name, .slice a1 sc.msgs.length c1, .slice a2 sc.enums.length c2, .slice a3 (mtRows sc.methods).length c3] 27)) (.agg #[.string sc.name, .slice a1 sc.msgs.length c1, .slice a2 sc.enums.length c2, .slice a3 (mtRows sc.methods).length c3]) sc) := ⟨_, _, _, rfl, h1.below hbB, h2.below hbB, h3.below hbB⟩
    have BX := Blk.new w1 #[.string sc.name, .slice a1 sc.msgs.length c1, .slice a2 sc.enums.length c2, .slice a3 (mtRows sc.methods).length c3] 27
    have hb2 : Below w.heap.size w (w1.alloc (.cells #[.string sc.name, .slice a1 sc.msgs.length c1, .slice a2 sc.enums.length c2, .slice a3 (mtRows sc.methods).length c3] 27)) := hb.trans (hbB.mono hb.size)
    clear h1 h2 h3 hbB hb HP
    generalize sc.msgs.length = n1 at *
    generalize sc.enums.length = n2 at *
    generalize (mtRows sc.methods).length = n3 at *
    go_wp2_with fail
    generalize w1.heap.size = Xb at *
    generalize w1.alloc (.cells #[.string sc.name, .slice a1 n1 c1, .slice a2 n2 c2, .slice a3 n3 c3] 27) = w2 at *
    refine (rparse_row s _ (by omega) _ _ _ HA.out).mono ?_
    rintro x w3 ⟨vm, ve, vt, rfl, h1, h2, h3, hb⟩
    obtain ⟨b1, d1, rfl⟩ := ms_form h1
    obtain ⟨b2, d2, rfl⟩ := en_form h2
    obtain ⟨b3, d3, rfl⟩ := row_form h3
    have hbB : Below w3.heap.size w3 (w3.alloc (.cells #[.string sc.name, .slice b1 sc.msgs.length d1, .slice b2 sc.enums.length d2, .slice b3 (mtRows sc.methods).length d3] 27)) := (Below.refl _ _).alloc (Nat.le_refl _) _
    have HS2 : Hid (ScIn (w3.alloc (.cells #[.string sc.name, .slice b1 sc.msgs.length d1, .slice b2 sc.enums.length d2, .slice b3 (mtRows sc.methods).length d3] 27)) (.agg #[.string sc.name, .slice b1 sc.msgs.length d1, .slice b2 sc.enums.length d2, .slice b3 (mtRows sc.methods).length d3]) sc) := ⟨_, _, _, rfl, h1.below hbB, h2.below hbB, h3.below hbB⟩
    have HS1 : Hid (ScIn (w3.alloc (.cells #[.string sc.name, .slice b1 sc.msgs.length d1, .slice b2 sc.enums.length d2, .slice b3 (mtRows sc.methods).length d3] 27)) (.agg #[.string sc.name, .slice a1 n1 c1, .slice a2 n2 c2, .slice a3 n3 c3]) sc) := (HS.out.below hb).below hbB
    have BY := Blk.new w3 #[.string sc.name, .slice b1 sc.msgs.length d1, .slice b2 sc.enums.length d2, .slice b3 (mtRows sc.methods).length d3] 27
    have BX2 := (BX.below hb).below hbB
    have hb3 : Below w.heap.size w (w3.alloc (.cells #[.string sc.name, .slice b1 sc.msgs.length d1, .slice b2 sc.enums.length d2, .slice b3 (mtRows sc.methods).length d3] 27)) := (hb2.trans (hb.mono hb2.size)).trans (hbB.mono (by have := hb.size; have := hb2.size; omega))
    clear h1 h2 h3 hbB hb HS BX hb2
    generalize sc.msgs.length = m1 at *
    generalize sc.enums.length = m2 at *
    generalize (mtRows sc.methods).length = m3 at *
    have hG3 := hG.below hb3
    have x0 := BX2.cell 0
    have x1 := BX2.cell 1
    have x2 := BX2.cell 2
    have x3 := BX2.cell 3
    have y0 := BY.cell 0
    have y1 := BY.cell 1
    have y2 := BY.cell 2
    have y3 := BY.cell 3
    simp only [List.getElem?_toArray, List.getElem?_cons_succ, List.getElem?_cons_zero] at x0 x1 x2 x3 y0 y1 y2 y3
    have hp : ((p : Int) == (p : Int)) = true := by simp
    have he : ((e : Int) == (e : Int)) = true := by simp
    clear BX2 BY
    go_wp2_with fail
    generalize w3.heap.size = Yb at *
    generalize w3.alloc (.cells #[.string sc.name, .slice b1 m1 d1, .slice b2 m2 d2, .slice b3 m3 d3] 27) = w4 at *
    refine (sschemas_any HS1.out HS2.out).mono ?_
    rintro x w5 ⟨rfl, hb5⟩
    have hb6 : Below w.heap.size w w5 := hb3.trans (hb5.mono hb3.size)
    have hG5 := hG3.below hb5
    clear hb5 hb3 hG3 HS1 HS2 x0 x1 x2 x3 y0 y1 y2 y3
    go_wp2_with fail
    refine (iawake_any _ hG5).mono ?_
    rintro x w6 ⟨rfl, hb7⟩
    go_wp2_with fail
    go_ret
    exact ⟨rfl, hb6.trans (hb7.mono hb6.size)⟩
end Go.Proofs.YtfffjfccochccaaDoor

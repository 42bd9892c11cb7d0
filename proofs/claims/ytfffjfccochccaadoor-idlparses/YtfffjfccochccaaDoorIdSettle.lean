/- What 'settle' does: each field whose type's name is an enumeration's gets that kind. -/
import Derived.Test.YtfffjfccochccaaDoorIdRow
import Derived.Maps.OwnSet
namespace Go.Proofs.YtfffjfccochccaaDoor
open Go.ChangeShapes Go.WideShapes Go.ChangeAt Go.RowKit Go.Maps
set_option linter.unusedVariables false
set_option linter.unusedSimpArgs false
set_option maxRecDepth 20000

theorem results_none {fn : Func} (h : fn.results = #[]) (tmps : Array Value) (P : Program) (w : World) : (results fn tmps).run P w = .ok (.tuple #[]) w := by
  simp [results, h]
theorem lawK : Keyed Tryd.prog 9 := string_keyed Tryd.underlying9
theorem zeroU (w : World) : (zeroValue 85).run Tryd.prog w = .ok (.agg #[]) w := by kernel_rfl
def hasE (es : List EnS) (t : List UInt8) : Bool := es.any (fun e => e.name.data.toList == t)
theorem has_start (t : List UInt8) : Maps.has (.map [] : DataW Unit) (.string t) = hasE [] t := rfl
theorem has_next {D : DataW Unit} {es : List EnS} {e : EnS} (hD : Maps.IsMap D) (h : ∀ t, Maps.has D (.string t) = hasE es t) (u : DataW Unit) : ∀ t, Maps.has (D.put (.string e.name.data.toList) u) (.string t) = hasE (es ++ [e]) t := by
  intro t
  unfold hasE
  rw [List.any_append, List.any_cons, List.any_nil, Bool.or_false]
  by_cases he : e.name.data.toList = t
  · subst he
    rw [Maps.has_put_same hD (by simp [WideAt.IsKeyLit])]
    simp
  · rw [Maps.has_put_other (by intro c; cases c; exact he rfl), h t]
    have : (e.name.data.toList == t) = false := by rw [beq_eq_false_iff_ne]; exact he
    rw [this, Bool.or_false]
    rfl
theorem take_snoc {α : Type} {l : List α} {k : Nat} {x : α} (h : l[k]? = some x) : l.take (k + 1) = l.take k ++ [x] := by
  rw [List.take_add_one, h]; rfl
theorem MsO.below {w w1 : World} {B : Nat} {v : Value} {ms : List MsS} {ps : List (Value × Value)} (h : MsO w B v ms ps) (hk : Below w.heap.size w w1) : MsO w1 B v ms ps :=
  ⟨h.len, own_below h.own hk, fun i m p hm hp => ⟨own_below (h.each i m p hm hp).1 hk, own_below (h.each i m p hm hp).2 hk⟩, h.apart⟩
theorem EnO.below {w w1 : World} {B : Nat} {v : Value} {ms : List EnS} {ps : List Value} (h : EnO w B v ms ps) (hk : Below w.heap.size w w1) : EnO w1 B v ms ps :=
  ⟨h.len, own_below h.own hk, fun i m p hm hp => own_below (h.each i m p hm hp) hk⟩
theorem own_le {w : World} {B : Nat} {e : TypeId} {s : Nat} {v : Value} {n : Nat} {xs : List Value} (h : w.ownsRow B e s v n xs) : n ≤ 9223372036854775807 := by
  rcases h.2 with ⟨rfl, rfl⟩ | ⟨q, cap, cur, rfl, _, _, h4, h5, _⟩
  · omega
  · unfold maxLen at h5; omega
/-- The blocks that 'settle' writes to. -/
def FB (pm : List (Value × Value)) (k : Nat) : Prop := ∃ (i : Nat) (p : Value × Value), pm[i]? = some p ∧ p.1.ownBlock = some k
set_option maxHeartbeats 4000000 in
theorem settle_any {w : World} {B : Nat} {vm ve vt : Value} {nm : ByteArray} {ms : List MsS} {es : List EnS} {pm : List (Value × Value)} {pe : List Value} (hM : MsO w B vm ms pm) (hE : EnO w B ve es pe) (hT : ∃ a n c, vt = .slice a n c)
    (hes : ∀ e ∈ es, e.name.size ≤ 80) (hms : ∀ m ∈ ms, ∀ f ∈ m.fields, f.tname.size ≤ 80) :
    Calls Tryd.prog 18 #[.agg #[.string nm, vm, ve, vt]] w fun e w' => e = .returned (.tuple #[]) ∧ MsO w' B vm (ms.map (setM es)) pm ∧ Kp (FB pm) w w' := by
  obtain ⟨ta, tn, tc, rfl⟩ := hT
  have hl1 := own_le hM.own
  have hl2 := own_le hE.own
  obtain ⟨ma, mc, hvm⟩ := own_form hM.own
  obtain ⟨ea, ec, hve⟩ := own_form hE.own
  subst hvm
  subst hve
  obtain ⟨nM, hnM⟩ : ∃ n, ms.length = n := ⟨_, rfl⟩
  obtain ⟨nE, hnE⟩ : ∃ n, es.length = n := ⟨_, rfl⟩
  rw [hnM] at hl1 hM ⊢
  rw [hnE] at hl2 hE ⊢
  have HNM : Hid (ms.length = nM) := hnM
  have HNE : Hid (es.length = nE) := hnE
  have HM0 : Hid (MsO w B (.slice ma nM mc) ms pm) := hM
  have HE0 : Hid (EnO w B (.slice ea nE ec) es pe) := hE
  have HES : Hid (∀ e ∈ es, e.name.size ≤ 80) := hes
  have HMS : Hid (∀ m ∈ ms, ∀ f ∈ m.fields, f.tname.size ≤ 80) := hms
  clear hnM hnE hM hE hes hms
  have hmm := @run_makeMap Tryd.prog
  go_enter Tryd.func18, Tryd.ntmps18
  go_wp2_with fail
  clear hmm
  have HOM0 := World.ownsMap_made (H := Unit) (w.alloc (.cells #[.string nm, .slice ma nM mc, .slice ea nE ec, .slice ta tn tc] 27)) Tryd.prog 9 unitElem
  rw [show (w.alloc (.cells #[.string nm, .slice ma nM mc, .slice ea nE ec, .slice ta tn tc] 27)).heap.size = w.heap.size + 1 by simp] at HOM0
  have HOM1 : Hid _ := HOM0
  clear HOM0
  have BX0 : Blk ((w.alloc (.cells #[.string nm, .slice ma nM mc, .slice ea nE ec, .slice ta tn tc] 27)).alloc (.map #[] 0)) w.heap.size #[.string nm, .slice ma nM mc, .slice ea nE ec, .slice ta tn tc] 27 := (Blk.new w _ _).below ((Below.refl _ _).alloc (Nat.le_refl _) _)
  have hb0 : Below w.heap.size w ((w.alloc (.cells #[.string nm, .slice ma nM mc, .slice ea nE ec, .slice ta tn tc] 27)).alloc (.map #[] 0)) := ((Below.refl _ _).alloc (Nat.le_refl _) _).alloc (by simp) _
  obtain ⟨Bx, hBx⟩ : ∃ n, w.heap.size = n := ⟨_, rfl⟩
  rw [hBx] at HOM1 BX0 hb0 ⊢
  have HBx : Hid (w.heap.size = Bx) := hBx
  clear hBx
  go_loopw [15] (fun iv wr => ∃ (k : Nat) (D : DataW Unit), iv = .int .i64 (k : Int) ∧ k ≤ nE ∧ Hid (wr.ownsMap Tryd.prog 9 (unitElem (H := Unit)) (Bx + 1) k D) ∧ Hid (∀ t, Maps.has D (.string t) = hasE (es.take k) t) ∧ Below Bx w wr ∧ Blk wr Bx #[.string nm, .slice ma nM mc, .slice ea nE ec, .slice ta tn tc] 27) (fun iv _ => nE - (intOf iv).toNat)
  case atStart => exact ⟨0, _, rfl, by omega, HOM1, fun t => has_start t, hb0, BX0⟩
  case round =>
    obtain ⟨k, D, rfl, hk, HOM, HHas, hbel, BX⟩ := hrel
    clear HOM1 hb0 BX0
    by_cases hlt : k < nE
    · have hbw : Below w.heap.size w wr := by rw [HBx.out]; exact hbel
      have hE := HE0.out.below hbw
      obtain ⟨q, cap, hq, hq2, hq3, hq4, hq5⟩ := own_addr hE.own (by rw [HNE.out]; omega)
      simp only [Value.slice.injEq] at hq
      obtain ⟨rfl, hx, rfl⟩ := hq
      clear hx
      obtain ⟨e, he⟩ : ∃ e, es[k]? = some e := ⟨_, List.getElem?_eq_getElem (by rw [HNE.out]; exact hlt)⟩
      obtain ⟨p, hp⟩ : ∃ p, pe[k]? = some p := ⟨_, List.getElem?_eq_getElem (by rw [hE.len, HNE.out]; exact hlt)⟩
      have hown := hE.own
      rw [HNE.out] at hown
      have c0 := own_at (en_len es pe) hown (en_get he hp) (j := 0) rfl
      have c1 := own_at (en_len es pe) hown (en_get he hp) (j := 1) rfl
      obtain ⟨pa, pc, hpv⟩ := own_form (hE.each k e p he hp)
      subst hpv
      rw [Nat.add_zero] at c0
      have hkey := WideMaps.keyOf_string_mk (P := Tryd.prog) (k := 9) Tryd.underlying9 (s := e.name) (by have := HES.out e (List.mem_of_getElem? he); unfold maxLen; omega)
      have HHas2 : Hid (∀ t, Maps.has (D.put (.string e.name.data.toList) (.agg [])) (.string t) = hasE (es.take (k + 1)) t) := by
        rw [take_snoc he]
        exact has_next HOM.out.isMap HHas.out _
      obtain ⟨nV, hnV⟩ : ∃ n, e.values.length = n := ⟨_, rfl⟩
      rw [hnV] at c1
      have hBw : Bx ≤ wr.heap.size := by have := hbel.size; rw [HBx.out] at this; exact this
      have hXw : Bx < wr.heap.size := BX.lt
      clear hE hown hp he hnV HHas hbw hq2 hq3 hq4 hq5
      obtain ⟨enm, evs⟩ := e
      simp only at c0 c1 hkey HHas2
      go_wp2_with (first
        | (at_mapUpdate; refine wpList_mapUpdate_own _ rfl _ _ _ 84 rfl 9 85 lawK Tryd.underlying84 (unitElem (H := Unit)) (Bx + 1) k _ rfl (HOM.out.alloc _) (by unfold maxLen; omega) _ _ _ rfl rfl hkey _ [] unitElem_mk ?_; intro w1 hown1 hgrow1)
        | fail)
      have hb1 : Below Bx w w1 := (hbel.alloc hBw _).grown hgrow1 (by simp; omega) (fun k hk => by cases hk; omega)
      have BX1 := (BX.below ((Below.refl _ _).alloc (Nat.le_refl _) (.cells #[.string enm, .slice pa nV pc] 69)))
      have BX2 : Blk w1 Bx #[.string nm, .slice ma nM mc, .slice (some ⟨q, 0, none⟩) nE ec, .slice ta tn tc] 27 := (hgrow1.block Bx (by simp; omega) (by simp)).trans BX1
      have HOM2 : Hid _ := hown1
      clear hown1 hgrow1 BX1 HOM hbel BX c0 c1 hkey
      go_wp2_with fail
      go_roundw
      case rel => exact ⟨k + 1, _, rfl, by omega, HOM2, HHas2, hb1, BX2⟩
      case measure => simp [intOf]; omega
    · obtain rfl : k = nE := by omega
      have HH : Hid (∀ t, Maps.has D (.string t) = hasE es t) := by
        have := HHas.out
        rw [List.take_of_length_le (by rw [HNE.out]; omega)] at this
        exact this
      have hbw : Below w.heap.size w wr := by rw [HBx.out]; exact hbel
      have HM1 : Hid (MsO wr B (.slice ma nM mc) ms pm) := HM0.out.below hbw
      have KF : Kp (FB pm) w wr := Kp.ofBelow hbw
      have HHigh : Hid (∀ (i : Nat) (p : Value × Value) (k : Nat), pm[i]? = some p → p.1.ownBlock = some k → k < Bx) := by
        have := HM0.out.high
        rw [HBx.out] at this
        exact this
      have b1 := BX.cell 1
      simp only [List.getElem?_toArray, List.getElem?_cons_succ, List.getElem?_cons_zero] at b1
      clear HHas hbw hbel HE0 HES
      go_wp2_with fail
      clear b1 BX
      go_loopw [27] (fun iv wr => ∃ (i : Nat) (ms' : List MsS), iv = .int .i64 (i : Int) ∧ i ≤ nM ∧ Hid (Part es ms ms' i 0) ∧ Hid (MsO wr B (.slice ma nM mc) ms' pm) ∧ Hid (wr.ownsMap Tryd.prog 9 (unitElem (H := Unit)) (Bx + 1) k D) ∧ Kp (FB pm) w wr) (fun iv _ => nM - (intOf iv).toNat)
      case atStart => exact ⟨0, ms, rfl, by omega, Part.start es ms, HM1, HOM, KF⟩
      case round =>
        obtain ⟨i, ms', rfl, hi, HP, HM, HOM, KF⟩ := hrel
        clear HM1
        by_cases hilt : i < nM
        · obtain ⟨m, hm⟩ : ∃ m, ms[i]? = some m := ⟨_, List.getElem?_eq_getElem (by rw [HNM.out]; exact hilt)⟩
          obtain ⟨m', e1, e2, e3, e4, e5⟩ := HP.out.each i m hm
          have hMO := HM.out
          have hl' : ms'.length = nM := by rw [HP.out.len, HNM.out]
          obtain ⟨p, hp⟩ : ∃ p, pm[i]? = some p := ⟨_, List.getElem?_eq_getElem (by rw [hMO.len, hl']; exact hilt)⟩
          obtain ⟨q, cap, hq, hq2, hq3, hq4, hq5⟩ := own_addr hMO.own (by rw [hl']; omega)
          rw [hl'] at hq hq2
          simp only [Value.slice.injEq, true_and] at hq
          obtain ⟨rfl, rfl⟩ := hq
          have hown := hMO.own
          rw [hl'] at hown
          have c0 := own_at (ms_len ms' pm) hown (ms_get e1 hp) (j := 0) rfl
          have c1 := own_at (ms_len ms' pm) hown (ms_get e1 hp) (j := 1) rfl
          have c2 := own_at (ms_len ms' pm) hown (ms_get e1 hp) (j := 2) rfl
          rw [Nat.add_zero] at c0
          obtain ⟨pv, pr⟩ := p
          obtain ⟨pa, pc, hpv⟩ := own_form (hMO.each i m' _ e1 hp).1
          simp only at hpv
          subst hpv
          obtain ⟨ra, rc, hpv⟩ := own_form (hMO.each i m' _ e1 hp).2
          simp only at hpv
          subst hpv
          simp only at c0 c1 c2
          obtain ⟨nF, hnF⟩ : ∃ n, m.fields.length = n := ⟨_, rfl⟩
          have HNF : Hid (m.fields.length = nF) := hnF
          rw [e4, hnF] at c1
          have HP1 : Hid (pm[i]? = some (.slice pa nF pc, .slice ra m'.reserved.length rc)) := by rw [← hnF, ← e4]; exact hp
          have hnF2 : nF ≤ 9223372036854775807 := by rw [← hnF, ← e4]; exact own_le (hMO.each i m' _ e1 hp).1
          have HMm : Hid (ms[i]? = some m) := hm
          generalize m'.reserved.length = nR at *
          generalize m'.name = nm' at *
          have HM2 : Hid (MsO (wr.alloc (.cells #[.string nm', .slice pa nF pc, .slice ra nR rc] 45)) B (.slice (some ⟨q, 0, none⟩) nM mc) ms' pm) := HM.out.below ((Below.refl _ _).alloc (Nat.le_refl _) _)
          have HOM2 : Hid ((wr.alloc (.cells #[.string nm', .slice pa nF pc, .slice ra nR rc] 45)).ownsMap Tryd.prog 9 (unitElem (H := Unit)) (Bx + 1) k D) := HOM.out.alloc _
          have KF2 := KF.alloc (.cells #[.string nm', .slice pa nF pc, .slice ra nR rc] 45)
          have BC2 := Blk.new wr #[.string nm', .slice pa nF pc, .slice ra nR rc] 45
          have hBC : Bx ≤ wr.heap.size := by have := KF.size; rw [HBx.out] at this; exact this
          clear hMO hown e1 e2 e3 e4 e5 hp hm hl' hnF HM HOM KF hq2 hq3 hq4 hq5
          go_wp2_with fail
          clear c0 c1 c2
          generalize wr.alloc (.cells #[.string nm', .slice pa nF pc, .slice ra nR rc] 45) = wz at *
          generalize wr.heap.size = Cb at *
          go_loopw [34] (fun jv wr => ∃ (j : Nat) (ms' : List MsS), jv = .int .i64 (j : Int) ∧ j ≤ nF ∧ Hid (Part es ms ms' i j) ∧ Hid (MsO wr B (.slice (some ⟨q, 0, none⟩) nM mc) ms' pm) ∧ Hid (wr.ownsMap Tryd.prog 9 (unitElem (H := Unit)) (Bx + 1) k D) ∧ Kp (FB pm) w wr ∧ Blk wr Cb #[.string nm', .slice pa nF pc, .slice ra nR rc] 45) (fun jv _ => nF - (intOf jv).toNat)
          case atStart => exact ⟨0, ms', rfl, by omega, HP, HM2, HOM2, KF2, BC2⟩
          case round =>
            obtain ⟨j, ms2, rfl, hj, HP, HM, HOM, KF, BC⟩ := hrel
            clear HM2 HOM2 KF2 BC2
            by_cases hjlt : j < nF
            · obtain ⟨f, hf⟩ : ∃ f, m.fields[j]? = some f := ⟨_, List.getElem?_eq_getElem (by rw [HNF.out]; exact hjlt)⟩
              obtain ⟨m2, g1, g2, g3⟩ := HP.out.get HMm.out hf
              have hF := (HM.out.each i m2 _ g1 HP1.out).1
              simp only at hF
              rw [g3, HNF.out] at hF
              obtain ⟨q2, cap2, hq, hq2, hq3, hq4, hq5⟩ := own_addr hF (by omega)
              simp only [Value.slice.injEq, true_and] at hq
              obtain ⟨rfl, rfl⟩ := hq
              have d3 := own_at (fl_len m2.fields) hF (fl_get g2) (j := 3) rfl
              have d4 := own_at (fl_len m2.fields) hF (fl_get g2) (j := 4) rfl
              have fz3 := own_froz hF (j * 5 + 3)
              have hqB : q2 < Bx := HHigh.out i _ q2 HP1.out rfl
              have hkey := WideMaps.keyOf_string_mk (P := Tryd.prog) (k := 9) Tryd.underlying9 (s := f.tname) (by have := HMS.out m (List.mem_of_getElem? HMm.out) f (List.mem_of_getElem? hf); unfold maxLen; omega)
              have cb1 := BC.cell 1
              simp only [List.getElem?_toArray, List.getElem?_cons_succ, List.getElem?_cons_zero] at cb1
              have d3a : ∀ o, (wr.alloc o).cell? ⟨q2, j * 5 + 3, none⟩ = some (.int .i64 f.kind) := fun o => by rw [World.cell?_alloc_past _ _ _ hq5]; exact d3
              have f3a : ∀ o, (wr.alloc o).frozen? ⟨q2, j * 5 + 3, none⟩ = false := fun o => by rw [World.frozen?_alloc_past _ _ _ hq5]; exact fz3
              have HG : Hid (ms2[i]? = some m2 ∧ m2.fields[j]? = some f ∧ m.fields[j]? = some f) := ⟨g1, g2, hf⟩
              have hqc : q2 < Cb ∨ True := .inr trivial
              clear hF g1 g2 g3 hf hq2 hq3 hq4 hq5 d3 fz3
              cases hb : hasE es f.tname.data.toList with
              | true =>
                have hhas : Maps.has D (.string f.tname.data.toList) = true := by rw [HH.out]; exact hb
                have HS : Hid (setF es f = ⟨f.name, f.tag, f.label, 6, f.tname⟩) := by
                  show _ = _
                  unfold setF
                  exact if_pos hb
                clear hb
                go_wp2_with (first | (at_lookup; refine wpList_lookup_own_unit _ rfl _ _ 84 rfl 9 85 lawK Tryd.underlying84 (zeroU _) (Bx + 1) k _ rfl HOM.out _ _ rfl hkey ?_) | fail)
                obtain ⟨g1, g2, g3⟩ := HG.out
                have HP3 : Hid (Part es ms (ms2.set i (kindAt m2 j f)) i (j + 1)) := HP.out.yes HMm.out g1 g3 HS.out
                have HM3 : Hid (MsO ((wr.alloc (.cells #[] 85)).setCell ⟨q2, j * 5 + 3, none⟩ (.int .i64 6)) B (.slice (some ⟨q, 0, none⟩) nM mc) (ms2.set i (kindAt m2 j f)) pm) := (HM.out.below ((Below.refl _ _).alloc (Nat.le_refl _) _)).setK g1 HP1.out g2 rfl
                have HOM3 : Hid (((wr.alloc (.cells #[] 85)).setCell ⟨q2, j * 5 + 3, none⟩ (.int .i64 6)).ownsMap Tryd.prog 9 (unitElem (H := Unit)) (Bx + 1) k D) := (HOM.out.alloc _).setCell (by simp only; omega) _
                have KF3 : Kp (FB pm) w ((wr.alloc (.cells #[] 85)).setCell ⟨q2, j * 5 + 3, none⟩ (.int .i64 6)) := Kp.setCell (p := ⟨q2, j * 5 + 3, none⟩) (KF.alloc _) (fun _ => ⟨i, _, HP1.out, rfl⟩) _
                have BC3 := (BC.below ((Below.refl _ _).alloc (Nat.le_refl _) (.cells #[] 85))).other (a := ⟨q2, j * 5 + 3, none⟩) (by simp only; omega) (.int .i64 6)
                clear g1 g2 g3
                go_roundw
                case rel => exact ⟨j + 1, _, rfl, by omega, HP3, HM3, HOM3, KF3, BC3⟩
                case measure => simp [intOf]; omega
              | false =>
                have hhas : Maps.has D (.string f.tname.data.toList) = false := by rw [HH.out]; exact hb
                have HS : Hid (setF es f = f) := by
                  show _ = _
                  unfold setF
                  rw [if_neg (by unfold hasE at hb; rw [hb]; simp)]
                clear hb
                go_wp2_with (first | (at_lookup; refine wpList_lookup_own_unit _ rfl _ _ 84 rfl 9 85 lawK Tryd.underlying84 (zeroU _) (Bx + 1) k _ rfl HOM.out _ _ rfl hkey ?_) | fail)
                obtain ⟨g1, g2, g3⟩ := HG.out
                have HP3 : Hid (Part es ms ms2 i (j + 1)) := HP.out.no HMm.out g3 HS.out
                have HM3 : Hid (MsO (wr.alloc (.cells #[] 85)) B (.slice (some ⟨q, 0, none⟩) nM mc) ms2 pm) := HM.out.below ((Below.refl _ _).alloc (Nat.le_refl _) _)
                have HOM3 : Hid ((wr.alloc (.cells #[] 85)).ownsMap Tryd.prog 9 (unitElem (H := Unit)) (Bx + 1) k D) := HOM.out.alloc _
                have KF3 : Kp (FB pm) w (wr.alloc (.cells #[] 85)) := KF.alloc _
                have BC3 := BC.below ((Below.refl _ _).alloc (Nat.le_refl _) (.cells #[] 85))
                clear g1 g2 g3
                go_roundw
                case rel => exact ⟨j + 1, _, rfl, by omega, HP3, HM3, HOM3, KF3, BC3⟩
                case measure => simp [intOf]; omega
            · have HP3 : Hid (Part es ms ms2 (i + 1) 0) := HP.out.next HMm.out (by rw [HNF.out]; omega)
              go_wp2_with fail
              go_roundw
              case rel => exact ⟨i + 1, _, rfl, by omega, HP3, HM, HOM, KF⟩
              case measure => simp [intOf]; omega
        · have eM : ms' = ms.map (setM es) := HP.out.all (by rw [HNM.out]; omega)
          subst eM
          go_wp2_with fail
          refine bodyPost_end (results_none rfl _ _ _) rfl ?_
          exact ⟨rfl, HM.out, KF⟩
end Go.Proofs.YtfffjfccochccaaDoor

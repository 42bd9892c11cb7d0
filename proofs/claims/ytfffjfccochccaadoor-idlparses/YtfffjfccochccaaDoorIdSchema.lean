/- What the reader's 'schema' answers. -/
import Derived.Test.YtfffjfccochccaaDoorIdOwn
namespace Go.Proofs.YtfffjfccochccaaDoor
open Go.ChangeShapes Go.WideShapes Go.ChangeAt Go.RowKit
set_option linter.unusedVariables false
set_option linter.unusedSimpArgs false
set_option maxRecDepth 20000

set_option maxHeartbeats 8000000 in
theorem rschema_any {w : World} {g : Nat} {V : Value} {ts : List Tk} {E : Nat} {σ : Sg} (h : Rd w g V ts E σ) :
    Calls Tryd.prog 16 #[.pointer (some ⟨g, 0, none⟩)] w fun e w' => ∃ (s : ScS) (vm ve vt : Value) (pm : List (Value × Value)) (pe : List Value) (B : Nat), e = .returned (.agg #[.string s.name, vm, ve, vt]) ∧ Res (pOn σ pText) s ∧ Rd w' g V ts E (stX (pOn σ pText)) ∧ Kp (fun k => k = g) w w' ∧ w.heap.size ≤ B ∧ MsO w' B vm (s.msgs.map preM) pm ∧ EnO w' B ve s.enums pe ∧ w'.ownsRow B 73 3 vt s.methods.length (mtRows s.methods).flatten := by
  obtain ⟨iM, hiM, hzM0, hzM1, hzM2⟩ := info_parts infoM
  obtain ⟨iE, hiE, hzE0, hzE1, hzE2⟩ := info_parts infoE
  obtain ⟨iT, hiT, hzT0, hzT1, hzT2⟩ := info_parts infoT
  have hfew := h.few
  have hg := h.lt
  obtain ⟨Z, hZ⟩ : ∃ Z, pOn σ pText = Z := ⟨_, rfl⟩
  have HZ0 : Hid (Z = pOn (stX (pOn (stX (pOn (stX (pOn σ (pMust kSchema))) pName)) (pMust kSemi))) fun r => pDecls r.length ⟨res noT (pOn (stX (pOn σ (pMust kSchema))) pName), [], [], []⟩ r) := by
    show Z = _
    rw [← hZ]
    exact text_st σ
  rw [hZ]
  clear hZ
  have h0 := h.alloc (.cells #[.string ⟨#[]⟩, .slice none 0 0, .slice none 0 0, .slice none 0 0] 27)
  have B0 := Blk.new w #[.string ⟨#[]⟩, .slice none 0 0, .slice none 0 0, .slice none 0 0] 27
  have K0 : Kp (fun k => k = g) w (w.alloc (.cells #[.string ⟨#[]⟩, .slice none 0 0, .slice none 0 0, .slice none 0 0] 27)) := (Kp.refl _ _).alloc _
  clear h
  obtain ⟨R, hR⟩ : ∃ R, w.heap.size = R := ⟨_, rfl⟩
  have HR : Hid (w.heap.size = R) := hR
  rw [hR] at hg B0
  go_enter Tryd.func16, Tryd.ntmps16
  go_wp2_with fail
  refine (one_new kSchema _ (by simp; exact hR.symm) h0 (by decide +kernel)).mono ?_
  rintro e w1 ⟨x0, rfl, h1, k1⟩
  clear hR
  have B1 := B0.kp k1 (by omega)
  have K1 := K0.trans k1
  clear h0 k1 B0 K0
  generalize stX (pOn σ (pMust kSchema)) = σ1 at *
  go_wp2_with fail
  refine (rname_any h1).mono ?_
  rintro e w2 ⟨rfl, h2, k2⟩
  have B2 := B1.kp k2 (by omega)
  have K2 := K1.trans k2
  clear h1 k2 B1 K1
  generalize res noT (pOn σ1 pName) = x1 at *
  generalize stX (pOn σ1 pName) = σ2 at *
  have hgM : g < w2.heap.size := h2.lt
  have hRM : R < w2.heap.size := B2.lt
  have BM := Blk.new w2 #[.string x1, .slice none 0 0, .slice none 0 0, .slice none 0 0] 27
  have h3 := h2.alloc (.cells #[.string x1, .slice none 0 0, .slice none 0 0, .slice none 0 0] 27)
  have B3 := B2.below ((Below.refl _ _).alloc (Nat.le_refl _) (.cells #[.string x1, .slice none 0 0, .slice none 0 0, .slice none 0 0] 27))
  have K3 := K2.alloc (.cells #[.string x1, .slice none 0 0, .slice none 0 0, .slice none 0 0] 27)
  clear h2 B2 K2
  go_wp2_with fail
  refine (one_new kSemi _ (by simp) h3 (by decide +kernel)).mono ?_
  rintro e w3 ⟨x2, rfl, h4, k4⟩
  generalize w2.heap.size = M at *
  have B4 := B3.kp k4 (by omega)
  have BM4 := BM.kp k4 (by omega)
  have K4 := K3.trans k4
  clear h3 k4 B3 BM K3
  generalize stX (pOn σ2 (pMust kSemi)) = σ3 at *
  go_wp2_with fail
  go_loopw [18] (fun _ wr => ∃ (s : ScS) (vm ve vt : Value) (pm : List (Value × Value)) (pe : List Value) (σ1 : Sg), Hid (Z = pOn σ1 fun r => pDecls r.length s r) ∧ Hid (MsO wr (M + 1) vm (s.msgs.map preM) pm) ∧ Hid (EnO wr (M + 1) ve s.enums pe) ∧ Hid (wr.ownsRow (M + 1) 73 3 vt s.methods.length (mtRows s.methods).flatten) ∧ Rd wr g V ts E σ1 ∧ Kp (fun k => k = g) w wr ∧ Hid (Bd ts.length σ1 s.msgs.length ∧ Bd ts.length σ1 s.enums.length ∧ Bd ts.length σ1 s.methods.length) ∧ Blk wr R #[.string ⟨#[]⟩, .slice none 0 0, .slice none 0 0, .slice none 0 0] 27 ∧ Blk wr M #[.string s.name, vm, ve, vt] 27) (fun _ wr => msr g ts.length wr)
  case atStart =>
    have hb : Bd ts.length σ3 0 := ⟨by simp, fun r hr => by have := h4.left; rw [hr] at this; simp only [leftS] at this; simpa using this⟩
    exact ⟨⟨x1, [], [], []⟩, _, _, _, [], [], σ3, HZ0, MsO.nil _ _, EnO.nil _ _, World.ownsRow_nil _ _ _ _, h4, K4, ⟨hb, hb, hb⟩, B4, BM4⟩
  case round =>
    obtain ⟨s, vm, ve, vt, pm, pe, σ, HZ, HMs, HEs, HTs, hr, KR, HB, BR, BM⟩ := hrel
    clear HZ0 h4 K4 B4 BM4
    have hms := msr_rd hr
    cases σ with
    | inl n =>
      have eZ : Z = .inl n := by rw [HZ.out]; rfl
      subst eZ
      clear HZ hms HB
      go_wp2_with fail
      refine (more_any hr).mono ?_
      rintro e w4 ⟨rfl, hb5⟩
      have k5 : Kp (fun k => k = g) wr w4 := Kp.ofBelow hb5
      have h5 := hr.below hb5
      have BR5 := BR.kp k5 (by omega)
      have BM5 := BM.kp k5 (by omega)
      have K5 := KR.trans k5
      have HMs5 : Hid (MsO w4 (M + 1) vm (s.msgs.map preM) pm) := HMs.out.kp k5 (fun k hk => by omega)
      have HEs5 : Hid (EnO w4 (M + 1) ve s.enums pe) := HEs.out.kp k5 (fun k hk => by omega)
      have HTs5 := own_kpH HTs k5 (fun k hk => by omega)
      clear hr KR HMs HEs HTs BR BM k5 hb5
      simp only [badS, Bool.not_true, Bool.false_and]
      obtain ⟨ma, mc, hvv⟩ := own_form HMs5.out.own
      subst hvv
      obtain ⟨ea, ec, hvv⟩ := own_form HEs5.out.own
      subst hvv
      obtain ⟨ta, tc, hvv⟩ := own_form HTs5.out
      subst hvv
      generalize hnM : (s.msgs.map preM).length = nM at *
      generalize hnE : s.enums.length = nE at *
      generalize hnT : s.methods.length = nT at *
      have HNT : Hid (s.methods.length = nT) := hnT
      clear hnM hnE hnT
      have m0 := BM5.cell 0
      have m1 := BM5.cell 1
      have m2 := BM5.cell 2
      have m3 := BM5.cell 3
      have r0 := BR5.cell 0
      have r1 := BR5.cell 1
      have r2 := BR5.cell 2
      have r3 := BR5.cell 3
      have f0 := BR5.froz 0
      have f1 := BR5.froz 1
      have f2 := BR5.froz 2
      have f3 := BR5.froz 3
      simp only [List.getElem?_toArray, List.getElem?_cons_succ, List.getElem?_cons_zero] at m0 m1 m2 m3 r0 r1 r2 r3
      go_wp2_with fail
      refine bodyPost_ret (results_cell rfl _ _ _ ⟨R, 0, none⟩ (.agg #[.string s.name, .slice ma nM mc, .slice ea nE ec, .slice ta nT tc]) (by go_simp) (by go_simp)) rfl ?_
      have hlt : R < w.heap.size → R = g := fun hlt => by have := HR.out; omega
      have k6 : Kp (fun k => k = R) w4 ((((w4.setCell ⟨R, 0, none⟩ (.string s.name)).setCell ⟨R, 1, none⟩ (.slice ma nM mc)).setCell ⟨R, 2, none⟩ (.slice ea nE ec)).setCell ⟨R, 3, none⟩ (.slice ta nT tc)) := Kp.setCell (p := ⟨R, 3, none⟩) (Kp.setCell (p := ⟨R, 2, none⟩) (Kp.setCell (p := ⟨R, 1, none⟩) (Kp.setCell (p := ⟨R, 0, none⟩) (Kp.refl (fun k => k = R) w4) (fun _ => rfl) _) (fun _ => rfl) _) (fun _ => rfl) _) (fun _ => rfl) _
      refine ⟨s, _, _, _, pm, pe, M + 1, rfl, Res.no, (((h5.other hg _).other hg _).other hg _).other hg _, (((K5.setCell hlt _).setCell hlt _).setCell hlt _).setCell hlt _, by have := HR.out; omega, HMs5.out.kp k6 (fun k hk => by omega), HEs5.out.kp k6 (fun k hk => by omega), ?_⟩
      rw [HNT.out]
      exact own_kp HTs5.out k6 (fun k hk => by omega)
    | inr rs =>
     cases rs with
     | nil =>
      have eZ : Z = .inr (s, []) := by rw [HZ.out]; rfl
      subst eZ
      clear HZ hms HB
      go_wp2_with fail
      refine (more_any hr).mono ?_
      rintro e w4 ⟨rfl, hb5⟩
      have k5 : Kp (fun k => k = g) wr w4 := Kp.ofBelow hb5
      have h5 := hr.below hb5
      have BR5 := BR.kp k5 (by omega)
      have BM5 := BM.kp k5 (by omega)
      have K5 := KR.trans k5
      have HMs5 : Hid (MsO w4 (M + 1) vm (s.msgs.map preM) pm) := HMs.out.kp k5 (fun k hk => by omega)
      have HEs5 : Hid (EnO w4 (M + 1) ve s.enums pe) := HEs.out.kp k5 (fun k hk => by omega)
      have HTs5 := own_kpH HTs k5 (fun k hk => by omega)
      clear hr KR HMs HEs HTs BR BM k5 hb5
      simp only [badS, leftS, List.length_nil, Nat.lt_irrefl, decide_false, Bool.and_false]
      obtain ⟨ma, mc, hvv⟩ := own_form HMs5.out.own
      subst hvv
      obtain ⟨ea, ec, hvv⟩ := own_form HEs5.out.own
      subst hvv
      obtain ⟨ta, tc, hvv⟩ := own_form HTs5.out
      subst hvv
      generalize hnM : (s.msgs.map preM).length = nM at *
      generalize hnE : s.enums.length = nE at *
      generalize hnT : s.methods.length = nT at *
      have HNT : Hid (s.methods.length = nT) := hnT
      clear hnM hnE hnT
      have m0 := BM5.cell 0
      have m1 := BM5.cell 1
      have m2 := BM5.cell 2
      have m3 := BM5.cell 3
      have r0 := BR5.cell 0
      have r1 := BR5.cell 1
      have r2 := BR5.cell 2
      have r3 := BR5.cell 3
      have f0 := BR5.froz 0
      have f1 := BR5.froz 1
      have f2 := BR5.froz 2
      have f3 := BR5.froz 3
      simp only [List.getElem?_toArray, List.getElem?_cons_succ, List.getElem?_cons_zero] at m0 m1 m2 m3 r0 r1 r2 r3
      go_wp2_with fail
      refine bodyPost_ret (results_cell rfl _ _ _ ⟨R, 0, none⟩ (.agg #[.string s.name, .slice ma nM mc, .slice ea nE ec, .slice ta nT tc]) (by go_simp) (by go_simp)) rfl ?_
      have hlt : R < w.heap.size → R = g := fun hlt => by have := HR.out; omega
      have k6 : Kp (fun k => k = R) w4 ((((w4.setCell ⟨R, 0, none⟩ (.string s.name)).setCell ⟨R, 1, none⟩ (.slice ma nM mc)).setCell ⟨R, 2, none⟩ (.slice ea nE ec)).setCell ⟨R, 3, none⟩ (.slice ta nT tc)) := Kp.setCell (p := ⟨R, 3, none⟩) (Kp.setCell (p := ⟨R, 2, none⟩) (Kp.setCell (p := ⟨R, 1, none⟩) (Kp.setCell (p := ⟨R, 0, none⟩) (Kp.refl (fun k => k = R) w4) (fun _ => rfl) _) (fun _ => rfl) _) (fun _ => rfl) _) (fun _ => rfl) _
      refine ⟨s, _, _, _, pm, pe, M + 1, rfl, Res.yes, (((h5.other hg _).other hg _).other hg _).other hg _, (((K5.setCell hlt _).setCell hlt _).setCell hlt _).setCell hlt _, by have := HR.out; omega, HMs5.out.kp k6 (fun k hk => by omega), HEs5.out.kp k6 (fun k hk => by omega), ?_⟩
      rw [HNT.out]
      exact own_kp HTs5.out k6 (fun k hk => by omega)
     | cons t r =>
      have HZ2 : Hid (∀ s' : ScS, Res (pDecl s (t :: r)) s' → Z = pOn (stX (pDecl s (t :: r))) fun r => pDecls r.length s' r) := by
        intro v hv
        rw [HZ.out]
        exact decls_step hv
      have HW : Hid (weigh (stX (pDecl s (t :: r))) < msr g ts.length wr) := by show _ < _; rw [hms]; exact weigh_lt (decl_lt s (t :: r)) (decl_in s (t :: r))
      clear HZ hms
      go_wp2_with fail
      refine (more_any hr).mono ?_
      rintro e w4 ⟨rfl, hb5⟩
      have k5 : Kp (fun k => k = g) wr w4 := Kp.ofBelow hb5
      have h5 := hr.below hb5
      have BR5 := BR.kp k5 (by omega)
      have BM5 := BM.kp k5 (by omega)
      have K5 := KR.trans k5
      have HMs5 : Hid (MsO w4 (M + 1) vm (s.msgs.map preM) pm) := HMs.out.kp k5 (fun k hk => by omega)
      have HEs5 : Hid (EnO w4 (M + 1) ve s.enums pe) := HEs.out.kp k5 (fun k hk => by omega)
      have HTs5 := own_kpH HTs k5 (fun k hk => by omega)
      clear hr KR HMs HEs HTs BR BM k5 hb5
      simp only [badS, leftS, List.length_cons, Nat.zero_lt_succ, decide_true, Bool.not_false, Bool.and_true]
      go_wp2_with fail
      refine (one_new3 kMessage kEnum kCall _ rfl h5 (by decide +kernel)).mono ?_
      rintro e w5 ⟨rfl, h6, k6⟩
      have BR6 := BR5.kp k6 (by omega)
      have BM6 := BM5.kp k6 (by omega)
      have K6 := K5.trans k6
      have HMs6 : Hid (MsO w5 (M + 1) vm (s.msgs.map preM) pm) := HMs5.out.kp k6 (fun k hk => by omega)
      have HEs6 : Hid (EnO w5 (M + 1) ve s.enums pe) := HEs5.out.kp k6 (fun k hk => by omega)
      have HTs6 := own_kpH HTs5 k6 (fun k hk => by omega)
      have hM6 : M + 1 ≤ w5.heap.size := BM6.lt
      clear h5 K5 HMs5 HEs5 HTs5 BR5 BM5 k6
      rcases one3_cases s t r with ⟨ht, e1⟩ | ⟨ht, e1⟩ | ⟨ht, e1⟩ | ⟨e1, e2⟩
      · have HE : Hid (pOn (.inr (t :: r)) (pOne [kMessage, kEnum, kCall]) = .inr (t, r)) := e1
        rw [HE.out] at h6 ⊢
        simp only [res, stX] at h6 ⊢
        have hd0 : (t.toList == [109, 101, 115, 115, 97, 103, 101]) = true := by rw [ByteArray.toList_eq, ht]; decide +kernel
        have HT : Hid (t.data.toList = kMessage.data.toList) := ht
        clear e1 ht HE
        go_wp2_with fail
        refine wp_region_held_drew (S := fun _ => True) (by kernel_rfl) trivial (fun hS => ?_)
        refine rg_take 0 20 (.pointer (some ⟨M, 1, none⟩)) _ rfl rfl (by kernel_rfl) (by kernel_rfl) (by kernel_rfl) (fun _ _ _ h => h) (by rfl) (fun w' hw' => ?_) hS (listed' := #[true, false, false, false, false, false, false, false]) (by kernel_rfl) rfl ?_
        · go_simp
        simp only [List.setIfInBounds_toArray, List.set_cons_zero, List.set_cons_succ]
        refine rg_take 2 22 (.pointer (some ⟨g, 0, none⟩)) _ rfl rfl (by kernel_rfl) (by kernel_rfl) (by kernel_rfl) (fun _ _ _ h => h) (by rfl) (fun w' hw' => ?_) hS (listed' := #[true, false, true, false, false, false, false, false]) (by kernel_rfl) rfl ?_
        · go_simp
        simp only [List.setIfInBounds_toArray, List.set_cons_zero, List.set_cons_succ]
        refine rg_lcb 1 3 4 21 23 24 vm 32 #[.pointer (some ⟨g, 0, none⟩)] (fun W => W.cell? ⟨M, 1, none⟩ = some vm) rfl rfl rfl rfl rfl rfl (by kernel_rfl) (by kernel_rfl) (by kernel_rfl) (by kernel_rfl) (by kernel_rfl) (fun _ => rfl) (fun _ => rfl) (fun _ => rfl) (by decide) (by decide) (by decide) (by decide) ?g0 ?g1 ?g2 ?g3 ?g4 ?_
        case g0 => have hcv := (BM6.cell 1).trans rfl; go_simp
        case g1 => intro v W hW; simp only [List.setIfInBounds_toArray, List.set_cons_zero, List.set_cons_succ]; go_simp
        case g2 => intro v s W hW; simp only [List.setIfInBounds_toArray, List.set_cons_zero, List.set_cons_succ]; go_simp
        case g3 => go_simp
        case g4 => intro W; simp only [List.setIfInBounds_toArray, List.set_cons_zero, List.set_cons_succ]; go_simp
        have h6d : Rd w5.drew g V ts E (.inr r) := h6.below (Below.refl _ _).drew
        have hH := HMs6.out.high
        refine (rmessage_any h6d).mono ?_
        rintro e w6 ⟨m, vf, vr, rfl, rm, h7, k7, hf, hrv⟩
        have e0 : pOn (.inr r) pMsg = pMsg r := rfl
        rw [e0] at h7 rm
        clear e0
        have k7' : Kp (fun k => k = g) w5 w6 := ⟨k7.os, k7.tape, k7.output, k7.size, k7.block⟩
        have hdh : w5.drew.heap.size = w5.heap.size := rfl
        have BR7 := BR6.kp k7' (by omega)
        have BM7 := BM6.kp k7' (by omega)
        have K7 := K6.trans k7'
        have HMs7 : Hid (MsO w6 (M + 1) vm (s.msgs.map preM) pm) := HMs6.out.kp k7' (fun k hk => by omega)
        have HEs7 : Hid (EnO w6 (M + 1) ve s.enums pe) := HEs6.out.kp k7' (fun k hk => by omega)
        have HTs7 := own_kpH HTs6 k7' (fun k hk => by omega)
        obtain ⟨q7, q8⟩ := decl_msg (s := s) HT.out rm
        have HZ7 : Hid (Z = pOn (stX (pDecl s (t :: r))) fun r => pDecls r.length ⟨s.name, s.msgs ++ [m], s.enums, s.methods⟩ r) := HZ2.out _ q8
        rw [← q7] at h7
        have HB7 : Hid (Bd ts.length (stX (pDecl s (t :: r))) (s.msgs ++ [m]).length ∧ Bd ts.length (stX (pDecl s (t :: r))) s.enums.length ∧ Bd ts.length (stX (pDecl s (t :: r))) s.methods.length) := by
          show _ ∧ _ ∧ _
          exact ⟨by rw [List.length_append]; exact HB.out.1.step (decl_lt s (t :: r)), HB.out.2.1.keep (decl_lt s (t :: r)).le, HB.out.2.2.keep (decl_lt s (t :: r)).le⟩
        have hlen : s.msgs.length ≤ 100000 := by have h1 := HB.out.1.2 _ rfl; have h2 := HB.out.2.1.2 _ rfl; have h3 := HB.out.2.2.2 _ rfl; omega
        clear h6 h6d K6 HMs6 HEs6 HTs6 BR6 BM6 k7 k7' HB HZ2 q7 q8 rm HT
        generalize stX (pDecl s (t :: r)) = σ4 at *
        have hM7 : M + 1 ≤ w6.heap.size := BM7.lt
        rw [hdh] at hf hrv
        obtain ⟨fa, fc, hvv⟩ := own_form hf
        subst hvv
        obtain ⟨ra, rc, hvv⟩ := own_form hrv
        subst hvv
        obtain ⟨nF, hnF⟩ : ∃ n, m.fields.length = n := ⟨_, rfl⟩
        have HNF : Hid (m.fields.length = nF) := hnF
        obtain ⟨nR, hnR⟩ : ∃ n, m.reserved.length = n := ⟨_, rfl⟩
        have HNR : Hid (m.reserved.length = nR) := hnR
        rw [hnF] at hf
        rw [hnR] at hrv
        rw [hnF, hnR]
        clear hnF hnR
        refine ⟨_, rfl, (BM7.cell 1).trans rfl, .slice (some ⟨w6.heap.size, 0, none⟩) 1 1, w6.alloc (.cells #[.string m.name, .slice fa nF fc, .slice ra nR rc] 45), ((BM7.below ((Below.refl _ _).alloc (Nat.le_refl _) _)).cell 1).trans rfl, by simp only [List.setIfInBounds_toArray, List.set_cons_zero, List.set_cons_succ]; go_simp, by simp only [List.setIfInBounds_toArray, List.set_cons_zero, List.set_cons_succ]; go_simp, ?_⟩
        have HOv : Hid (w6.ownsRow (M + 1) 45 3 vm s.msgs.length (msRows (s.msgs.map preM) pm).flatten) := by have := HMs7.out.own; rw [List.length_map] at this; exact this
        obtain ⟨v6, w7, hrun, ho6, hg6, _, hat6⟩ := run_append_own_at (P := Tryd.prog) (w6.alloc (.cells #[.string m.name, .slice fa nF fc, .slice ra nR rc] 45)) (M + 1) 23 23 45 iM _ 3 64 Tryd.underlying23 hiM hzM0 hzM1 hzM2 rfl (by decide) _ _ _ (HOv.out.alloc _) ⟨w6.heap.size, 0, none⟩ 1 1 [.string m.name, .slice fa nF fc, .slice ra nR rc] rfl (cells_new _ #[.string m.name, .slice fa nF fc, .slice ra nR rc] _) (by intro u hu; simp at hu; rcases hu with rfl | rfl | rfl <;> rfl) (by unfold maxLen; omega) (by omega) (by simp; omega)
        have k67 : Kp (fun k => vm.ownBlock = some k) w6 w7 := ((Kp.refl _ _).alloc _).grown hg6 (fun k hk _ => hk)
        have hvb : ∀ k, vm.ownBlock = some k → M + 1 ≤ k := fun k hk => (HOv.out.lt k hk).1
        have h8 : Rd w7 g V ts E σ4 := h7.kp k67 (fun k hk e => by have := hvb k e; omega)
        have BR8 := BR7.kp k67 (fun e => by have := hvb _ e; omega)
        have BM8 := BM7.kp k67 (fun e => by have := hvb _ e; omega)
        have K8 : Kp (fun k => k = g) w w7 := K7.trans2 k67 (fun k hk e => by have := HR.out; have := hvb k e; omega)
        have HMs8 : Hid (MsO w7 (M + 1) v6 ((s.msgs ++ [m]).map preM) (pm ++ [(.slice fa nF fc, .slice ra nR rc)])) := by
          show MsO _ _ _ _ _
          rw [List.map_append]
          refine HMs7.out.snoc (m := preM m) hH (by omega) ?_ ?_ (by rw [List.length_map]; exact ho6) k67
          · show World.ownsRow _ _ _ _ _ (m.fields.map pre7).length _
            rw [List.length_map, HNF.out]; exact hf
          · show World.ownsRow _ _ _ _ _ m.reserved.length _
            rw [HNR.out]; exact hrv
        have HEs8 : Hid (EnO w7 (M + 1) ve s.enums pe) := HEs7.out.beside HOv.out (by decide) (by decide) k67
        have HTs8 : Hid (w7.ownsRow (M + 1) 73 3 vt s.methods.length (mtRows s.methods).flatten) := own_kpV HTs7.out k67 (fun k hk e => own_apart HOv.out HTs7.out (by decide) k e hk)
        obtain ⟨nA, hnA⟩ : ∃ n, s.msgs.length = n := ⟨_, rfl⟩
        rw [hnA] at ho6
        obtain ⟨va, vc, hvv⟩ := own_form ho6
        subst hvv
        have mc := BM8.cell 1
        have mf := BM8.froz 1
        simp only [List.getElem?_toArray, List.getElem?_cons_succ, List.getElem?_cons_zero] at mc
        clear ho6 hg6 hat6 k67 hvb h7 BR7 BM7 K7 HMs7 HEs7 HTs7 hnA HOv hH
        simp only [List.setIfInBounds_toArray, List.set_cons_zero, List.set_cons_succ]
        refine rg_run 5 25 (.slice va (nA + 1) vc) w7 rfl rfl (by kernel_rfl) (by rfl) (listed' := #[true, true, true, true, true, true, false, false]) (by kernel_rfl) ?_ trivial ?_
        · exact append_run rfl rfl rfl hrun
        clear hrun
        simp only [List.setIfInBounds_toArray, List.set_cons_zero, List.set_cons_succ]
        refine rg_run 6 26 (.pointer (some ⟨M, 1, none⟩)) w7 rfl rfl (by kernel_rfl) (by rfl) (listed' := #[true, true, true, true, true, true, true, false]) (by kernel_rfl) ?_ trivial ?_
        · go_simp
        simp only [List.setIfInBounds_toArray, List.set_cons_zero, List.set_cons_succ]
        refine rg_store 7 (w7.setCell ⟨M, 1, none⟩ (.slice va (nA + 1) vc)) rfl rfl (by kernel_rfl) (by rfl) (listed' := #[true, true, true, true, true, true, true, true]) (by kernel_rfl) ?_ trivial ?_
        · go_simp
        refine wpAnyH_done (by kernel_rfl) ?_ _
        have k9 : Kp (fun k => k = M) w7 (w7.setCell ⟨M, 1, none⟩ (.slice va (nA + 1) vc)) := Kp.setCell (p := ⟨M, 1, none⟩) (Kp.refl (fun k => k = M) w7) (fun _ => rfl) _
        have h9 : Rd (w7.setCell ⟨M, 1, none⟩ (.slice va (nA + 1) vc)) g V ts E σ4 := h8.other hgM _
        have BR9 := BR8.kp k9 (by omega)
        have BM9 : Blk (w7.setCell ⟨M, 1, none⟩ (.slice va (nA + 1) vc)) M #[.string s.name, .slice va (nA + 1) vc, ve, vt] 27 := BM8.set 1 _ rfl
        have K9 : Kp (fun k => k = g) w (w7.setCell ⟨M, 1, none⟩ (.slice va (nA + 1) vc)) := K8.setCell (fun hlt => by have := HR.out; simp only at hlt; omega) _
        have HMs9 := HMs8.out.kp k9 (fun k hk => by omega)
        have HEs9 := HEs8.out.kp k9 (fun k hk => by omega)
        have HTs9 := own_kp HTs8.out k9 (fun k hk => by omega)
        have HMs10 : Hid _ := HMs9
        have HEs10 : Hid _ := HEs9
        have HTs10 : Hid _ := HTs9
        have HM : Hid (msr g ts.length (w7.setCell ⟨M, 1, none⟩ (.slice va (nA + 1) vc)) < msr g ts.length wr) := by
          show _ < _
          rw [msr_rd h9]; exact HW.out
        clear h8 BR8 BM8 K8 HMs8 HEs8 HTs8 HW mc mf HMs9 HEs9 HTs9 k9
        go_wp2_with fail
        go_roundw
        case rel => exact ⟨⟨s.name, s.msgs ++ [m], s.enums, s.methods⟩, _, ve, vt, pm ++ [(_, _)], pe, σ4, HZ7, HMs10, HEs10, HTs10, h9, K9, HB7, BR9, BM9⟩
        case measure => exact HM.out
      · have HE : Hid (pOn (.inr (t :: r)) (pOne [kMessage, kEnum, kCall]) = .inr (t, r)) := e1
        rw [HE.out] at h6 ⊢
        simp only [res, stX] at h6 ⊢
        have hd0 : (t.toList == [109, 101, 115, 115, 97, 103, 101]) = false := by rw [ByteArray.toList_eq, ht]; decide +kernel
        have hd1 : (t.toList == [101, 110, 117, 109]) = true := by rw [ByteArray.toList_eq, ht]; decide +kernel
        have HT : Hid (t.data.toList = kEnum.data.toList) := ht
        clear e1 ht HE
        go_wp2_with fail
        refine wp_region_held_drew (S := fun _ => True) (by kernel_rfl) trivial (fun hS => ?_)
        refine rg_take 0 29 (.pointer (some ⟨M, 2, none⟩)) _ rfl rfl (by kernel_rfl) (by kernel_rfl) (by kernel_rfl) (fun _ _ _ h => h) (by rfl) (fun w' hw' => ?_) hS (listed' := #[true, false, false, false, false, false, false, false]) (by kernel_rfl) rfl ?_
        · go_simp
        simp only [List.setIfInBounds_toArray, List.set_cons_zero, List.set_cons_succ]
        refine rg_take 2 31 (.pointer (some ⟨g, 0, none⟩)) _ rfl rfl (by kernel_rfl) (by kernel_rfl) (by kernel_rfl) (fun _ _ _ h => h) (by rfl) (fun w' hw' => ?_) hS (listed' := #[true, false, true, false, false, false, false, false]) (by kernel_rfl) rfl ?_
        · go_simp
        simp only [List.setIfInBounds_toArray, List.set_cons_zero, List.set_cons_succ]
        refine rg_lcb 1 3 4 30 32 33 ve 33 #[.pointer (some ⟨g, 0, none⟩)] (fun W => W.cell? ⟨M, 2, none⟩ = some ve) rfl rfl rfl rfl rfl rfl (by kernel_rfl) (by kernel_rfl) (by kernel_rfl) (by kernel_rfl) (by kernel_rfl) (fun _ => rfl) (fun _ => rfl) (fun _ => rfl) (by decide) (by decide) (by decide) (by decide) ?g0 ?g1 ?g2 ?g3 ?g4 ?_
        case g0 => have hcv := (BM6.cell 2).trans rfl; go_simp
        case g1 => intro v W hW; simp only [List.setIfInBounds_toArray, List.set_cons_zero, List.set_cons_succ]; go_simp
        case g2 => intro v s W hW; simp only [List.setIfInBounds_toArray, List.set_cons_zero, List.set_cons_succ]; go_simp
        case g3 => go_simp
        case g4 => intro W; simp only [List.setIfInBounds_toArray, List.set_cons_zero, List.set_cons_succ]; go_simp
        have h6d : Rd w5.drew g V ts E (.inr r) := h6.below (Below.refl _ _).drew
        have hH := HMs6.out.high
        refine (renum_any h6d).mono ?_
        rintro e w6 ⟨m, vv, rfl, rm, h7, k7, hf, _⟩
        have e0 : pOn (.inr r) pEnum = pEnum r := rfl
        rw [e0] at h7 rm
        clear e0
        have k7' : Kp (fun k => k = g) w5 w6 := ⟨k7.os, k7.tape, k7.output, k7.size, k7.block⟩
        have hdh : w5.drew.heap.size = w5.heap.size := rfl
        have BR7 := BR6.kp k7' (by omega)
        have BM7 := BM6.kp k7' (by omega)
        have K7 := K6.trans k7'
        have HMs7 : Hid (MsO w6 (M + 1) vm (s.msgs.map preM) pm) := HMs6.out.kp k7' (fun k hk => by omega)
        have HEs7 : Hid (EnO w6 (M + 1) ve s.enums pe) := HEs6.out.kp k7' (fun k hk => by omega)
        have HTs7 := own_kpH HTs6 k7' (fun k hk => by omega)
        obtain ⟨q7, q8⟩ := decl_enum (s := s) HT.out rm
        have HZ7 : Hid (Z = pOn (stX (pDecl s (t :: r))) fun r => pDecls r.length ⟨s.name, s.msgs, s.enums ++ [m], s.methods⟩ r) := HZ2.out _ q8
        rw [← q7] at h7
        have HB7 : Hid (Bd ts.length (stX (pDecl s (t :: r))) s.msgs.length ∧ Bd ts.length (stX (pDecl s (t :: r))) (s.enums ++ [m]).length ∧ Bd ts.length (stX (pDecl s (t :: r))) s.methods.length) := by
          show _ ∧ _ ∧ _
          exact ⟨HB.out.1.keep (decl_lt s (t :: r)).le, by rw [List.length_append]; exact HB.out.2.1.step (decl_lt s (t :: r)), HB.out.2.2.keep (decl_lt s (t :: r)).le⟩
        have hlen : s.enums.length ≤ 100000 := by have h1 := HB.out.1.2 _ rfl; have h2 := HB.out.2.1.2 _ rfl; have h3 := HB.out.2.2.2 _ rfl; omega
        clear h6 h6d K6 HMs6 HEs6 HTs6 BR6 BM6 k7 k7' HB HZ2 q7 q8 rm HT
        generalize stX (pDecl s (t :: r)) = σ4 at *
        have hM7 : M + 1 ≤ w6.heap.size := BM7.lt
        rw [hdh] at hf
        obtain ⟨fa, fc, hvv⟩ := own_form hf
        subst hvv
        obtain ⟨nF, hnF⟩ : ∃ n, m.values.length = n := ⟨_, rfl⟩
        have HNF : Hid (m.values.length = nF) := hnF
        rw [hnF] at hf
        rw [hnF]
        clear hnF
        refine ⟨_, rfl, (BM7.cell 2).trans rfl, .slice (some ⟨w6.heap.size, 0, none⟩) 1 1, w6.alloc (.cells #[.string m.name, .slice fa nF fc] 69), ((BM7.below ((Below.refl _ _).alloc (Nat.le_refl _) _)).cell 2).trans rfl, by simp only [List.setIfInBounds_toArray, List.set_cons_zero, List.set_cons_succ]; go_simp, by simp only [List.setIfInBounds_toArray, List.set_cons_zero, List.set_cons_succ]; go_simp, ?_⟩
        have HOv : Hid (w6.ownsRow (M + 1) 69 2 ve s.enums.length (enRows s.enums pe).flatten) := HEs7.out.own
        obtain ⟨v6, w7, hrun, ho6, hg6, _, hat6⟩ := run_append_own_at (P := Tryd.prog) (w6.alloc (.cells #[.string m.name, .slice fa nF fc] 69)) (M + 1) 24 24 69 iE _ 2 40 Tryd.underlying24 hiE hzE0 hzE1 hzE2 rfl (by decide) _ _ _ (HOv.out.alloc _) ⟨w6.heap.size, 0, none⟩ 1 1 [.string m.name, .slice fa nF fc] rfl (cells_new _ #[.string m.name, .slice fa nF fc] _) (by intro u hu; simp at hu; rcases hu with rfl | rfl <;> rfl) (by unfold maxLen; omega) (by omega) (by simp; omega)
        have k67 : Kp (fun k => ve.ownBlock = some k) w6 w7 := ((Kp.refl _ _).alloc _).grown hg6 (fun k hk _ => hk)
        have hvb : ∀ k, ve.ownBlock = some k → M + 1 ≤ k := fun k hk => (HOv.out.lt k hk).1
        have h8 : Rd w7 g V ts E σ4 := h7.kp k67 (fun k hk e => by have := hvb k e; omega)
        have BR8 := BR7.kp k67 (fun e => by have := hvb _ e; omega)
        have BM8 := BM7.kp k67 (fun e => by have := hvb _ e; omega)
        have K8 : Kp (fun k => k = g) w w7 := K7.trans2 k67 (fun k hk e => by have := HR.out; have := hvb k e; omega)
        have HEs8 : Hid (EnO w7 (M + 1) v6 (s.enums ++ [m]) (pe ++ [.slice fa nF fc])) := by
          refine HEs7.out.snoc (m := m) (H := w5.heap.size) (by omega) ?_ ho6 k67
          rw [HNF.out]; exact hf
        have HMs8 : Hid (MsO w7 (M + 1) vm (s.msgs.map preM) pm) := HMs7.out.beside HOv.out (by decide) (by decide) (by decide) k67
        have HTs8 : Hid (w7.ownsRow (M + 1) 73 3 vt s.methods.length (mtRows s.methods).flatten) := own_kpV HTs7.out k67 (fun k hk e => own_apart HOv.out HTs7.out (by decide) k e hk)
        obtain ⟨nA, hnA⟩ : ∃ n, s.enums.length = n := ⟨_, rfl⟩
        rw [hnA] at ho6
        obtain ⟨va, vc, hvv⟩ := own_form ho6
        subst hvv
        have mc := BM8.cell 2
        have mf := BM8.froz 2
        simp only [List.getElem?_toArray, List.getElem?_cons_succ, List.getElem?_cons_zero] at mc
        clear ho6 hg6 hat6 k67 hvb h7 BR7 BM7 K7 HMs7 HEs7 HTs7 hnA HOv hH
        simp only [List.setIfInBounds_toArray, List.set_cons_zero, List.set_cons_succ]
        refine rg_run 5 34 (.slice va (nA + 1) vc) w7 rfl rfl (by kernel_rfl) (by rfl) (listed' := #[true, true, true, true, true, true, false, false]) (by kernel_rfl) ?_ trivial ?_
        · exact append_run rfl rfl rfl hrun
        clear hrun
        simp only [List.setIfInBounds_toArray, List.set_cons_zero, List.set_cons_succ]
        refine rg_run 6 35 (.pointer (some ⟨M, 2, none⟩)) w7 rfl rfl (by kernel_rfl) (by rfl) (listed' := #[true, true, true, true, true, true, true, false]) (by kernel_rfl) ?_ trivial ?_
        · go_simp
        simp only [List.setIfInBounds_toArray, List.set_cons_zero, List.set_cons_succ]
        refine rg_store 7 (w7.setCell ⟨M, 2, none⟩ (.slice va (nA + 1) vc)) rfl rfl (by kernel_rfl) (by rfl) (listed' := #[true, true, true, true, true, true, true, true]) (by kernel_rfl) ?_ trivial ?_
        · go_simp
        refine wpAnyH_done (by kernel_rfl) ?_ _
        have k9 : Kp (fun k => k = M) w7 (w7.setCell ⟨M, 2, none⟩ (.slice va (nA + 1) vc)) := Kp.setCell (p := ⟨M, 2, none⟩) (Kp.refl (fun k => k = M) w7) (fun _ => rfl) _
        have h9 : Rd (w7.setCell ⟨M, 2, none⟩ (.slice va (nA + 1) vc)) g V ts E σ4 := h8.other hgM _
        have BR9 := BR8.kp k9 (by omega)
        have BM9 : Blk (w7.setCell ⟨M, 2, none⟩ (.slice va (nA + 1) vc)) M #[.string s.name, vm, .slice va (nA + 1) vc, vt] 27 := BM8.set 2 _ rfl
        have K9 : Kp (fun k => k = g) w (w7.setCell ⟨M, 2, none⟩ (.slice va (nA + 1) vc)) := K8.setCell (fun hlt => by have := HR.out; simp only at hlt; omega) _
        have HMs9 := HMs8.out.kp k9 (fun k hk => by omega)
        have HEs9 := HEs8.out.kp k9 (fun k hk => by omega)
        have HTs9 := own_kp HTs8.out k9 (fun k hk => by omega)
        have HMs10 : Hid _ := HMs9
        have HEs10 : Hid _ := HEs9
        have HTs10 : Hid _ := HTs9
        have HM : Hid (msr g ts.length (w7.setCell ⟨M, 2, none⟩ (.slice va (nA + 1) vc)) < msr g ts.length wr) := by
          show _ < _
          rw [msr_rd h9]; exact HW.out
        clear h8 BR8 BM8 K8 HMs8 HEs8 HTs8 HW mc mf HMs9 HEs9 HTs9 k9
        go_wp2_with fail
        go_roundw
        case rel => exact ⟨⟨s.name, s.msgs, s.enums ++ [m], s.methods⟩, vm, _, vt, pm, pe ++ [_], σ4, HZ7, HMs10, HEs10, HTs10, h9, K9, HB7, BR9, BM9⟩
        case measure => exact HM.out
      · have HE : Hid (pOn (.inr (t :: r)) (pOne [kMessage, kEnum, kCall]) = .inr (t, r)) := e1
        rw [HE.out] at h6 ⊢
        simp only [res, stX] at h6 ⊢
        have hd0 : (t.toList == [109, 101, 115, 115, 97, 103, 101]) = false := by rw [ByteArray.toList_eq, ht]; decide +kernel
        have hd1 : (t.toList == [101, 110, 117, 109]) = false := by rw [ByteArray.toList_eq, ht]; decide +kernel
        have hd2 : (t.toList == [99, 97, 108, 108]) = true := by rw [ByteArray.toList_eq, ht]; decide +kernel
        have HT : Hid (t.data.toList = kCall.data.toList) := ht
        clear e1 ht HE
        go_wp2_with fail
        refine wp_region_held_drew (S := fun _ => True) (by kernel_rfl) trivial (fun hS => ?_)
        refine rg_take 0 38 (.pointer (some ⟨M, 3, none⟩)) _ rfl rfl (by kernel_rfl) (by kernel_rfl) (by kernel_rfl) (fun _ _ _ h => h) (by rfl) (fun w' hw' => ?_) hS (listed' := #[true, false, false, false, false, false, false, false]) (by kernel_rfl) rfl ?_
        · go_simp
        simp only [List.setIfInBounds_toArray, List.set_cons_zero, List.set_cons_succ]
        refine rg_take 2 40 (.pointer (some ⟨g, 0, none⟩)) _ rfl rfl (by kernel_rfl) (by kernel_rfl) (by kernel_rfl) (fun _ _ _ h => h) (by rfl) (fun w' hw' => ?_) hS (listed' := #[true, false, true, false, false, false, false, false]) (by kernel_rfl) rfl ?_
        · go_simp
        simp only [List.setIfInBounds_toArray, List.set_cons_zero, List.set_cons_succ]
        refine rg_lcb 1 3 4 39 41 42 vt 34 #[.pointer (some ⟨g, 0, none⟩)] (fun W => W.cell? ⟨M, 3, none⟩ = some vt) rfl rfl rfl rfl rfl rfl (by kernel_rfl) (by kernel_rfl) (by kernel_rfl) (by kernel_rfl) (by kernel_rfl) (fun _ => rfl) (fun _ => rfl) (fun _ => rfl) (by decide) (by decide) (by decide) (by decide) ?g0 ?g1 ?g2 ?g3 ?g4 ?_
        case g0 => have hcv := (BM6.cell 3).trans rfl; go_simp
        case g1 => intro v W hW; simp only [List.setIfInBounds_toArray, List.set_cons_zero, List.set_cons_succ]; go_simp
        case g2 => intro v s W hW; simp only [List.setIfInBounds_toArray, List.set_cons_zero, List.set_cons_succ]; go_simp
        case g3 => go_simp
        case g4 => intro W; simp only [List.setIfInBounds_toArray, List.set_cons_zero, List.set_cons_succ]; go_simp
        have h6d : Rd w5.drew g V ts E (.inr r) := h6.below (Below.refl _ _).drew
        have hH := HMs6.out.high
        refine (rcall_any h6d).mono ?_
        rintro e w6 ⟨m, rfl, rm, h7, k7⟩
        have e0 : pOn (.inr r) pCall = pCall r := rfl
        rw [e0] at h7 rm
        clear e0
        have k7' : Kp (fun k => k = g) w5 w6 := ⟨k7.os, k7.tape, k7.output, k7.size, k7.block⟩
        have hdh : w5.drew.heap.size = w5.heap.size := rfl
        have BR7 := BR6.kp k7' (by omega)
        have BM7 := BM6.kp k7' (by omega)
        have K7 := K6.trans k7'
        have HMs7 : Hid (MsO w6 (M + 1) vm (s.msgs.map preM) pm) := HMs6.out.kp k7' (fun k hk => by omega)
        have HEs7 : Hid (EnO w6 (M + 1) ve s.enums pe) := HEs6.out.kp k7' (fun k hk => by omega)
        have HTs7 := own_kpH HTs6 k7' (fun k hk => by omega)
        obtain ⟨q7, q8⟩ := decl_call (s := s) HT.out rm
        have HZ7 : Hid (Z = pOn (stX (pDecl s (t :: r))) fun r => pDecls r.length ⟨s.name, s.msgs, s.enums, s.methods ++ [m]⟩ r) := HZ2.out _ q8
        rw [← q7] at h7
        have HB7 : Hid (Bd ts.length (stX (pDecl s (t :: r))) s.msgs.length ∧ Bd ts.length (stX (pDecl s (t :: r))) s.enums.length ∧ Bd ts.length (stX (pDecl s (t :: r))) (s.methods ++ [m]).length) := by
          show _ ∧ _ ∧ _
          exact ⟨HB.out.1.keep (decl_lt s (t :: r)).le, HB.out.2.1.keep (decl_lt s (t :: r)).le, by rw [List.length_append]; exact HB.out.2.2.step (decl_lt s (t :: r))⟩
        have hlen : s.methods.length ≤ 100000 := by have h1 := HB.out.1.2 _ rfl; have h2 := HB.out.2.1.2 _ rfl; have h3 := HB.out.2.2.2 _ rfl; omega
        clear h6 h6d K6 HMs6 HEs6 HTs6 BR6 BM6 k7 k7' HB HZ2 q7 q8 rm HT
        generalize stX (pDecl s (t :: r)) = σ4 at *
        have hM7 : M + 1 ≤ w6.heap.size := BM7.lt

        refine ⟨_, rfl, (BM7.cell 3).trans rfl, .slice (some ⟨w6.heap.size, 0, none⟩) 1 1, w6.alloc (.cells #[.string m.name, .string m.inn, .string m.out] 73), ((BM7.below ((Below.refl _ _).alloc (Nat.le_refl _) _)).cell 3).trans rfl, by simp only [List.setIfInBounds_toArray, List.set_cons_zero, List.set_cons_succ]; go_simp, by simp only [List.setIfInBounds_toArray, List.set_cons_zero, List.set_cons_succ]; go_simp, ?_⟩
        have HOv : Hid (w6.ownsRow (M + 1) 73 3 vt s.methods.length (mtRows s.methods).flatten) := HTs7.out
        obtain ⟨v6, w7, hrun, ho6, hg6, _, hat6⟩ := run_append_own_at (P := Tryd.prog) (w6.alloc (.cells #[.string m.name, .string m.inn, .string m.out] 73)) (M + 1) 25 25 73 iT _ 3 48 Tryd.underlying25 hiT hzT0 hzT1 hzT2 rfl (by decide) _ _ _ (HOv.out.alloc _) ⟨w6.heap.size, 0, none⟩ 1 1 [.string m.name, .string m.inn, .string m.out] rfl (cells_new _ #[.string m.name, .string m.inn, .string m.out] _) (by intro u hu; simp at hu; rcases hu with rfl | rfl | rfl <;> rfl) (by unfold maxLen; omega) (by omega) (by simp; omega)
        have k67 : Kp (fun k => vt.ownBlock = some k) w6 w7 := ((Kp.refl _ _).alloc _).grown hg6 (fun k hk _ => hk)
        have hvb : ∀ k, vt.ownBlock = some k → M + 1 ≤ k := fun k hk => (HOv.out.lt k hk).1
        have h8 : Rd w7 g V ts E σ4 := h7.kp k67 (fun k hk e => by have := hvb k e; omega)
        have BR8 := BR7.kp k67 (fun e => by have := hvb _ e; omega)
        have BM8 := BM7.kp k67 (fun e => by have := hvb _ e; omega)
        have K8 : Kp (fun k => k = g) w w7 := K7.trans2 k67 (fun k hk e => by have := HR.out; have := hvb k e; omega)
        have HTs8 : Hid (w7.ownsRow (M + 1) 73 3 v6 (s.methods ++ [m]).length (mtRows (s.methods ++ [m])).flatten) := by
          show World.ownsRow _ _ _ _ _ _ _
          rw [mt_snoc, List.length_append]; exact ho6
        have HMs8 : Hid (MsO w7 (M + 1) vm (s.msgs.map preM) pm) := HMs7.out.beside HOv.out (by decide) (by decide) (by decide) k67
        have HEs8 : Hid (EnO w7 (M + 1) ve s.enums pe) := HEs7.out.beside HOv.out (by decide) (by decide) k67
        obtain ⟨nA, hnA⟩ : ∃ n, s.methods.length = n := ⟨_, rfl⟩
        rw [hnA] at ho6
        obtain ⟨va, vc, hvv⟩ := own_form ho6
        subst hvv
        have mc := BM8.cell 3
        have mf := BM8.froz 3
        simp only [List.getElem?_toArray, List.getElem?_cons_succ, List.getElem?_cons_zero] at mc
        clear ho6 hg6 hat6 k67 hvb h7 BR7 BM7 K7 HMs7 HEs7 HTs7 hnA HOv hH
        simp only [List.setIfInBounds_toArray, List.set_cons_zero, List.set_cons_succ]
        refine rg_run 5 43 (.slice va (nA + 1) vc) w7 rfl rfl (by kernel_rfl) (by rfl) (listed' := #[true, true, true, true, true, true, false, false]) (by kernel_rfl) ?_ trivial ?_
        · exact append_run rfl rfl rfl hrun
        clear hrun
        simp only [List.setIfInBounds_toArray, List.set_cons_zero, List.set_cons_succ]
        refine rg_run 6 44 (.pointer (some ⟨M, 3, none⟩)) w7 rfl rfl (by kernel_rfl) (by rfl) (listed' := #[true, true, true, true, true, true, true, false]) (by kernel_rfl) ?_ trivial ?_
        · go_simp
        simp only [List.setIfInBounds_toArray, List.set_cons_zero, List.set_cons_succ]
        refine rg_store 7 (w7.setCell ⟨M, 3, none⟩ (.slice va (nA + 1) vc)) rfl rfl (by kernel_rfl) (by rfl) (listed' := #[true, true, true, true, true, true, true, true]) (by kernel_rfl) ?_ trivial ?_
        · go_simp
        refine wpAnyH_done (by kernel_rfl) ?_ _
        have k9 : Kp (fun k => k = M) w7 (w7.setCell ⟨M, 3, none⟩ (.slice va (nA + 1) vc)) := Kp.setCell (p := ⟨M, 3, none⟩) (Kp.refl (fun k => k = M) w7) (fun _ => rfl) _
        have h9 : Rd (w7.setCell ⟨M, 3, none⟩ (.slice va (nA + 1) vc)) g V ts E σ4 := h8.other hgM _
        have BR9 := BR8.kp k9 (by omega)
        have BM9 : Blk (w7.setCell ⟨M, 3, none⟩ (.slice va (nA + 1) vc)) M #[.string s.name, vm, ve, .slice va (nA + 1) vc] 27 := BM8.set 3 _ rfl
        have K9 : Kp (fun k => k = g) w (w7.setCell ⟨M, 3, none⟩ (.slice va (nA + 1) vc)) := K8.setCell (fun hlt => by have := HR.out; simp only at hlt; omega) _
        have HMs9 := HMs8.out.kp k9 (fun k hk => by omega)
        have HEs9 := HEs8.out.kp k9 (fun k hk => by omega)
        have HTs9 := own_kp HTs8.out k9 (fun k hk => by omega)
        have HMs10 : Hid _ := HMs9
        have HEs10 : Hid _ := HEs9
        have HTs10 : Hid _ := HTs9
        have HM : Hid (msr g ts.length (w7.setCell ⟨M, 3, none⟩ (.slice va (nA + 1) vc)) < msr g ts.length wr) := by
          show _ < _
          rw [msr_rd h9]; exact HW.out
        clear h8 BR8 BM8 K8 HMs8 HEs8 HTs8 HW mc mf HMs9 HEs9 HTs9 k9
        go_wp2_with fail
        go_roundw
        case rel => exact ⟨⟨s.name, s.msgs, s.enums, s.methods ++ [m]⟩, vm, ve, _, pm, pe, σ4, HZ7, HMs10, HEs10, HTs10, h9, K9, HB7, BR9, BM9⟩
        case measure => exact HM.out
      · have HE : Hid (pOn (.inr (t :: r)) (pOne [kMessage, kEnum, kCall]) = .inl (r.length + 1)) := e1
        rw [HE.out] at h6 ⊢
        simp only [res, stX, noT] at h6 ⊢
        have HZ7 : Hid (Z = pOn (.inl (r.length + 1)) fun r => pDecls r.length s r) := by
          have := HZ2.out s (by rw [e2]; exact Res.no)
          rw [e2] at this
          exact this
        have HB7 : Hid (Bd ts.length (.inl (r.length + 1)) s.msgs.length ∧ Bd ts.length (.inl (r.length + 1)) s.enums.length ∧ Bd ts.length (.inl (r.length + 1)) s.methods.length) := ⟨⟨HB.out.1.1, fun _ e => by cases e⟩, ⟨HB.out.2.1.1, fun _ e => by cases e⟩, ⟨HB.out.2.2.1, fun _ e => by cases e⟩⟩
        have HM : Hid (msr g ts.length w5 < msr g ts.length wr) := by
          show _ < _
          rw [msr_rd h6]
          have := HW.out
          rw [e2] at this
          exact this
        clear e1 e2 HE HZ2 HB HW
        go_wp2_with fail
        go_roundw
        case rel => exact ⟨s, vm, ve, vt, pm, pe, _, HZ7, HMs6, HEs6, HTs6, h6, K6, HB7, BR6, BM6⟩
        case measure => exact HM.out
end Go.Proofs.YtfffjfccochccaaDoor

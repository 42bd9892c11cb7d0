/- CheckSpoilt, walked. -/
import Derived.Test.YtomeppgmmlaibaaLwFew
import Derived.Test.YtomeppgmmlaibaaLwSchema
import Derived.Test.YtomeppgmmlaibaaLwPlaceI
import Derived.Test.YtomeppgmmlaibaaMsSetF
import Derived.Test.YtomeppgmmlaibaaCkFindM
import Derived.Test.YtomeppgmmlaibaaCkAwake
import Derived.Test.YtomeppgmmlaibaaScOpen
namespace Go.Proofs.Ytomeppgmmlaibaa
open Go.ChangeShapes Go.WideShapes Go.ChangeAt Go.RowKit
set_option linter.unusedVariables false
set_option linter.unusedSimpArgs false
set_option maxRecDepth 20000

theorem i64_0 : I64 0 := ⟨by decide, by decide⟩
theorem i64_7 : I64 7 := ⟨by decide, by decide⟩
theorem i64_501 : I64 501 := ⟨by decide, by decide⟩
theorem i64_4 : I64 4 := ⟨by decide, by decide⟩
theorem own_fw {w : World} {B n : Nat} {q cap : Nat} {fs : List FlS} (h : w.ownsRow B 52 5 (.slice (some ⟨q, 0, none⟩) n cap) n (flRows fs).flatten) {j : Nat} {f : FlS} (hj : fs[j]? = some f) :
    w.cell? ⟨q, j * 5, none⟩ = some (.string f.name) ∧ w.cell? ⟨q, j * 5 + 1, none⟩ = some (.int .i64 f.tag) ∧ w.cell? ⟨q, j * 5 + 2, none⟩ = some (.int .i64 f.label) ∧ w.cell? ⟨q, j * 5 + 3, none⟩ = some (.int .i64 f.kind) ∧ w.cell? ⟨q, j * 5 + 4, none⟩ = some (.string f.tname) :=
  ⟨own_at (fl_len fs) h (fl_get hj) (j := 0) rfl, own_at (fl_len fs) h (fl_get hj) (j := 1) rfl, own_at (fl_len fs) h (fl_get hj) (j := 2) rfl, own_at (fl_len fs) h (fl_get hj) (j := 3) rfl, own_at (fl_len fs) h (fl_get hj) (j := 4) rfl⟩
theorem spoilt_w {s : ScS} (hw : ScW s) {i j : Nat} {m : MsS} {f' : FlS} (hi : s.msgs[i]? = some m) (hf : FlW f') : ScW (spoiltS s i j m f') := by
  refine ⟨hw.name, fun m' hm' => ?_, hw.enums, hw.meths⟩
  rcases List.mem_or_eq_of_mem_set hm' with h | rfl
  · exact hw.msgs m' h
  · have := hw.msgs m (List.mem_of_getElem? hi)
    refine ⟨this.1, fun f hf' => ?_, this.2.2⟩
    rcases List.mem_or_eq_of_mem_set hf' with h | rfl
    · exact this.2.1 f h
    · exact hf
theorem spoilt_few {s : ScS} (hw : FewL s) {i j : Nat} {m : MsS} {f' : FlS} (hi : s.msgs[i]? = some m) : FewL (spoiltS s i j m f') := by
  refine ⟨by show (s.msgs.set i _).length ≤ 14; rw [List.length_set]; exact hw.msgs, hw.enums, hw.meths, fun m' hm' => ?_, hw.vals⟩
  rcases List.mem_or_eq_of_mem_set hm' with h | rfl
  · exact hw.flds m' h
  · have := hw.flds m (List.mem_of_getElem? hi)
    exact ⟨by show (m.fields.set j f').length ≤ 20; rw [List.length_set]; exact this.1, this.2⟩
theorem nobody_no {s : ScS} (h : (s.msgs.find? fun m => decide (m.name = kNobody)).isSome = false) : memB kNobody s.mn = false := by
  rw [memB_no]
  intro hm
  obtain ⟨m, h1, h2⟩ := List.mem_map.1 hm
  have : (s.msgs.find? fun m => decide (m.name = kNobody)) ≠ none := by
    rw [ne_eq, List.find?_eq_none]
    intro hh
    exact hh m h1 (by simp [h2])
  cases hf : s.msgs.find? fun m => decide (m.name = kNobody) with
  | none => exact this hf
  | some x => rw [hf] at h; cases h
set_option maxHeartbeats 8000000 in
theorem checkSpoilt_walk (v : Value) (s : ScS) (a1 a2 : Int) (w : World) (hr : ScIn w v s) (hw : ScW s) (g1 : (Lit.int .i64 a1).wf = true) (g2 : (Lit.int .i64 a2).wf = true) :
    Calls Try.prog 5 #[v, .int .i64 a1, .int .i64 a2] w fun e w' => e = .returned (.bool true) ∧ Below w.heap.size w w' := by
  obtain ⟨i1, i2⟩ := bounds_i64 g1
  obtain ⟨i3, i4⟩ := bounds_i64 g2
  have HSC : Hid (ScIn w v s) := hr
  have HW : Hid (ScW s) := hw
  obtain ⟨vm0, ve0, vt0, rfl, hm, he, ht⟩ := hr
  obtain ⟨am, cm, rfl, qm1, qm2⟩ := hm.form2
  obtain ⟨ae, ce, rfl, qe1, qe2⟩ := he.form2
  obtain ⟨at', ct, rfl, qt1, qt2⟩ := ht.form2
  clear hm he ht hw g1 g2
  generalize (mtRows s.methods).length = T at *
  obtain ⟨nm, hnm⟩ : ∃ x, s.name = x := ⟨_, rfl⟩
  obtain ⟨M, hM⟩ : ∃ N, s.msgs.length = N := ⟨_, rfl⟩
  obtain ⟨E, hE⟩ : ∃ N, s.enums.length = N := ⟨_, rfl⟩
  rw [hnm, hM, hE] at HSC ⊢
  have HNM : Hid (s.name = nm) := hnm
  have HM : Hid (s.msgs.length = M) := hM
  have HE : Hid (s.enums.length = E) := hE
  clear hnm hM hE qm1 qe1 qt1 qm2 qe2 qt2
  have hba : Below w.heap.size w (w.alloc (.cells #[.string nm, .slice am M cm, .slice ae E ce, .slice at' T ct] 26)) := (Below.refl _ _).alloc (Nat.le_refl _) _
  have BX := Blk.new w #[.string nm, .slice am M cm, .slice ae E ce, .slice at' T ct] 26
  go_enter Try.func5, Try.ntmps5
  go_wp2_with fail
  refine (few_any (HSC.out.below hba) HW.out).mono ?_
  rintro e w1 ⟨hP, hb1⟩
  have hbw1 : Below w.heap.size w w1 := hba.trans (hb1.mono hba.size)
  rcases hP with rfl | ⟨rfl, hF⟩
  · go_wp2_with fail
    refine (awake_any _).mono ?_
    rintro e w2 ⟨rfl, hb2⟩
    go_wp2_with fail
    go_ret
    exact ⟨rfl, hbw1.trans (hb2.mono hbw1.size)⟩
  have HF : Hid (FewS s) := hF
  clear hF
  have BX1 := BX.below hb1
  have c0 := (BX1.cell 0).trans rfl
  have c1 := (BX1.cell 1).trans rfl
  have c2 := (BX1.cell 2).trans rfl
  have c3 := (BX1.cell 3).trans rfl
  go_wp2_with fail
  clear c0 c1 c2 c3 hb1 BX
  refine (schema_any (HSC.out.below hbw1) HF.out.few).mono ?_
  rintro e w2 ⟨um, ue, ut, qm, qe, rfl, hM2, hE2, hT2, hb2⟩
  have HCK : Hid (Calls Try.prog 11 #[.agg #[.string s.name, um, ue, ut]] w2 fun e w' => e = .returned (.int .i64 (checkA s)) ∧ Below w2.heap.size w2 w') := check_any ⟨_, _, _, rfl, hM2.to_in, hE2.to_in, mt_in hT2⟩ HW.out HF.out.few
  rw [HNM.out] at HCK ⊢
  have hbw2 : Below w.heap.size w w2 := hbw1.trans (hb2.mono hbw1.size)
  have BX2 := BX1.below hb2
  clear hM2 hE2 hT2 hb2 BX1 hbw1
  go_wp2_with fail
  refine HCK.out.mono ?_
  rintro e w3 ⟨rfl, hb3⟩
  have hbw3 : Below w.heap.size w w3 := hbw2.trans (hb3.mono hbw2.size)
  have BX3 := BX2.below hb3
  by_cases hok : checkA s = 0
  case neg =>
    have e1 : (checkA s == 0) = false := by simpa using hok
    go_wp2_with fail
    refine (awake_any _).mono ?_
    rintro e w4 ⟨rfl, hb4⟩
    go_wp2_with fail
    go_ret
    exact ⟨rfl, hbw3.trans (hb4.mono hbw3.size)⟩
  have HOK : Hid (checkA s = 0) := hok
  rw [hok]
  have hM0 : 0 < M := by have := ((checkA_ok s).1 hok).some; rw [HM.out] at this; exact this
  clear hok HCK hb3 BX2 hbw2
  have c0 := (BX3.cell 0).trans rfl
  have c1 := (BX3.cell 1).trans rfl
  have c2 := (BX3.cell 2).trans rfl
  have c3 := (BX3.cell 3).trans rfl
  go_wp2_with fail
  clear c0 c1 c2 c3
  refine (schema_any (HSC.out.below hbw3) HF.out.few).mono ?_
  rintro e w4 ⟨tm, te, tt, pm, pe, rfl, hM4, hE4, hT4, hb4⟩
  have hbw4 : Below w.heap.size w w4 := hbw3.trans (hb4.mono hbw3.size)
  have hB4 : w.heap.size ≤ w3.heap.size := hbw3.size
  have hM4 := hM4.base hB4
  have hE4 := hE4.base hB4
  have hT4 := own_base hT4 hB4
  rw [HNM.out]
  obtain ⟨q, qc, hq, hqa, hqb, hqc⟩ := hM4.addr (by rw [HM.out]; exact hM0)
  obtain ⟨ea, ec, hev⟩ := own_form hE4.own
  obtain ⟨ta, tc, htv⟩ := own_form hT4
  subst hq
  subst hev
  subst htv
  have HMS : Hid (MsO w4 w.heap.size (.slice (some ⟨q, 0, none⟩) s.msgs.length qc) s.msgs pm) := hM4
  have HEN : Hid (EnO w4 w.heap.size (.slice ea s.enums.length ec) s.enums pe) := hE4
  have HTS : Hid (w4.ownsRow w.heap.size 44 3 (.slice ta s.methods.length tc) s.methods.length (mtRows s.methods).flatten) := hT4
  have HQC : Hid _ := hqc
  rw [HM.out] at HMS hqa ⊢
  rw [HE.out] at HEN ⊢
  obtain ⟨T2, hT2⟩ : ∃ x, s.methods.length = x := ⟨_, rfl⟩
  rw [hT2] at HTS ⊢
  have HT2 : Hid (s.methods.length = T2) := hT2
  clear hT2 hM4 hE4 hT4 hqc BX3 hb4 hbw3 hB4
  -- the place of the message
  obtain ⟨k, hk⟩ := Int.eq_ofNat_of_zero_le (placeI_in a1 M (by omega)).1
  have hkM : k < M := by have := (placeI_in a1 M (by omega)).2; rw [hk] at this; omega
  have HPL : Hid (∀ W : World, Calls Try.prog 25 #[.int .i64 a1, .int .i64 (M : Int)] W fun e w' => e = .returned (.int .i64 (k : Int)) ∧ w' = W) := fun W => by rw [← hk]; exact place_is a1 M (by omega) (by omega) (by omega) (by have := HF.out.msgs; have := HM.out; omega) W
  clear hk
  go_wp2_with fail
  go_quiet ((go_at_call 25; exact Calls.quiet_of_same (HPL.out _)))
  have hb5 : Below w4.heap.size w4 ((w4.alloc (.cells #[.string nm, .slice (some ⟨q, 0, none⟩) M qc, .slice ea E ec, .slice ta T2 tc] 26)).drewN nq) := below_drewN nq ((Below.refl _ _).alloc (Nat.le_refl _) _)
  have BT : Blk ((w4.alloc (.cells #[.string nm, .slice (some ⟨q, 0, none⟩) M qc, .slice ea E ec, .slice ta T2 tc] 26)).drewN nq) w4.heap.size #[.string nm, .slice (some ⟨q, 0, none⟩) M qc, .slice ea E ec, .slice ta T2 tc] 26 := (Blk.new w4 #[.string nm, .slice (some ⟨q, 0, none⟩) M qc, .slice ea E ec, .slice ta T2 tc] 26).below (below_drewN nq (Below.refl _ _))
  generalize (w4.alloc (.cells #[.string nm, .slice (some ⟨q, 0, none⟩) M qc, .slice ea E ec, .slice ta T2 tc] 26)).drewN nq = W5 at *
  have HMS : Hid (MsO W5 w.heap.size (.slice (some ⟨q, 0, none⟩) M qc) s.msgs pm) := HMS.out.below hb5
  have HEN : Hid (EnO W5 w.heap.size (.slice ea E ec) s.enums pe) := HEN.out.below hb5
  have HTS : Hid (W5.ownsRow w.heap.size 44 3 (.slice ta T2 tc) T2 (mtRows s.methods).flatten) := own_below HTS.out hb5
  have hbw5 : Below w.heap.size w W5 := hbw4.trans (hb5.mono hbw4.size)
  have hwb : w.heap.size ≤ w4.heap.size := hbw4.size
  obtain ⟨bt, hbt⟩ : ∃ n, w4.heap.size = n := ⟨_, rfl⟩
  rw [hbt] at BT hwb ⊢
  clear hbt hb5 hbw4 HPL HQC
  obtain ⟨m, hm⟩ : ∃ x, s.msgs[k]? = some x := ⟨_, List.getElem?_eq_getElem (by rw [HM.out]; exact hkM)⟩
  obtain ⟨p, hp⟩ : ∃ x, pm[k]? = some x := ⟨_, List.getElem?_eq_getElem (by rw [HMS.out.len, HM.out]; exact hkM)⟩
  have hrow := (HMS.out.each k m p hm hp).1
  have hres := (HMS.out.each k m p hm hp).2
  have hcell : W5.cell? ⟨q, k * 3 + 1, none⟩ = some p.1 := own_at (ms_len s.msgs pm) (by have := HMS.out.own; rw [HM.out] at this; exact this) (ms_get hm hp) (j := 1) rfl
  have HIM : Hid (s.msgs[k]? = some m) := hm
  have HIP : Hid (pm[k]? = some p) := hp
  have hfl := (HF.out.eachM m (List.mem_of_getElem? hm)).2.1
  clear hm hp
  by_cases hn0 : m.fields.length = 0
  · obtain ⟨fa, fc, hpv⟩ := own_form hrow
    rw [hpv, hn0] at hcell
    go_wp2_with fail
    refine (awake_any _).mono ?_
    rintro e w6 ⟨rfl, hb6⟩
    go_wp2_with fail
    go_ret
    exact ⟨rfl, hbw5.trans (hb6.mono hbw5.size)⟩
  obtain ⟨qf, fc, hpv, hfa, hfb, _, hqfl⟩ := own_addr hrow (by omega)
  rw [hpv] at hcell hrow
  have HPV : Hid (p.1 = .slice (some ⟨qf, 0, none⟩) m.fields.length fc) := hpv
  have HRW : Hid (W5.ownsRow w.heap.size 52 5 (.slice (some ⟨qf, 0, none⟩) m.fields.length fc) m.fields.length (flRows m.fields).flatten) := hrow
  obtain ⟨nF, hnF⟩ : ∃ x, m.fields.length = x := ⟨_, rfl⟩
  rw [hnF] at hcell HRW hn0 hfl hfa HPV
  have HNF : Hid (m.fields.length = nF) := hnF
  unfold maxLen at hfb
  clear hnF hpv hrow hres
  have hz0 : ((nF : Int) == 0) = false := by rw [beq_eq_false_iff_ne]; omega
  have hdv : -9223372036854775808 ≤ a1.tdiv 16 ∧ a1.tdiv 16 ≤ 9223372036854775807 := by
    have h1 : a1.tdiv 16 = if 0 ≤ a1 then a1 / 16 else -((-a1) / 16) := by
      split
      · rename_i h; exact Int.tdiv_eq_ediv_of_nonneg h
      · rename_i h
        have : a1.tdiv 16 = -((-a1).tdiv 16) := by rw [Int.neg_tdiv, Int.neg_neg]
        rw [this, Int.tdiv_eq_ediv_of_nonneg (by omega)]
    rw [h1]; split <;> omega
  obtain ⟨j, hj⟩ := Int.eq_ofNat_of_zero_le (placeI_in (a1.tdiv 16) nF (by omega)).1
  have hjF : j < nF := by have := (placeI_in (a1.tdiv 16) nF (by omega)).2; rw [hj] at this; omega
  have HPL : Hid (∀ W : World, Calls Try.prog 25 #[.int .i64 (a1.tdiv 16), .int .i64 (nF : Int)] W fun e w' => e = .returned (.int .i64 (j : Int)) ∧ w' = W) := fun W => by rw [← hj]; exact place_is (a1.tdiv 16) nF hdv.1 hdv.2 (by omega) (by omega) W
  clear hj
  go_wp2_with fail
  go_quiet ((go_at_call 25; exact Calls.quiet_of_same (HPL.out _)))
  have HD : Below W5.heap.size W5 (W5.drewN nq) := below_drewN nq (Below.refl _ _)
  generalize W5.drewN nq = W6 at *
  have BT6 := BT.below HD
  have HMS6 : Hid (MsO W6 w.heap.size (.slice (some ⟨q, 0, none⟩) M qc) s.msgs pm) := HMS.out.below HD
  have HEN6 : Hid (EnO W6 w.heap.size (.slice ea E ec) s.enums pe) := HEN.out.below HD
  have HTS6 : Hid (W6.ownsRow w.heap.size 44 3 (.slice ta T2 tc) T2 (mtRows s.methods).flatten) := own_below HTS.out HD
  have HRW6 : Hid (W6.ownsRow w.heap.size 52 5 (.slice (some ⟨qf, 0, none⟩) nF fc) nF (flRows m.fields).flatten) := own_below HRW.out HD
  have hbw6 : Below w.heap.size w W6 := hbw5.trans (HD.mono hbw5.size)
  clear HD BT HMS HEN HTS HRW hbw5 HPL hcell
  obtain ⟨f, hf⟩ : ∃ x, m.fields[j]? = some x := ⟨_, List.getElem?_eq_getElem (by rw [HNF.out]; exact hjF)⟩
  have HJF : Hid (m.fields[j]? = some f) := hf
  obtain ⟨d0, d1, d2, d3, d4⟩ := own_fw HRW6.out hf
  have z0 := own_froz HRW6.out (j * 5)
  have z1 := own_froz HRW6.out (j * 5 + 1)
  have z2 := own_froz HRW6.out (j * 5 + 2)
  have z3 := own_froz HRW6.out (j * 5 + 3)
  have z4 := own_froz HRW6.out (j * 5 + 4)
  have HFW : Hid (FlW f) := (HW.out.msgs m (List.mem_of_getElem? HIM.out)).2.1 f (List.mem_of_getElem? hf)
  obtain ⟨f0, f1, f2, f3, f4⟩ := f
  simp only at d0 d1 d2 d3 d4
  have HKA : Hid (∀ W7 : World, Kp (fun b => b = qf) W6 W7 → Blk W7 bt #[.string nm, .slice (some ⟨q, 0, none⟩) M qc, .slice ea E ec, .slice ta T2 tc] 26 ∧ EnO W7 w.heap.size (.slice ea E ec) s.enums pe ∧ W7.ownsRow w.heap.size 44 3 (.slice ta T2 tc) T2 (mtRows s.methods).flatten ∧ Below w.heap.size w W7) := fun W7 hk => by
    have hk' : Kp (fun b => (Value.slice (some ⟨qf, 0, none⟩) nF fc).ownBlock = some b) W6 W7 := hk.weak (fun b _ e => by subst e; rfl)
    refine ⟨BT6.kp hk' (fun e => by have := own_type HRW6.out e BT6; revert this; decide), HEN6.out.beside HRW6.out (by decide) (by decide) hk', own_kpV HTS6.out hk' (fun b hv hq => own_apart HRW6.out HTS6.out (by decide) b hq hv), hbw6.trans (hk.toBelow hbw6.size (fun b e => by have := (HRW6.out.lt qf rfl).1; omega))⟩
  have HKM : Hid (∀ (W7 : World) (f' : FlS), Kp (fun b => b = qf) W6 W7 → W7.ownsRow w.heap.size 52 5 (.slice (some ⟨qf, 0, none⟩) nF fc) nF (flRows (m.fields.set j f')).flatten → MsO W7 w.heap.size (.slice (some ⟨q, 0, none⟩) M qc) (s.msgs.set k (putF m j f')) pm) := fun W7 f' hk ho => by
    refine HMS6.out.setF HIM.out HIP.out ?_ (by rw [HPV.out]; exact hk.weak (fun b _ e => by subst e; rfl))
    rw [HPV.out, HNF.out]; exact ho
  obtain ⟨h, hh⟩ := Int.eq_ofNat_of_zero_le (placeI_in a2 5 (by omega)).1
  have hh5 : h < 5 := by have := (placeI_in a2 5 (by omega)).2; rw [hh] at this; omega
  have HPL : Hid (∀ W : World, Calls Try.prog 25 #[.int .i64 a2, .int .i64 5] W fun e w' => e = .returned (.int .i64 (h : Int)) ∧ w' = W) := fun W => by rw [← hh]; exact place_is a2 5 (by omega) (by omega) (by omega) (by omega) W
  have hne : bt ≠ qf := fun e => by subst e; have := own_type HRW6.out rfl BT6; revert this; decide
  have b0 := (BT6.cell 0).trans rfl
  have b1 := (BT6.cell 1).trans rfl
  have b2 := (BT6.cell 2).trans rfl
  have b3 := (BT6.cell 3).trans rfl
  clear hh BT6 hbw6
  go_wp2_with fail
  refine (HPL.out _).mono ?_
  rintro e w7 ⟨rfl, rfl⟩
  have h5 : h = 0 ∨ h = 1 ∨ h = 2 ∨ h = 3 ∨ h = 4 := by omega
  clear hh5 HPL
  rcases h5 with rfl | rfl | rfl | rfl | rfl
  · go_wp2_with fail
    clear d0 d1 d2 d3 d4 z0 z1 z2 z3 z4 b0 b1 b2 b3
    have hset := own_set HRW6.out (j := j * 5) (.string ⟨#[114, 101, 116, 117, 114, 110, 115]⟩)
    rw [show (flRows m.fields).flatten.set (j * 5) (.string ⟨#[114, 101, 116, 117, 114, 110, 115]⟩) = (flRows (m.fields.set j ⟨⟨#[114, 101, 116, 117, 114, 110, 115]⟩, f1, f2, f3, f4⟩)).flatten from fl_put HJF.out (c := 0) (u := .string ⟨#[114, 101, 116, 117, 114, 110, 115]⟩) (by decide) rfl] at hset
    have KS : Kp (fun b => b = qf) w7 (w7.setCell ⟨qf, j * 5, none⟩ (.string ⟨#[114, 101, 116, 117, 114, 110, 115]⟩)) := by
      refine Kp.setCell ?_ (fun _ => by simp) _
      exact Kp.refl _ _
    have hM7 := HKM.out (w7.setCell ⟨qf, j * 5, none⟩ (.string ⟨#[114, 101, 116, 117, 114, 110, 115]⟩)) ⟨⟨#[114, 101, 116, 117, 114, 110, 115]⟩, f1, f2, f3, f4⟩ KS hset
    obtain ⟨BT7, hE7, hT7, hbw7⟩ := HKA.out (w7.setCell ⟨qf, j * 5, none⟩ (.string ⟨#[114, 101, 116, 117, 114, 110, 115]⟩)) KS
    clear hset KS
    generalize (w7.setCell ⟨qf, j * 5, none⟩ (.string ⟨#[114, 101, 116, 117, 114, 110, 115]⟩)) = W7 at *
    obtain ⟨a1', a2', a3', a4', a5'⟩ := HFW.out
    have HW7 : Hid (ScW (spoiltS s k j m ⟨⟨#[114, 101, 116, 117, 114, 110, 115]⟩, f1, f2, f3, f4⟩)) := spoilt_w HW.out HIM.out ⟨(by show ByteArray.size ⟨#[114, 101, 116, 117, 114, 110, 115]⟩ ≤ 140737488351232; decide), a2', a3', a4', a5'⟩
    have HF7 : Hid (FewL (spoiltS s k j m ⟨⟨#[114, 101, 116, 117, 114, 110, 115]⟩, f1, f2, f3, f4⟩)) := spoilt_few HF.out.few HIM.out
    have HIN : Hid (MsIn W7 (.slice (some ⟨q, 0, none⟩) M qc) (spoiltS s k j m ⟨⟨#[114, 101, 116, 117, 114, 110, 115]⟩, f1, f2, f3, f4⟩).msgs) := hM7.to_in
    have HIE : Hid (EnIn W7 (.slice ea E ec) s.enums) := hE7.to_in
    have HIT : Hid (RowG W7 (.slice ta T2 tc) 3 (mtRows s.methods)) := own_rowT hT7
    clear hM7 hE7 hT7 a1' a2' a3' a4' a5'
    refine (cmessage_any HIN.out HF7.out.flds).mono ?_
    rintro e w8 ⟨vf, vr, rfl, hvf, hvr, hb8⟩
    obtain ⟨xa, xc, rfl⟩ := own_form hvf
    obtain ⟨ya, yc, rfl⟩ := own_form hvr
    generalize (((spoiltS s k j m ⟨⟨#[114, 101, 116, 117, 114, 110, 115]⟩, f1, f2, f3, f4⟩).msgs.find? fun x => decide (x.name = ⟨#[110, 111, 98, 111, 100, 121, 95, 97, 116, 95, 97, 108, 108]⟩)).getD zeroM).fields.length = xn at *
    generalize (((spoiltS s k j m ⟨⟨#[114, 101, 116, 117, 114, 110, 115]⟩, f1, f2, f3, f4⟩).msgs.find? fun x => decide (x.name = ⟨#[110, 111, 98, 111, 100, 121, 95, 97, 116, 95, 97, 108, 108]⟩)).getD zeroM).reserved.length = yn at *
    generalize (((spoiltS s k j m ⟨⟨#[114, 101, 116, 117, 114, 110, 115]⟩, f1, f2, f3, f4⟩).msgs.find? fun x => decide (x.name = ⟨#[110, 111, 98, 111, 100, 121, 95, 97, 116, 95, 97, 108, 108]⟩)).getD zeroM).name = xm at *
    clear hvf hvr
    have BT8 := BT7.below hb8
    have hbw8 : Below w.heap.size w w8 := hbw7.trans (hb8.mono hbw7.size)
    have hbt8 : bt < w8.heap.size := BT8.lt
    cases hfd : ((spoiltS s k j m ⟨⟨#[114, 101, 116, 117, 114, 110, 115]⟩, f1, f2, f3, f4⟩).msgs.find? fun x => decide (x.name = ⟨#[110, 111, 98, 111, 100, 121, 95, 97, 116, 95, 97, 108, 108]⟩)).isSome
    · have HNO : Hid (memB kNobody s.mn = false) := by
        have := nobody_no (s := spoiltS s k j m ⟨⟨#[114, 101, 116, 117, 114, 110, 115]⟩, f1, f2, f3, f4⟩) hfd
        rw [set_names HIM.out] at this
        exact this
      have HX : Hid (checkA (spoiltS s k j m ⟨⟨#[114, 101, 116, 117, 114, 110, 115]⟩, f1, f2, f3, f4⟩) = 6) := spoil0 HOK.out HIM.out HJF.out
      have c0 := (BT8.cell 0).trans rfl
      have c1 := (BT8.cell 1).trans rfl
      have c2 := (BT8.cell 2).trans rfl
      have c3 := (BT8.cell 3).trans rfl
      clear hfd
      go_wp2_with fail
      clear c0 c1 c2 c3
      have hal : Below w8.heap.size w8 (w8.alloc (.cells #[.string xm, .slice xa xn xc, .slice ya yn yc] 35)) := (Below.refl _ _).alloc (Nat.le_refl _) _
      have hb78 : Below W7.heap.size W7 (w8.alloc (.cells #[.string xm, .slice xa xn xc, .slice ya yn yc] 35)) := hb8.trans (hal.mono hb8.size)
      have hsc : ScIn (w8.alloc (.cells #[.string xm, .slice xa xn xc, .slice ya yn yc] 35)) (.agg #[.string nm, .slice (some ⟨q, 0, none⟩) M qc, .slice ea E ec, .slice ta T2 tc]) (spoiltS s k j m ⟨⟨#[114, 101, 116, 117, 114, 110, 115]⟩, f1, f2, f3, f4⟩) := by
        refine ⟨_, _, _, ?_, HIN.out.below hb78, HIE.out.below hb78, HIT.out.below hb78⟩
        rw [← HNM.out]; rfl
      refine (check_any hsc HW7.out HF7.out).mono ?_
      rintro e w9 ⟨rfl, hb9⟩
      rw [HX.out]
      have hbw9 : Below w.heap.size w w9 := (hbw8.trans (hal.mono hbw8.size)).trans (hb9.mono (Nat.le_trans hbw8.size hal.size))
      clear hsc hal hb78
      go_wp2_with fail
      refine (awake_any _).mono ?_
      rintro e w10 ⟨rfl, hb10⟩
      go_wp2_with fail
      go_ret
      exact ⟨rfl, hbw9.trans (hb10.mono hbw9.size)⟩
    · clear hfd
      go_wp2_with fail
      refine (awake_any _).mono ?_
      rintro e w10 ⟨rfl, hb10⟩
      go_wp2_with fail
      go_ret
      exact ⟨rfl, (hbw8.alloc hbw8.size _).trans (hb10.mono (by simp; have := hbw8.size; omega))⟩
  · go_wp2_with fail
    clear d0 d1 d2 d3 d4 z0 z1 z2 z3 z4 b0 b1 b2 b3
    have hset := own_set HRW6.out (j := j * 5 + 1) (.int .i64 0)
    rw [show (flRows m.fields).flatten.set (j * 5 + 1) (.int .i64 0) = (flRows (m.fields.set j ⟨f0, 0, f2, f3, f4⟩)).flatten from fl_put HJF.out (c := 1) (u := .int .i64 0) (by decide) rfl] at hset
    have KS : Kp (fun b => b = qf) w7 (w7.setCell ⟨qf, j * 5 + 1, none⟩ (.int .i64 0)) := by
      refine Kp.setCell ?_ (fun _ => by simp) _
      exact Kp.refl _ _
    have hM7 := HKM.out (w7.setCell ⟨qf, j * 5 + 1, none⟩ (.int .i64 0)) ⟨f0, 0, f2, f3, f4⟩ KS hset
    obtain ⟨BT7, hE7, hT7, hbw7⟩ := HKA.out (w7.setCell ⟨qf, j * 5 + 1, none⟩ (.int .i64 0)) KS
    clear hset KS
    generalize (w7.setCell ⟨qf, j * 5 + 1, none⟩ (.int .i64 0)) = W7 at *
    obtain ⟨a1', a2', a3', a4', a5'⟩ := HFW.out
    have HW7 : Hid (ScW (spoiltS s k j m ⟨f0, 0, f2, f3, f4⟩)) := spoilt_w HW.out HIM.out ⟨a1', a2', i64_0, a4', a5'⟩
    have HF7 : Hid (FewL (spoiltS s k j m ⟨f0, 0, f2, f3, f4⟩)) := spoilt_few HF.out.few HIM.out
    have HIN : Hid (MsIn W7 (.slice (some ⟨q, 0, none⟩) M qc) (spoiltS s k j m ⟨f0, 0, f2, f3, f4⟩).msgs) := hM7.to_in
    have HIE : Hid (EnIn W7 (.slice ea E ec) s.enums) := hE7.to_in
    have HIT : Hid (RowG W7 (.slice ta T2 tc) 3 (mtRows s.methods)) := own_rowT hT7
    clear hM7 hE7 hT7 a1' a2' a3' a4' a5'
    refine (cmessage_any HIN.out HF7.out.flds).mono ?_
    rintro e w8 ⟨vf, vr, rfl, hvf, hvr, hb8⟩
    obtain ⟨xa, xc, rfl⟩ := own_form hvf
    obtain ⟨ya, yc, rfl⟩ := own_form hvr
    generalize (((spoiltS s k j m ⟨f0, 0, f2, f3, f4⟩).msgs.find? fun x => decide (x.name = ⟨#[110, 111, 98, 111, 100, 121, 95, 97, 116, 95, 97, 108, 108]⟩)).getD zeroM).fields.length = xn at *
    generalize (((spoiltS s k j m ⟨f0, 0, f2, f3, f4⟩).msgs.find? fun x => decide (x.name = ⟨#[110, 111, 98, 111, 100, 121, 95, 97, 116, 95, 97, 108, 108]⟩)).getD zeroM).reserved.length = yn at *
    generalize (((spoiltS s k j m ⟨f0, 0, f2, f3, f4⟩).msgs.find? fun x => decide (x.name = ⟨#[110, 111, 98, 111, 100, 121, 95, 97, 116, 95, 97, 108, 108]⟩)).getD zeroM).name = xm at *
    clear hvf hvr
    have BT8 := BT7.below hb8
    have hbw8 : Below w.heap.size w w8 := hbw7.trans (hb8.mono hbw7.size)
    have hbt8 : bt < w8.heap.size := BT8.lt
    cases hfd : ((spoiltS s k j m ⟨f0, 0, f2, f3, f4⟩).msgs.find? fun x => decide (x.name = ⟨#[110, 111, 98, 111, 100, 121, 95, 97, 116, 95, 97, 108, 108]⟩)).isSome
    · have HNO : Hid (memB kNobody s.mn = false) := by
        have := nobody_no (s := spoiltS s k j m ⟨f0, 0, f2, f3, f4⟩) hfd
        rw [set_names HIM.out] at this
        exact this
      have HX : Hid (checkA (spoiltS s k j m ⟨f0, 0, f2, f3, f4⟩) = 7) := spoil1 HOK.out HIM.out HJF.out 0 (by decide)
      have c0 := (BT8.cell 0).trans rfl
      have c1 := (BT8.cell 1).trans rfl
      have c2 := (BT8.cell 2).trans rfl
      have c3 := (BT8.cell 3).trans rfl
      clear hfd
      go_wp2_with fail
      clear c0 c1 c2 c3
      have hal : Below w8.heap.size w8 (w8.alloc (.cells #[.string xm, .slice xa xn xc, .slice ya yn yc] 35)) := (Below.refl _ _).alloc (Nat.le_refl _) _
      have hb78 : Below W7.heap.size W7 (w8.alloc (.cells #[.string xm, .slice xa xn xc, .slice ya yn yc] 35)) := hb8.trans (hal.mono hb8.size)
      have hsc : ScIn (w8.alloc (.cells #[.string xm, .slice xa xn xc, .slice ya yn yc] 35)) (.agg #[.string nm, .slice (some ⟨q, 0, none⟩) M qc, .slice ea E ec, .slice ta T2 tc]) (spoiltS s k j m ⟨f0, 0, f2, f3, f4⟩) := by
        refine ⟨_, _, _, ?_, HIN.out.below hb78, HIE.out.below hb78, HIT.out.below hb78⟩
        rw [← HNM.out]; rfl
      refine (check_any hsc HW7.out HF7.out).mono ?_
      rintro e w9 ⟨rfl, hb9⟩
      rw [HX.out]
      have hbw9 : Below w.heap.size w w9 := (hbw8.trans (hal.mono hbw8.size)).trans (hb9.mono (Nat.le_trans hbw8.size hal.size))
      clear hsc hal hb78
      go_wp2_with fail
      refine (awake_any _).mono ?_
      rintro e w10 ⟨rfl, hb10⟩
      go_wp2_with fail
      go_ret
      exact ⟨rfl, hbw9.trans (hb10.mono hbw9.size)⟩
    · clear hfd
      go_wp2_with fail
      refine (awake_any _).mono ?_
      rintro e w10 ⟨rfl, hb10⟩
      go_wp2_with fail
      go_ret
      exact ⟨rfl, (hbw8.alloc hbw8.size _).trans (hb10.mono (by simp; have := hbw8.size; omega))⟩
  · go_wp2_with fail
    clear d0 d1 d2 d3 d4 z0 z1 z2 z3 z4 b0 b1 b2 b3
    have hset := own_set HRW6.out (j := j * 5 + 3) (.int .i64 7)
    rw [show (flRows m.fields).flatten.set (j * 5 + 3) (.int .i64 7) = (flRows (m.fields.set j ⟨f0, f1, f2, 7, f4⟩)).flatten from fl_put HJF.out (c := 3) (u := .int .i64 7) (by decide) rfl] at hset
    have hset := own_set hset (j := j * 5 + 4) (.string ⟨#[110, 111, 98, 111, 100, 121, 95, 97, 116, 95, 97, 108, 108]⟩)
    have hjj : (m.fields.set j ⟨f0, f1, f2, 7, f4⟩)[j]? = some ⟨f0, f1, f2, 7, f4⟩ := by rw [List.getElem?_set, if_pos rfl, if_pos (List.getElem?_eq_some_iff.1 HJF.out).1]
    rw [show (flRows (m.fields.set j ⟨f0, f1, f2, 7, f4⟩)).flatten.set (j * 5 + 4) (.string ⟨#[110, 111, 98, 111, 100, 121, 95, 97, 116, 95, 97, 108, 108]⟩) = (flRows ((m.fields.set j ⟨f0, f1, f2, 7, f4⟩).set j ⟨f0, f1, f2, 7, ⟨#[110, 111, 98, 111, 100, 121, 95, 97, 116, 95, 97, 108, 108]⟩⟩)).flatten from fl_put hjj (c := 4) (u := .string ⟨#[110, 111, 98, 111, 100, 121, 95, 97, 116, 95, 97, 108, 108]⟩) (by decide) rfl, List.set_set] at hset
    have KS : Kp (fun b => b = qf) w7 ((w7.setCell ⟨qf, j * 5 + 3, none⟩ (.int .i64 7)).setCell ⟨qf, j * 5 + 4, none⟩ (.string ⟨#[110, 111, 98, 111, 100, 121, 95, 97, 116, 95, 97, 108, 108]⟩)) := by
      refine Kp.setCell ?_ (fun _ => by simp) _
      refine Kp.setCell ?_ (fun _ => by simp) _
      exact Kp.refl _ _
    have hM7 := HKM.out ((w7.setCell ⟨qf, j * 5 + 3, none⟩ (.int .i64 7)).setCell ⟨qf, j * 5 + 4, none⟩ (.string ⟨#[110, 111, 98, 111, 100, 121, 95, 97, 116, 95, 97, 108, 108]⟩)) ⟨f0, f1, f2, 7, ⟨#[110, 111, 98, 111, 100, 121, 95, 97, 116, 95, 97, 108, 108]⟩⟩ KS hset
    obtain ⟨BT7, hE7, hT7, hbw7⟩ := HKA.out ((w7.setCell ⟨qf, j * 5 + 3, none⟩ (.int .i64 7)).setCell ⟨qf, j * 5 + 4, none⟩ (.string ⟨#[110, 111, 98, 111, 100, 121, 95, 97, 116, 95, 97, 108, 108]⟩)) KS
    clear hset KS
    generalize ((w7.setCell ⟨qf, j * 5 + 3, none⟩ (.int .i64 7)).setCell ⟨qf, j * 5 + 4, none⟩ (.string ⟨#[110, 111, 98, 111, 100, 121, 95, 97, 116, 95, 97, 108, 108]⟩)) = W7 at *
    obtain ⟨a1', a2', a3', a4', a5'⟩ := HFW.out
    have HW7 : Hid (ScW (spoiltS s k j m ⟨f0, f1, f2, 7, ⟨#[110, 111, 98, 111, 100, 121, 95, 97, 116, 95, 97, 108, 108]⟩⟩)) := spoilt_w HW.out HIM.out ⟨a1', (by show ByteArray.size ⟨#[110, 111, 98, 111, 100, 121, 95, 97, 116, 95, 97, 108, 108]⟩ ≤ 140737488351232; decide), a3', a4', i64_7⟩
    have HF7 : Hid (FewL (spoiltS s k j m ⟨f0, f1, f2, 7, ⟨#[110, 111, 98, 111, 100, 121, 95, 97, 116, 95, 97, 108, 108]⟩⟩)) := spoilt_few HF.out.few HIM.out
    have HIN : Hid (MsIn W7 (.slice (some ⟨q, 0, none⟩) M qc) (spoiltS s k j m ⟨f0, f1, f2, 7, ⟨#[110, 111, 98, 111, 100, 121, 95, 97, 116, 95, 97, 108, 108]⟩⟩).msgs) := hM7.to_in
    have HIE : Hid (EnIn W7 (.slice ea E ec) s.enums) := hE7.to_in
    have HIT : Hid (RowG W7 (.slice ta T2 tc) 3 (mtRows s.methods)) := own_rowT hT7
    clear hM7 hE7 hT7 a1' a2' a3' a4' a5'
    refine (cmessage_any HIN.out HF7.out.flds).mono ?_
    rintro e w8 ⟨vf, vr, rfl, hvf, hvr, hb8⟩
    obtain ⟨xa, xc, rfl⟩ := own_form hvf
    obtain ⟨ya, yc, rfl⟩ := own_form hvr
    generalize (((spoiltS s k j m ⟨f0, f1, f2, 7, ⟨#[110, 111, 98, 111, 100, 121, 95, 97, 116, 95, 97, 108, 108]⟩⟩).msgs.find? fun x => decide (x.name = ⟨#[110, 111, 98, 111, 100, 121, 95, 97, 116, 95, 97, 108, 108]⟩)).getD zeroM).fields.length = xn at *
    generalize (((spoiltS s k j m ⟨f0, f1, f2, 7, ⟨#[110, 111, 98, 111, 100, 121, 95, 97, 116, 95, 97, 108, 108]⟩⟩).msgs.find? fun x => decide (x.name = ⟨#[110, 111, 98, 111, 100, 121, 95, 97, 116, 95, 97, 108, 108]⟩)).getD zeroM).reserved.length = yn at *
    generalize (((spoiltS s k j m ⟨f0, f1, f2, 7, ⟨#[110, 111, 98, 111, 100, 121, 95, 97, 116, 95, 97, 108, 108]⟩⟩).msgs.find? fun x => decide (x.name = ⟨#[110, 111, 98, 111, 100, 121, 95, 97, 116, 95, 97, 108, 108]⟩)).getD zeroM).name = xm at *
    clear hvf hvr
    have BT8 := BT7.below hb8
    have hbw8 : Below w.heap.size w w8 := hbw7.trans (hb8.mono hbw7.size)
    have hbt8 : bt < w8.heap.size := BT8.lt
    cases hfd : ((spoiltS s k j m ⟨f0, f1, f2, 7, ⟨#[110, 111, 98, 111, 100, 121, 95, 97, 116, 95, 97, 108, 108]⟩⟩).msgs.find? fun x => decide (x.name = ⟨#[110, 111, 98, 111, 100, 121, 95, 97, 116, 95, 97, 108, 108]⟩)).isSome
    · have HNO : Hid (memB kNobody s.mn = false) := by
        have := nobody_no (s := spoiltS s k j m ⟨f0, f1, f2, 7, ⟨#[110, 111, 98, 111, 100, 121, 95, 97, 116, 95, 97, 108, 108]⟩⟩) hfd
        rw [set_names HIM.out] at this
        exact this
      have HX : Hid (checkA (spoiltS s k j m ⟨f0, f1, f2, 7, ⟨#[110, 111, 98, 111, 100, 121, 95, 97, 116, 95, 97, 108, 108]⟩⟩) = 8) := spoil2 HOK.out HIM.out HJF.out HNO.out
      have c0 := (BT8.cell 0).trans rfl
      have c1 := (BT8.cell 1).trans rfl
      have c2 := (BT8.cell 2).trans rfl
      have c3 := (BT8.cell 3).trans rfl
      clear hfd
      go_wp2_with fail
      clear c0 c1 c2 c3
      have hal : Below w8.heap.size w8 (w8.alloc (.cells #[.string xm, .slice xa xn xc, .slice ya yn yc] 35)) := (Below.refl _ _).alloc (Nat.le_refl _) _
      have hb78 : Below W7.heap.size W7 (w8.alloc (.cells #[.string xm, .slice xa xn xc, .slice ya yn yc] 35)) := hb8.trans (hal.mono hb8.size)
      have hsc : ScIn (w8.alloc (.cells #[.string xm, .slice xa xn xc, .slice ya yn yc] 35)) (.agg #[.string nm, .slice (some ⟨q, 0, none⟩) M qc, .slice ea E ec, .slice ta T2 tc]) (spoiltS s k j m ⟨f0, f1, f2, 7, ⟨#[110, 111, 98, 111, 100, 121, 95, 97, 116, 95, 97, 108, 108]⟩⟩) := by
        refine ⟨_, _, _, ?_, HIN.out.below hb78, HIE.out.below hb78, HIT.out.below hb78⟩
        rw [← HNM.out]; rfl
      refine (check_any hsc HW7.out HF7.out).mono ?_
      rintro e w9 ⟨rfl, hb9⟩
      rw [HX.out]
      have hbw9 : Below w.heap.size w w9 := (hbw8.trans (hal.mono hbw8.size)).trans (hb9.mono (Nat.le_trans hbw8.size hal.size))
      clear hsc hal hb78
      go_wp2_with fail
      refine (awake_any _).mono ?_
      rintro e w10 ⟨rfl, hb10⟩
      go_wp2_with fail
      go_ret
      exact ⟨rfl, hbw9.trans (hb10.mono hbw9.size)⟩
    · clear hfd
      go_wp2_with fail
      refine (awake_any _).mono ?_
      rintro e w10 ⟨rfl, hb10⟩
      go_wp2_with fail
      go_ret
      exact ⟨rfl, (hbw8.alloc hbw8.size _).trans (hb10.mono (by simp; have := hbw8.size; omega))⟩
  · go_wp2_with fail
    clear d0 d1 d2 d3 d4 z0 z1 z2 z3 z4 b0 b1 b2 b3
    have hset := own_set HRW6.out (j := j * 5 + 1) (.int .i64 501)
    rw [show (flRows m.fields).flatten.set (j * 5 + 1) (.int .i64 501) = (flRows (m.fields.set j ⟨f0, 501, f2, f3, f4⟩)).flatten from fl_put HJF.out (c := 1) (u := .int .i64 501) (by decide) rfl] at hset
    have KS : Kp (fun b => b = qf) w7 (w7.setCell ⟨qf, j * 5 + 1, none⟩ (.int .i64 501)) := by
      refine Kp.setCell ?_ (fun _ => by simp) _
      exact Kp.refl _ _
    have hM7 := HKM.out (w7.setCell ⟨qf, j * 5 + 1, none⟩ (.int .i64 501)) ⟨f0, 501, f2, f3, f4⟩ KS hset
    obtain ⟨BT7, hE7, hT7, hbw7⟩ := HKA.out (w7.setCell ⟨qf, j * 5 + 1, none⟩ (.int .i64 501)) KS
    clear hset KS
    generalize (w7.setCell ⟨qf, j * 5 + 1, none⟩ (.int .i64 501)) = W7 at *
    obtain ⟨a1', a2', a3', a4', a5'⟩ := HFW.out
    have HW7 : Hid (ScW (spoiltS s k j m ⟨f0, 501, f2, f3, f4⟩)) := spoilt_w HW.out HIM.out ⟨a1', a2', i64_501, a4', a5'⟩
    have HF7 : Hid (FewL (spoiltS s k j m ⟨f0, 501, f2, f3, f4⟩)) := spoilt_few HF.out.few HIM.out
    have HIN : Hid (MsIn W7 (.slice (some ⟨q, 0, none⟩) M qc) (spoiltS s k j m ⟨f0, 501, f2, f3, f4⟩).msgs) := hM7.to_in
    have HIE : Hid (EnIn W7 (.slice ea E ec) s.enums) := hE7.to_in
    have HIT : Hid (RowG W7 (.slice ta T2 tc) 3 (mtRows s.methods)) := own_rowT hT7
    clear hM7 hE7 hT7 a1' a2' a3' a4' a5'
    refine (cmessage_any HIN.out HF7.out.flds).mono ?_
    rintro e w8 ⟨vf, vr, rfl, hvf, hvr, hb8⟩
    obtain ⟨xa, xc, rfl⟩ := own_form hvf
    obtain ⟨ya, yc, rfl⟩ := own_form hvr
    generalize (((spoiltS s k j m ⟨f0, 501, f2, f3, f4⟩).msgs.find? fun x => decide (x.name = ⟨#[110, 111, 98, 111, 100, 121, 95, 97, 116, 95, 97, 108, 108]⟩)).getD zeroM).fields.length = xn at *
    generalize (((spoiltS s k j m ⟨f0, 501, f2, f3, f4⟩).msgs.find? fun x => decide (x.name = ⟨#[110, 111, 98, 111, 100, 121, 95, 97, 116, 95, 97, 108, 108]⟩)).getD zeroM).reserved.length = yn at *
    generalize (((spoiltS s k j m ⟨f0, 501, f2, f3, f4⟩).msgs.find? fun x => decide (x.name = ⟨#[110, 111, 98, 111, 100, 121, 95, 97, 116, 95, 97, 108, 108]⟩)).getD zeroM).name = xm at *
    clear hvf hvr
    have BT8 := BT7.below hb8
    have hbw8 : Below w.heap.size w w8 := hbw7.trans (hb8.mono hbw7.size)
    have hbt8 : bt < w8.heap.size := BT8.lt
    cases hfd : ((spoiltS s k j m ⟨f0, 501, f2, f3, f4⟩).msgs.find? fun x => decide (x.name = ⟨#[110, 111, 98, 111, 100, 121, 95, 97, 116, 95, 97, 108, 108]⟩)).isSome
    · have HNO : Hid (memB kNobody s.mn = false) := by
        have := nobody_no (s := spoiltS s k j m ⟨f0, 501, f2, f3, f4⟩) hfd
        rw [set_names HIM.out] at this
        exact this
      have HX : Hid (checkA (spoiltS s k j m ⟨f0, 501, f2, f3, f4⟩) = 7) := spoil1 HOK.out HIM.out HJF.out 501 (by decide)
      have c0 := (BT8.cell 0).trans rfl
      have c1 := (BT8.cell 1).trans rfl
      have c2 := (BT8.cell 2).trans rfl
      have c3 := (BT8.cell 3).trans rfl
      clear hfd
      go_wp2_with fail
      clear c0 c1 c2 c3
      have hal : Below w8.heap.size w8 (w8.alloc (.cells #[.string xm, .slice xa xn xc, .slice ya yn yc] 35)) := (Below.refl _ _).alloc (Nat.le_refl _) _
      have hb78 : Below W7.heap.size W7 (w8.alloc (.cells #[.string xm, .slice xa xn xc, .slice ya yn yc] 35)) := hb8.trans (hal.mono hb8.size)
      have hsc : ScIn (w8.alloc (.cells #[.string xm, .slice xa xn xc, .slice ya yn yc] 35)) (.agg #[.string nm, .slice (some ⟨q, 0, none⟩) M qc, .slice ea E ec, .slice ta T2 tc]) (spoiltS s k j m ⟨f0, 501, f2, f3, f4⟩) := by
        refine ⟨_, _, _, ?_, HIN.out.below hb78, HIE.out.below hb78, HIT.out.below hb78⟩
        rw [← HNM.out]; rfl
      refine (check_any hsc HW7.out HF7.out).mono ?_
      rintro e w9 ⟨rfl, hb9⟩
      rw [HX.out]
      have hbw9 : Below w.heap.size w w9 := (hbw8.trans (hal.mono hbw8.size)).trans (hb9.mono (Nat.le_trans hbw8.size hal.size))
      clear hsc hal hb78
      go_wp2_with fail
      refine (awake_any _).mono ?_
      rintro e w10 ⟨rfl, hb10⟩
      go_wp2_with fail
      go_ret
      exact ⟨rfl, hbw9.trans (hb10.mono hbw9.size)⟩
    · clear hfd
      go_wp2_with fail
      refine (awake_any _).mono ?_
      rintro e w10 ⟨rfl, hb10⟩
      go_wp2_with fail
      go_ret
      exact ⟨rfl, (hbw8.alloc hbw8.size _).trans (hb10.mono (by simp; have := hbw8.size; omega))⟩
  · go_wp2_with fail
    clear d0 d1 d2 d3 d4 z0 z1 z2 z3 z4 b0 b1 b2 b3
    have hset := own_set HRW6.out (j := j * 5 + 2) (.int .i64 4)
    rw [show (flRows m.fields).flatten.set (j * 5 + 2) (.int .i64 4) = (flRows (m.fields.set j ⟨f0, f1, 4, f3, f4⟩)).flatten from fl_put HJF.out (c := 2) (u := .int .i64 4) (by decide) rfl] at hset
    have KS : Kp (fun b => b = qf) w7 (w7.setCell ⟨qf, j * 5 + 2, none⟩ (.int .i64 4)) := by
      refine Kp.setCell ?_ (fun _ => by simp) _
      exact Kp.refl _ _
    have hM7 := HKM.out (w7.setCell ⟨qf, j * 5 + 2, none⟩ (.int .i64 4)) ⟨f0, f1, 4, f3, f4⟩ KS hset
    obtain ⟨BT7, hE7, hT7, hbw7⟩ := HKA.out (w7.setCell ⟨qf, j * 5 + 2, none⟩ (.int .i64 4)) KS
    clear hset KS
    generalize (w7.setCell ⟨qf, j * 5 + 2, none⟩ (.int .i64 4)) = W7 at *
    obtain ⟨a1', a2', a3', a4', a5'⟩ := HFW.out
    have HW7 : Hid (ScW (spoiltS s k j m ⟨f0, f1, 4, f3, f4⟩)) := spoilt_w HW.out HIM.out ⟨a1', a2', a3', i64_4, a5'⟩
    have HF7 : Hid (FewL (spoiltS s k j m ⟨f0, f1, 4, f3, f4⟩)) := spoilt_few HF.out.few HIM.out
    have HIN : Hid (MsIn W7 (.slice (some ⟨q, 0, none⟩) M qc) (spoiltS s k j m ⟨f0, f1, 4, f3, f4⟩).msgs) := hM7.to_in
    have HIE : Hid (EnIn W7 (.slice ea E ec) s.enums) := hE7.to_in
    have HIT : Hid (RowG W7 (.slice ta T2 tc) 3 (mtRows s.methods)) := own_rowT hT7
    clear hM7 hE7 hT7 a1' a2' a3' a4' a5'
    refine (cmessage_any HIN.out HF7.out.flds).mono ?_
    rintro e w8 ⟨vf, vr, rfl, hvf, hvr, hb8⟩
    obtain ⟨xa, xc, rfl⟩ := own_form hvf
    obtain ⟨ya, yc, rfl⟩ := own_form hvr
    generalize (((spoiltS s k j m ⟨f0, f1, 4, f3, f4⟩).msgs.find? fun x => decide (x.name = ⟨#[110, 111, 98, 111, 100, 121, 95, 97, 116, 95, 97, 108, 108]⟩)).getD zeroM).fields.length = xn at *
    generalize (((spoiltS s k j m ⟨f0, f1, 4, f3, f4⟩).msgs.find? fun x => decide (x.name = ⟨#[110, 111, 98, 111, 100, 121, 95, 97, 116, 95, 97, 108, 108]⟩)).getD zeroM).reserved.length = yn at *
    generalize (((spoiltS s k j m ⟨f0, f1, 4, f3, f4⟩).msgs.find? fun x => decide (x.name = ⟨#[110, 111, 98, 111, 100, 121, 95, 97, 116, 95, 97, 108, 108]⟩)).getD zeroM).name = xm at *
    clear hvf hvr
    have BT8 := BT7.below hb8
    have hbw8 : Below w.heap.size w w8 := hbw7.trans (hb8.mono hbw7.size)
    have hbt8 : bt < w8.heap.size := BT8.lt
    cases hfd : ((spoiltS s k j m ⟨f0, f1, 4, f3, f4⟩).msgs.find? fun x => decide (x.name = ⟨#[110, 111, 98, 111, 100, 121, 95, 97, 116, 95, 97, 108, 108]⟩)).isSome
    · have HNO : Hid (memB kNobody s.mn = false) := by
        have := nobody_no (s := spoiltS s k j m ⟨f0, f1, 4, f3, f4⟩) hfd
        rw [set_names HIM.out] at this
        exact this
      have HX : Hid (checkA (spoiltS s k j m ⟨f0, f1, 4, f3, f4⟩) = 8) := spoil4 HOK.out HIM.out HJF.out
      have c0 := (BT8.cell 0).trans rfl
      have c1 := (BT8.cell 1).trans rfl
      have c2 := (BT8.cell 2).trans rfl
      have c3 := (BT8.cell 3).trans rfl
      clear hfd
      go_wp2_with fail
      clear c0 c1 c2 c3
      have hal : Below w8.heap.size w8 (w8.alloc (.cells #[.string xm, .slice xa xn xc, .slice ya yn yc] 35)) := (Below.refl _ _).alloc (Nat.le_refl _) _
      have hb78 : Below W7.heap.size W7 (w8.alloc (.cells #[.string xm, .slice xa xn xc, .slice ya yn yc] 35)) := hb8.trans (hal.mono hb8.size)
      have hsc : ScIn (w8.alloc (.cells #[.string xm, .slice xa xn xc, .slice ya yn yc] 35)) (.agg #[.string nm, .slice (some ⟨q, 0, none⟩) M qc, .slice ea E ec, .slice ta T2 tc]) (spoiltS s k j m ⟨f0, f1, 4, f3, f4⟩) := by
        refine ⟨_, _, _, ?_, HIN.out.below hb78, HIE.out.below hb78, HIT.out.below hb78⟩
        rw [← HNM.out]; rfl
      refine (check_any hsc HW7.out HF7.out).mono ?_
      rintro e w9 ⟨rfl, hb9⟩
      rw [HX.out]
      have hbw9 : Below w.heap.size w w9 := (hbw8.trans (hal.mono hbw8.size)).trans (hb9.mono (Nat.le_trans hbw8.size hal.size))
      clear hsc hal hb78
      go_wp2_with fail
      refine (awake_any _).mono ?_
      rintro e w10 ⟨rfl, hb10⟩
      go_wp2_with fail
      go_ret
      exact ⟨rfl, hbw9.trans (hb10.mono hbw9.size)⟩
    · clear hfd
      go_wp2_with fail
      refine (awake_any _).mono ?_
      rintro e w10 ⟨rfl, hb10⟩
      go_wp2_with fail
      go_ret
      exact ⟨rfl, (hbw8.alloc hbw8.size _).trans (hb10.mono (by simp; have := hbw8.size; omega))⟩
end Go.Proofs.Ytomeppgmmlaibaa

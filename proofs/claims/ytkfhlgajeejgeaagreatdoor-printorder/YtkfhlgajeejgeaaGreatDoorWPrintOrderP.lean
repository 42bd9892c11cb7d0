/- PrintOrder, walked. -/
import Derived.Test.YtkfhlgajeejgeaaGreatDoorPkC
import Derived.Test.YtkfhlgajeejgeaaGreatDoorPkD
import Derived.Test.YtkfhlgajeejgeaaGreatDoorPkE
import Derived.Test.YtkfhlgajeejgeaaGreatDoorPkM
import Derived.Test.YtkfhlgajeejgeaaGreatDoorPoMathP
import Derived.Test.YtkfhlgajeejgeaaGreatDoorPoRowP
namespace Go.Proofs.YtkfhlgajeejgeaaGreatDoor
open Go.ChangeShapes Go.WideShapes Go.ChangeAt Go.RowKit
set_option linter.unusedVariables false
set_option linter.unusedSimpArgs false
set_option maxRecDepth 20000

theorem set_same {α : Type} : ∀ {l : List α} {i : Nat} {x : α}, l[i]? = some x → l.set i x = l
  | [], i, x, h => by simp at h
  | a :: l, 0, x, h => by simp at h; subst h; rfl
  | a :: l, i + 1, x, h => by rw [List.set_cons_succ, set_same (by simpa using h)]
set_option maxHeartbeats 16000000 in
theorem printOrder_walk (v : Value) (s : ScS) (w : World) (hr : ScIn w v s) (hw : ScW s) (hG : Glob w) (hPT : PTab w) :
    Calls Tryz.prog 6 #[v] w fun e w' => e = .returned (.bool true) ∧ Below w.heap.size w w' := by
  have HG : Hid (Glob w) := hG
  have HPT : Hid (PTab w) := hPT
  clear hG hPT
  have HSC : Hid (ScIn w v s) := hr
  have HW : Hid (ScW s) := hw
  obtain ⟨vm0, ve0, vt0, rfl, hm, he, ht⟩ := hr
  obtain ⟨am, cm, rfl, qm1, qm2⟩ := hm.form2
  obtain ⟨ae, ce, rfl, qe1, qe2⟩ := he.form2
  obtain ⟨at', ct, rfl, qt1, qt2⟩ := ht.form2
  have HMI : Hid (MsIn w (.slice am s.msgs.length cm) s.msgs) := hm
  have HEI : Hid (EnIn w (.slice ae s.enums.length ce) s.enums) := he
  have hTl : (mtRows s.methods).length = s.methods.length := by simp [mtRows]
  rw [hTl] at ht HSC ⊢
  have HTI : Hid (RowG w (.slice at' s.methods.length ct) 3 (mtRows s.methods)) := ht
  clear hm he ht hw hTl
  obtain ⟨T, hT⟩ : ∃ N, s.methods.length = N := ⟨_, rfl⟩
  obtain ⟨nm, hnm⟩ : ∃ x, s.name = x := ⟨_, rfl⟩
  obtain ⟨M, hM⟩ : ∃ N, s.msgs.length = N := ⟨_, rfl⟩
  obtain ⟨E, hE⟩ : ∃ N, s.enums.length = N := ⟨_, rfl⟩
  rw [hnm, hM, hE, hT] at HSC ⊢
  rw [hM] at HMI
  rw [hE] at HEI
  rw [hT] at HTI
  have HTN : Hid (s.methods.length = T) := hT
  clear hT
  have HNM : Hid (s.name = nm) := hnm
  have HM : Hid (s.msgs.length = M) := hM
  have HE : Hid (s.enums.length = E) := hE
  clear hnm hM hE qm1 qe1 qt1 qm2 qe2 qt2
  have hba : Below w.heap.size w (w.alloc (.cells #[.string nm, .slice am M cm, .slice ae E ce, .slice at' T ct] 26)) := (Below.refl _ _).alloc (Nat.le_refl _) _
  have BX := Blk.new w #[.string nm, .slice am M cm, .slice ae E ce, .slice at' T ct] 26
  go_enter Tryz.func6, Tryz.ntmps6
  go_wp2_with fail
  refine (few_any (HSC.out.below hba) HW.out).mono ?_
  rintro e w1 ⟨hP, hb1⟩
  have hbw1 : Below w.heap.size w w1 := hba.trans (hb1.mono hba.size)
  rcases hP with rfl | ⟨rfl, hF⟩
  · go_wp2_with fail
    refine (pawake_any _ (HG.out.below hbw1) (HPT.out.below hbw1)).mono ?_
    rintro e w2 ⟨rfl, hb2⟩
    go_wp2_with fail
    go_ret
    exact ⟨rfl, hbw1.trans (hb2.mono hbw1.size)⟩
  have HF : Hid (FewS s) := hF
  clear hF
  have BX1 := BX.below hb1
  have c0 := (BX1.cell 0).trans rfl
  have c1 := (BX1.cell 1).trans rfl
  have c2 := (BX1.cell 2).trans rfl
  have c3 := (BX1.cell 3).trans rfl
  go_wp2_with fail
  clear c0 c1 c2 c3 hb1 BX
  refine (schema_any (HSC.out.below hbw1) HF.out.few).mono ?_
  rintro e w2 ⟨um, ue, ut, qm, qe, rfl, hM2, hE2, hT2, hb2⟩
  have HCK : Hid (Calls Tryz.prog 20 #[.agg #[.string s.name, um, ue, ut]] w2 fun e w' => e = .returned (.int .i64 (checkA s)) ∧ Below w2.heap.size w2 w') := check_any ⟨_, _, _, rfl, hM2.to_in, hE2.to_in, mt_in hT2⟩ HW.out HF.out.few
  rw [HNM.out] at HCK ⊢
  have hbw2 : Below w.heap.size w w2 := hbw1.trans (hb2.mono hbw1.size)
  have BX2 := BX1.below hb2
  clear hM2 hE2 hT2 hb2 BX1 hbw1
  go_wp2_with fail
  refine HCK.out.mono ?_
  rintro e w3 ⟨rfl, hb3⟩
  have hbw3 : Below w.heap.size w w3 := hbw2.trans (hb3.mono hbw2.size)
  have BX3 := BX2.below hb3
  by_cases hok : checkA s = 0
  case neg =>
    have e1 : (checkA s == 0) = false := by simpa using hok
    go_wp2_with fail
    refine (pawake_any _ (HG.out.below hbw3) (HPT.out.below hbw3)).mono ?_
    rintro e w4 ⟨rfl, hb4⟩
    go_wp2_with fail
    go_ret
    exact ⟨rfl, hbw3.trans (hb4.mono hbw3.size)⟩
  have HOK : Hid (OkS s) := (checkA_ok s).1 hok
  rw [hok]
  have hM0 : 0 < M := by have := HOK.out.some; rw [HM.out] at this; exact this
  have hM14 : M ≤ 14 := by have := HF.out.msgs; rw [HM.out] at this; exact this
  have hE10 : E ≤ 10 := by have := HF.out.enums; rw [HE.out] at this; exact this
  have hT10 : T ≤ 10 := by have := HF.out.meths; rw [HTN.out] at this; exact this
  clear hok HCK hb3 BX2 hbw2
  have c0 := (BX3.cell 0).trans rfl
  have c1 := (BX3.cell 1).trans rfl
  have c2 := (BX3.cell 2).trans rfl
  have c3 := (BX3.cell 3).trans rfl
  go_wp2_with fail
  clear c0 c1 c2 c3
  refine (schema_ap (HSC.out.below hbw3) HF.out.few).mono ?_
  rintro e w4 ⟨tm, te, tt, pm, pe, rfl, hM4, hE4, hT4, hb4, hAR, hAE⟩
  have HAR : Hid (ApR pm) := hAR
  have HAE : Hid (ApE pe) := hAE
  clear hAR hAE
  have hB3 := BX3.lt
  rw [HNM.out]
  obtain ⟨qm, qmc, hq, hqa, hqb, _, hqc⟩ := own_addr hM4.own (by rw [HM.out]; exact hM0)
  obtain ⟨ea, ec, hev⟩ := own_form hE4.own
  obtain ⟨ta, tc, htv⟩ := own_form hT4
  subst hq
  subst hev
  subst htv
  rw [HM.out] at hM4 hqa ⊢
  rw [HE.out] at hE4 ⊢
  rw [HTN.out] at hT4 ⊢
  have ha : Below w4.heap.size w4 (w4.alloc (.cells #[.string nm, .slice (some ⟨qm, 0, none⟩) M qmc, .slice ea E ec, .slice ta T tc] 26)) := (Below.refl _ _).alloc (Nat.le_refl _) _
  have hbw4 : Below w.heap.size w w4 := hbw3.trans (hb4.mono hbw3.size)
  have HO0 : Hid (Tm w #[.string nm, .slice am M cm, .slice ae E ce, .slice at' T ct] #[.string nm, .slice (some ⟨qm, 0, none⟩) M qmc, .slice ea E ec, .slice ta T tc] w4.heap.size w3.heap.size (.slice (some ⟨qm, 0, none⟩) M qmc) (.slice ea E ec) (.slice ta T tc) s.msgs pm s.enums pe s.methods (w4.alloc (.cells #[.string nm, .slice (some ⟨qm, 0, none⟩) M qmc, .slice ea E ec, .slice ta T tc] 26))) :=
    ⟨hbw4.trans (ha.mono hbw4.size), (BX3.below hb4).below ha, Blk.new w4 _ _, hM4.below ha, hE4.below ha, by rw [HTN.out]; exact own_below hT4 ha, hB3⟩
  unfold maxLen at hqb
  clear ha hbw4 hM4 hE4 hT4 hqc BX3 hb4 hbw3 hB3
  go_wp2_with fail
  generalize w4.alloc (.cells #[.string nm, .slice (some ⟨qm, 0, none⟩) M qmc, .slice ea E ec, .slice ta T tc] 26) = w5 at *
  generalize w4.heap.size = b5 at *
  generalize w3.heap.size = B at *
  go_loopw [4] (fun iv wr => ∃ (i : Nat) (ms : List MsS), iv = .int .i64 (i : Int) ∧ i ≤ M ∧ Hid (Half revM s.msgs i ms) ∧ Hid (Tm w #[.string nm, .slice am M cm, .slice ae E ce, .slice at' T ct] #[.string nm, .slice (some ⟨qm, 0, none⟩) M qmc, .slice ea E ec, .slice ta T tc] b5 B (.slice (some ⟨qm, 0, none⟩) M qmc) (.slice ea E ec) (.slice ta T tc) (ms) pm (s.enums) pe s.methods wr)) (fun iv _ => M - (intOf iv).toNat)
  case atStart => exact ⟨0, s.msgs, rfl, by omega, Half.zero _ _, HO0⟩
  case round =>
    clear HO0
    obtain ⟨i, ms, rfl, hi, HH, HO⟩ := hrel
    have x1 : wr.cell? ⟨b5, 1, none⟩ = some (.slice (some ⟨qm, 0, none⟩) M qmc) := HO.out.tbox.cell 1
    by_cases hlt : i < M
    · obtain ⟨m, hm⟩ : ∃ x, s.msgs[i]? = some x := ⟨_, List.getElem?_eq_getElem (by rw [HM.out]; exact hlt)⟩
      have hmi : ms[i]? = some m := (HH.out.2.2 i (Nat.le_refl _)).trans hm
      obtain ⟨⟨pf, pr⟩, hp⟩ : ∃ p, pm[i]? = some p := ⟨_, List.getElem?_eq_getElem (by rw [HO.out.mo.len, HH.out.1, HM.out]; exact hlt)⟩
      obtain ⟨g, off, vf, vr, rfl, _, c1', c2', hrf, hrr⟩ := HMI.out.get hm
      have HRF : Hid (RowG w vf 5 (flRows m.fields)) := hrf
      have HRR : Hid (RowG w vr 1 (inRows m.reserved)) := hrr
      have C1 : Hid (w.cell? ⟨g, off + i * 3 + 1, none⟩ = some vf) := c1'
      have C2 : Hid (w.cell? ⟨g, off + i * 3 + 2, none⟩ = some vr) := c2'
      have hgw : g < w.heap.size := World.block_lt_of_cell? _ _ c1'
      have HGW : Hid (g < w.heap.size) := hgw
      have hmo := HO.out.mo.own
      rw [HH.out.1, HM.out] at hmo
      have y1 := own_at (ms_len ms pm) hmo (ms_get hmi hp) (j := 1) rfl
      simp only at y1
      have hof := (HO.out.mo.each i m _ hmi hp).1
      have hor := (HO.out.mo.each i m _ hmi hp).2
      simp only at hof hor
      obtain ⟨fa, fc, hfv⟩ := own_form hof
      obtain ⟨ra, rc, hrv⟩ := own_form hor
      subst hfv
      subst hrv
      have HLF : Hid (m.fields.length ≤ 20 ∧ m.reserved.length ≤ 40) := HF.out.few.flds m (List.mem_of_getElem? hm)
      have HMI' : Hid (s.msgs[i]? = some m) := hm
      have HMi : Hid (ms[i]? = some m) := hmi
      have HPi : Hid (pm[i]? = some (.slice fa m.fields.length fc, .slice ra m.reserved.length rc)) := hp
      have HSET : Hid (Tm w #[.string nm, .slice (some ⟨g, off, none⟩) M cm, .slice ae E ce, .slice at' T ct] #[.string nm, .slice (some ⟨qm, 0, none⟩) M qmc, .slice ea E ec, .slice ta T tc] b5 B (.slice (some ⟨qm, 0, none⟩) M qmc) (.slice ea E ec) (.slice ta T tc) (ms.set i ⟨m.name, m.fields, m.reserved⟩) pm (s.enums) pe s.methods wr) := by
        show Tm _ _ _ _ _ _ _ _ _ _ _ _ _ _
        rw [set_same (show ms[i]? = some ⟨m.name, m.fields, m.reserved⟩ from hmi)]
        exact HO.out
      clear hrf hrr c1' c2' hm hmi hp hmo hof hor HO hgw
      obtain ⟨m0, mf, mr⟩ := m
      simp only at *
      generalize hnF : mf.length = nF at *
      generalize hnR : mr.length = nR at *
      have HNF : Hid (mf.length = nF) := hnF
      have HNR : Hid (mr.length = nR) := hnR
      have hnF20 : nF ≤ 20 := HLF.out.1
      have hnR40 : nR ≤ 40 := HLF.out.2
      clear hnF hnR
      have hltz : (i : Int) < (M : Int) := by omega
      go_wp2_with fail
      clear x1 y1
      go_loopw [6] (fun jv wr => ∃ (k : Nat) (fs : List FlS), jv = .int .i64 (k : Int) ∧ k ≤ nF ∧ Hid (RevTo mf k fs) ∧ Hid (Tm w #[.string nm, .slice (some ⟨g, off, none⟩) M cm, .slice ae E ce, .slice at' T ct] #[.string nm, .slice (some ⟨qm, 0, none⟩) M qmc, .slice ea E ec, .slice ta T tc] b5 B (.slice (some ⟨qm, 0, none⟩) M qmc) (.slice ea E ec) (.slice ta T tc) (ms.set i ⟨m0, fs, mr⟩) pm (s.enums) pe s.methods wr)) (fun jv _ => nF - (intOf jv).toNat)
      case atStart => exact ⟨0, mf, rfl, by omega, RevTo.zero _, HSET⟩
      case round =>
        clear HSET
        obtain ⟨k, fs, rfl, hk, HR, HO⟩ := hrel
        by_cases hlk : k < nF
        · obtain ⟨f, hf⟩ : ∃ x, mf[k]? = some x := ⟨_, List.getElem?_eq_getElem (by rw [HNF.out]; exact hlk)⟩
          have hfr : (flRows mf)[k]? = some f.cells := by simp [flRows, hf]
          obtain ⟨va, vc, hva, _, _⟩ := HRF.out.form2
          subst hva
          obtain ⟨g2, off2, rfl, cc⟩ := HRF.out.get hfr
          have HLR : Hid ((flRows mf).length = nF) := by show _ = _; simp [flRows, HNF.out]
          rw [HLR.out] at HRF C1
          have hcm' := (HRF.out.form2)
          obtain ⟨f0, f1, f2, f3, f4⟩ := f
          have D0 : Hid (w.cell? ⟨g2, off2 + k * 5, none⟩ = some (.string f0)) := by have := cc 0 _ rfl; rw [Nat.add_zero] at this; exact this
          have D1 : Hid (w.cell? ⟨g2, off2 + k * 5 + 1, none⟩ = some (.int .i64 f1)) := cc 1 _ rfl
          have D2 : Hid (w.cell? ⟨g2, off2 + k * 5 + 2, none⟩ = some (.int .i64 f2)) := cc 2 _ rfl
          have D3 : Hid (w.cell? ⟨g2, off2 + k * 5 + 3, none⟩ = some (.int .i64 f3)) := cc 3 _ rfl
          have D4 : Hid (w.cell? ⟨g2, off2 + k * 5 + 4, none⟩ = some (.string f4)) := cc 4 _ rfl
          have HFK : Hid (mf[k]? = some ⟨f0, f1, f2, f3, f4⟩) := hf
          clear cc hfr hf hcm'
          have hil : i < ms.length := (List.getElem?_eq_some_iff.1 HMi.out).1
          have hmk : (ms.set i ⟨m0, fs, mr⟩)[i]? = some ⟨m0, fs, mr⟩ := List.getElem?_set_self hil
          have hfl : fs.length = nF := by rw [HR.out.1, HNF.out]
          have hofq := (HO.out.mo.each i _ _ hmk HPi.out).1
          simp only at hofq
          rw [hfl] at hofq
          obtain ⟨q, qc, hq0, hqa1, hqa2, _, _⟩ := own_addr hofq (by omega)
          simp only [Value.slice.injEq] at hq0
          obtain ⟨rfl, _, rfl⟩ := hq0
          unfold maxLen at hqa2
          have HOQ : Hid (wr.ownsRow B 44 5 (.slice (some ⟨q, 0, none⟩) nF fc) nF (flRows fs).flatten) := hofq
          have hmo := HO.out.mo.own
          rw [List.length_set, HH.out.1, HM.out] at hmo
          have HOB : Hid (wr.ownsRow B 40 3 (.slice (some ⟨qm, 0, none⟩) M qmc) M (msRows (ms.set i ⟨m0, fs, mr⟩) pm).flatten) := hmo
          have Y1 : Hid (wr.cell? ⟨qm, i * 3 + 1, none⟩ = some (.slice (some ⟨q, 0, none⟩) nF fc)) := own_at (ms_len _ pm) hmo (ms_get hmk HPi.out) (j := 1) rfl
          have HMK : Hid ((ms.set i ⟨m0, fs, mr⟩)[i]? = some ⟨m0, fs, mr⟩) := hmk
          have HFL : Hid (fs.length = nF) := hfl
          clear hmk hofq hmo hil hfl
          obtain ⟨r, hr⟩ : ∃ r, nF - 1 - k = r := ⟨_, rfl⟩
          have hrn : r < nF := by omega
          have hr2 : (nF : Int) - 1 - (k : Int) = (r : Int) := by omega
          have HRK : Hid (nF - 1 - k = r) := hr
          have hw1 : IntKind.i64.wrap ((nF : Int) - 1) = (nF : Int) - 1 := by rw [IntKind.wrap_i64]; omega
          have hw2 : IntKind.i64.wrap (r : Int) = (r : Int) := by rw [IntKind.wrap_i64]; omega
          have hRV : RevTo mf (k + 1) (fs.set r ⟨f0, f1, f2, f3, f4⟩) := by have := HR.out.step HFK.out; rw [HNF.out, HRK.out] at this; exact this
          have HRV : Hid (RevTo mf (k + 1) (fs.set r ⟨f0, f1, f2, f3, f4⟩)) := hRV
          clear hr hRV
          have hlkz : (k : Int) < (nF : Int) := by omega
          go_wp2_with fail
          have HCL : Hid (∀ W, Kp (fun b => b = q) wr W → W.cell? ⟨b5, 1, none⟩ = some (.slice (some ⟨qm, 0, none⟩) M qmc) ∧ W.cell? ⟨qm, i * 3 + 1, none⟩ = some (.slice (some ⟨q, 0, none⟩) nF fc) ∧ W.cell? ⟨w.heap.size, 1, none⟩ = some (.slice (some ⟨g, off, none⟩) M cm) ∧ W.cell? ⟨g, off + i * 3 + 1, none⟩ = some (.slice (some ⟨g2, off2, none⟩) nF vc) ∧ W.cell? ⟨g2, off2 + k * 5, none⟩ = some (.string f0) ∧ W.cell? ⟨g2, off2 + k * 5 + 1, none⟩ = some (.int .i64 f1) ∧ W.cell? ⟨g2, off2 + k * 5 + 2, none⟩ = some (.int .i64 f2) ∧ W.cell? ⟨g2, off2 + k * 5 + 3, none⟩ = some (.int .i64 f3) ∧ W.cell? ⟨g2, off2 + k * 5 + 4, none⟩ = some (.string f4)) := fun W hW => by
            have hqB := own_hi HOQ.out
            have hbs := HO.out.base
            have n1 : b5 ≠ q := fun e => by subst e; exact absurd (own_type HOQ.out rfl HO.out.tbox) (by decide)
            have n2 : qm ≠ q := fun e => by subst e; exact own_apart HOB.out HOQ.out (by decide) _ rfl rfl
            have hg2 := World.block_lt_of_cell? _ _ D0.out
            simp only at hg2
            have hgw := HGW.out
            refine ⟨(HO.out.tbox.kp hW n1).cell 1, hW.cell Y1.out n2, (HO.out.box.kp hW (by omega)).cell 1, ?_, ?_, ?_, ?_, ?_, ?_⟩
            · exact hW.cell ((HO.out.bel.cell (World.block_lt_of_cell? _ _ C1.out)).trans C1.out) (by show ¬ g = q; omega)
            · exact hW.cell ((HO.out.bel.cell (World.block_lt_of_cell? _ _ D0.out)).trans D0.out) (by show ¬ g2 = q; omega)
            · exact hW.cell ((HO.out.bel.cell (World.block_lt_of_cell? _ _ D1.out)).trans D1.out) (by show ¬ g2 = q; omega)
            · exact hW.cell ((HO.out.bel.cell (World.block_lt_of_cell? _ _ D2.out)).trans D2.out) (by show ¬ g2 = q; omega)
            · exact hW.cell ((HO.out.bel.cell (World.block_lt_of_cell? _ _ D3.out)).trans D3.out) (by show ¬ g2 = q; omega)
            · exact hW.cell ((HO.out.bel.cell (World.block_lt_of_cell? _ _ D4.out)).trans D4.out) (by show ¬ g2 = q; omega)
          refine wp_region_held_drew (S := fun W => Kp (fun b => b = q) wr W) (by kernel_rfl) (Kp.ofBelow (below_drewN 1 (Below.refl _ _))) (fun hS => ?_)
          have hY : Below wr.heap.size wr wr.drew := below_drewN 1 (Below.refl _ _)
          generalize wr.drew = Y at *
          refine rg_take 0 43 (.pointer (some ⟨b5, 1, none⟩)) _ rfl rfl (by kernel_rfl) (by kernel_rfl) (by kernel_rfl) (fun _ _ _ h => h) (by rfl) (fun w' hw' => ?_) hS (listed' := #[true, false, false, false, false, false, false, false, false, false, false, false, false, false, false, false, false, false, false, false, false]) (by kernel_rfl) rfl ?_
          · obtain ⟨u0, u1, u2, u3, u4, u5, u6, u7, u8⟩ := HCL.out w' hw'; go_simp
          simp only [List.setIfInBounds_toArray, List.set_cons_zero, List.set_cons_succ]
          refine rg_take 1 44 (.slice (some ⟨qm, 0, none⟩) M qmc) _ rfl rfl (by kernel_rfl) (by kernel_rfl) (by kernel_rfl) (fun _ _ _ h => h) (by rfl) (fun w' hw' => ?_) hS (listed' := #[true, true, false, false, false, false, false, false, false, false, false, false, false, false, false, false, false, false, false, false, false]) (by kernel_rfl) rfl ?_
          · obtain ⟨u0, u1, u2, u3, u4, u5, u6, u7, u8⟩ := HCL.out w' hw'; go_simp
          simp only [List.setIfInBounds_toArray, List.set_cons_zero, List.set_cons_succ]
          refine rg_take 2 45 (.int .i64 (i : Int)) _ rfl rfl (by kernel_rfl) (by kernel_rfl) (by kernel_rfl) (fun _ _ _ h => h) (by rfl) (fun w' hw' => ?_) hS (listed' := #[true, true, true, false, false, false, false, false, false, false, false, false, false, false, false, false, false, false, false, false, false]) (by kernel_rfl) rfl ?_
          · obtain ⟨u0, u1, u2, u3, u4, u5, u6, u7, u8⟩ := HCL.out w' hw'; go_simp
          simp only [List.setIfInBounds_toArray, List.set_cons_zero, List.set_cons_succ]
          refine rg_take 3 46 (.pointer (some ⟨qm, i * 3, none⟩)) _ rfl rfl (by kernel_rfl) (by kernel_rfl) (by kernel_rfl) (fun _ _ _ h => h) (by rfl) (fun w' hw' => ?_) hS (listed' := #[true, true, true, true, false, false, false, false, false, false, false, false, false, false, false, false, false, false, false, false, false]) (by kernel_rfl) rfl ?_
          · obtain ⟨u0, u1, u2, u3, u4, u5, u6, u7, u8⟩ := HCL.out w' hw'; go_simp
          simp only [List.setIfInBounds_toArray, List.set_cons_zero, List.set_cons_succ]
          refine rg_take 4 47 (.pointer (some ⟨qm, i * 3 + 1, none⟩)) _ rfl rfl (by kernel_rfl) (by kernel_rfl) (by kernel_rfl) (fun _ _ _ h => h) (by rfl) (fun w' hw' => ?_) hS (listed' := #[true, true, true, true, true, false, false, false, false, false, false, false, false, false, false, false, false, false, false, false, false]) (by kernel_rfl) rfl ?_
          · obtain ⟨u0, u1, u2, u3, u4, u5, u6, u7, u8⟩ := HCL.out w' hw'; go_simp
          simp only [List.setIfInBounds_toArray, List.set_cons_zero, List.set_cons_succ]
          refine rg_take 5 48 (.slice (some ⟨q, 0, none⟩) nF fc) _ rfl rfl (by kernel_rfl) (by kernel_rfl) (by kernel_rfl) (fun _ _ _ h => h) (by rfl) (fun w' hw' => ?_) hS (listed' := #[true, true, true, true, true, true, false, false, false, false, false, false, false, false, false, false, false, false, false, false, false]) (by kernel_rfl) rfl ?_
          · obtain ⟨u0, u1, u2, u3, u4, u5, u6, u7, u8⟩ := HCL.out w' hw'; go_simp
          simp only [List.setIfInBounds_toArray, List.set_cons_zero, List.set_cons_succ]
          refine rg_take 6 49 (.int .i64 (nF : Int)) _ rfl rfl (by kernel_rfl) (by kernel_rfl) (by kernel_rfl) (fun _ _ _ h => h) (by rfl) (fun w' hw' => ?_) hS (listed' := #[true, true, true, true, true, true, true, false, false, false, false, false, false, false, false, false, false, false, false, false, false]) (by kernel_rfl) rfl ?_
          · obtain ⟨u0, u1, u2, u3, u4, u5, u6, u7, u8⟩ := HCL.out w' hw'; go_simp
          simp only [List.setIfInBounds_toArray, List.set_cons_zero, List.set_cons_succ]
          refine rg_take 7 50 (.int .i64 ((nF : Int) - 1)) _ rfl rfl (by kernel_rfl) (by kernel_rfl) (by kernel_rfl) (fun _ _ _ h => h) (by rfl) (fun w' hw' => ?_) hS (listed' := #[true, true, true, true, true, true, true, true, false, false, false, false, false, false, false, false, false, false, false, false, false]) (by kernel_rfl) rfl ?_
          · obtain ⟨u0, u1, u2, u3, u4, u5, u6, u7, u8⟩ := HCL.out w' hw'; go_simp
          simp only [List.setIfInBounds_toArray, List.set_cons_zero, List.set_cons_succ]
          refine rg_take 8 51 (.int .i64 (k : Int)) _ rfl rfl (by kernel_rfl) (by kernel_rfl) (by kernel_rfl) (fun _ _ _ h => h) (by rfl) (fun w' hw' => ?_) hS (listed' := #[true, true, true, true, true, true, true, true, true, false, false, false, false, false, false, false, false, false, false, false, false]) (by kernel_rfl) rfl ?_
          · obtain ⟨u0, u1, u2, u3, u4, u5, u6, u7, u8⟩ := HCL.out w' hw'; go_simp
          simp only [List.setIfInBounds_toArray, List.set_cons_zero, List.set_cons_succ]
          refine rg_take 9 52 (.int .i64 (r : Int)) _ rfl rfl (by kernel_rfl) (by kernel_rfl) (by kernel_rfl) (fun _ _ _ h => h) (by rfl) (fun w' hw' => ?_) hS (listed' := #[true, true, true, true, true, true, true, true, true, true, false, false, false, false, false, false, false, false, false, false, false]) (by kernel_rfl) rfl ?_
          · obtain ⟨u0, u1, u2, u3, u4, u5, u6, u7, u8⟩ := HCL.out w' hw'; go_simp
          simp only [List.setIfInBounds_toArray, List.set_cons_zero, List.set_cons_succ]
          refine rg_take 10 53 (.pointer (some ⟨w.heap.size, 1, none⟩)) _ rfl rfl (by kernel_rfl) (by kernel_rfl) (by kernel_rfl) (fun _ _ _ h => h) (by rfl) (fun w' hw' => ?_) hS (listed' := #[true, true, true, true, true, true, true, true, true, true, true, false, false, false, false, false, false, false, false, false, false]) (by kernel_rfl) rfl ?_
          · obtain ⟨u0, u1, u2, u3, u4, u5, u6, u7, u8⟩ := HCL.out w' hw'; go_simp
          simp only [List.setIfInBounds_toArray, List.set_cons_zero, List.set_cons_succ]
          refine rg_take 11 54 (.slice (some ⟨g, off, none⟩) M cm) _ rfl rfl (by kernel_rfl) (by kernel_rfl) (by kernel_rfl) (fun _ _ _ h => h) (by rfl) (fun w' hw' => ?_) hS (listed' := #[true, true, true, true, true, true, true, true, true, true, true, true, false, false, false, false, false, false, false, false, false]) (by kernel_rfl) rfl ?_
          · obtain ⟨u0, u1, u2, u3, u4, u5, u6, u7, u8⟩ := HCL.out w' hw'; go_simp
          simp only [List.setIfInBounds_toArray, List.set_cons_zero, List.set_cons_succ]
          refine rg_take 12 55 (.int .i64 (i : Int)) _ rfl rfl (by kernel_rfl) (by kernel_rfl) (by kernel_rfl) (fun _ _ _ h => h) (by rfl) (fun w' hw' => ?_) hS (listed' := #[true, true, true, true, true, true, true, true, true, true, true, true, true, false, false, false, false, false, false, false, false]) (by kernel_rfl) rfl ?_
          · obtain ⟨u0, u1, u2, u3, u4, u5, u6, u7, u8⟩ := HCL.out w' hw'; go_simp
          simp only [List.setIfInBounds_toArray, List.set_cons_zero, List.set_cons_succ]
          refine rg_take 13 56 (.pointer (some ⟨g, off + i * 3, none⟩)) _ rfl rfl (by kernel_rfl) (by kernel_rfl) (by kernel_rfl) (fun _ _ _ h => h) (by rfl) (fun w' hw' => ?_) hS (listed' := #[true, true, true, true, true, true, true, true, true, true, true, true, true, true, false, false, false, false, false, false, false]) (by kernel_rfl) rfl ?_
          · obtain ⟨u0, u1, u2, u3, u4, u5, u6, u7, u8⟩ := HCL.out w' hw'; go_simp
          simp only [List.setIfInBounds_toArray, List.set_cons_zero, List.set_cons_succ]
          refine rg_take 14 57 (.pointer (some ⟨g, off + i * 3 + 1, none⟩)) _ rfl rfl (by kernel_rfl) (by kernel_rfl) (by kernel_rfl) (fun _ _ _ h => h) (by rfl) (fun w' hw' => ?_) hS (listed' := #[true, true, true, true, true, true, true, true, true, true, true, true, true, true, true, false, false, false, false, false, false]) (by kernel_rfl) rfl ?_
          · obtain ⟨u0, u1, u2, u3, u4, u5, u6, u7, u8⟩ := HCL.out w' hw'; go_simp
          simp only [List.setIfInBounds_toArray, List.set_cons_zero, List.set_cons_succ]
          refine rg_take 15 58 (.slice (some ⟨g2, off2, none⟩) nF vc) _ rfl rfl (by kernel_rfl) (by kernel_rfl) (by kernel_rfl) (fun _ _ _ h => h) (by rfl) (fun w' hw' => ?_) hS (listed' := #[true, true, true, true, true, true, true, true, true, true, true, true, true, true, true, true, false, false, false, false, false]) (by kernel_rfl) rfl ?_
          · obtain ⟨u0, u1, u2, u3, u4, u5, u6, u7, u8⟩ := HCL.out w' hw'; go_simp
          simp only [List.setIfInBounds_toArray, List.set_cons_zero, List.set_cons_succ]
          refine rg_take 16 59 (.int .i64 (k : Int)) _ rfl rfl (by kernel_rfl) (by kernel_rfl) (by kernel_rfl) (fun _ _ _ h => h) (by rfl) (fun w' hw' => ?_) hS (listed' := #[true, true, true, true, true, true, true, true, true, true, true, true, true, true, true, true, true, false, false, false, false]) (by kernel_rfl) rfl ?_
          · obtain ⟨u0, u1, u2, u3, u4, u5, u6, u7, u8⟩ := HCL.out w' hw'; go_simp
          simp only [List.setIfInBounds_toArray, List.set_cons_zero, List.set_cons_succ]
          refine rg_take 17 60 (.pointer (some ⟨g2, off2 + k * 5, none⟩)) _ rfl rfl (by kernel_rfl) (by kernel_rfl) (by kernel_rfl) (fun _ _ _ h => h) (by rfl) (fun w' hw' => ?_) hS (listed' := #[true, true, true, true, true, true, true, true, true, true, true, true, true, true, true, true, true, true, false, false, false]) (by kernel_rfl) rfl ?_
          · obtain ⟨u0, u1, u2, u3, u4, u5, u6, u7, u8⟩ := HCL.out w' hw'; go_simp
          simp only [List.setIfInBounds_toArray, List.set_cons_zero, List.set_cons_succ]
          refine rg_take 18 61 (.agg #[.string f0, .int .i64 f1, .int .i64 f2, .int .i64 f3, .string f4]) _ rfl rfl (by kernel_rfl) (by kernel_rfl) (by kernel_rfl) (fun _ _ _ h => h) (by rfl) (fun w' hw' => ?_) hS (listed' := #[true, true, true, true, true, true, true, true, true, true, true, true, true, true, true, true, true, true, true, false, false]) (by kernel_rfl) rfl ?_
          · obtain ⟨u0, u1, u2, u3, u4, u5, u6, u7, u8⟩ := HCL.out w' hw'; go_simp
          simp only [List.setIfInBounds_toArray, List.set_cons_zero, List.set_cons_succ]
          refine rg_take 19 62 (.pointer (some ⟨q, r * 5, none⟩)) _ rfl rfl (by kernel_rfl) (by kernel_rfl) (by kernel_rfl) (fun _ _ _ h => h) (by rfl) (fun w' hw' => ?_) hS (listed' := #[true, true, true, true, true, true, true, true, true, true, true, true, true, true, true, true, true, true, true, true, false]) (by kernel_rfl) rfl ?_
          · obtain ⟨u0, u1, u2, u3, u4, u5, u6, u7, u8⟩ := HCL.out w' hw'; go_simp
          simp only [List.setIfInBounds_toArray, List.set_cons_zero, List.set_cons_succ]
          have hO2 := HO.out.below hY
          obtain ⟨hO3, hK3⟩ := hO2.setF HMK.out HPi.out HFL.out hrn ⟨f0, f1, f2, f3, f4⟩
          have hoq := own_below HOQ.out hY
          obtain ⟨g5, hg5⟩ : ∃ x, fs[r]? = some x := ⟨_, List.getElem?_eq_getElem (by rw [HFL.out]; exact hrn)⟩
          have hrk : (flRows fs)[r]? = some g5.cells := fl_get hg5
          have t0 := own_at (fl_len fs) hoq hrk (j := 0) rfl
          have t1 := own_at (fl_len fs) hoq hrk (j := 1) rfl
          have t2 := own_at (fl_len fs) hoq hrk (j := 2) rfl
          have t3 := own_at (fl_len fs) hoq hrk (j := 3) rfl
          have t4 := own_at (fl_len fs) hoq hrk (j := 4) rfl
          rw [Nat.add_zero] at t0
          clear hrk hg5
          have y0 : Y.frozen? ⟨q, r * 5, none⟩ = false := own_froz hoq _
          have y1 : Y.frozen? ⟨q, r * 5 + 1, none⟩ = false := own_froz hoq _
          have y2 : Y.frozen? ⟨q, r * 5 + 2, none⟩ = false := own_froz hoq _
          have y3 : Y.frozen? ⟨q, r * 5 + 3, none⟩ = false := own_froz hoq _
          have y4 : Y.frozen? ⟨q, r * 5 + 4, none⟩ = false := own_froz hoq _
          refine rg_store 20 (((((Y.setCell ⟨q, r * 5, none⟩ (.string f0)).setCell ⟨q, r * 5 + 1, none⟩ (.int .i64 f1)).setCell ⟨q, r * 5 + 2, none⟩ (.int .i64 f2)).setCell ⟨q, r * 5 + 3, none⟩ (.int .i64 f3)).setCell ⟨q, r * 5 + 4, none⟩ (.string f4)) rfl rfl (by kernel_rfl) (by rfl) (listed' := #[true, true, true, true, true, true, true, true, true, true, true, true, true, true, true, true, true, true, true, true, true]) (by kernel_rfl) (by go_simp) ((Kp.ofBelow hY).trans hK3) ?_
          refine wpAnyH_done (by kernel_rfl) ?_ _
          have HN : Hid (Tm w #[.string nm, .slice (some ⟨g, off, none⟩) M cm, .slice ae E ce, .slice at' T ct] #[.string nm, .slice (some ⟨qm, 0, none⟩) M qmc, .slice ea E ec, .slice ta T tc] b5 B (.slice (some ⟨qm, 0, none⟩) M qmc) (.slice ea E ec) (.slice ta T tc) (ms.set i ⟨m0, fs.set r ⟨f0, f1, f2, f3, f4⟩, mr⟩) pm (s.enums) pe s.methods (((((Y.setCell ⟨q, r * 5, none⟩ (.string f0)).setCell ⟨q, r * 5 + 1, none⟩ (.int .i64 f1)).setCell ⟨q, r * 5 + 2, none⟩ (.int .i64 f2)).setCell ⟨q, r * 5 + 3, none⟩ (.int .i64 f3)).setCell ⟨q, r * 5 + 4, none⟩ (.string f4))) := by
            have := hO3
            simp only [List.set_set] at this
            exact this
          clear t0 y0 t1 y1 t2 y2 t3 y3 t4 y4 hO2 hO3 hK3 hoq HO HOQ HOB HCL hS hY Y1 D0 D1 D2 D3 D4
          generalize (((((Y.setCell ⟨q, r * 5, none⟩ (.string f0)).setCell ⟨q, r * 5 + 1, none⟩ (.int .i64 f1)).setCell ⟨q, r * 5 + 2, none⟩ (.int .i64 f2)).setCell ⟨q, r * 5 + 3, none⟩ (.int .i64 f3)).setCell ⟨q, r * 5 + 4, none⟩ (.string f4)) = wz at *
          go_wp2_with fail
          go_roundw
          case rel => exact ⟨k + 1, _, by go_num, by omega, HRV, HN⟩
          case measure => simp [intOf]; omega
        · have hkF : k = nF := by omega
          rw [hkF] at HR
          have hfs : fs = mf.reverse := by have := HR.out; rw [← HNF.out] at this; exact this.all
          subst hfs
          have hlkz : ¬ (k : Int) < (nF : Int) := by omega
          have hil : i < ms.length := (List.getElem?_eq_some_iff.1 HMi.out).1
          have hmk : (ms.set i ⟨m0, mf.reverse, mr⟩)[i]? = some ⟨m0, mf.reverse, mr⟩ := List.getElem?_set_self hil
          have hmo := HO.out.mo.own
          rw [List.length_set, HH.out.1, HM.out] at hmo
          have x1 : wr.cell? ⟨b5, 1, none⟩ = some (.slice (some ⟨qm, 0, none⟩) M qmc) := HO.out.tbox.cell 1
          have y1 : wr.cell? ⟨qm, i * 3 + 2, none⟩ = some (.slice ra nR rc) := own_at (ms_len _ pm) hmo (ms_get hmk HPi.out) (j := 2) rfl
          clear hmk hmo
          go_wp2_with fail
          clear x1 y1
          go_loopw [8] (fun jv wr => ∃ (j : Nat) (rs : List Int), jv = .int .i64 (j : Int) ∧ j ≤ nR ∧ Hid (RevTo mr j rs) ∧ Hid (Tm w #[.string nm, .slice (some ⟨g, off, none⟩) M cm, .slice ae E ce, .slice at' T ct] #[.string nm, .slice (some ⟨qm, 0, none⟩) M qmc, .slice ea E ec, .slice ta T tc] b5 B (.slice (some ⟨qm, 0, none⟩) M qmc) (.slice ea E ec) (.slice ta T tc) (ms.set i ⟨m0, mf.reverse, rs⟩) pm (s.enums) pe s.methods wr)) (fun jv _ => nR - (intOf jv).toNat)
          case atStart => exact ⟨0, mr, rfl, by omega, RevTo.zero _, HO⟩
          case round =>
            clear HO HR hk hlk hlkz hkF
            obtain ⟨k, rs, rfl, hk, HR, HO⟩ := hrel
            by_cases hlk : k < nR
            · obtain ⟨f0, hf⟩ : ∃ x, mr[k]? = some x := ⟨_, List.getElem?_eq_getElem (by rw [HNR.out]; exact hlk)⟩
              have hfr : (inRows mr)[k]? = some [.int .i64 f0] := by simp [inRows, hf]
              obtain ⟨va, vc, hva, _, _⟩ := HRR.out.form2
              subst hva
              obtain ⟨g2, off2, rfl, cc⟩ := HRR.out.get hfr
              have HLR : Hid ((inRows mr).length = nR) := by show _ = _; simp [inRows, HNR.out]
              rw [HLR.out] at HRR C2
              have D0 : Hid (w.cell? ⟨g2, off2 + k, none⟩ = some (.int .i64 f0)) := by have := cc 0 _ rfl; rw [Nat.add_zero, Nat.mul_one] at this; exact this
              have HFK : Hid (mr[k]? = some f0) := hf
              clear cc hfr hf
              have hil : i < ms.length := (List.getElem?_eq_some_iff.1 HMi.out).1
              have hmk : (ms.set i ⟨m0, mf.reverse, rs⟩)[i]? = some ⟨m0, mf.reverse, rs⟩ := List.getElem?_set_self hil
              have hfl : rs.length = nR := by rw [HR.out.1, HNR.out]
              have hofq := (HO.out.mo.each i _ _ hmk HPi.out).2
              simp only at hofq
              rw [hfl] at hofq
              obtain ⟨q, qc, hq0, hqa1, hqa2, _, _⟩ := own_addr hofq (by omega)
              simp only [Value.slice.injEq] at hq0
              obtain ⟨rfl, _, rfl⟩ := hq0
              unfold maxLen at hqa2
              have HOQ : Hid (wr.ownsRow B 3 1 (.slice (some ⟨q, 0, none⟩) nR rc) nR (inRows rs).flatten) := hofq
              have hmo := HO.out.mo.own
              rw [List.length_set, HH.out.1, HM.out] at hmo
              have HOB : Hid (wr.ownsRow B 40 3 (.slice (some ⟨qm, 0, none⟩) M qmc) M (msRows (ms.set i ⟨m0, mf.reverse, rs⟩) pm).flatten) := hmo
              have Y1 : Hid (wr.cell? ⟨qm, i * 3 + 2, none⟩ = some (.slice (some ⟨q, 0, none⟩) nR rc)) := own_at (ms_len _ pm) hmo (ms_get hmk HPi.out) (j := 2) rfl
              have HMK : Hid ((ms.set i ⟨m0, mf.reverse, rs⟩)[i]? = some ⟨m0, mf.reverse, rs⟩) := hmk
              have HFL : Hid (rs.length = nR) := hfl
              clear hmk hofq hmo hil hfl
              obtain ⟨r, hr⟩ : ∃ r, nR - 1 - k = r := ⟨_, rfl⟩
              have hrn : r < nR := by omega
              have hr2 : (nR : Int) - 1 - (k : Int) = (r : Int) := by omega
              have HRK : Hid (nR - 1 - k = r) := hr
              have hw1 : IntKind.i64.wrap ((nR : Int) - 1) = (nR : Int) - 1 := by rw [IntKind.wrap_i64]; omega
              have hw2 : IntKind.i64.wrap (r : Int) = (r : Int) := by rw [IntKind.wrap_i64]; omega
              have hRV : RevTo mr (k + 1) (rs.set r f0) := by have := HR.out.step HFK.out; rw [HNR.out, HRK.out] at this; exact this
              have HRV : Hid (RevTo mr (k + 1) (rs.set r f0)) := hRV
              clear hr hRV
              have hlkz : (k : Int) < (nR : Int) := by omega
              go_wp2_with fail
              have HCL : Hid (∀ W, Kp (fun b => b = q) wr W → W.cell? ⟨b5, 1, none⟩ = some (.slice (some ⟨qm, 0, none⟩) M qmc) ∧ W.cell? ⟨qm, i * 3 + 2, none⟩ = some (.slice (some ⟨q, 0, none⟩) nR rc) ∧ W.cell? ⟨w.heap.size, 1, none⟩ = some (.slice (some ⟨g, off, none⟩) M cm) ∧ W.cell? ⟨g, off + i * 3 + 2, none⟩ = some (.slice (some ⟨g2, off2, none⟩) nR vc) ∧ W.cell? ⟨g2, off2 + k, none⟩ = some (.int .i64 f0)) := fun W hW => by
                have hqB := own_hi HOQ.out
                have hbs := HO.out.base
                have n1 : b5 ≠ q := fun e => by subst e; exact absurd (own_type HOQ.out rfl HO.out.tbox) (by decide)
                have n2 : qm ≠ q := fun e => by subst e; exact own_apart HOB.out HOQ.out (by decide) _ rfl rfl
                have hg2 := World.block_lt_of_cell? _ _ D0.out
                simp only at hg2
                have hgw := HGW.out
                refine ⟨(HO.out.tbox.kp hW n1).cell 1, hW.cell Y1.out n2, (HO.out.box.kp hW (by omega)).cell 1, ?_, ?_⟩
                · exact hW.cell ((HO.out.bel.cell (World.block_lt_of_cell? _ _ C2.out)).trans C2.out) (by show ¬ g = q; omega)
                · exact hW.cell ((HO.out.bel.cell (World.block_lt_of_cell? _ _ D0.out)).trans D0.out) (by show ¬ g2 = q; omega)
              refine wp_region_held_drew (S := fun W => Kp (fun b => b = q) wr W) (by kernel_rfl) (Kp.ofBelow (below_drewN 1 (Below.refl _ _))) (fun hS => ?_)
              have hY : Below wr.heap.size wr wr.drew := below_drewN 1 (Below.refl _ _)
              generalize wr.drew = Y at *
              refine rg_take 0 75 (.pointer (some ⟨b5, 1, none⟩)) _ rfl rfl (by kernel_rfl) (by kernel_rfl) (by kernel_rfl) (fun _ _ _ h => h) (by rfl) (fun w' hw' => ?_) hS (listed' := #[true, false, false, false, false, false, false, false, false, false, false, false, false, false, false, false, false, false, false, false, false]) (by kernel_rfl) rfl ?_
              · obtain ⟨u0, u1, u2, u3, u4⟩ := HCL.out w' hw'; go_simp
              simp only [List.setIfInBounds_toArray, List.set_cons_zero, List.set_cons_succ]
              refine rg_take 1 76 (.slice (some ⟨qm, 0, none⟩) M qmc) _ rfl rfl (by kernel_rfl) (by kernel_rfl) (by kernel_rfl) (fun _ _ _ h => h) (by rfl) (fun w' hw' => ?_) hS (listed' := #[true, true, false, false, false, false, false, false, false, false, false, false, false, false, false, false, false, false, false, false, false]) (by kernel_rfl) rfl ?_
              · obtain ⟨u0, u1, u2, u3, u4⟩ := HCL.out w' hw'; go_simp
              simp only [List.setIfInBounds_toArray, List.set_cons_zero, List.set_cons_succ]
              refine rg_take 2 77 (.int .i64 (i : Int)) _ rfl rfl (by kernel_rfl) (by kernel_rfl) (by kernel_rfl) (fun _ _ _ h => h) (by rfl) (fun w' hw' => ?_) hS (listed' := #[true, true, true, false, false, false, false, false, false, false, false, false, false, false, false, false, false, false, false, false, false]) (by kernel_rfl) rfl ?_
              · obtain ⟨u0, u1, u2, u3, u4⟩ := HCL.out w' hw'; go_simp
              simp only [List.setIfInBounds_toArray, List.set_cons_zero, List.set_cons_succ]
              refine rg_take 3 78 (.pointer (some ⟨qm, i * 3, none⟩)) _ rfl rfl (by kernel_rfl) (by kernel_rfl) (by kernel_rfl) (fun _ _ _ h => h) (by rfl) (fun w' hw' => ?_) hS (listed' := #[true, true, true, true, false, false, false, false, false, false, false, false, false, false, false, false, false, false, false, false, false]) (by kernel_rfl) rfl ?_
              · obtain ⟨u0, u1, u2, u3, u4⟩ := HCL.out w' hw'; go_simp
              simp only [List.setIfInBounds_toArray, List.set_cons_zero, List.set_cons_succ]
              refine rg_take 4 79 (.pointer (some ⟨qm, i * 3 + 2, none⟩)) _ rfl rfl (by kernel_rfl) (by kernel_rfl) (by kernel_rfl) (fun _ _ _ h => h) (by rfl) (fun w' hw' => ?_) hS (listed' := #[true, true, true, true, true, false, false, false, false, false, false, false, false, false, false, false, false, false, false, false, false]) (by kernel_rfl) rfl ?_
              · obtain ⟨u0, u1, u2, u3, u4⟩ := HCL.out w' hw'; go_simp
              simp only [List.setIfInBounds_toArray, List.set_cons_zero, List.set_cons_succ]
              refine rg_take 5 80 (.slice (some ⟨q, 0, none⟩) nR rc) _ rfl rfl (by kernel_rfl) (by kernel_rfl) (by kernel_rfl) (fun _ _ _ h => h) (by rfl) (fun w' hw' => ?_) hS (listed' := #[true, true, true, true, true, true, false, false, false, false, false, false, false, false, false, false, false, false, false, false, false]) (by kernel_rfl) rfl ?_
              · obtain ⟨u0, u1, u2, u3, u4⟩ := HCL.out w' hw'; go_simp
              simp only [List.setIfInBounds_toArray, List.set_cons_zero, List.set_cons_succ]
              refine rg_take 6 81 (.int .i64 (nR : Int)) _ rfl rfl (by kernel_rfl) (by kernel_rfl) (by kernel_rfl) (fun _ _ _ h => h) (by rfl) (fun w' hw' => ?_) hS (listed' := #[true, true, true, true, true, true, true, false, false, false, false, false, false, false, false, false, false, false, false, false, false]) (by kernel_rfl) rfl ?_
              · obtain ⟨u0, u1, u2, u3, u4⟩ := HCL.out w' hw'; go_simp
              simp only [List.setIfInBounds_toArray, List.set_cons_zero, List.set_cons_succ]
              refine rg_take 7 82 (.int .i64 ((nR : Int) - 1)) _ rfl rfl (by kernel_rfl) (by kernel_rfl) (by kernel_rfl) (fun _ _ _ h => h) (by rfl) (fun w' hw' => ?_) hS (listed' := #[true, true, true, true, true, true, true, true, false, false, false, false, false, false, false, false, false, false, false, false, false]) (by kernel_rfl) rfl ?_
              · obtain ⟨u0, u1, u2, u3, u4⟩ := HCL.out w' hw'; go_simp
              simp only [List.setIfInBounds_toArray, List.set_cons_zero, List.set_cons_succ]
              refine rg_take 8 83 (.int .i64 (k : Int)) _ rfl rfl (by kernel_rfl) (by kernel_rfl) (by kernel_rfl) (fun _ _ _ h => h) (by rfl) (fun w' hw' => ?_) hS (listed' := #[true, true, true, true, true, true, true, true, true, false, false, false, false, false, false, false, false, false, false, false, false]) (by kernel_rfl) rfl ?_
              · obtain ⟨u0, u1, u2, u3, u4⟩ := HCL.out w' hw'; go_simp
              simp only [List.setIfInBounds_toArray, List.set_cons_zero, List.set_cons_succ]
              refine rg_take 9 84 (.int .i64 (r : Int)) _ rfl rfl (by kernel_rfl) (by kernel_rfl) (by kernel_rfl) (fun _ _ _ h => h) (by rfl) (fun w' hw' => ?_) hS (listed' := #[true, true, true, true, true, true, true, true, true, true, false, false, false, false, false, false, false, false, false, false, false]) (by kernel_rfl) rfl ?_
              · obtain ⟨u0, u1, u2, u3, u4⟩ := HCL.out w' hw'; go_simp
              simp only [List.setIfInBounds_toArray, List.set_cons_zero, List.set_cons_succ]
              refine rg_take 10 85 (.pointer (some ⟨w.heap.size, 1, none⟩)) _ rfl rfl (by kernel_rfl) (by kernel_rfl) (by kernel_rfl) (fun _ _ _ h => h) (by rfl) (fun w' hw' => ?_) hS (listed' := #[true, true, true, true, true, true, true, true, true, true, true, false, false, false, false, false, false, false, false, false, false]) (by kernel_rfl) rfl ?_
              · obtain ⟨u0, u1, u2, u3, u4⟩ := HCL.out w' hw'; go_simp
              simp only [List.setIfInBounds_toArray, List.set_cons_zero, List.set_cons_succ]
              refine rg_take 11 86 (.slice (some ⟨g, off, none⟩) M cm) _ rfl rfl (by kernel_rfl) (by kernel_rfl) (by kernel_rfl) (fun _ _ _ h => h) (by rfl) (fun w' hw' => ?_) hS (listed' := #[true, true, true, true, true, true, true, true, true, true, true, true, false, false, false, false, false, false, false, false, false]) (by kernel_rfl) rfl ?_
              · obtain ⟨u0, u1, u2, u3, u4⟩ := HCL.out w' hw'; go_simp
              simp only [List.setIfInBounds_toArray, List.set_cons_zero, List.set_cons_succ]
              refine rg_take 12 87 (.int .i64 (i : Int)) _ rfl rfl (by kernel_rfl) (by kernel_rfl) (by kernel_rfl) (fun _ _ _ h => h) (by rfl) (fun w' hw' => ?_) hS (listed' := #[true, true, true, true, true, true, true, true, true, true, true, true, true, false, false, false, false, false, false, false, false]) (by kernel_rfl) rfl ?_
              · obtain ⟨u0, u1, u2, u3, u4⟩ := HCL.out w' hw'; go_simp
              simp only [List.setIfInBounds_toArray, List.set_cons_zero, List.set_cons_succ]
              refine rg_take 13 88 (.pointer (some ⟨g, off + i * 3, none⟩)) _ rfl rfl (by kernel_rfl) (by kernel_rfl) (by kernel_rfl) (fun _ _ _ h => h) (by rfl) (fun w' hw' => ?_) hS (listed' := #[true, true, true, true, true, true, true, true, true, true, true, true, true, true, false, false, false, false, false, false, false]) (by kernel_rfl) rfl ?_
              · obtain ⟨u0, u1, u2, u3, u4⟩ := HCL.out w' hw'; go_simp
              simp only [List.setIfInBounds_toArray, List.set_cons_zero, List.set_cons_succ]
              refine rg_take 14 89 (.pointer (some ⟨g, off + i * 3 + 2, none⟩)) _ rfl rfl (by kernel_rfl) (by kernel_rfl) (by kernel_rfl) (fun _ _ _ h => h) (by rfl) (fun w' hw' => ?_) hS (listed' := #[true, true, true, true, true, true, true, true, true, true, true, true, true, true, true, false, false, false, false, false, false]) (by kernel_rfl) rfl ?_
              · obtain ⟨u0, u1, u2, u3, u4⟩ := HCL.out w' hw'; go_simp
              simp only [List.setIfInBounds_toArray, List.set_cons_zero, List.set_cons_succ]
              refine rg_take 15 90 (.slice (some ⟨g2, off2, none⟩) nR vc) _ rfl rfl (by kernel_rfl) (by kernel_rfl) (by kernel_rfl) (fun _ _ _ h => h) (by rfl) (fun w' hw' => ?_) hS (listed' := #[true, true, true, true, true, true, true, true, true, true, true, true, true, true, true, true, false, false, false, false, false]) (by kernel_rfl) rfl ?_
              · obtain ⟨u0, u1, u2, u3, u4⟩ := HCL.out w' hw'; go_simp
              simp only [List.setIfInBounds_toArray, List.set_cons_zero, List.set_cons_succ]
              refine rg_take 16 91 (.int .i64 (k : Int)) _ rfl rfl (by kernel_rfl) (by kernel_rfl) (by kernel_rfl) (fun _ _ _ h => h) (by rfl) (fun w' hw' => ?_) hS (listed' := #[true, true, true, true, true, true, true, true, true, true, true, true, true, true, true, true, true, false, false, false, false]) (by kernel_rfl) rfl ?_
              · obtain ⟨u0, u1, u2, u3, u4⟩ := HCL.out w' hw'; go_simp
              simp only [List.setIfInBounds_toArray, List.set_cons_zero, List.set_cons_succ]
              refine rg_take 17 92 (.pointer (some ⟨g2, off2 + k, none⟩)) _ rfl rfl (by kernel_rfl) (by kernel_rfl) (by kernel_rfl) (fun _ _ _ h => h) (by rfl) (fun w' hw' => ?_) hS (listed' := #[true, true, true, true, true, true, true, true, true, true, true, true, true, true, true, true, true, true, false, false, false]) (by kernel_rfl) rfl ?_
              · obtain ⟨u0, u1, u2, u3, u4⟩ := HCL.out w' hw'; go_simp
              simp only [List.setIfInBounds_toArray, List.set_cons_zero, List.set_cons_succ]
              refine rg_take 18 93 (.int .i64 f0) _ rfl rfl (by kernel_rfl) (by kernel_rfl) (by kernel_rfl) (fun _ _ _ h => h) (by rfl) (fun w' hw' => ?_) hS (listed' := #[true, true, true, true, true, true, true, true, true, true, true, true, true, true, true, true, true, true, true, false, false]) (by kernel_rfl) rfl ?_
              · obtain ⟨u0, u1, u2, u3, u4⟩ := HCL.out w' hw'; go_simp
              simp only [List.setIfInBounds_toArray, List.set_cons_zero, List.set_cons_succ]
              refine rg_take 19 94 (.pointer (some ⟨q, r, none⟩)) _ rfl rfl (by kernel_rfl) (by kernel_rfl) (by kernel_rfl) (fun _ _ _ h => h) (by rfl) (fun w' hw' => ?_) hS (listed' := #[true, true, true, true, true, true, true, true, true, true, true, true, true, true, true, true, true, true, true, true, false]) (by kernel_rfl) rfl ?_
              · obtain ⟨u0, u1, u2, u3, u4⟩ := HCL.out w' hw'; go_simp
              simp only [List.setIfInBounds_toArray, List.set_cons_zero, List.set_cons_succ]
              have hO2 := HO.out.below hY
              obtain ⟨hO3, hK3⟩ := hO2.setR HAR.out HMK.out HPi.out HFL.out hrn f0
              have hoq := own_below HOQ.out hY
              obtain ⟨g5, hg5⟩ : ∃ x, rs[r]? = some x := ⟨_, List.getElem?_eq_getElem (by rw [HFL.out]; exact hrn)⟩
              have hrk : (inRows rs)[r]? = some [.int .i64 g5] := by simp [inRows, hg5]
              have t0 : Y.cell? ⟨q, r, none⟩ = some (.int .i64 g5) := by have := own_at (fun r hr => by simp only [inRows, List.mem_map] at hr; obtain ⟨_, _, rfl⟩ := hr; rfl) hoq hrk (j := 0) rfl; rw [Nat.add_zero, Nat.mul_one] at this; exact this
              clear hrk hg5
              have y0 : Y.frozen? ⟨q, r, none⟩ = false := own_froz hoq _
              refine rg_store 20 (Y.setCell ⟨q, r, none⟩ (.int .i64 f0)) rfl rfl (by kernel_rfl) (by rfl) (listed' := #[true, true, true, true, true, true, true, true, true, true, true, true, true, true, true, true, true, true, true, true, true]) (by kernel_rfl) (by go_simp) ((Kp.ofBelow hY).trans hK3) ?_
              refine wpAnyH_done (by kernel_rfl) ?_ _
              have HN : Hid (Tm w #[.string nm, .slice (some ⟨g, off, none⟩) M cm, .slice ae E ce, .slice at' T ct] #[.string nm, .slice (some ⟨qm, 0, none⟩) M qmc, .slice ea E ec, .slice ta T tc] b5 B (.slice (some ⟨qm, 0, none⟩) M qmc) (.slice ea E ec) (.slice ta T tc) (ms.set i ⟨m0, mf.reverse, rs.set r f0⟩) pm (s.enums) pe s.methods (Y.setCell ⟨q, r, none⟩ (.int .i64 f0))) := by
                have := hO3
                simp only [List.set_set] at this
                exact this
              clear t0 y0 hO2 hO3 hK3 hoq HO HOQ HOB HCL hS hY Y1 D0
              generalize (Y.setCell ⟨q, r, none⟩ (.int .i64 f0)) = wz at *
              go_wp2_with fail
              go_roundw
              case rel => exact ⟨k + 1, _, by go_num, by omega, HRV, HN⟩
              case measure => simp [intOf]; omega
            · obtain rfl : k = nR := by omega
              have hfs : rs = mr.reverse := by have := HR.out; rw [← HNR.out] at this; exact this.all
              subst hfs
              have hlkz : ¬ (k : Int) < (k : Int) := by omega
              have HHS : Hid (Half revM s.msgs (i + 1) (ms.set i ⟨m0, mf.reverse, mr.reverse⟩)) := HH.out.step HMI'.out
              go_wp2_with fail
              go_roundw
              case rel => exact ⟨i + 1, _, by go_num, by omega, HHS, HO⟩
              case measure => simp [intOf]; omega
    · have hiM : i = M := by omega
      rw [hiM] at HH
      have hms : ms = s.msgs.map revM := by have := HH.out; rw [← HM.out] at this; exact this.all
      subst hms
      have hltz : ¬ (i : Int) < (M : Int) := by omega
      clear HH
      have x2 : wr.cell? ⟨b5, 2, none⟩ = some (.slice ea E ec) := HO.out.tbox.cell 2
      go_wp2_with fail
      clear x1 x2
      go_loopw [9] (fun iv wr => ∃ (i : Nat) (es : List EnS), iv = .int .i64 (i : Int) ∧ i ≤ E ∧ Hid (Half revE s.enums i es) ∧ Hid (Tm w #[.string nm, .slice am M cm, .slice ae E ce, .slice at' T ct] #[.string nm, .slice (some ⟨qm, 0, none⟩) M qmc, .slice ea E ec, .slice ta T tc] b5 B (.slice (some ⟨qm, 0, none⟩) M qmc) (.slice ea E ec) (.slice ta T tc) (s.msgs.map revM) pm (es) pe s.methods wr)) (fun iv _ => E - (intOf iv).toNat)
      case atStart => exact ⟨0, s.enums, rfl, by omega, Half.zero _ _, HO⟩
      case round =>
        clear HO hlt hi hiM hltz
        obtain ⟨i, es, rfl, hi, HH, HO⟩ := hrel
        have x1 : wr.cell? ⟨b5, 2, none⟩ = some (.slice ea E ec) := HO.out.tbox.cell 2
        by_cases hlt : i < E
        · obtain ⟨m, hm⟩ : ∃ x, s.enums[i]? = some x := ⟨_, List.getElem?_eq_getElem (by rw [HE.out]; exact hlt)⟩
          have hmi : es[i]? = some m := (HH.out.2.2 i (Nat.le_refl _)).trans hm
          obtain ⟨pv, hp⟩ : ∃ p, pe[i]? = some p := ⟨_, List.getElem?_eq_getElem (by rw [HO.out.eo.len, HH.out.1, HE.out]; exact hlt)⟩
          obtain ⟨g, off, vf, rfl, _, c1', hrf⟩ := HEI.out.get hm
          have HRF : Hid (RowG w vf 2 (nmRows m.values)) := hrf
          have C1 : Hid (w.cell? ⟨g, off + i * 2 + 1, none⟩ = some vf) := c1'
          have hgw : g < w.heap.size := World.block_lt_of_cell? _ _ c1'
          have HGW : Hid (g < w.heap.size) := hgw
          have hmo := HO.out.eo.own
          rw [HH.out.1, HE.out] at hmo
          obtain ⟨qe, qec, hqe0, hqe1, hqe2, _, _⟩ := own_addr hmo (by omega)
          simp only [Value.slice.injEq] at hqe0
          obtain ⟨rfl, _, rfl⟩ := hqe0
          unfold maxLen at hqe2
          have y1 := own_at (en_len es pe) hmo (en_get hmi hp) (j := 1) rfl
          have hof := HO.out.eo.each i m _ hmi hp
          obtain ⟨fa, fc, hfv⟩ := own_form hof
          subst hfv
          have HLF : Hid (m.values.length ≤ 24) := HF.out.few.vals m (List.mem_of_getElem? hm)
          have HMI' : Hid (s.enums[i]? = some m) := hm
          have HMi : Hid (es[i]? = some m) := hmi
          have HPi : Hid (pe[i]? = some (.slice fa m.values.length fc)) := hp
          have HSET : Hid (Tm w #[.string nm, .slice am M cm, .slice (some ⟨g, off, none⟩) E ce, .slice at' T ct] #[.string nm, .slice (some ⟨qm, 0, none⟩) M qmc, .slice (some ⟨qe, 0, none⟩) E ec, .slice ta T tc] b5 B (.slice (some ⟨qm, 0, none⟩) M qmc) (.slice (some ⟨qe, 0, none⟩) E ec) (.slice ta T tc) (s.msgs.map revM) pm (es.set i ⟨m.name, m.values⟩) pe s.methods wr) := by
            show Tm _ _ _ _ _ _ _ _ _ _ _ _ _ _
            rw [set_same (show es[i]? = some ⟨m.name, m.values⟩ from hmi)]
            exact HO.out
          clear hrf c1' hm hmi hp hmo hof HO hgw
          obtain ⟨m0, mf⟩ := m
          simp only at *
          generalize hnF : mf.length = nF at *
          have HNF : Hid (mf.length = nF) := hnF
          have hnF20 : nF ≤ 24 := HLF.out
          clear hnF
          have hltz : (i : Int) < (E : Int) := by omega
          go_wp2_with fail
          clear x1 y1
          go_loopw [11] (fun jv wr => ∃ (k : Nat) (fs : List NmS), jv = .int .i64 (k : Int) ∧ k ≤ nF ∧ Hid (RevTo mf k fs) ∧ Hid (Tm w #[.string nm, .slice am M cm, .slice (some ⟨g, off, none⟩) E ce, .slice at' T ct] #[.string nm, .slice (some ⟨qm, 0, none⟩) M qmc, .slice (some ⟨qe, 0, none⟩) E ec, .slice ta T tc] b5 B (.slice (some ⟨qm, 0, none⟩) M qmc) (.slice (some ⟨qe, 0, none⟩) E ec) (.slice ta T tc) (s.msgs.map revM) pm (es.set i ⟨m0, fs⟩) pe s.methods wr)) (fun jv _ => nF - (intOf jv).toNat)
          case atStart => exact ⟨0, mf, rfl, by omega, RevTo.zero _, HSET⟩
          case round =>
            clear HSET
            obtain ⟨k, fs, rfl, hk, HR, HO⟩ := hrel
            by_cases hlk : k < nF
            · obtain ⟨f, hf⟩ : ∃ x, mf[k]? = some x := ⟨_, List.getElem?_eq_getElem (by rw [HNF.out]; exact hlk)⟩
              have hfr : (nmRows mf)[k]? = some f.cells := by simp [nmRows, hf]
              obtain ⟨va, vc, hva, _, _⟩ := HRF.out.form2
              subst hva
              obtain ⟨g2, off2, rfl, cc⟩ := HRF.out.get hfr
              have HLR : Hid ((nmRows mf).length = nF) := by show _ = _; simp [nmRows, HNF.out]
              rw [HLR.out] at HRF C1
              obtain ⟨f0, f1⟩ := f
              have D0 : Hid (w.cell? ⟨g2, off2 + k * 2, none⟩ = some (.string f0)) := by have := cc 0 _ rfl; rw [Nat.add_zero] at this; exact this
              have D1 : Hid (w.cell? ⟨g2, off2 + k * 2 + 1, none⟩ = some (.int .i64 f1)) := cc 1 _ rfl
              have HFK : Hid (mf[k]? = some ⟨f0, f1⟩) := hf
              clear cc hfr hf
              have hil : i < es.length := (List.getElem?_eq_some_iff.1 HMi.out).1
              have hmk : (es.set i ⟨m0, fs⟩)[i]? = some ⟨m0, fs⟩ := List.getElem?_set_self hil
              have hfl : fs.length = nF := by rw [HR.out.1, HNF.out]
              have hofq := HO.out.eo.each i _ _ hmk HPi.out
              simp only at hofq
              rw [hfl] at hofq
              obtain ⟨q, qc, hq0, hqa1, hqa2, _, _⟩ := own_addr hofq (by omega)
              simp only [Value.slice.injEq] at hq0
              obtain ⟨rfl, _, rfl⟩ := hq0
              unfold maxLen at hqa2
              have HOQ : Hid (wr.ownsRow B 49 2 (.slice (some ⟨q, 0, none⟩) nF fc) nF (nmRows fs).flatten) := hofq
              have hmo := HO.out.eo.own
              rw [List.length_set, HH.out.1, HE.out] at hmo
              have HOB : Hid (wr.ownsRow B 47 2 (.slice (some ⟨qe, 0, none⟩) E ec) E (enRows (es.set i ⟨m0, fs⟩) pe).flatten) := hmo
              have Y1 : Hid (wr.cell? ⟨qe, i * 2 + 1, none⟩ = some (.slice (some ⟨q, 0, none⟩) nF fc)) := own_at (en_len _ pe) hmo (en_get hmk HPi.out) (j := 1) rfl
              have HMK : Hid ((es.set i ⟨m0, fs⟩)[i]? = some ⟨m0, fs⟩) := hmk
              have HFL : Hid (fs.length = nF) := hfl
              clear hmk hofq hmo hil hfl
              obtain ⟨r, hr⟩ : ∃ r, nF - 1 - k = r := ⟨_, rfl⟩
              have hrn : r < nF := by omega
              have hr2 : (nF : Int) - 1 - (k : Int) = (r : Int) := by omega
              have HRK : Hid (nF - 1 - k = r) := hr
              have hw1 : IntKind.i64.wrap ((nF : Int) - 1) = (nF : Int) - 1 := by rw [IntKind.wrap_i64]; omega
              have hw2 : IntKind.i64.wrap (r : Int) = (r : Int) := by rw [IntKind.wrap_i64]; omega
              have hRV : RevTo mf (k + 1) (fs.set r ⟨f0, f1⟩) := by have := HR.out.step HFK.out; rw [HNF.out, HRK.out] at this; exact this
              have HRV : Hid (RevTo mf (k + 1) (fs.set r ⟨f0, f1⟩)) := hRV
              clear hr hRV
              have hlkz : (k : Int) < (nF : Int) := by omega
              go_wp2_with fail
              have HCL : Hid (∀ W, Kp (fun b => b = q) wr W → W.cell? ⟨b5, 2, none⟩ = some (.slice (some ⟨qe, 0, none⟩) E ec) ∧ W.cell? ⟨qe, i * 2 + 1, none⟩ = some (.slice (some ⟨q, 0, none⟩) nF fc) ∧ W.cell? ⟨w.heap.size, 2, none⟩ = some (.slice (some ⟨g, off, none⟩) E ce) ∧ W.cell? ⟨g, off + i * 2 + 1, none⟩ = some (.slice (some ⟨g2, off2, none⟩) nF vc) ∧ W.cell? ⟨g2, off2 + k * 2, none⟩ = some (.string f0) ∧ W.cell? ⟨g2, off2 + k * 2 + 1, none⟩ = some (.int .i64 f1)) := fun W hW => by
                have hqB := own_hi HOQ.out
                have hbs := HO.out.base
                have n1 : b5 ≠ q := fun e => by subst e; exact absurd (own_type HOQ.out rfl HO.out.tbox) (by decide)
                have n2 : qe ≠ q := fun e => by subst e; exact own_apart HOB.out HOQ.out (by decide) _ rfl rfl
                have hg2 := World.block_lt_of_cell? _ _ D0.out
                simp only at hg2
                have hgw := HGW.out
                refine ⟨(HO.out.tbox.kp hW n1).cell 2, hW.cell Y1.out n2, (HO.out.box.kp hW (by omega)).cell 2, ?_, ?_, ?_⟩
                · exact hW.cell ((HO.out.bel.cell (World.block_lt_of_cell? _ _ C1.out)).trans C1.out) (by show ¬ g = q; omega)
                · exact hW.cell ((HO.out.bel.cell (World.block_lt_of_cell? _ _ D0.out)).trans D0.out) (by show ¬ g2 = q; omega)
                · exact hW.cell ((HO.out.bel.cell (World.block_lt_of_cell? _ _ D1.out)).trans D1.out) (by show ¬ g2 = q; omega)
              refine wp_region_held_drew (S := fun W => Kp (fun b => b = q) wr W) (by kernel_rfl) (Kp.ofBelow (below_drewN 1 (Below.refl _ _))) (fun hS => ?_)
              have hY : Below wr.heap.size wr wr.drew := below_drewN 1 (Below.refl _ _)
              generalize wr.drew = Y at *
              refine rg_take 0 114 (.pointer (some ⟨b5, 2, none⟩)) _ rfl rfl (by kernel_rfl) (by kernel_rfl) (by kernel_rfl) (fun _ _ _ h => h) (by rfl) (fun w' hw' => ?_) hS (listed' := #[true, false, false, false, false, false, false, false, false, false, false, false, false, false, false, false, false, false, false, false, false]) (by kernel_rfl) rfl ?_
              · obtain ⟨u0, u1, u2, u3, u4, u5⟩ := HCL.out w' hw'; go_simp
              simp only [List.setIfInBounds_toArray, List.set_cons_zero, List.set_cons_succ]
              refine rg_take 1 115 (.slice (some ⟨qe, 0, none⟩) E ec) _ rfl rfl (by kernel_rfl) (by kernel_rfl) (by kernel_rfl) (fun _ _ _ h => h) (by rfl) (fun w' hw' => ?_) hS (listed' := #[true, true, false, false, false, false, false, false, false, false, false, false, false, false, false, false, false, false, false, false, false]) (by kernel_rfl) rfl ?_
              · obtain ⟨u0, u1, u2, u3, u4, u5⟩ := HCL.out w' hw'; go_simp
              simp only [List.setIfInBounds_toArray, List.set_cons_zero, List.set_cons_succ]
              refine rg_take 2 116 (.int .i64 (i : Int)) _ rfl rfl (by kernel_rfl) (by kernel_rfl) (by kernel_rfl) (fun _ _ _ h => h) (by rfl) (fun w' hw' => ?_) hS (listed' := #[true, true, true, false, false, false, false, false, false, false, false, false, false, false, false, false, false, false, false, false, false]) (by kernel_rfl) rfl ?_
              · obtain ⟨u0, u1, u2, u3, u4, u5⟩ := HCL.out w' hw'; go_simp
              simp only [List.setIfInBounds_toArray, List.set_cons_zero, List.set_cons_succ]
              refine rg_take 3 117 (.pointer (some ⟨qe, i * 2, none⟩)) _ rfl rfl (by kernel_rfl) (by kernel_rfl) (by kernel_rfl) (fun _ _ _ h => h) (by rfl) (fun w' hw' => ?_) hS (listed' := #[true, true, true, true, false, false, false, false, false, false, false, false, false, false, false, false, false, false, false, false, false]) (by kernel_rfl) rfl ?_
              · obtain ⟨u0, u1, u2, u3, u4, u5⟩ := HCL.out w' hw'; go_simp
              simp only [List.setIfInBounds_toArray, List.set_cons_zero, List.set_cons_succ]
              refine rg_take 4 118 (.pointer (some ⟨qe, i * 2 + 1, none⟩)) _ rfl rfl (by kernel_rfl) (by kernel_rfl) (by kernel_rfl) (fun _ _ _ h => h) (by rfl) (fun w' hw' => ?_) hS (listed' := #[true, true, true, true, true, false, false, false, false, false, false, false, false, false, false, false, false, false, false, false, false]) (by kernel_rfl) rfl ?_
              · obtain ⟨u0, u1, u2, u3, u4, u5⟩ := HCL.out w' hw'; go_simp
              simp only [List.setIfInBounds_toArray, List.set_cons_zero, List.set_cons_succ]
              refine rg_take 5 119 (.slice (some ⟨q, 0, none⟩) nF fc) _ rfl rfl (by kernel_rfl) (by kernel_rfl) (by kernel_rfl) (fun _ _ _ h => h) (by rfl) (fun w' hw' => ?_) hS (listed' := #[true, true, true, true, true, true, false, false, false, false, false, false, false, false, false, false, false, false, false, false, false]) (by kernel_rfl) rfl ?_
              · obtain ⟨u0, u1, u2, u3, u4, u5⟩ := HCL.out w' hw'; go_simp
              simp only [List.setIfInBounds_toArray, List.set_cons_zero, List.set_cons_succ]
              refine rg_take 6 120 (.int .i64 (nF : Int)) _ rfl rfl (by kernel_rfl) (by kernel_rfl) (by kernel_rfl) (fun _ _ _ h => h) (by rfl) (fun w' hw' => ?_) hS (listed' := #[true, true, true, true, true, true, true, false, false, false, false, false, false, false, false, false, false, false, false, false, false]) (by kernel_rfl) rfl ?_
              · obtain ⟨u0, u1, u2, u3, u4, u5⟩ := HCL.out w' hw'; go_simp
              simp only [List.setIfInBounds_toArray, List.set_cons_zero, List.set_cons_succ]
              refine rg_take 7 121 (.int .i64 ((nF : Int) - 1)) _ rfl rfl (by kernel_rfl) (by kernel_rfl) (by kernel_rfl) (fun _ _ _ h => h) (by rfl) (fun w' hw' => ?_) hS (listed' := #[true, true, true, true, true, true, true, true, false, false, false, false, false, false, false, false, false, false, false, false, false]) (by kernel_rfl) rfl ?_
              · obtain ⟨u0, u1, u2, u3, u4, u5⟩ := HCL.out w' hw'; go_simp
              simp only [List.setIfInBounds_toArray, List.set_cons_zero, List.set_cons_succ]
              refine rg_take 8 122 (.int .i64 (k : Int)) _ rfl rfl (by kernel_rfl) (by kernel_rfl) (by kernel_rfl) (fun _ _ _ h => h) (by rfl) (fun w' hw' => ?_) hS (listed' := #[true, true, true, true, true, true, true, true, true, false, false, false, false, false, false, false, false, false, false, false, false]) (by kernel_rfl) rfl ?_
              · obtain ⟨u0, u1, u2, u3, u4, u5⟩ := HCL.out w' hw'; go_simp
              simp only [List.setIfInBounds_toArray, List.set_cons_zero, List.set_cons_succ]
              refine rg_take 9 123 (.int .i64 (r : Int)) _ rfl rfl (by kernel_rfl) (by kernel_rfl) (by kernel_rfl) (fun _ _ _ h => h) (by rfl) (fun w' hw' => ?_) hS (listed' := #[true, true, true, true, true, true, true, true, true, true, false, false, false, false, false, false, false, false, false, false, false]) (by kernel_rfl) rfl ?_
              · obtain ⟨u0, u1, u2, u3, u4, u5⟩ := HCL.out w' hw'; go_simp
              simp only [List.setIfInBounds_toArray, List.set_cons_zero, List.set_cons_succ]
              refine rg_take 10 124 (.pointer (some ⟨w.heap.size, 2, none⟩)) _ rfl rfl (by kernel_rfl) (by kernel_rfl) (by kernel_rfl) (fun _ _ _ h => h) (by rfl) (fun w' hw' => ?_) hS (listed' := #[true, true, true, true, true, true, true, true, true, true, true, false, false, false, false, false, false, false, false, false, false]) (by kernel_rfl) rfl ?_
              · obtain ⟨u0, u1, u2, u3, u4, u5⟩ := HCL.out w' hw'; go_simp
              simp only [List.setIfInBounds_toArray, List.set_cons_zero, List.set_cons_succ]
              refine rg_take 11 125 (.slice (some ⟨g, off, none⟩) E ce) _ rfl rfl (by kernel_rfl) (by kernel_rfl) (by kernel_rfl) (fun _ _ _ h => h) (by rfl) (fun w' hw' => ?_) hS (listed' := #[true, true, true, true, true, true, true, true, true, true, true, true, false, false, false, false, false, false, false, false, false]) (by kernel_rfl) rfl ?_
              · obtain ⟨u0, u1, u2, u3, u4, u5⟩ := HCL.out w' hw'; go_simp
              simp only [List.setIfInBounds_toArray, List.set_cons_zero, List.set_cons_succ]
              refine rg_take 12 126 (.int .i64 (i : Int)) _ rfl rfl (by kernel_rfl) (by kernel_rfl) (by kernel_rfl) (fun _ _ _ h => h) (by rfl) (fun w' hw' => ?_) hS (listed' := #[true, true, true, true, true, true, true, true, true, true, true, true, true, false, false, false, false, false, false, false, false]) (by kernel_rfl) rfl ?_
              · obtain ⟨u0, u1, u2, u3, u4, u5⟩ := HCL.out w' hw'; go_simp
              simp only [List.setIfInBounds_toArray, List.set_cons_zero, List.set_cons_succ]
              refine rg_take 13 127 (.pointer (some ⟨g, off + i * 2, none⟩)) _ rfl rfl (by kernel_rfl) (by kernel_rfl) (by kernel_rfl) (fun _ _ _ h => h) (by rfl) (fun w' hw' => ?_) hS (listed' := #[true, true, true, true, true, true, true, true, true, true, true, true, true, true, false, false, false, false, false, false, false]) (by kernel_rfl) rfl ?_
              · obtain ⟨u0, u1, u2, u3, u4, u5⟩ := HCL.out w' hw'; go_simp
              simp only [List.setIfInBounds_toArray, List.set_cons_zero, List.set_cons_succ]
              refine rg_take 14 128 (.pointer (some ⟨g, off + i * 2 + 1, none⟩)) _ rfl rfl (by kernel_rfl) (by kernel_rfl) (by kernel_rfl) (fun _ _ _ h => h) (by rfl) (fun w' hw' => ?_) hS (listed' := #[true, true, true, true, true, true, true, true, true, true, true, true, true, true, true, false, false, false, false, false, false]) (by kernel_rfl) rfl ?_
              · obtain ⟨u0, u1, u2, u3, u4, u5⟩ := HCL.out w' hw'; go_simp
              simp only [List.setIfInBounds_toArray, List.set_cons_zero, List.set_cons_succ]
              refine rg_take 15 129 (.slice (some ⟨g2, off2, none⟩) nF vc) _ rfl rfl (by kernel_rfl) (by kernel_rfl) (by kernel_rfl) (fun _ _ _ h => h) (by rfl) (fun w' hw' => ?_) hS (listed' := #[true, true, true, true, true, true, true, true, true, true, true, true, true, true, true, true, false, false, false, false, false]) (by kernel_rfl) rfl ?_
              · obtain ⟨u0, u1, u2, u3, u4, u5⟩ := HCL.out w' hw'; go_simp
              simp only [List.setIfInBounds_toArray, List.set_cons_zero, List.set_cons_succ]
              refine rg_take 16 130 (.int .i64 (k : Int)) _ rfl rfl (by kernel_rfl) (by kernel_rfl) (by kernel_rfl) (fun _ _ _ h => h) (by rfl) (fun w' hw' => ?_) hS (listed' := #[true, true, true, true, true, true, true, true, true, true, true, true, true, true, true, true, true, false, false, false, false]) (by kernel_rfl) rfl ?_
              · obtain ⟨u0, u1, u2, u3, u4, u5⟩ := HCL.out w' hw'; go_simp
              simp only [List.setIfInBounds_toArray, List.set_cons_zero, List.set_cons_succ]
              refine rg_take 17 131 (.pointer (some ⟨g2, off2 + k * 2, none⟩)) _ rfl rfl (by kernel_rfl) (by kernel_rfl) (by kernel_rfl) (fun _ _ _ h => h) (by rfl) (fun w' hw' => ?_) hS (listed' := #[true, true, true, true, true, true, true, true, true, true, true, true, true, true, true, true, true, true, false, false, false]) (by kernel_rfl) rfl ?_
              · obtain ⟨u0, u1, u2, u3, u4, u5⟩ := HCL.out w' hw'; go_simp
              simp only [List.setIfInBounds_toArray, List.set_cons_zero, List.set_cons_succ]
              refine rg_take 18 132 (.agg #[.string f0, .int .i64 f1]) _ rfl rfl (by kernel_rfl) (by kernel_rfl) (by kernel_rfl) (fun _ _ _ h => h) (by rfl) (fun w' hw' => ?_) hS (listed' := #[true, true, true, true, true, true, true, true, true, true, true, true, true, true, true, true, true, true, true, false, false]) (by kernel_rfl) rfl ?_
              · obtain ⟨u0, u1, u2, u3, u4, u5⟩ := HCL.out w' hw'; go_simp
              simp only [List.setIfInBounds_toArray, List.set_cons_zero, List.set_cons_succ]
              refine rg_take 19 133 (.pointer (some ⟨q, r * 2, none⟩)) _ rfl rfl (by kernel_rfl) (by kernel_rfl) (by kernel_rfl) (fun _ _ _ h => h) (by rfl) (fun w' hw' => ?_) hS (listed' := #[true, true, true, true, true, true, true, true, true, true, true, true, true, true, true, true, true, true, true, true, false]) (by kernel_rfl) rfl ?_
              · obtain ⟨u0, u1, u2, u3, u4, u5⟩ := HCL.out w' hw'; go_simp
              simp only [List.setIfInBounds_toArray, List.set_cons_zero, List.set_cons_succ]
              have hO2 := HO.out.below hY
              obtain ⟨hO3, hK3⟩ := hO2.setV HAE.out HMK.out HPi.out HFL.out hrn ⟨f0, f1⟩
              have hoq := own_below HOQ.out hY
              obtain ⟨g5, hg5⟩ : ∃ x, fs[r]? = some x := ⟨_, List.getElem?_eq_getElem (by rw [HFL.out]; exact hrn)⟩
              have hrk : (nmRows fs)[r]? = some g5.cells := by simp [nmRows, hg5]
              have hnl : ∀ x ∈ nmRows fs, x.length = 2 := fun x hx => by simp only [nmRows, List.mem_map] at hx; obtain ⟨_, _, rfl⟩ := hx; rfl
              have t0 := own_at hnl hoq hrk (j := 0) rfl
              have t1 := own_at hnl hoq hrk (j := 1) rfl
              rw [Nat.add_zero] at t0
              clear hrk hg5 hnl
              have y0 : Y.frozen? ⟨q, r * 2, none⟩ = false := own_froz hoq _
              have y1 : Y.frozen? ⟨q, r * 2 + 1, none⟩ = false := own_froz hoq _
              refine rg_store 20 ((Y.setCell ⟨q, r * 2, none⟩ (.string f0)).setCell ⟨q, r * 2 + 1, none⟩ (.int .i64 f1)) rfl rfl (by kernel_rfl) (by rfl) (listed' := #[true, true, true, true, true, true, true, true, true, true, true, true, true, true, true, true, true, true, true, true, true]) (by kernel_rfl) (by go_simp) ((Kp.ofBelow hY).trans hK3) ?_
              refine wpAnyH_done (by kernel_rfl) ?_ _
              have HN : Hid (Tm w #[.string nm, .slice am M cm, .slice (some ⟨g, off, none⟩) E ce, .slice at' T ct] #[.string nm, .slice (some ⟨qm, 0, none⟩) M qmc, .slice (some ⟨qe, 0, none⟩) E ec, .slice ta T tc] b5 B (.slice (some ⟨qm, 0, none⟩) M qmc) (.slice (some ⟨qe, 0, none⟩) E ec) (.slice ta T tc) (s.msgs.map revM) pm (es.set i ⟨m0, fs.set r ⟨f0, f1⟩⟩) pe s.methods ((Y.setCell ⟨q, r * 2, none⟩ (.string f0)).setCell ⟨q, r * 2 + 1, none⟩ (.int .i64 f1))) := by
                have := hO3
                simp only [List.set_set] at this
                exact this
              clear t0 y0 t1 y1 hO2 hO3 hK3 hoq HO HOQ HOB HCL hS hY Y1 D0 D1
              generalize ((Y.setCell ⟨q, r * 2, none⟩ (.string f0)).setCell ⟨q, r * 2 + 1, none⟩ (.int .i64 f1)) = wz at *
              go_wp2_with fail
              go_roundw
              case rel => exact ⟨k + 1, _, by go_num, by omega, HRV, HN⟩
              case measure => simp [intOf]; omega
            · obtain rfl : k = nF := by omega
              have hfs : fs = mf.reverse := by have := HR.out; rw [← HNF.out] at this; exact this.all
              subst hfs
              have hlkz : ¬ (k : Int) < (k : Int) := by omega
              have HHS : Hid (Half revE s.enums (i + 1) (es.set i ⟨m0, mf.reverse⟩)) := HH.out.step HMI'.out
              go_wp2_with fail
              go_roundw
              case rel => exact ⟨i + 1, _, by go_num, by omega, HHS, HO⟩
              case measure => simp [intOf]; omega
        · have hiM : i = E := by omega
          rw [hiM] at HH
          have hes : es = s.enums.map revE := by have := HH.out; rw [← HE.out] at this; exact this.all
          subst hes
          have hltz : ¬ (i : Int) < (E : Int) := by omega
          clear HH hiM
          go_wp2_with fail
          clear x1
          have hmo := HO.out.mo.to_in
          have heo := HO.out.eo.to_in
          have hto := mt_in HO.out.own
          have HSR : Hid (ScIn wr (.agg #[.string nm, .slice (some ⟨qm, 0, none⟩) M qmc, .slice ea E ec, .slice ta T tc]) (revS s)) := ⟨_, _, _, by show Value.agg _ = Value.agg _; rw [show (revS s).name = s.name from rfl, HNM.out], hmo, heo, hto⟩
          have hbel := HO.out.bel
          have HSS : Hid (ScIn wr (.agg #[.string nm, .slice am M cm, .slice ae E ce, .slice at' T ct]) s) := HSC.out.below hbel
          have OKR : Hid (canonS (revS s) = canonS s) := canon_rev HOK.out
          have hprS : PrO s := pro_ok HF.out HW.out ((checkA_ok s).2 HOK.out)
          have OS : Hid (PrO s) := hprS
          have OR : Hid (PrO (revS s)) := ⟨few_rev hprS.few, fun e he => by
            obtain ⟨m', hm', rfl⟩ := List.mem_map.1 he
            have := hprS.cap m' hm'
            simpa [revE] using this, scW_rev hprS.wf, by unfold printL; rw [OKR.out]; exact hprS.len⟩
          have HPE : Hid (printB (revS s) = printB s) := by show _ = _; unfold printB printL; rw [OKR.out]
          have HTW : Hid (PTab wr) := HPT.out.below hbel
          have HGW : Hid (Glob wr) := HG.out.below hbel
          have HCL : Hid (∀ W, Below wr.heap.size wr W → Blk W b5 #[.string nm, .slice (some ⟨qm, 0, none⟩) M qmc, .slice ea E ec, .slice ta T tc] 26 ∧ Blk W w.heap.size #[.string nm, .slice am M cm, .slice ae E ce, .slice at' T ct] 26) := fun W hW => ⟨HO.out.tbox.below hW, HO.out.box.below hW⟩
          clear hmo heo hto HO hprS
          refine wp_region_held_drew (S := fun W => Below wr.heap.size wr W) (by kernel_rfl) (below_drewN 1 (Below.refl _ _)) (fun hS => ?_)
          generalize wr.drew = Y at *
          refine rg_take 0 134 (.agg #[.string nm, .slice (some ⟨qm, 0, none⟩) M qmc, .slice ea E ec, .slice ta T tc]) _ rfl rfl (by kernel_rfl) (by kernel_rfl) (by kernel_rfl) (fun _ _ _ h => h) (by rfl) (fun w' hw' => ?_) hS (listed' := #[true, false, false, false, false, false, false, false, false, false, false, false, false, false, false]) (by kernel_rfl) rfl ?_
          · obtain ⟨q1, q2⟩ := HCL.out w' hw'; have x0 := (q1.cell 0).trans rfl; have x1 := (q1.cell 1).trans rfl; have x2 := (q1.cell 2).trans rfl; have x3 := (q1.cell 3).trans rfl; go_simp
          simp only [List.setIfInBounds_toArray, List.set_cons_zero, List.set_cons_succ]
          refine rg_take 2 136 (.agg #[.string nm, .slice am M cm, .slice ae E ce, .slice at' T ct]) _ rfl rfl (by kernel_rfl) (by kernel_rfl) (by kernel_rfl) (fun _ _ _ h => h) (by rfl) (fun w' hw' => ?_) hS (listed' := #[true, false, true, false, false, false, false, false, false, false, false, false, false, false, false]) (by kernel_rfl) rfl ?_
          · obtain ⟨q1, q2⟩ := HCL.out w' hw'; have x0 := (q2.cell 0).trans rfl; have x1 := (q2.cell 1).trans rfl; have x2 := (q2.cell 2).trans rfl; have x3 := (q2.cell 3).trans rfl; go_simp
          simp only [List.setIfInBounds_toArray, List.set_cons_zero, List.set_cons_succ]
          refine rg_call 1 135 15 #[.agg #[.string nm, .slice (some ⟨qm, 0, none⟩) M qmc, .slice ea E ec, .slice ta T tc]] rfl rfl (by kernel_rfl) (by rfl) (listed' := #[true, true, true, false, false, false, false, false, false, false, false, false, false, false, false]) (by kernel_rfl) (fun W => by go_simp) ?_
          refine (pprint_any (HSR.out.below hS) OR.out (HTW.out.below hS)).mono ?_
          rintro e Y1 ⟨rfl, hb1⟩
          rw [HPE.out]
          have hS : Below wr.heap.size wr Y1 := hS.trans (hb1.mono hS.size)
          refine ⟨_, rfl, hS, ?_⟩
          simp only [List.setIfInBounds_toArray, List.set_cons_zero, List.set_cons_succ]
          refine rg_call 3 137 11 #[.agg #[.string nm, .slice am M cm, .slice ae E ce, .slice at' T ct]] rfl rfl (by kernel_rfl) (by rfl) (listed' := #[true, true, true, true, false, false, false, false, false, false, false, false, false, false, false]) (by kernel_rfl) (fun W => by go_simp) ?_
          refine (schema_any (HSS.out.below hS) HF.out.few).mono ?_
          rintro e Y2 ⟨um, ue, ut, qq, qx, rfl, hM2, hE2, hT2, hb2⟩
          have hS : Below wr.heap.size wr Y2 := hS.trans (hb2.mono hS.size)
          have HS2 : Hid (ScIn Y2 (.agg #[.string s.name, um, ue, ut]) s) := ⟨_, _, _, rfl, hM2.to_in, hE2.to_in, mt_in hT2⟩
          refine ⟨_, rfl, hS, ?_⟩
          simp only [List.setIfInBounds_toArray, List.set_cons_zero, List.set_cons_succ]
          clear hM2 hE2 hT2
          refine rg_call 4 138 15 #[.agg #[.string s.name, um, ue, ut]] rfl rfl (by kernel_rfl) (by rfl) (listed' := #[true, true, true, true, true, false, false, false, false, false, false, false, false, false, false]) (by kernel_rfl) (fun W => by go_simp) ?_
          refine (pprint_any HS2.out OS.out (HTW.out.below hS)).mono ?_
          rintro e Y3 ⟨rfl, hb3⟩
          have hS : Below wr.heap.size wr Y3 := hS.trans (hb3.mono hS.size)
          refine ⟨_, rfl, hS, ?_⟩
          simp only [List.setIfInBounds_toArray, List.set_cons_zero, List.set_cons_succ]
          generalize hps : printB s = ps at *
          have HPS : Hid (printB s = ps) := hps
          clear hps
          refine rg_take 5 139 (.bool true) _ rfl rfl (by kernel_rfl) (by kernel_rfl) (by kernel_rfl) (fun _ _ _ h => h) (by rfl) (fun w' hw' => ?_) hS (listed' := #[true, true, true, true, true, true, false, false, false, false, false, false, false, false, false]) (by kernel_rfl) rfl ?_
          · go_simp
          simp only [List.setIfInBounds_toArray, List.set_cons_zero, List.set_cons_succ]
          refine rg_take 6 140 (.bool true) _ rfl rfl (by kernel_rfl) (by kernel_rfl) (by kernel_rfl) (fun _ _ _ h => h) (by rfl) (fun w' hw' => ?_) hS (listed' := #[true, true, true, true, true, true, true, false, false, false, false, false, false, false, false]) (by kernel_rfl) rfl ?_
          · go_simp
          simp only [List.setIfInBounds_toArray, List.set_cons_zero, List.set_cons_succ]
          refine rg_take 7 141 (.agg #[.string nm, .slice (some ⟨qm, 0, none⟩) M qmc, .slice ea E ec, .slice ta T tc]) _ rfl rfl (by kernel_rfl) (by kernel_rfl) (by kernel_rfl) (fun _ _ _ h => h) (by rfl) (fun w' hw' => ?_) hS (listed' := #[true, true, true, true, true, true, true, true, false, false, false, false, false, false, false]) (by kernel_rfl) rfl ?_
          · obtain ⟨q1, q2⟩ := HCL.out w' hw'; have x0 := (q1.cell 0).trans rfl; have x1 := (q1.cell 1).trans rfl; have x2 := (q1.cell 2).trans rfl; have x3 := (q1.cell 3).trans rfl; go_simp
          simp only [List.setIfInBounds_toArray, List.set_cons_zero, List.set_cons_succ]
          refine rg_take 8 142 (.agg #[.string nm, .slice am M cm, .slice ae E ce, .slice at' T ct]) _ rfl rfl (by kernel_rfl) (by kernel_rfl) (by kernel_rfl) (fun _ _ _ h => h) (by rfl) (fun w' hw' => ?_) hS (listed' := #[true, true, true, true, true, true, true, true, true, false, false, false, false, false, false]) (by kernel_rfl) rfl ?_
          · obtain ⟨q1, q2⟩ := HCL.out w' hw'; have x0 := (q2.cell 0).trans rfl; have x1 := (q2.cell 1).trans rfl; have x2 := (q2.cell 2).trans rfl; have x3 := (q2.cell 3).trans rfl; go_simp
          simp only [List.setIfInBounds_toArray, List.set_cons_zero, List.set_cons_succ]
          refine rg_call 9 143 17 #[.agg #[.string nm, .slice (some ⟨qm, 0, none⟩) M qmc, .slice ea E ec, .slice ta T tc], .agg #[.string nm, .slice am M cm, .slice ae E ce, .slice at' T ct]] rfl rfl (by kernel_rfl) (by rfl) (listed' := #[true, true, true, true, true, true, true, true, true, true, false, false, false, false, false]) (by kernel_rfl) (fun W => by go_simp) ?_
          refine (psame_any (HSR.out.below hS) (HSS.out.below hS) OR.out OS.out (HTW.out.below hS)).mono ?_
          rintro e Y4 ⟨rfl, hb4⟩
          have hS : Below wr.heap.size wr Y4 := hS.trans (hb4.mono hS.size)
          rw [show ((printB (revS s)).toList == (printB s).toList) = true by rw [HPE.out, HPS.out]; simp]
          refine ⟨_, rfl, hS, ?_⟩
          simp only [List.setIfInBounds_toArray, List.set_cons_zero, List.set_cons_succ]
          refine rg_take 10 144 (.bool true) _ rfl rfl (by kernel_rfl) (by kernel_rfl) (by kernel_rfl) (fun _ _ _ h => h) (by rfl) (fun w' hw' => ?_) hS (listed' := #[true, true, true, true, true, true, true, true, true, true, true, false, false, false, false]) (by kernel_rfl) rfl ?_
          · go_simp
          simp only [List.setIfInBounds_toArray, List.set_cons_zero, List.set_cons_succ]
          refine rg_take 11 145 (.bool true) _ rfl rfl (by kernel_rfl) (by kernel_rfl) (by kernel_rfl) (fun _ _ _ h => h) (by rfl) (fun w' hw' => ?_) hS (listed' := #[true, true, true, true, true, true, true, true, true, true, true, true, false, false, false]) (by kernel_rfl) rfl ?_
          · go_simp
          simp only [List.setIfInBounds_toArray, List.set_cons_zero, List.set_cons_succ]
          refine rg_call 12 146 10 #[] rfl rfl (by kernel_rfl) (by rfl) (listed' := #[true, true, true, true, true, true, true, true, true, true, true, true, true, false, false]) (by kernel_rfl) (fun W => by go_simp) ?_
          refine (pawake_any _ (HGW.out.below hS) (HTW.out.below hS)).mono ?_
          rintro e Y5 ⟨rfl, hb5⟩
          have hS : Below wr.heap.size wr Y5 := hS.trans (hb5.mono hS.size)
          refine ⟨_, rfl, hS, ?_⟩
          simp only [List.setIfInBounds_toArray, List.set_cons_zero, List.set_cons_succ]
          refine rg_take 13 147 (.bool true) _ rfl rfl (by kernel_rfl) (by kernel_rfl) (by kernel_rfl) (fun _ _ _ h => h) (by rfl) (fun w' hw' => ?_) hS (listed' := #[true, true, true, true, true, true, true, true, true, true, true, true, true, true, false]) (by kernel_rfl) rfl ?_
          · go_simp
          simp only [List.setIfInBounds_toArray, List.set_cons_zero, List.set_cons_succ]
          refine rg_take 14 2 (.bool true) _ rfl rfl (by kernel_rfl) (by kernel_rfl) (by kernel_rfl) (fun _ _ _ h => h) (by rfl) (fun w' hw' => ?_) hS (listed' := #[true, true, true, true, true, true, true, true, true, true, true, true, true, true, true]) (by kernel_rfl) rfl ?_
          · go_simp
          simp only [List.setIfInBounds_toArray, List.set_cons_zero, List.set_cons_succ]
          refine wpAnyH_done (by kernel_rfl) ?_ _
          have hfin : Below w.heap.size w Y5 := hbel.trans (hS.mono hbel.size)
          clear hS HCL
          go_wp2_with fail
          go_ret
          exact ⟨rfl, hfin⟩
end Go.Proofs.YtkfhlgajeejgeaaGreatDoor

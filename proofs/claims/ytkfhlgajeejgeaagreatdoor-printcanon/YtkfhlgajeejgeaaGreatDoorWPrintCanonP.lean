/- PrintCanon, walked. -/
import Derived.Test.YtkfhlgajeejgeaaGreatDoorPkC
import Derived.Test.YtkfhlgajeejgeaaGreatDoorPkD
import Derived.Test.YtkfhlgajeejgeaaGreatDoorPkE
import Derived.Test.YtkfhlgajeejgeaaGreatDoorPkQ
import Derived.Test.YtkfhlgajeejgeaaGreatDoorPbCanP
import Derived.Test.YtkfhlgajeejgeaaGreatDoorSchSameP
import Derived.Test.YtkfhlgajeejgeaaGreatDoorPkF
import Derived.BigQuiet
namespace Go.Proofs.YtkfhlgajeejgeaaGreatDoor
open Go.ChangeShapes Go.WideShapes Go.ChangeAt Go.RowKit
set_option linter.unusedVariables false
set_option linter.unusedSimpArgs false
set_option maxRecDepth 20000

theorem up_two {α : Type} {key : α → Int} {l : List α} (h : UpK key l) {j : Nat} {x y : α} (hx : l[j]? = some x) (hy : l[j + 1]? = some y) : key x ≤ key y := by
  obtain ⟨h1, rfl⟩ := List.getElem?_eq_some_iff.1 hx
  obtain ⟨h2, rfl⟩ := List.getElem?_eq_some_iff.1 hy
  exact List.pairwise_iff_getElem.1 h j (j + 1) h1 h2 (by omega)
set_option maxHeartbeats 16000000 in
theorem printCanon_walk (v : Value) (s : ScS) (w : World) (hr : ScIn w v s) (hw : ScW s) (hG : Glob w) (hPT : PTab w) :
    Calls Tryz.prog 7 #[v] w fun e w' => e = .returned (.bool true) ∧ Below w.heap.size w w' := by
  have HG : Hid (Glob w) := hG
  have HPT : Hid (PTab w) := hPT
  clear hG hPT
  have HSC : Hid (ScIn w v s) := hr
  have HW : Hid (ScW s) := hw
  obtain ⟨vm0, ve0, vt0, rfl, hm, he, ht⟩ := hr
  obtain ⟨am, cm, rfl, qm1, qm2⟩ := hm.form2
  obtain ⟨ae, ce, rfl, qe1, qe2⟩ := he.form2
  obtain ⟨at', ct, rfl, qt1, qt2⟩ := ht.form2
  have HMI : Hid (MsIn w (.slice am s.msgs.length cm) s.msgs) := hm
  have HEI : Hid (EnIn w (.slice ae s.enums.length ce) s.enums) := he
  have hTl : (mtRows s.methods).length = s.methods.length := by simp [mtRows]
  rw [hTl] at ht HSC ⊢
  have HTI : Hid (RowG w (.slice at' s.methods.length ct) 3 (mtRows s.methods)) := ht
  clear hm he ht hw hTl
  obtain ⟨T, hT⟩ : ∃ N, s.methods.length = N := ⟨_, rfl⟩
  obtain ⟨nm, hnm⟩ : ∃ x, s.name = x := ⟨_, rfl⟩
  obtain ⟨M, hM⟩ : ∃ N, s.msgs.length = N := ⟨_, rfl⟩
  obtain ⟨E, hE⟩ : ∃ N, s.enums.length = N := ⟨_, rfl⟩
  rw [hnm, hM, hE, hT] at HSC ⊢
  rw [hM] at HMI
  rw [hE] at HEI
  rw [hT] at HTI
  have HTN : Hid (s.methods.length = T) := hT
  clear hT
  have HNM : Hid (s.name = nm) := hnm
  have HM : Hid (s.msgs.length = M) := hM
  have HE : Hid (s.enums.length = E) := hE
  clear hnm hM hE qm1 qe1 qt1 qm2 qe2 qt2
  have hba : Below w.heap.size w (w.alloc (.cells #[.string nm, .slice am M cm, .slice ae E ce, .slice at' T ct] 26)) := (Below.refl _ _).alloc (Nat.le_refl _) _
  have BX := Blk.new w #[.string nm, .slice am M cm, .slice ae E ce, .slice at' T ct] 26
  go_enter Tryz.func7, Tryz.ntmps7
  go_wp2_with fail
  refine (few_any (HSC.out.below hba) HW.out).mono ?_
  rintro e w1 ⟨hP, hb1⟩
  have hbw1 : Below w.heap.size w w1 := hba.trans (hb1.mono hba.size)
  rcases hP with rfl | ⟨rfl, hF⟩
  · go_wp2_with fail
    refine (pawake_any _ (HG.out.below hbw1) (HPT.out.below hbw1)).mono ?_
    rintro e w2 ⟨rfl, hb2⟩
    go_wp2_with fail
    go_ret
    exact ⟨rfl, hbw1.trans (hb2.mono hbw1.size)⟩
  have HF : Hid (FewS s) := hF
  clear hF
  have BX1 := BX.below hb1
  have c0 := (BX1.cell 0).trans rfl
  have c1 := (BX1.cell 1).trans rfl
  have c2 := (BX1.cell 2).trans rfl
  have c3 := (BX1.cell 3).trans rfl
  go_wp2_with fail
  clear c0 c1 c2 c3 hb1 BX
  refine (schema_any (HSC.out.below hbw1) HF.out.few).mono ?_
  rintro e w2 ⟨um, ue, ut, qm, qe, rfl, hM2, hE2, hT2, hb2⟩
  have OS : Hid (PrO s) := pro_few HF.out HW.out
  have OC : Hid (PrO (canonS s)) := OS.out.canon
  have HCM : Hid ((canonS s).msgs.length = M) := by show _ = _; rw [← HM.out]; simp [canonS]
  have HCE : Hid ((canonS s).enums.length = E) := by show _ = _; rw [← HE.out]; simp [canonS]
  have HCT : Hid ((canonS s).methods.length = T) := HTN.out
  have HCN : Hid ((canonS s).name = nm) := HNM.out
  have HS2 : Hid (ScIn w2 (.agg #[.string s.name, um, ue, ut]) s) := ⟨_, _, _, rfl, hM2.to_in, hE2.to_in, mt_in hT2⟩
  rw [HNM.out] at HS2 ⊢
  have hbw2 : Below w.heap.size w w2 := hbw1.trans (hb2.mono hbw1.size)
  have BX2 := BX1.below hb2
  clear hM2 hE2 hT2 hb2 BX1 hbw1
  go_wp2_with fail
  refine (canon_any HS2.out OS.out.few OS.out.cap).mono ?_
  rintro e w3 ⟨vm, ve, vt, qm3, qe3, rfl, hM3, hE3, hT3, hb3⟩
  obtain ⟨pa, pc, hev⟩ := own_form hM3.own
  subst hev
  obtain ⟨ea, ec, hev⟩ := own_form hE3.own
  subst hev
  obtain ⟨ta, tc, hev⟩ := own_form hT3
  subst hev
  have HC3 : Hid (ScIn w3 (.agg #[.string (canonS s).name, .slice pa (canonS s).msgs.length pc, .slice ea (canonS s).enums.length ec, .slice ta (canonS s).methods.length tc]) (canonS s)) := ⟨_, _, _, rfl, hM3.to_in, hE3.to_in, mt_in hT3⟩
  rw [HCN.out, HCM.out, HCE.out, HCT.out] at HC3
  rw [HNM.out, HCM.out, HCE.out, HTN.out]
  have hbw3 : Below w.heap.size w w3 := hbw2.trans (hb3.mono hbw2.size)
  have ha4 : Below w3.heap.size w3 (w3.alloc (.cells #[.string nm, .slice pa M pc, .slice ea E ec, .slice ta T tc] 26)) := (Below.refl _ _).alloc (Nat.le_refl _) _
  have BX4 := (BX2.below hb3).below ha4
  have BC4 := Blk.new w3 #[.string nm, .slice pa M pc, .slice ea E ec, .slice ta T tc] 26
  have hbw4 : Below w.heap.size w (w3.alloc (.cells #[.string nm, .slice pa M pc, .slice ea E ec, .slice ta T tc] 26)) := hbw3.trans (ha4.mono hbw3.size)
  have HC4 : Hid (ScIn (w3.alloc (.cells #[.string nm, .slice pa M pc, .slice ea E ec, .slice ta T tc] 26)) (.agg #[.string nm, .slice pa M pc, .slice ea E ec, .slice ta T tc]) (canonS s)) := HC3.out.below ha4
  clear hM3 hE3 hT3 hb3 BX2 hbw2 ha4 HC3 HS2 hbw3
  have c0 := (BC4.cell 0).trans rfl
  have c1 := (BC4.cell 1).trans rfl
  have c2 := (BC4.cell 2).trans rfl
  have c3 := (BC4.cell 3).trans rfl
  go_wp2_with fail
  clear c0 c1 c2 c3
  generalize w3.alloc (.cells #[.string nm, .slice pa M pc, .slice ea E ec, .slice ta T tc] 26) = w4 at *
  generalize w3.heap.size = bc at *
  refine (schema_any HC4.out OC.out.few).mono ?_
  rintro e w5 ⟨um, ue, ut, qm5, qe5, rfl, hM5, hE5, hT5, hb5⟩
  have HS5 : Hid (ScIn w5 (.agg #[.string (canonS s).name, um, ue, ut]) (canonS s)) := ⟨_, _, _, rfl, hM5.to_in, hE5.to_in, mt_in hT5⟩
  rw [HCN.out] at HS5 ⊢
  have hbw5 : Below w.heap.size w w5 := hbw4.trans (hb5.mono hbw4.size)
  have HC5 : Hid (ScIn w5 (.agg #[.string nm, .slice pa M pc, .slice ea E ec, .slice ta T tc]) (canonS s)) := HC4.out.below hb5
  have BX5 := BX4.below hb5
  have BC5 := BC4.below hb5
  clear hM5 hE5 hT5 hb5 BX4 BC4 hbw4 HC4
  go_wp2_with fail
  refine (canon_any HS5.out OC.out.few OC.out.cap).mono ?_
  rintro e w6 ⟨vm, ve, vt, qm3, qe3, rfl, hM3, hE3, hT3, hb6⟩
  rw [canon_twice] at hM3 hE3
  obtain ⟨pa2, pc2, hev⟩ := own_form hM3.own
  subst hev
  obtain ⟨ea2, ec2, hev⟩ := own_form hE3.own
  subst hev
  obtain ⟨ta2, tc2, hev⟩ := own_form hT3
  subst hev
  have HD6 : Hid (ScIn w6 (.agg #[.string (canonS s).name, .slice pa2 (canonS s).msgs.length pc2, .slice ea2 (canonS s).enums.length ec2, .slice ta2 (canonS s).methods.length tc2]) (canonS s)) := ⟨_, _, _, rfl, hM3.to_in, hE3.to_in, mt_in hT3⟩
  rw [HCN.out, HCM.out, HCE.out, HCT.out] at HD6
  rw [HCN.out, HCM.out, HCE.out, HCT.out]
  have hbw6 : Below w.heap.size w w6 := hbw5.trans (hb6.mono hbw5.size)
  have ha7 : Below w6.heap.size w6 (w6.alloc (.cells #[.string nm, .slice pa2 M pc2, .slice ea2 E ec2, .slice ta2 T tc2] 26)) := (Below.refl _ _).alloc (Nat.le_refl _) _
  have BX7 := (BX5.below hb6).below ha7
  have BC7 := (BC5.below hb6).below ha7
  have BD7 := Blk.new w6 #[.string nm, .slice pa2 M pc2, .slice ea2 E ec2, .slice ta2 T tc2] 26
  have hbw7 : Below w.heap.size w (w6.alloc (.cells #[.string nm, .slice pa2 M pc2, .slice ea2 E ec2, .slice ta2 T tc2] 26)) := hbw6.trans (ha7.mono hbw6.size)
  have HD7 : Hid (ScIn (w6.alloc (.cells #[.string nm, .slice pa2 M pc2, .slice ea2 E ec2, .slice ta2 T tc2] 26)) (.agg #[.string nm, .slice pa2 M pc2, .slice ea2 E ec2, .slice ta2 T tc2]) (canonS s)) := HD6.out.below ha7
  have HC7 : Hid (ScIn (w6.alloc (.cells #[.string nm, .slice pa2 M pc2, .slice ea2 E ec2, .slice ta2 T tc2] 26)) (.agg #[.string nm, .slice pa M pc, .slice ea E ec, .slice ta T tc]) (canonS s)) := (HC5.out.below hb6).below ha7
  clear hM3 hE3 hT3 hb6 BX5 BC5 hbw5 ha7 HD6 HS5 hbw6 HC5
  have c0 := (BC7.cell 0).trans rfl
  have c1 := (BC7.cell 1).trans rfl
  have c2 := (BC7.cell 2).trans rfl
  have c3 := (BC7.cell 3).trans rfl
  have d0 := (BD7.cell 0).trans rfl
  have d1 := (BD7.cell 1).trans rfl
  have d2 := (BD7.cell 2).trans rfl
  have d3 := (BD7.cell 3).trans rfl
  go_wp2_with fail
  clear c0 c1 c2 c3 d0 d1 d2 d3
  generalize w6.alloc (.cells #[.string nm, .slice pa2 M pc2, .slice ea2 E ec2, .slice ta2 T tc2] 26) = w7 at *
  generalize w6.heap.size = bd at *
  refine (sschemas_any HC7.out HD7.out).mono ?_
  rintro e w8 ⟨rfl, hb8⟩
  have hbw8 : Below w.heap.size w w8 := hbw7.trans (hb8.mono hbw7.size)
  have HC8 : Hid (ScIn w8 (.agg #[.string nm, .slice pa M pc, .slice ea E ec, .slice ta T tc]) (canonS s)) := HC7.out.below hb8
  have BX8 : Hid (Blk w8 w.heap.size #[.string nm, .slice am M cm, .slice ae E ce, .slice at' T ct] 26) := BX7.below hb8
  have BC8 : Hid (Blk w8 bc #[.string nm, .slice pa M pc, .slice ea E ec, .slice ta T tc] 26) := BC7.below hb8
  clear hb8 hbw7 HC7 HD7 BX7 BC7 BD7
  have c0 := (BC8.out.cell 0).trans rfl
  have c1 := (BC8.out.cell 1).trans rfl
  have c2 := (BC8.out.cell 2).trans rfl
  have d0 := (BX8.out.cell 0).trans rfl
  have d1 := (BX8.out.cell 1).trans rfl
  have d2 := (BX8.out.cell 2).trans rfl
  have hM14 : M ≤ 14 := by have := HF.out.msgs; rw [HM.out] at this; exact this
  go_wp2_with fail
  clear c0 c1 c2 d0 d1 d2
  have HMI8 : Hid (MsIn w8 (.slice pa M pc) (canonS s).msgs) := by
    obtain ⟨x1, x2, x3, e1, m1, _, _⟩ := HC8.out
    simp only [Value.agg.injEq, Array.mk.injEq, List.cons.injEq, and_true, true_and] at e1
    obtain ⟨_, rfl, _⟩ := e1
    exact m1
  have HMO8 : Hid (MsIn w8 (.slice am M cm) s.msgs) := HMI.out.below hbw8
  clear HMI
  go_loopw [5] (fun iv wr => ∃ i : Nat, iv = .int .i64 (i : Int) ∧ i ≤ M ∧ Hid (Below w8.heap.size w8 wr)) (fun iv _ => M - (intOf iv).toNat)
  case atStart => exact ⟨0, rfl, by omega, Below.refl _ _⟩
  case round =>
    obtain ⟨i, rfl, hi, HB⟩ := hrel
    have c1 : wr.cell? ⟨bc, 1, none⟩ = some (.slice pa M pc) := (BC8.out.below HB.out).cell 1
    by_cases hlt : i < M
    · have hltz : (i : Int) < (M : Int) := by omega
      obtain ⟨m, hm⟩ : ∃ x, s.msgs[i]? = some x := ⟨_, List.getElem?_eq_getElem (by rw [HM.out]; exact hlt)⟩
      have hcm : (canonS s).msgs[i]? = some (canonM m) := by simp [canonS, hm]
      obtain ⟨g, off, vf, vr, rfl, x0, x1, x2, hrf, hrr⟩ := (HMI8.out.below HB.out).get hcm
      obtain ⟨g', off', vf', vr', rfl, y0, y1, y2, hrf', hrr'⟩ := (HMO8.out.below HB.out).get hm
      obtain ⟨fa, fc, rfl, f1, f2, f3, f4⟩ := row_fields hrf
      obtain ⟨ra, rc, rfl, r1, r2, r3, r4⟩ := row_ints hrr
      obtain ⟨fa', fc', rfl, _⟩ := row_fields hrf'
      obtain ⟨ra', rc', rfl, _⟩ := row_ints hrr'
      have UF : Hid (UpK FlS.tag (canonM m).fields) := (srtF_srt FlS.tag m.fields).1
      have UR : Hid (UpK (fun x => x) (canonM m).reserved) := (srtF_srt (fun x => x) m.reserved).1
      have eF : (canonM m).fields.length = m.fields.length := srtF_len _ _
      have eR : (canonM m).reserved.length = m.reserved.length := srtF_len _ _
      have eN : (canonM m).name = m.name := rfl
      rw [eN] at x0
      have HLF : Hid (m.fields.length ≤ 20 ∧ m.reserved.length ≤ 40) := HF.out.few.flds m (List.mem_of_getElem? hm)
      generalize (canonM m).fields = cf at *
      generalize (canonM m).reserved = cr at *
      rw [eF] at x1
      rw [eR] at x2
      generalize hnF : m.fields.length = nF at *
      generalize hnR : m.reserved.length = nR at *
      generalize m.name = mn at *
      have HNF : Hid (cf.length = nF) := eF
      have HNR : Hid (cr.length = nR) := eR
      have hnF20 : nF ≤ 20 := HLF.out.1
      have hnR40 : nR ≤ 40 := HLF.out.2
      have HF4 : Hid (∀ g off, fa = some ⟨g, off, none⟩ → ∀ (i : Nat) (f : FlS), cf[i]? = some f → wr.cell? ⟨g, off + i * 5 + 1, none⟩ = some (.int .i64 f.tag)) := fun g off h i f hf => (f4 g off h i f hf).2.1
      have HR4 : Hid (∀ g off, ra = some ⟨g, off, none⟩ → ∀ (i : Nat) (n : Int), cr[i]? = some n → wr.cell? ⟨g, off + i, none⟩ = some (.int .i64 n)) := r4
      have HF3 : Hid (cf ≠ [] → ∃ g off, fa = some ⟨g, off, none⟩) := f3
      have HR3 : Hid (cr ≠ [] → ∃ g off, ra = some ⟨g, off, none⟩) := r3
      clear f1 f2 f3 f4 r1 r2 r3 r4 hrf hrr hrf' hrr' hm hcm eF eR eN hnF hnR
      have ha : Below wr.heap.size wr (wr.alloc (.cells #[.string mn, .slice fa nF fc, .slice ra nR rc] 40)) := (Below.refl _ _).alloc (Nat.le_refl _) _
      have BM := Blk.new wr #[.string mn, .slice fa nF fc, .slice ra nR rc] 40
      have HB2 : Hid (Below w8.heap.size w8 (wr.alloc (.cells #[.string mn, .slice fa nF fc, .slice ra nR rc] 40))) := HB.out.trans (ha.mono HB.out.size)
      go_upto_region 11 with fail
      have HKEEP : Hid (∀ q u, wr.cell? q = some u → (wr.alloc (.cells #[.string mn, .slice fa nF fc, .slice ra nR rc] 40)).cell? q = some u) := fun q u h => (ha.cell (World.block_lt_of_cell? _ _ h)).trans h
      have z0 := HKEEP.out _ _ y0
      have z1 := HKEEP.out _ _ y1
      have z2 := HKEEP.out _ _ y2
      have HF5 : Hid (∀ g off, fa = some ⟨g, off, none⟩ → ∀ (i : Nat) (f : FlS), cf[i]? = some f → (wr.alloc (.cells #[.string mn, .slice fa nF fc, .slice ra nR rc] 40)).cell? ⟨g, off + i * 5 + 1, none⟩ = some (.int .i64 f.tag)) := fun g off h i f hf => HKEEP.out _ _ (HF4.out g off h i f hf)
      have HR5 : Hid (∀ g off, ra = some ⟨g, off, none⟩ → ∀ (i : Nat) (n : Int), cr[i]? = some n → (wr.alloc (.cells #[.string mn, .slice fa nF fc, .slice ra nR rc] 40)).cell? ⟨g, off + i, none⟩ = some (.int .i64 n)) := fun g off h i f hf => HKEEP.out _ _ (HR4.out g off h i f hf)
      clear x0 x1 x2 y0 y1 y2 c1 HKEEP HF4 HR4
      generalize (wr.alloc (.cells #[.string mn, .slice fa nF fc, .slice ra nR rc] 40)) = wm at *
      generalize wr.heap.size = bm at *
      have b0 := (BM.cell 0).trans rfl
      have b1 := (BM.cell 1).trans rfl
      have b2 := (BM.cell 2).trans rfl
      have d1 : wm.cell? ⟨w.heap.size, 1, none⟩ = some (.slice (some ⟨g', off', none⟩) M cm) := (BX8.out.below HB2.out).cell 1
      go_quiet (fail)
      go_wp2_with fail
      clear b0 b1 b2 d1 z0 z1 z2
      have HX : Hid (Below wm.heap.size wm (wm.drewN nq)) := below_drewN nq (Below.refl _ _)
      generalize wm.drewN nq = wx at *
      go_loopw [7] (fun jv wr => ∃ k : Nat, jv = .int .i64 (k : Int) ∧ 1 ≤ k ∧ k ≤ 41 ∧ Hid (Below wm.heap.size wm wr)) (fun jv _ => 41 - (intOf jv).toNat)
      case atStart => exact ⟨1, rfl, by omega, by omega, HX⟩
      case round =>
        clear HX
        obtain ⟨k, rfl, hk1, hk2, HX⟩ := hrel
        have b1 : wr.cell? ⟨bm, 1, none⟩ = some (.slice fa nF fc) := (BM.below HX.out).cell 1
        by_cases hk : k < nF
        · have hkz : (k : Int) < (nF : Int) := by omega
          obtain ⟨j, hj⟩ : ∃ j, k - 1 = j := ⟨_, rfl⟩
          have hjz : (k : Int) - 1 = (j : Int) := by omega
          have hjw : IntKind.i64.wrap (j : Int) = (j : Int) := wrapN _ (by omega) (by omega)
          have hjn : (j : Int) < (nF : Int) := by omega
          obtain ⟨x, hx⟩ : ∃ x, cf[j]? = some x := ⟨_, List.getElem?_eq_getElem (by rw [HNF.out]; omega)⟩
          obtain ⟨y, hy⟩ : ∃ x, cf[k]? = some x := ⟨_, List.getElem?_eq_getElem (by rw [HNF.out]; omega)⟩
          have hle := up_two UF.out hx (show cf[j + 1]? = some y by rw [show j + 1 = k by omega]; exact hy)
          obtain ⟨fg, fo, rfl⟩ := HF3.out (by intro e; rw [e] at hx; simp at hx)
          have e0 := HF5.out fg fo rfl j x hx
          have e1 := HF5.out fg fo rfl k y hy
          have e0 := (HX.out.cell (World.block_lt_of_cell? _ _ e0)).trans e0
          have e1 := (HX.out.cell (World.block_lt_of_cell? _ _ e1)).trans e1
          generalize x.tag = x1 at *
          generalize y.tag = y1 at *
          have hd : decide (y1 < x1) = false := by simp; omega
          clear hx hy hle hj
          go_wp2_with fail
          go_quiet (fail)
          go_wp2_with fail
          have HX2 : Hid (Below wm.heap.size wm (wr.drewN nq)) := below_drewN nq HX.out
          go_roundw
          case rel => exact ⟨k + 1, by go_num, by omega, by omega, HX2⟩
          case measure => simp [intOf]; omega
        · have hkz : ¬ (k : Int) < (nF : Int) := by omega
          go_wp2_with fail
          clear b1 hkz hk hk1 hk2
          go_loopw [8] (fun jv wr => ∃ k : Nat, jv = .int .i64 (k : Int) ∧ 1 ≤ k ∧ k ≤ 41 ∧ Hid (Below wm.heap.size wm wr)) (fun jv _ => 41 - (intOf jv).toNat)
          case atStart => exact ⟨1, rfl, by omega, by omega, HX⟩
          case round =>
            clear HX
            obtain ⟨k, rfl, hk1, hk2, HX⟩ := hrel
            have b2 : wr.cell? ⟨bm, 2, none⟩ = some (.slice ra nR rc) := (BM.below HX.out).cell 2
            by_cases hk : k < nR
            · have hkz : (k : Int) < (nR : Int) := by omega
              obtain ⟨j, hj⟩ : ∃ j, k - 1 = j := ⟨_, rfl⟩
              have hjz : (k : Int) - 1 = (j : Int) := by omega
              have hjw : IntKind.i64.wrap (j : Int) = (j : Int) := wrapN _ (by omega) (by omega)
              have hjn : (j : Int) < (nR : Int) := by omega
              obtain ⟨x1, hx⟩ : ∃ x, cr[j]? = some x := ⟨_, List.getElem?_eq_getElem (by rw [HNR.out]; omega)⟩
              obtain ⟨y1, hy⟩ : ∃ x, cr[k]? = some x := ⟨_, List.getElem?_eq_getElem (by rw [HNR.out]; omega)⟩
              have hle := up_two UR.out hx (show cr[j + 1]? = some y1 by rw [show j + 1 = k by omega]; exact hy)
              obtain ⟨fg, fo, rfl⟩ := HR3.out (by intro e; rw [e] at hx; simp at hx)
              have e0 := HR5.out fg fo rfl j x1 hx
              have e1 := HR5.out fg fo rfl k y1 hy
              have e0 := (HX.out.cell (World.block_lt_of_cell? _ _ e0)).trans e0
              have e1 := (HX.out.cell (World.block_lt_of_cell? _ _ e1)).trans e1
              have hd : decide (y1 < x1) = false := by simp; omega
              clear hx hy hle hj
              go_wp2_with fail
              go_quiet (fail)
              go_wp2_with fail
              have HX2 : Hid (Below wm.heap.size wm (wr.drewN nq)) := below_drewN nq HX.out
              go_roundw
              case rel => exact ⟨k + 1, by go_num, by omega, by omega, HX2⟩
              case measure => simp [intOf]; omega
            · have hkz : ¬ (k : Int) < (nR : Int) := by omega
              have HB3 : Hid (Below w8.heap.size w8 wr) := HB2.out.trans (HX.out.mono HB2.out.size)
              go_wp2_with fail
              go_roundw
              case rel => exact ⟨i + 1, by go_num, by omega, HB3⟩
              case measure => simp [intOf]; omega
    · have hltz : ¬ (i : Int) < (M : Int) := by omega
      go_wp2_with fail
      clear c1 hltz hlt hi
      have hbel : Below w.heap.size w wr := hbw8.trans (HB.out.mono hbw8.size)
      have HSS : Hid (ScIn wr (.agg #[.string nm, .slice am M cm, .slice ae E ce, .slice at' T ct]) s) := HSC.out.below hbel
      have HCC : Hid (ScIn wr (.agg #[.string nm, .slice pa M pc, .slice ea E ec, .slice ta T tc]) (canonS s)) := HC8.out.below HB.out
      have HGW : Hid (Glob wr) := HG.out.below hbel
      have HTW : Hid (PTab wr) := HPT.out.below hbel
      have BXX := BX8.out.below HB.out
      have BCC := BC8.out.below HB.out
      have HCL : Hid (∀ W, Below wr.heap.size wr W → Blk W w.heap.size #[.string nm, .slice am M cm, .slice ae E ce, .slice at' T ct] 26 ∧ Blk W bc #[.string nm, .slice pa M pc, .slice ea E ec, .slice ta T tc] 26) := fun W hW => ⟨BXX.below hW, BCC.below hW⟩
      clear BXX BCC HG HPT
      refine wp_region_held_drew (S := fun W => Below wr.heap.size wr W) (by kernel_rfl) (below_drewN 1 (Below.refl _ _)) (fun hS => ?_)
      generalize wr.drew = Y at *
      refine rg_take 0 135 (.agg #[.string nm, .slice am M cm, .slice ae E ce, .slice at' T ct]) _ rfl rfl (by kernel_rfl) (by kernel_rfl) (by kernel_rfl) (fun _ _ _ h => h) (by rfl) (fun w' hw' => ?_) hS (listed' := #[true, false, false, false, false, false, false, false, false, false, false, false]) (by kernel_rfl) rfl ?_
      · obtain ⟨q1, q2⟩ := HCL.out w' hw'; have x0 := (q1.cell 0).trans rfl; have x1 := (q1.cell 1).trans rfl; have x2 := (q1.cell 2).trans rfl; have x3 := (q1.cell 3).trans rfl; go_simp
      simp only [List.setIfInBounds_toArray, List.set_cons_zero, List.set_cons_succ]
      refine rg_take 4 139 (.agg #[.string nm, .slice pa M pc, .slice ea E ec, .slice ta T tc]) _ rfl rfl (by kernel_rfl) (by kernel_rfl) (by kernel_rfl) (fun _ _ _ h => h) (by rfl) (fun w' hw' => ?_) hS (listed' := #[true, false, false, false, true, false, false, false, false, false, false, false]) (by kernel_rfl) rfl ?_
      · obtain ⟨q1, q2⟩ := HCL.out w' hw'; have x0 := (q2.cell 0).trans rfl; have x1 := (q2.cell 1).trans rfl; have x2 := (q2.cell 2).trans rfl; have x3 := (q2.cell 3).trans rfl; go_simp
      simp only [List.setIfInBounds_toArray, List.set_cons_zero, List.set_cons_succ]
      refine rg_call 1 136 11 #[.agg #[.string nm, .slice am M cm, .slice ae E ce, .slice at' T ct]] rfl rfl (by kernel_rfl) (by rfl) (listed' := #[true, true, false, false, true, false, false, false, false, false, false, false]) (by kernel_rfl) (fun W => by go_simp) ?_
      refine (schema_any (HSS.out.below hS) HF.out.few).mono ?_
      rintro e Y2 ⟨um3, ue3, ut3, qq, qx, rfl, hM2, hE2, hT2, hb2⟩
      have hS : Below wr.heap.size wr Y2 := hS.trans (hb2.mono hS.size)
      have HS2 : Hid (ScIn Y2 (.agg #[.string s.name, um3, ue3, ut3]) s) := ⟨_, _, _, rfl, hM2.to_in, hE2.to_in, mt_in hT2⟩
      refine ⟨_, rfl, hS, ?_⟩
      simp only [List.setIfInBounds_toArray, List.set_cons_zero, List.set_cons_succ]
      clear hM2 hE2 hT2
      refine rg_call 2 137 20 #[.agg #[.string s.name, um3, ue3, ut3]] rfl rfl (by kernel_rfl) (by rfl) (listed' := #[true, true, true, false, true, false, false, false, false, false, false, false]) (by kernel_rfl) (fun W => by go_simp) ?_
      refine (check_any HS2.out HW.out HF.out.few).mono ?_
      rintro e Y3 ⟨rfl, hb3⟩
      have hS : Below wr.heap.size wr Y3 := hS.trans (hb3.mono hS.size)
      refine ⟨_, rfl, hS, ?_⟩
      simp only [List.setIfInBounds_toArray, List.set_cons_zero, List.set_cons_succ]
      obtain ⟨bs, hbs⟩ : ∃ b, (checkA s == 0) = b := ⟨_, rfl⟩
      have hbc : (checkA (canonS s) == 0) = bs := by rw [← hbs, Bool.eq_iff_iff]; simp only [beq_iff_eq]; exact check_canon s
      clear HS2
      refine rg_take 3 138 (.bool bs) _ rfl rfl (by kernel_rfl) (by kernel_rfl) (by kernel_rfl) (fun _ _ _ h => h) (by rfl) (fun w' hw' => ?_) hS (listed' := #[true, true, true, true, true, false, false, false, false, false, false, false]) (by kernel_rfl) rfl ?_
      · rw [← hbs]; go_simp
      simp only [List.setIfInBounds_toArray, List.set_cons_zero, List.set_cons_succ]
      refine rg_call 5 140 20 #[.agg #[.string nm, .slice pa M pc, .slice ea E ec, .slice ta T tc]] rfl rfl (by kernel_rfl) (by rfl) (listed' := #[true, true, true, true, true, true, false, false, false, false, false, false]) (by kernel_rfl) (fun W => by go_simp) ?_
      refine (check_any (HCC.out.below hS) OC.out.wf OC.out.few).mono ?_
      rintro e Y4 ⟨rfl, hb4⟩
      have hS : Below wr.heap.size wr Y4 := hS.trans (hb4.mono hS.size)
      refine ⟨_, rfl, hS, ?_⟩
      simp only [List.setIfInBounds_toArray, List.set_cons_zero, List.set_cons_succ]
      refine rg_take 6 141 (.bool bs) _ rfl rfl (by kernel_rfl) (by kernel_rfl) (by kernel_rfl) (fun _ _ _ h => h) (by rfl) (fun w' hw' => ?_) hS (listed' := #[true, true, true, true, true, true, true, false, false, false, false, false]) (by kernel_rfl) rfl ?_
      · rw [← hbc]; go_simp
      simp only [List.setIfInBounds_toArray, List.set_cons_zero, List.set_cons_succ]
      refine rg_take 7 142 (.bool true) _ rfl rfl (by kernel_rfl) (by kernel_rfl) (by kernel_rfl) (fun _ _ _ h => h) (by rfl) (fun w' hw' => ?_) hS (listed' := #[true, true, true, true, true, true, true, true, false, false, false, false]) (by kernel_rfl) rfl ?_
      · go_simp
      simp only [List.setIfInBounds_toArray, List.set_cons_zero, List.set_cons_succ]
      refine rg_take 8 143 (.bool true) _ rfl rfl (by kernel_rfl) (by kernel_rfl) (by kernel_rfl) (fun _ _ _ h => h) (by rfl) (fun w' hw' => ?_) hS (listed' := #[true, true, true, true, true, true, true, true, true, false, false, false]) (by kernel_rfl) rfl ?_
      · go_simp
      simp only [List.setIfInBounds_toArray, List.set_cons_zero, List.set_cons_succ]
      refine rg_call 9 144 10 #[] rfl rfl (by kernel_rfl) (by rfl) (listed' := #[true, true, true, true, true, true, true, true, true, true, false, false]) (by kernel_rfl) (fun W => by go_simp) ?_
      refine (pawake_any _ (HGW.out.below hS) (HTW.out.below hS)).mono ?_
      rintro e Y7 ⟨rfl, hb7⟩
      have hS : Below wr.heap.size wr Y7 := hS.trans (hb7.mono hS.size)
      refine ⟨_, rfl, hS, ?_⟩
      simp only [List.setIfInBounds_toArray, List.set_cons_zero, List.set_cons_succ]
      refine rg_take 10 145 (.bool true) _ rfl rfl (by kernel_rfl) (by kernel_rfl) (by kernel_rfl) (fun _ _ _ h => h) (by rfl) (fun w' hw' => ?_) hS (listed' := #[true, true, true, true, true, true, true, true, true, true, true, false]) (by kernel_rfl) rfl ?_
      · go_simp
      simp only [List.setIfInBounds_toArray, List.set_cons_zero, List.set_cons_succ]
      refine rg_take 11 2 (.bool true) _ rfl rfl (by kernel_rfl) (by kernel_rfl) (by kernel_rfl) (fun _ _ _ h => h) (by rfl) (fun w' hw' => ?_) hS (listed' := #[true, true, true, true, true, true, true, true, true, true, true, true]) (by kernel_rfl) rfl ?_
      · go_simp
      simp only [List.setIfInBounds_toArray, List.set_cons_zero, List.set_cons_succ]
      refine wpAnyH_done (by kernel_rfl) ?_ _
      have hfin : Below w.heap.size w Y7 := hbel.trans (hS.mono hbel.size)
      clear hS HCL
      go_wp2_with fail
      go_ret
      exact ⟨rfl, hfin⟩
end Go.Proofs.YtkfhlgajeejgeaaGreatDoor

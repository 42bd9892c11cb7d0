/- What Check answers. -/
import Derived.Test.YtomeppgmmlaibaaCkEnum
import Derived.Test.YtomeppgmmlaibaaCkTypes
namespace Go.Proofs.Ytomeppgmmlaibaa
open Go.ChangeShapes Go.WideShapes Go.ChangeAt Go.RowKit Go.Maps
set_option linter.unusedVariables false
set_option linter.unusedSimpArgs false
set_option maxRecDepth 20000

/-- Not too much. -/
structure FewL (s : ScS) : Prop where
  msgs : s.msgs.length ≤ 14
  enums : s.enums.length ≤ 10
  meths : s.methods.length ≤ 10
  flds : ∀ m ∈ s.msgs, m.fields.length ≤ 20 ∧ m.reserved.length ≤ 40
  vals : ∀ e ∈ s.enums, e.values.length ≤ 24
theorem chkMs_err {mn en a : List ByteArray} {m : MsS} {l : List MsS} {X : Int} (hX : X = if freshB m.name a = false then 6 else chkMb mn en m) (h : X ≠ 0) : chkMs mn en a (m :: l) = X := by
  unfold chkMs
  cases hf : freshB m.name a
  · rw [if_pos rfl]; rw [hf, if_pos rfl] at hX; exact hX.symm
  · rw [if_neg (by decide)]; rw [hf, if_neg (by decide)] at hX; subst hX; exact orE_ne h _
theorem chkMs_on {mn en a : List ByteArray} {m : MsS} {l : List MsS} (hX : 0 = if freshB m.name a = false then 6 else chkMb mn en m) : freshB m.name a = true ∧ chkMs mn en a (m :: l) = chkMs mn en (a ++ [m.name]) l := by
  cases hf : freshB m.name a
  · rw [hf, if_pos rfl] at hX; omega
  · rw [hf, if_neg (by decide)] at hX
    refine ⟨rfl, ?_⟩
    show (if freshB m.name a = false then 6 else orE (chkMb mn en m) (chkMs mn en (a ++ [m.name]) l)) = _
    rw [hf, if_neg (by decide), ← hX, orE_zero]
theorem chkEs_err {a : List ByteArray} {m : EnS} {l : List EnS} {X : Int} (hX : X = if freshB m.name a = false then 6 else chkEb m) (h : X ≠ 0) : chkEs a (m :: l) = X := by
  unfold chkEs
  cases hf : freshB m.name a
  · rw [if_pos rfl]; rw [hf, if_pos rfl] at hX; exact hX.symm
  · rw [if_neg (by decide)]; rw [hf, if_neg (by decide)] at hX; subst hX; exact orE_ne h _
theorem chkEs_on {a : List ByteArray} {m : EnS} {l : List EnS} (hX : 0 = if freshB m.name a = false then 6 else chkEb m) : freshB m.name a = true ∧ chkEs a (m :: l) = chkEs (a ++ [m.name]) l := by
  cases hf : freshB m.name a
  · rw [hf, if_pos rfl] at hX; omega
  · rw [hf, if_neg (by decide)] at hX
    refine ⟨rfl, ?_⟩
    show (if freshB m.name a = false then 6 else orE (chkEb m) (chkEs (a ++ [m.name]) l)) = _
    rw [hf, if_neg (by decide), ← hX, orE_zero]
set_option maxHeartbeats 4000000 in
theorem check_any {w : World} {v : Value} {s : ScS} (hr : ScIn w v s) (hw : ScW s) (hf : FewL s) :
    Calls Try.prog 11 #[v] w fun e w' => e = .returned (.int .i64 (checkA s)) ∧ Below w.heap.size w w' := by
  have HSC := hr
  obtain ⟨vm, ve, vt, rfl, hm, he, ht⟩ := hr
  obtain ⟨am, cm, rfl, qm1, qm2⟩ := hm.form2
  obtain ⟨ae, ce, rfl, qe1, qe2⟩ := he.form2
  obtain ⟨at', ct, rfl, qt1, qt2⟩ := ht.form2
  have hT : (mtRows s.methods).length = s.methods.length := by simp [mtRows]
  rw [hT] at HSC ht qt1 ⊢
  clear hT
  have HWA : Hid (∀ W : World, Calls Try.prog 29 #[.agg #[.string s.name, .slice am s.msgs.length cm, .slice ae s.enums.length ce, .slice at' s.methods.length ct]] W fun e w' => e = .returned (.int .i64 (wholeA s)) ∧ Below W.heap.size W w') := fun W => cwhole_any s hw.name hf.msgs hf.enums hf.meths
  have HTO : Hid (∀ W : World, Below w.heap.size w W → Calls Try.prog 30 #[.agg #[.string s.name, .slice am s.msgs.length cm, .slice ae s.enums.length ce, .slice at' s.methods.length ct]] W fun e w' => (∃ bY ny T, e = .returned (.map (some bY)) ∧ W.heap.size ≤ bY ∧ SetT w' bY ny T ∧ ∀ k s', memT (k, s') T = typeB s.mn s.en k s') ∧ Below W.heap.size W w') := fun W hW => typesof_any (HSC.below hW) hw hf.msgs hf.enums
  have HM : Hid (MsIn w (.slice am s.msgs.length cm) s.msgs) := hm
  have HE : Hid (EnIn w (.slice ae s.enums.length ce) s.enums) := he
  have HT : Hid (RowG w (.slice at' s.methods.length ct) 3 (mtRows s.methods)) := ht
  have HMN : Hid (s.mn = s.msgs.map MsS.name) := rfl
  obtain ⟨CA, hCA⟩ : ∃ A, checkA s = A := ⟨_, rfl⟩
  obtain ⟨WA, hWA⟩ : ∃ A, wholeA s = A := ⟨_, rfl⟩
  have HCA : Hid (CA = orE WA (orE (orE (chkMs s.mn s.en [] s.msgs) (chkEs s.mn s.enums)) (chkTs s.mn [] s.methods))) := by show _ = _; rw [← hCA, ← hWA]; rfl
  rw [hWA] at HWA
  rw [hCA]
  generalize s.mn = mn at *
  generalize s.en = en at *
  have HF : Hid (FewL s) := hf
  have HW : Hid (ScW s) := hw
  obtain ⟨nm, ms, es, ts⟩ := s
  simp only at *
  have HM : Hid (MsIn w (.slice am ms.length cm) ms) := HM
  have HE : Hid (EnIn w (.slice ae es.length ce) es) := HE
  obtain ⟨M, hM⟩ : ∃ N, ms.length = N := ⟨_, rfl⟩
  obtain ⟨E, hE⟩ : ∃ N, es.length = N := ⟨_, rfl⟩
  obtain ⟨T, hT⟩ : ∃ N, ts.length = N := ⟨_, rfl⟩
  have h1 := hf.msgs
  have h2 := hf.enums
  have h3 := hf.meths
  simp only at h1 h2 h3
  have HL3 : Hid (ts.length ≤ 10) := h3
  rw [hM] at HM qm1 h1 HWA HTO ⊢
  rw [hE] at HE qe1 h2 HWA HTO ⊢
  rw [hT] at HT qt1 h3 HWA HTO ⊢
  have HNM : Hid (ms.length = M) := hM
  have HNE : Hid (es.length = E) := hE
  have HNT : Hid (ts.length = T) := hT
  clear hM hE hT hf hw HSC hm he ht hCA hWA
  have hba : Below w.heap.size w (w.alloc (.cells #[.string nm, .slice am M cm, .slice ae E ce, .slice at' T ct] 26)) := (Below.refl _ _).alloc (Nat.le_refl _) _
  have BX := Blk.new w #[.string nm, .slice am M cm, .slice ae E ce, .slice at' T ct] 26
  have hmm := @run_makeMap Try.prog
  by_cases hw0 : WA = 0
  · subst hw0
    have HCA : Hid (CA = orE (orE (chkMs mn en [] ms) (chkEs mn es)) (chkTs mn [] ts)) := by show _ = _; rw [HCA.out, orE_zero]
    go_enter Try.func11, Try.ntmps11
    go_wp2_with fail
    refine (HWA.out _).mono ?_
    rintro e w1 ⟨rfl, hb1⟩
    have BX1 := BX.below hb1
    have b0 : w1.cell? ⟨w.heap.size, 0, none⟩ = some (.string nm) := BX1.cell 0
    have b1 : w1.cell? ⟨w.heap.size, 1, none⟩ = some (.slice am M cm) := BX1.cell 1
    have b2 : w1.cell? ⟨w.heap.size, 2, none⟩ = some (.slice ae E ce) := BX1.cell 2
    have b3 : w1.cell? ⟨w.heap.size, 3, none⟩ = some (.slice at' T ct) := BX1.cell 3
    have hb01 : Below w.heap.size w w1 := hba.trans (hb1.mono hba.size)
    go_wp2_with fail
    clear b0 b1 b2 b3
    refine (HTO.out w1 hb01).mono ?_
    rintro e w2 ⟨⟨bY, ny, Ty, rfl, hbY, hTy, hTt⟩, hb2⟩
    have HTy : Hid (SetT w2 bY ny Ty) := hTy
    have HTT : Hid (∀ k s', memT (k, s') Ty = typeB mn en k s') := hTt
    clear hTy hTt
    have BX2 := BX1.below hb2
    have hb02 : Below w.heap.size w w2 := hb01.trans (hb2.mono hb01.size)
    have b1 : w2.cell? ⟨w.heap.size, 1, none⟩ = some (.slice am M cm) := BX2.cell 1
    have hx2 : w.heap.size < w2.heap.size := BX2.lt
    have hxY : w.heap.size < bY := Nat.lt_of_lt_of_le BX1.lt hbY
    have hYn : bY < w2.heap.size := SetK.lt HTy.out
    clear hb1 hb2 hb01 BX BX1 hba HWA HTO
    go_wp2_with fail
    clear hmm b1
    have HM0 : SetS (w2.alloc (.map #[] 0)) w2.heap.size 0 ((ms.take 0).map MsS.name) := SetK.made 9 w2
    have HTy0 : Hid (SetT (w2.alloc (.map #[] 0)) bY ny Ty) := SetK.below HTy.out ((Below.refl _ _).alloc (Nat.le_refl _) _)
    have hbel0 : Below w.heap.size w (w2.alloc (.map #[] 0)) := hb02.alloc (by omega) _
    have BX0 : Blk (w2.alloc (.map #[] 0)) w.heap.size #[.string nm, .slice am M cm, .slice ae E ce, .slice at' T ct] 26 := BX2.below ((Below.refl _ _).alloc (Nat.le_refl _) _)
    obtain ⟨bn, hbn⟩ : ∃ n, w2.heap.size = n := ⟨_, rfl⟩
    rw [hbn] at HM0 hYn hx2 ⊢
    clear hbn HTy BX2 hb02
    obtain ⟨P1, hP1⟩ : ∃ A, chkMs mn en [] ms = A := ⟨_, rfl⟩
    have HP1 : Hid (P1 = chkMs mn en ((ms.take 0).map MsS.name) (ms.drop 0)) := hP1.symm
    have HCA : Hid (CA = orE (orE P1 (chkEs mn es)) (chkTs mn [] ts)) := by show _ = _; rw [HCA.out, hP1]
    clear hP1
    go_loopw [23] (fun iv wr => ∃ (k : Nat), iv = .int .i64 (k : Int) ∧ k ≤ M ∧ Hid (P1 = chkMs mn en ((ms.take k).map MsS.name) (ms.drop k)) ∧ Hid (SetS wr bn k ((ms.take k).map MsS.name)) ∧ Hid (SetT wr bY ny Ty) ∧ Below w.heap.size w wr ∧ Blk wr w.heap.size #[.string nm, .slice am M cm, .slice ae E ce, .slice at' T ct] 26) (fun iv _ => M - (intOf iv).toNat)
    case atStart => exact ⟨0, rfl, by omega, HP1, HM0, HTy0, hbel0, BX0⟩
    case round =>
      obtain ⟨k, rfl, hk, HP, HS, HTy, hbel, BX⟩ := hrel
      clear HM0 HTy0 hbel0 BX0
      have hbw : bn < wr.heap.size := SetK.lt HS.out
      by_cases hlt : k < M
      · obtain ⟨m, hm⟩ : ∃ n, ms[k]? = some n := ⟨_, List.getElem?_eq_getElem (by rw [HNM.out]; exact hlt)⟩
        obtain ⟨g, off, vf, vr, rfl, c0, c1, c2, hf, hrr⟩ := (HM.out.below hbel).get hm
        have HFf : Hid (RowG wr vf 5 (flRows m.fields)) := hf
        have HRr : Hid (RowG wr vr 1 (inRows m.reserved)) := hrr
        obtain ⟨a3, c3, rfl, _, _⟩ := hf.form2
        obtain ⟨a4, c4, rfl, _, _⟩ := hrr.form2
        have hmem := List.mem_of_getElem? hm
        have HWm : Hid (MsW m) := HW.out.msgs m hmem
        have HFm : Hid (m.fields.length ≤ 20 ∧ m.reserved.length ≤ 40) := HF.out.flds m hmem
        have HP2 : Hid (P1 = chkMs mn en ((ms.take k).map MsS.name) (m :: ms.drop (k + 1))) := by show _ = _; rw [HP.out, drop_at hm]
        have HTK : Hid ((ms.take (k + 1)).map MsS.name = (ms.take k).map MsS.name ++ [m.name]) := by show _ = _; rw [take_at hm, List.map_append]; rfl
        obtain ⟨m0, mf, mr⟩ := m
        simp only at c0 c1 c2 HTK HP2 HFm
        have HFf : Hid (RowG wr (.slice a3 (flRows mf).length c3) 5 (flRows mf)) := HFf
        have HRr : Hid (RowG wr (.slice a4 (inRows mr).length c4) 1 (inRows mr)) := HRr
        have HNF : Hid (RowG wr (.slice a3 (flRows mf).length c3) 5 (flRows mf) ∧ RowG wr (.slice a4 (inRows mr).length c4) 1 (inRows mr)) := ⟨HFf.out, HRr.out⟩
        generalize (flRows mf).length = nF at *
        generalize (inRows mr).length = nR at *
        clear hf hrr hm HP hmem HFf HRr
        go_wp2_with fail
        clear c0 c1 c2
        have hba : Below wr.heap.size wr (wr.alloc (.cells #[.string m0, .slice a3 nF c3, .slice a4 nR c4] 35)) := (Below.refl _ _).alloc (Nat.le_refl _) _
        refine (cmsg_any (HNF.out.1.below hba) (HNF.out.2.below hba) HFm.out.1 HFm.out.2 (SetK.below HS.out hba) (by omega) (SetK.below HTy.out hba) (by omega) HTT.out HWm.out).mono ?_
        rintro e w3 ⟨rfl, hs3, hk3⟩
        have HS3 : Hid _ := hs3
        clear hs3
        obtain ⟨X, hX⟩ : ∃ X, (if freshB m0 ((ms.take k).map MsS.name) = false then 6 else chkMb mn en ⟨m0, mf, mr⟩) = X := ⟨_, rfl⟩
        rw [hX]
        have HX : Hid (X = if freshB m0 ((ms.take k).map MsS.name) = false then 6 else chkMb mn en ⟨m0, mf, mr⟩) := hX.symm
        clear hX
        have hb3 : Below w.heap.size w w3 := (hbel.alloc (by omega) _).trans (hk3.toBelow (by simp; omega) (fun k e => by omega))
        by_cases hx0 : X = 0
        · subst hx0
          obtain ⟨g1, g2⟩ := chkMs_on (m := ⟨m0, mf, mr⟩) (l := ms.drop (k + 1)) HX.out
          have HP3 : Hid (P1 = chkMs mn en ((ms.take (k + 1)).map MsS.name) (ms.drop (k + 1))) := by show _ = _; rw [HP2.out, g2, HTK.out]
          have HS4 : Hid (SetS w3 bn (k + 1) ((ms.take (k + 1)).map MsS.name)) := by show SetS _ _ _ _; rw [HTK.out]; exact HS3.out g1
          have HT4 : Hid (SetT w3 bY ny Ty) := SetK.kp (SetK.below HTy.out hba) hk3 (by omega)
          have BX4 := (BX.below hba).kp hk3 (by omega)
          clear g1 g2 HX HP2 HTK HS3 hba hk3 BX HS HTy hbel
          go_wp2_with fail
          go_roundw
          case rel => exact ⟨k + 1, by go_num, by omega, HP3, HS4, HT4, hb3, BX4⟩
          case measure => simp [intOf]; omega
        · have hx1 : (X == 0) = false := by simpa using hx0
          have HFin : Hid (X = CA) := by
            show _ = _
            rw [HCA.out, HP2.out, chkMs_err (m := ⟨m0, mf, mr⟩) HX.out hx0, orE_ne hx0, orE_ne hx0]
          go_wp2_with fail
          go_ret
          exact ⟨ret_int HFin.out, hb3⟩
      · obtain rfl : k = M := by omega
        have hP0 : P1 = 0 := by rw [HP.out, drop_end (by rw [HNM.out]; omega)]; rfl
        obtain ⟨P2, hP2⟩ : ∃ A, chkEs mn es = A := ⟨_, rfl⟩
        have HP2 : Hid (P2 = chkEs (mn ++ (es.take 0).map EnS.name) (es.drop 0)) := by show _ = _; rw [List.take_zero, List.map_nil, List.append_nil, List.drop_zero]; exact hP2.symm
        have HCA : Hid (CA = orE P2 (chkTs mn [] ts)) := by show _ = _; rw [HCA.out, hP0, hP2, orE_zero]
        have HS0 : Hid (SetS wr bn (k + 0) (mn ++ (es.take 0).map EnS.name)) := by
          show SetS _ _ _ _
          have := HS.out
          rw [List.take_of_length_le (by rw [HNM.out]; omega), ← HMN.out] at this
          rw [List.take_zero, List.map_nil, List.append_nil]; exact this
        have b2 : wr.cell? ⟨w.heap.size, 2, none⟩ = some (.slice ae E ce) := BX.cell 2
        clear HP hP0 hP2 HS HP1
        go_wp2_with fail
        clear b2
        go_loopw [38] (fun iv wr => ∃ (i : Nat), iv = .int .i64 (i : Int) ∧ i ≤ E ∧ Hid (P2 = chkEs (mn ++ (es.take i).map EnS.name) (es.drop i)) ∧ Hid (SetS wr bn (k + i) (mn ++ (es.take i).map EnS.name)) ∧ Hid (SetT wr bY ny Ty) ∧ Below w.heap.size w wr ∧ Blk wr w.heap.size #[.string nm, .slice am k cm, .slice ae E ce, .slice at' T ct] 26) (fun iv _ => E - (intOf iv).toNat)
        case atStart => exact ⟨0, rfl, by omega, HP2, HS0, HTy, hbel, BX⟩
        case round =>
          obtain ⟨i, rfl, hi, HP, HS, HTy, hbel, BX⟩ := hrel
          clear HS0 HP2
          have hbw : bn < wr.heap.size := SetK.lt HS.out
          by_cases hlt : i < E
          · obtain ⟨m, hm⟩ : ∃ n, es[i]? = some n := ⟨_, List.getElem?_eq_getElem (by rw [HNE.out]; exact hlt)⟩
            obtain ⟨g, off, vf, rfl, c0, c1, hf⟩ := (HE.out.below hbel).get hm
            have HFf : Hid (RowG wr vf 2 (nmRows m.values)) := hf
            obtain ⟨a3, c3, rfl, _, _⟩ := hf.form2
            have hmem := List.mem_of_getElem? hm
            have HWm : Hid (EnW m) := HW.out.enums m hmem
            have HFm : Hid (m.values.length ≤ 24) := HF.out.vals m hmem
            have HP2 : Hid (P2 = chkEs (mn ++ (es.take i).map EnS.name) (m :: es.drop (i + 1))) := by show _ = _; rw [HP.out, drop_at hm]
            have HTK : Hid (mn ++ (es.take (i + 1)).map EnS.name = (mn ++ (es.take i).map EnS.name) ++ [m.name]) := by show _ = _; rw [take_at hm, List.map_append, List.append_assoc]; rfl
            obtain ⟨m0, mf⟩ := m
            simp only at c0 c1 HTK HP2 HFm
            have HFf : Hid (RowG wr (.slice a3 (nmRows mf).length c3) 2 (nmRows mf)) := HFf
            generalize (nmRows mf).length = nF at *
            generalize mn ++ (es.take i).map EnS.name = AL at *
            clear hf hm HP hmem
            go_wp2_with fail
            clear c0 c1
            have hba : Below wr.heap.size wr (wr.alloc (.cells #[.string m0, .slice a3 nF c3] 40)) := (Below.refl _ _).alloc (Nat.le_refl _) _
            refine (cenum_any (HFf.out.below hba) HFm.out (SetK.below HS.out hba) (by omega) HWm.out).mono ?_
            rintro e w3 ⟨rfl, hs3, hk3⟩
            have HS3 : Hid _ := hs3
            clear hs3
            obtain ⟨X, hX⟩ : ∃ X, (if freshB m0 AL = false then 6 else chkEb ⟨m0, mf⟩) = X := ⟨_, rfl⟩
            rw [hX]
            have HX : Hid (X = if freshB m0 AL = false then 6 else chkEb ⟨m0, mf⟩) := hX.symm
            clear hX
            have hb3 : Below w.heap.size w w3 := (hbel.alloc (by omega) _).trans (hk3.toBelow (by simp; omega) (fun k e => by omega))
            by_cases hx0 : X = 0
            · subst hx0
              obtain ⟨g1, g2⟩ := chkEs_on (m := ⟨m0, mf⟩) (l := es.drop (i + 1)) HX.out
              have HP3 : Hid (P2 = chkEs (mn ++ (es.take (i + 1)).map EnS.name) (es.drop (i + 1))) := by show _ = _; rw [HP2.out, g2, HTK.out]
              have HS4 : Hid (SetS w3 bn (k + (i + 1)) (mn ++ (es.take (i + 1)).map EnS.name)) := by show SetS _ _ _ _; rw [HTK.out]; exact HS3.out g1
              have HT4 : Hid (SetT w3 bY ny Ty) := SetK.kp (SetK.below HTy.out hba) hk3 (by omega)
              have BX4 := (BX.below hba).kp hk3 (by omega)
              clear g1 g2 HX HP2 HTK HS3 hba hk3 BX HS HTy hbel HFf
              go_wp2_with fail
              go_roundw
              case rel => exact ⟨i + 1, by go_num, by omega, HP3, HS4, HT4, hb3, BX4⟩
              case measure => simp [intOf]; omega
            · have hx1 : (X == 0) = false := by simpa using hx0
              have HFin : Hid (X = CA) := by
                show _ = _
                rw [HCA.out, HP2.out, chkEs_err (m := ⟨m0, mf⟩) HX.out hx0, orE_ne hx0]
              go_wp2_with fail
              go_ret
              exact ⟨ret_int HFin.out, hb3⟩
          · have hP0 : P2 = 0 := by rw [HP.out, drop_end (by rw [HNE.out]; omega)]; rfl
            have HFin : Hid (chkTs mn [] ts = CA) := by show _ = _; rw [HCA.out, hP0, orE_zero]
            have b3 : wr.cell? ⟨w.heap.size, 3, none⟩ = some (.slice at' T ct) := BX.cell 3
            clear hP0 HP HS
            go_wp2_with fail
            clear b3
            refine (cmethods_any (HT.out.below hbel) HL3.out HTy.out HTT.out HW.out.meths).mono ?_
            rintro e w3 ⟨rfl, hb3⟩
            rw [HFin.out]
            go_wp2_with fail
            go_ret
            exact ⟨rfl, hbel.trans (hb3.mono hbel.size)⟩
  · have hw1 : (WA == 0) = false := by simpa using hw0
    have HFin : Hid (WA = CA) := by show _ = _; rw [HCA.out, orE_ne hw0]
    go_enter Try.func11, Try.ntmps11
    go_wp2_with fail
    refine (HWA.out _).mono ?_
    rintro e w1 ⟨rfl, hb1⟩
    have hb01 : Below w.heap.size w w1 := hba.trans (hb1.mono hba.size)
    go_wp2_with fail
    go_ret
    exact ⟨ret_int HFin.out, hb01⟩
end Go.Proofs.Ytomeppgmmlaibaa

/- What the reference's Print answers: the schema's text. -/
import Derived.Test.YtkfhlgajeejgeaaGreatDoorRcCanonP
import Derived.Test.YtkfhlgajeejgeaaGreatDoorRcFieldP
import Derived.Test.YtkfhlgajeejgeaaGreatDoorPkQ
import Derived.Lib.Join
namespace Go.Proofs.YtkfhlgajeejgeaaGreatDoor
open Go.ChangeShapes Go.WideShapes Go.ChangeAt Go.RowKit
set_option linter.unusedVariables false
set_option linter.unusedSimpArgs false
set_option maxRecDepth 20000

/-- The reserved numbers' line so far. -/
def resP (l : List Int) : List UInt8 := if l = [] then [] else [32, 32, 114, 101, 115, 101, 114, 118, 101, 100, 32] ++ numsL l
theorem resP_one (x : Int) : resP [x] = [32, 32, 114, 101, 115, 101, 114, 118, 101, 100, 32] ++ Lib.itoa x := by
  unfold resP numsL
  rw [if_neg (by simp), List.map_cons, List.map_nil, Lib.join_one]
theorem resP_more {l : List Int} (h : l ≠ []) (x : Int) : resP (l ++ [x]) = resP l ++ [44, 32] ++ Lib.itoa x := by
  unfold resP numsL
  rw [if_neg (by simp), if_neg h]
  obtain ⟨y, l', rfl⟩ := List.exists_cons_of_ne_nil h
  have e1 : (y :: l' ++ [x]).map Lib.itoa = Lib.itoa y :: (l'.map Lib.itoa ++ [Lib.itoa x]) := by simp
  rw [e1, List.map_cons, Lib.join_cons, Lib.join_cons]
  unfold Lib.joinTail
  simp only [List.map_append, List.flatten_append, List.map_cons, List.map_nil, List.flatten_cons, List.flatten_nil, List.append_nil, List.append_assoc]
theorem resL_of (l : List Int) : resL l = if l = [] then [] else resP l ++ [59, 10] := by
  unfold resL resP
  by_cases h : l = []
  · rw [if_pos h, if_pos h]
  · rw [if_neg h, if_neg h, if_neg h]
theorem flat_snoc {α : Type} (f : α → List UInt8) {l : List α} {k : Nat} {x : α} (h : l[k]? = some x) : ((l.take (k + 1)).map f).flatten = ((l.take k).map f).flatten ++ f x := by
  rw [List.take_add_one, h]
  simp
set_option maxHeartbeats 40000000 in
theorem rprint_any {w : World} {v : Value} {s : ScS} (hr : ScIn w v s) (hf : FewS s) (hw : ScW s) :
    Calls Tryz.prog 16 #[v] w fun e w' => e = .returned (.string (printB s)) ∧ Below w.heap.size w w' := by
  have HSC : Hid (ScIn w v s) := hr
  have HF : Hid (FewS s) := hf
  have HW : Hid (ScW (canonS s)) := canon_w hw
  obtain ⟨am, M0, cm, ae, E0, ce, at', T0, ct, rfl⟩ := hr.form
  have HPB : Hid (∀ t : ByteArray, t.data.toList = printL s → t = printB s) := fun t h => bytes_list h
  obtain ⟨R, hR⟩ : ∃ R, printB s = R := ⟨_, rfl⟩
  rw [hR] at HPB ⊢
  clear hr hf hw hR
  have hba : Below w.heap.size w (w.alloc (.cells #[.string s.name, .slice am M0 cm, .slice ae E0 ce, .slice at' T0 ct] 26)) := (Below.refl _ _).alloc (Nat.le_refl _) _
  go_enter Tryz.func16, Tryz.ntmps16
  go_wp2_with fail
  refine (rcanon_any (HSC.out.below hba) HF.out.few).mono ?_
  rintro e w3 ⟨vm, ve, vt, qm, qe, rfl, hM3, hE3, hT3, hb3⟩
  have hbw3 : Below w.heap.size w w3 := hba.trans (hb3.mono hba.size)
  obtain ⟨pa, pc, hev⟩ := own_form hM3.own
  subst hev
  obtain ⟨ea, ec, hev⟩ := own_form hE3.own
  subst hev
  obtain ⟨ta, tc, hev⟩ := own_form hT3
  subst hev
  have HMI : Hid (MsIn w3 (.slice pa (canonS s).msgs.length pc) (canonS s).msgs) := hM3.to_in
  have HEI : Hid (EnIn w3 (.slice ea (canonS s).enums.length ec) (canonS s).enums) := hE3.to_in
  have HTI : Hid (RowG w3 (.slice ta (canonS s).methods.length tc) 3 (mtRows (canonS s).methods)) := mt_in hT3
  have HTX : Hid (printL s = [115, 99, 104, 101, 109, 97, 32] ++ (canonS s).name.data.toList ++ [59, 10] ++ ((canonS s).msgs.map msgL).flatten ++ ((canonS s).enums.map enumL).flatten ++ ((canonS s).methods.map methL).flatten) := rfl
  have HFM : Hid (∀ m ∈ (canonS s).msgs, m.name.size ≤ 3000 ∧ m.fields.length ≤ 20 ∧ m.reserved.length ≤ 40 ∧ (∀ f ∈ m.fields, f.name.size ≤ 200 ∧ f.tname.size ≤ 200 ∧ I64 f.tag) ∧ ∀ n ∈ m.reserved, I64 n) := fun m hm => by
    have a1 := (canon_few HF.out.few).flds m hm
    have a2 := HW.out.msgs m hm
    obtain ⟨m', hm', rfl⟩ := List.mem_map.1 hm
    refine ⟨(HF.out.eachM m' hm').1, a1.1, a1.2, fun f hf => ?_, a2.2.2⟩
    have a3 := (HF.out.eachM m' hm').2.2.2 f ((srtF_mem _ _ _).1 hf)
    exact ⟨a3.1, a3.2, (a2.2.1 f hf).2.2.1⟩
  have HFE : Hid (∀ m ∈ (canonS s).enums, m.name.size ≤ 200 ∧ m.values.length ≤ 24 ∧ ∀ f ∈ m.values, f.name.size ≤ 200 ∧ I64 f.n) := fun m hm => by
    have a1 := (canon_few HF.out.few).vals m hm
    have a2 := HW.out.enums m hm
    obtain ⟨m', hm', rfl⟩ := List.mem_map.1 hm
    have a3 := HF.out.eachE m' hm'
    exact ⟨a3.1, a1, fun f hf => ⟨a3.2.2 f ((srtF_mem _ _ _).1 hf), (a2.2 f hf).2⟩⟩
  have HFT : Hid (∀ m ∈ (canonS s).methods, m.name.size ≤ 200 ∧ m.inn.size ≤ 200 ∧ m.out.size ≤ 200) := fun m hm => HF.out.eachT m hm
  have hnm : (canonS s).name.size ≤ 3000 := HF.out.name
  have hM14 : (canonS s).msgs.length ≤ 14 := (canon_few HF.out.few).msgs
  have hE10 : (canonS s).enums.length ≤ 10 := (canon_few HF.out.few).enums
  have hT10 : (canonS s).methods.length ≤ 10 := (canon_few HF.out.few).meths
  have eN : s.name = (canonS s).name := rfl
  have eT : s.methods.length = (canonS s).methods.length := rfl
  rw [eN, eT]
  clear eN eT hM3 hE3 hT3 hb3 hba HSC HF HW
  generalize canonS s = c at *
  obtain ⟨nm, ms, es, ts⟩ := c
  simp only at *
  have HMI : Hid (MsIn w3 (.slice pa ms.length pc) ms) := HMI
  have HEI : Hid (EnIn w3 (.slice ea es.length ec) es) := HEI
  have HTI : Hid (RowG w3 (.slice ta ts.length tc) 3 (mtRows ts)) := HTI
  obtain ⟨M, hM⟩ : ∃ N, ms.length = N := ⟨_, rfl⟩
  obtain ⟨E, hE⟩ : ∃ N, es.length = N := ⟨_, rfl⟩
  obtain ⟨T, hT⟩ : ∃ N, ts.length = N := ⟨_, rfl⟩
  rw [hM] at HMI hM14 ⊢
  rw [hE] at HEI hE10 ⊢
  rw [hT] at HTI hT10 ⊢
  have HNM : Hid (ms.length = M) := hM
  have HNE : Hid (es.length = E) := hE
  have HNT : Hid (ts.length = T) := hT
  clear hM hE hT
  have ha4 : Below w3.heap.size w3 (w3.alloc (.cells #[.string nm, .slice pa M pc, .slice ea E ec, .slice ta T tc] 26)) := (Below.refl _ _).alloc (Nat.le_refl _) _
  have BC := Blk.new w3 #[.string nm, .slice pa M pc, .slice ea E ec, .slice ta T tc] 26
  have HB4 : Hid (Below w.heap.size w (w3.alloc (.cells #[.string nm, .slice pa M pc, .slice ea E ec, .slice ta T tc] 26))) := hbw3.trans (ha4.mono hbw3.size)
  have HM4 : Hid (MsIn (w3.alloc (.cells #[.string nm, .slice pa M pc, .slice ea E ec, .slice ta T tc] 26)) (.slice pa M pc) ms) := HMI.out.below ha4
  have HE4 : Hid (EnIn (w3.alloc (.cells #[.string nm, .slice pa M pc, .slice ea E ec, .slice ta T tc] 26)) (.slice ea E ec) es) := HEI.out.below ha4
  have HT4 : Hid (RowG (w3.alloc (.cells #[.string nm, .slice pa M pc, .slice ea E ec, .slice ta T tc] 26)) (.slice ta T tc) 3 (mtRows ts)) := HTI.out.below ha4
  have c0 := (BC.cell 0).trans rfl
  go_wp2_with fail
  clear c0 HMI HEI HTI ha4 hbw3
  generalize (w3.alloc (.cells #[.string nm, .slice pa M pc, .slice ea E ec, .slice ta T tc] 26)) = w4 at *
  generalize w3.heap.size = bc at *
  obtain ⟨P0, hP0⟩ : ∃ P, [115, 99, 104, 101, 109, 97, 32] ++ nm.data.toList ++ [59, 10] = P := ⟨_, rfl⟩
  have HP0 : Hid ([115, 99, 104, 101, 109, 97, 32] ++ nm.data.toList ++ [59, 10] = P0) := hP0
  have HS0 : Hid (((⟨#[115, 99, 104, 101, 109, 97, 32]⟩ : ByteArray) ++ nm ++ (⟨#[59, 10]⟩ : ByteArray)).data.toList = P0 ++ ((ms.take 0).map msgL).flatten) := by
    show _ = _
    rw [← hP0]; simp [bytes_more]
  clear hP0
  have ht0 : ((⟨#[115, 99, 104, 101, 109, 97, 32]⟩ : ByteArray) ++ nm ++ (⟨#[59, 10]⟩ : ByteArray)).size ≤ 4000 := by simp only [ByteArray.size_append]; show 7 + nm.size + 2 ≤ 4000; omega
  generalize (⟨#[115, 99, 104, 101, 109, 97, 32]⟩ : ByteArray) ++ nm ++ (⟨#[59, 10]⟩ : ByteArray) = t0 at *
  go_loopw [4, 5] (fun tv iv wr => ∃ (t : ByteArray) (i : Nat), tv = .string t ∧ iv = .int .i64 (i : Int) ∧ i ≤ M ∧ t.size ≤ 4000 + i * 100000 ∧ Hid (t.data.toList = P0 ++ ((ms.take i).map msgL).flatten) ∧ Hid (Below w4.heap.size w4 wr)) (fun _ iv _ => M - (intOf iv).toNat)
  case atStart => exact ⟨t0, 0, rfl, rfl, by omega, by omega, HS0, Below.refl _ _⟩
  case round =>
    clear HS0
    obtain ⟨t, i, rfl, rfl, hi, hts, HTX1, HB⟩ := hrel
    have c1 : wr.cell? ⟨bc, 1, none⟩ = some (.slice pa M pc) := (BC.below HB.out).cell 1
    by_cases hlt : i < M
    · have hltz : (i : Int) < (M : Int) := by omega
      obtain ⟨m, hm⟩ : ∃ x, ms[i]? = some x := ⟨_, List.getElem?_eq_getElem (by rw [HNM.out]; exact hlt)⟩
      obtain ⟨g, off, vf, vr, rfl, x0, x1, x2, hrf, hrr⟩ := (HM4.out.below HB.out).get hm
      obtain ⟨fa, fc, rfl, _, _⟩ := hrf.form2
      obtain ⟨ra, rc, rfl, _, _⟩ := hrr.form2
      have HMF : Hid _ := HFM.out m (List.mem_of_getElem? hm)
      have HMN : Hid (((ms.take (i + 1)).map msgL).flatten = ((ms.take i).map msgL).flatten ++ msgL m) := flat_snoc msgL hm
      obtain ⟨m0, mf, mr⟩ := m
      simp only at x0 x1 x2 HMF HMN hrf hrr
      have HRF : Hid (RowG wr (.slice fa (flRows mf).length fc) 5 (flRows mf)) := hrf
      have HRR : Hid (RowG wr (.slice ra (inRows mr).length rc) 1 (inRows mr)) := hrr
      have HNF : Hid (mf.length = (flRows mf).length) := by show _ = _; simp [flRows]
      have HNR : Hid (mr.length = (inRows mr).length) := by show _ = _; simp [inRows]
      generalize hnF : (flRows mf).length = nF at *
      generalize hnR : (inRows mr).length = nR at *
      have hnF20 : nF ≤ 20 := by have := HMF.out.2.1; rw [HNF.out] at this; exact this
      have hm0s : m0.size ≤ 3000 := HMF.out.1
      have hnR40 : nR ≤ 40 := by have := HMF.out.2.2.1; rw [HNR.out] at this; exact this
      clear hrf hrr hm hnF hnR
      have ha : Below wr.heap.size wr (wr.alloc (.cells #[.string m0, .slice fa nF fc, .slice ra nR rc] 40)) := (Below.refl _ _).alloc (Nat.le_refl _) _
      have BM := Blk.new wr #[.string m0, .slice fa nF fc, .slice ra nR rc] 40
      have HB2 : Hid (Below w4.heap.size w4 (wr.alloc (.cells #[.string m0, .slice fa nF fc, .slice ra nR rc] 40))) := HB.out.trans (ha.mono HB.out.size)
      have HRF2 : Hid (RowG (wr.alloc (.cells #[.string m0, .slice fa nF fc, .slice ra nR rc] 40)) (.slice fa nF fc) 5 (flRows mf)) := HRF.out.below ha
      have HRR2 : Hid (RowG (wr.alloc (.cells #[.string m0, .slice fa nF fc, .slice ra nR rc] 40)) (.slice ra nR rc) 1 (inRows mr)) := HRR.out.below ha
      go_wp2_with fail
      clear x0 x1 x2 c1 ha HRF HRR
      generalize (wr.alloc (.cells #[.string m0, .slice fa nF fc, .slice ra nR rc] 40)) = wm at *
      generalize wr.heap.size = bm at *
      obtain ⟨P1, hP1⟩ : ∃ P, t.data.toList ++ [109, 101, 115, 115, 97, 103, 101, 32] ++ m0.data.toList ++ [32, 123, 10] = P := ⟨_, rfl⟩
      have HP1 : Hid (t.data.toList ++ [109, 101, 115, 115, 97, 103, 101, 32] ++ m0.data.toList ++ [32, 123, 10] = P1) := hP1
      have HS1 : Hid ((t ++ (⟨#[109, 101, 115, 115, 97, 103, 101, 32]⟩ : ByteArray) ++ m0 ++ (⟨#[32, 123, 10]⟩ : ByteArray)).data.toList = P1 ++ ((mf.take 0).map fieldL).flatten) := by
        show _ = _
        rw [← hP1]; simp [bytes_more]
      clear hP1
      have ht1 : (t ++ (⟨#[109, 101, 115, 115, 97, 103, 101, 32]⟩ : ByteArray) ++ m0 ++ (⟨#[32, 123, 10]⟩ : ByteArray)).size ≤ 8000 + i * 100000 := by simp only [ByteArray.size_append]; show t.size + 8 + m0.size + 3 ≤ 8000 + i * 100000; omega
      generalize t ++ (⟨#[109, 101, 115, 115, 97, 103, 101, 32]⟩ : ByteArray) ++ m0 ++ (⟨#[32, 123, 10]⟩ : ByteArray) = t1 at *
      go_loopw [4, 7] (fun tv jv wr => ∃ (u : ByteArray) (j : Nat), tv = .string u ∧ jv = .int .i64 (j : Int) ∧ j ≤ nF ∧ u.size ≤ 8000 + i * 100000 + j * 1000 ∧ Hid (u.data.toList = P1 ++ ((mf.take j).map fieldL).flatten) ∧ Hid (Below wm.heap.size wm wr)) (fun _ jv _ => nF - (intOf jv).toNat)
      case atStart => exact ⟨t1, 0, rfl, rfl, by omega, by omega, HS1, Below.refl _ _⟩
      case round =>
        clear HS1
        obtain ⟨u, j, rfl, rfl, hj, hus, HTX2, HX⟩ := hrel
        have b1 : wr.cell? ⟨bm, 1, none⟩ = some (.slice fa nF fc) := (BM.below HX.out).cell 1
        by_cases hlj : j < nF
        · have hljz : (j : Int) < (nF : Int) := by omega
          obtain ⟨f, hf⟩ : ∃ x, mf[j]? = some x := ⟨_, List.getElem?_eq_getElem (by rw [HNF.out]; exact hlj)⟩
          obtain ⟨g2, o2, rfl, hcs⟩ := (HRF2.out.below HX.out).get (fl_get hf)
          have HFF := HMF.out.2.2.2.1 f (List.mem_of_getElem? hf)
          have HFC : Hid (∀ W, Calls Tryz.prog 34 #[.agg #[.string f.name, .int .i64 f.tag, .int .i64 f.label, .int .i64 f.kind, .string f.tname]] W fun e w' => e = .returned (.string (fieldB f)) ∧ Below W.heap.size W w') := fun W => rline_any f HFF.1 HFF.2.1 HFF.2.2 W
          have HT3 : Hid ((u ++ fieldB f).data.toList = P1 ++ ((mf.take (j + 1)).map fieldL).flatten) := by
            show _ = _
            rw [bytes_more, HTX2.out, flat_snoc fieldL hf, List.append_assoc]; rfl
          have hfs : (fieldB f).size ≤ 440 := by
            show (fieldL f).toArray.size ≤ 440
            rw [List.size_toArray]
            exact field_le HFF.1 HFF.2.1 HFF.2.2
          obtain ⟨fb, hfb⟩ : ∃ x, fieldB f = x := ⟨_, rfl⟩
          rw [hfb] at HFC HT3 hfs
          obtain ⟨f0, f1, f2, f3, f4⟩ := f
          have k0 := hcs 0 _ rfl
          have k1 := hcs 1 _ rfl
          have k2 := hcs 2 _ rfl
          have k3 := hcs 3 _ rfl
          have k4 := hcs 4 _ rfl
          simp only [Nat.add_zero] at k0 k1 k2 k3 k4 HFC
          clear hcs hf HFF hfb
          go_wp2_with fail
          refine (HFC.out wr).mono ?_
          rintro e w5 ⟨rfl, hb5⟩
          have HX5 : Hid (Below wm.heap.size wm w5) := HX.out.trans (hb5.mono HX.out.size)
          clear hb5 k0 k1 k2 k3 k4 b1
          go_wp2_with fail
          go_roundw
          case rel => exact ⟨u ++ fb, j + 1, rfl, by go_num, by omega, by rw [ByteArray.size_append]; omega, HT3, HX5⟩
          case measure => simp [intOf]; omega
        · have hljz : ¬ (j : Int) < (nF : Int) := by omega
          have HP2 : Hid (u.data.toList = P1 ++ (mf.map fieldL).flatten) := by
            have := HTX2.out
            rw [List.take_of_length_le (by rw [HNF.out]; omega)] at this
            exact this
          clear HTX2
          go_wp2_with fail
          clear b1
          have HS2 : Hid (u.data.toList = u.data.toList ++ resP (mr.take 0)) := by show _ = _; simp [resP]
          go_loopw [4, 8] (fun tv jv wr => ∃ (x : ByteArray) (j : Nat), tv = .string x ∧ jv = .int .i64 (j : Int) ∧ j ≤ nR ∧ x.size ≤ 30000 + i * 100000 + j * 100 ∧ Hid (x.data.toList = u.data.toList ++ resP (mr.take j)) ∧ Hid (Below wm.heap.size wm wr)) (fun _ jv _ => nR - (intOf jv).toNat)
          case atStart => exact ⟨u, 0, rfl, rfl, by omega, by omega, HS2, HX⟩
          case round =>
            clear HS2 HX
            obtain ⟨x, j, rfl, rfl, hj, hxs, HTX2, HX⟩ := hrel
            have b2 : wr.cell? ⟨bm, 2, none⟩ = some (.slice ra nR rc) := (BM.below HX.out).cell 2
            by_cases hlj : j < nR
            · have hljz : (j : Int) < (nR : Int) := by omega
              obtain ⟨f, hf⟩ : ∃ x, mr[j]? = some x := ⟨_, List.getElem?_eq_getElem (by rw [HNR.out]; exact hlj)⟩
              obtain ⟨g2, o2, rfl, hcs⟩ := (HRR2.out.below HX.out).get (in_get hf)
              have k0 := hcs 0 _ rfl
              rw [Nat.mul_one, Nat.add_zero] at k0
              have HDC : Hid (∀ W, Calls Tryz.prog 35 #[.int .i64 f] W fun e w' => e = .returned (.string ⟨(Lib.itoa f).toArray⟩) ∧ w' = W) := fun W => dec_any f (HMF.out.2.2.2.2 f (List.mem_of_getElem? hf)) W
              have hds : (⟨(Lib.itoa f).toArray⟩ : ByteArray).size ≤ 21 := by
                have h9 := HMF.out.2.2.2.2 f (List.mem_of_getElem? hf)
                show (Lib.itoa f).toArray.size ≤ 21
                rw [List.size_toArray]
                exact Lib.itoa_length_le f h9.1 h9.2
              have HTT : Hid (mr.take (j + 1) = mr.take j ++ [f]) := by show _ = _; rw [List.take_add_one, hf]; rfl
              have HDL : Hid ((⟨(Lib.itoa f).toArray⟩ : ByteArray).data.toList = Lib.itoa f) := rfl
              have HLJ : Hid ((mr.take j).length = j) := by show _ = _; rw [List.length_take, HNR.out]; omega
              generalize (⟨(Lib.itoa f).toArray⟩ : ByteArray) = db at *
              clear hcs hf
              by_cases hj0 : j = 0
              · subst hj0
                rw [Nat.add_zero] at k0
                have HT3 : Hid ((x ++ (⟨#[32, 32, 114, 101, 115, 101, 114, 118, 101, 100, 32]⟩ : ByteArray) ++ db).data.toList = u.data.toList ++ resP (mr.take (0 + 1))) := by
                  show _ = _
                  rw [HTT.out, List.take_zero, List.nil_append, resP_one, bytes_more, bytes_more, HDL.out, HTX2.out]
                  simp [resP]
                go_wp2_with fail
                refine (HDC.out wr).mono ?_
                rintro e w5 ⟨rfl, rfl⟩
                clear k0 b2
                go_wp2_with fail
                go_roundw
                case rel => exact ⟨x ++ (⟨#[32, 32, 114, 101, 115, 101, 114, 118, 101, 100, 32]⟩ : ByteArray) ++ db, 0 + 1, rfl, by go_num, by omega, by simp only [ByteArray.size_append]; show x.size + 11 + db.size ≤ _; omega, HT3, HX⟩
                case measure => simp [intOf]; omega
              · have hjb : ((j : Int) == 0) = false := by simp; omega
                have hjn : ¬ (j : Int) = 0 := by omega
                have HT3 : Hid ((x ++ (⟨#[44, 32]⟩ : ByteArray) ++ db).data.toList = u.data.toList ++ resP (mr.take (j + 1))) := by
                  show _ = _
                  rw [HTT.out, resP_more (by intro e; have := HLJ.out; rw [e] at this; simp at this; omega), bytes_more, bytes_more, HDL.out, HTX2.out]
                  simp only [List.append_assoc]
                go_wp2_with fail
                refine (HDC.out wr).mono ?_
                rintro e w5 ⟨rfl, rfl⟩
                clear k0 b2
                go_wp2_with fail
                go_roundw
                case rel => exact ⟨x ++ (⟨#[44, 32]⟩ : ByteArray) ++ db, j + 1, rfl, by go_num, by omega, by simp only [ByteArray.size_append]; show x.size + 2 + db.size ≤ _; omega, HT3, HX⟩
                case measure => simp [intOf]; omega
            · have hljz : ¬ (j : Int) < (nR : Int) := by omega
              have HX4 : Hid (Below w4.heap.size w4 wr) := HB2.out.trans (HX.out.mono HB2.out.size)
              have HXE : Hid (x.data.toList = u.data.toList ++ resP mr) := by
                have := HTX2.out
                rw [List.take_of_length_le (by rw [HNR.out]; omega)] at this
                exact this
              clear HTX2
              by_cases hn0 : nR = 0
              · subst hn0
                have HT3 : Hid ((x ++ (⟨#[125, 10]⟩ : ByteArray)).data.toList = P0 ++ ((ms.take (i + 1)).map msgL).flatten) := by
                  show _ = _
                  have e1 : mr = [] := List.eq_nil_of_length_eq_zero HNR.out
                  subst e1
                  rw [HMN.out, ← List.append_assoc, ← HTX1.out, bytes_more, HXE.out, HP2.out, ← HP1.out]
                  simp [msgL, resL, resP]
                go_wp2_with fail
                clear b2
                go_roundw
                case rel => exact ⟨x ++ (⟨#[125, 10]⟩ : ByteArray), i + 1, rfl, by go_num, by omega, by rw [ByteArray.size_append]; show x.size + 2 ≤ _; omega, HT3, HX4⟩
                case measure => simp [intOf]; omega
              · have hn0b : 0 < nR := by omega
                have hn0z : (0 : Int) < (nR : Int) := by omega
                have HT3 : Hid ((x ++ (⟨#[59, 10]⟩ : ByteArray) ++ (⟨#[125, 10]⟩ : ByteArray)).data.toList = P0 ++ ((ms.take (i + 1)).map msgL).flatten) := by
                  show _ = _
                  have e1 : mr ≠ [] := by intro e; have := HNR.out; rw [e] at this; simp at this; omega
                  rw [HMN.out, ← List.append_assoc, ← HTX1.out, bytes_more, bytes_more, HXE.out, HP2.out, ← HP1.out]
                  simp only [msgL, resL_of, if_neg e1, List.append_assoc]
                go_wp2_with fail
                clear b2
                go_roundw
                case rel => exact ⟨x ++ (⟨#[59, 10]⟩ : ByteArray) ++ (⟨#[125, 10]⟩ : ByteArray), i + 1, rfl, by go_num, by omega, by simp only [ByteArray.size_append]; show x.size + 2 + 2 ≤ _; omega, HT3, HX4⟩
                case measure => simp [intOf]; omega
    · have hltz : ¬ (i : Int) < (M : Int) := by omega
      have HQ1 : Hid (t.data.toList = P0 ++ (ms.map msgL).flatten) := by
        have := HTX1.out
        rw [List.take_of_length_le (by rw [HNM.out]; omega)] at this
        exact this
      clear HTX1
      go_wp2_with fail
      clear c1
      have HS3 : Hid (t.data.toList = t.data.toList ++ ((es.take 0).map enumL).flatten) := by show _ = _; simp
      go_loopw [4, 9] (fun tv iv wr => ∃ (x : ByteArray) (i : Nat), tv = .string x ∧ iv = .int .i64 (i : Int) ∧ i ≤ E ∧ x.size ≤ 2000000 + i * 10000 ∧ Hid (x.data.toList = t.data.toList ++ ((es.take i).map enumL).flatten) ∧ Hid (Below w4.heap.size w4 wr)) (fun _ iv _ => E - (intOf iv).toNat)
      case atStart => exact ⟨t, 0, rfl, rfl, by omega, by omega, HS3, HB⟩
      case round =>
        clear HS3 HB
        obtain ⟨x, i, rfl, rfl, hi, hxs, HTX1, HB⟩ := hrel
        have c2 : wr.cell? ⟨bc, 2, none⟩ = some (.slice ea E ec) := (BC.below HB.out).cell 2
        by_cases hle : i < E
        · have hlez : (i : Int) < (E : Int) := by omega
          obtain ⟨m, hm⟩ : ∃ x, es[i]? = some x := ⟨_, List.getElem?_eq_getElem (by rw [HNE.out]; exact hle)⟩
          obtain ⟨g, off, vv, rfl, x0, x1, hrf⟩ := HE4.out.get hm
          obtain ⟨fa, fc, rfl, _, _⟩ := hrf.form2
          have HMF : Hid _ := HFE.out m (List.mem_of_getElem? hm)
          have HMN : Hid (((es.take (i + 1)).map enumL).flatten = ((es.take i).map enumL).flatten ++ enumL m) := flat_snoc enumL hm
          obtain ⟨m0, mf⟩ := m
          simp only at x0 x1 HMF HMN hrf
          have HRF : Hid (RowG w4 (.slice fa (nmRows mf).length fc) 2 (nmRows mf)) := hrf
          have HNF : Hid (mf.length = (nmRows mf).length) := by show _ = _; simp [nmRows]
          generalize hnF : (nmRows mf).length = nF at *
          have hm0s : m0.size ≤ 200 := HMF.out.1
          have hnF24 : nF ≤ 24 := by have := HMF.out.2.1; rw [HNF.out] at this; exact this
          have C1 : Hid (w4.cell? ⟨g, off + i * 2 + 1, none⟩ = some (.slice fa nF fc)) := x1
          have y0 := (HB.out.cell (World.block_lt_of_cell? _ _ x0)).trans x0
          clear hrf hm hnF x1 x0
          go_wp2_with fail
          clear c2 y0
          obtain ⟨P1, hP1⟩ : ∃ P, x.data.toList ++ [101, 110, 117, 109, 32] ++ m0.data.toList ++ [32, 123, 10] = P := ⟨_, rfl⟩
          have HP1 : Hid (x.data.toList ++ [101, 110, 117, 109, 32] ++ m0.data.toList ++ [32, 123, 10] = P1) := hP1
          have HS1 : Hid ((x ++ (⟨#[101, 110, 117, 109, 32]⟩ : ByteArray) ++ m0 ++ (⟨#[32, 123, 10]⟩ : ByteArray)).data.toList = P1 ++ ((mf.take 0).map valL).flatten) := by
            show _ = _
            rw [← hP1]; simp [bytes_more]
          clear hP1
          have ht1 : (x ++ (⟨#[101, 110, 117, 109, 32]⟩ : ByteArray) ++ m0 ++ (⟨#[32, 123, 10]⟩ : ByteArray)).size ≤ 2000300 + i * 10000 := by simp only [ByteArray.size_append]; show x.size + 5 + m0.size + 3 ≤ _; omega
          generalize x ++ (⟨#[101, 110, 117, 109, 32]⟩ : ByteArray) ++ m0 ++ (⟨#[32, 123, 10]⟩ : ByteArray) = t1 at *
          go_loopw [4, 10] (fun tv jv wr => ∃ (u : ByteArray) (j : Nat), tv = .string u ∧ jv = .int .i64 (j : Int) ∧ j ≤ nF ∧ u.size ≤ 2000300 + i * 10000 + j * 300 ∧ Hid (u.data.toList = P1 ++ ((mf.take j).map valL).flatten) ∧ Hid (Below w4.heap.size w4 wr)) (fun _ jv _ => nF - (intOf jv).toNat)
          case atStart => exact ⟨t1, 0, rfl, rfl, by omega, by omega, HS1, HB⟩
          case round =>
            clear HS1 HB
            obtain ⟨u, j, rfl, rfl, hj, hus, HTX2, HX⟩ := hrel
            have c2 : wr.cell? ⟨bc, 2, none⟩ = some (.slice (some ⟨g, off, none⟩) E ec) := (BC.below HX.out).cell 2
            have b1 : wr.cell? ⟨g, off + i * 2 + 1, none⟩ = some (.slice fa nF fc) := (HX.out.cell (World.block_lt_of_cell? _ _ C1.out)).trans C1.out
            by_cases hlj : j < nF
            · have hljz : (j : Int) < (nF : Int) := by omega
              obtain ⟨f, hf⟩ : ∃ x, mf[j]? = some x := ⟨_, List.getElem?_eq_getElem (by rw [HNF.out]; exact hlj)⟩
              obtain ⟨g2, o2, rfl, hcs⟩ := (HRF.out.below HX.out).get (nm_get hf)
              have HFF := HMF.out.2.2 f (List.mem_of_getElem? hf)
              have HVN : Hid (((mf.take (j + 1)).map valL).flatten = ((mf.take j).map valL).flatten ++ valL f) := flat_snoc valL hf
              obtain ⟨f0, f1⟩ := f
              simp only at HFF
              have HDC : Hid (∀ W, Calls Tryz.prog 35 #[.int .i64 f1] W fun e w' => e = .returned (.string ⟨(Lib.itoa f1).toArray⟩) ∧ w' = W) := fun W => dec_any f1 HFF.2 W
              have hf0s : f0.size ≤ 200 := HFF.1
              have hds : (⟨(Lib.itoa f1).toArray⟩ : ByteArray).size ≤ 21 := by
                show (Lib.itoa f1).toArray.size ≤ 21
                rw [List.size_toArray]
                exact Lib.itoa_length_le f1 HFF.2.1 HFF.2.2
              have HDL : Hid ((⟨(Lib.itoa f1).toArray⟩ : ByteArray).data.toList = Lib.itoa f1) := rfl
              generalize (⟨(Lib.itoa f1).toArray⟩ : ByteArray) = db at *
              have HT3 : Hid ((u ++ (⟨#[32, 32]⟩ : ByteArray) ++ f0 ++ (⟨#[32, 61, 32]⟩ : ByteArray) ++ db ++ (⟨#[59, 10]⟩ : ByteArray)).data.toList = P1 ++ ((mf.take (j + 1)).map valL).flatten) := by
                show _ = _
                rw [HVN.out, ← List.append_assoc, ← HTX2.out]
                simp only [bytes_more, HDL.out, valL, List.append_assoc]
              have k0 := hcs 0 _ rfl
              have k1 := hcs 1 _ rfl
              rw [Nat.add_zero] at k0
              clear hcs hf HFF
              go_wp2_with fail
              go_quiet (first | (go_at_call 35; refine Calls.quiet_of_same (HDC.out _)))
              go_wp2_with fail
              have HX5 : Hid (Below w4.heap.size w4 (wr.drewN nq)) := below_drewN nq HX.out
              go_roundw
              case rel => exact ⟨_, j + 1, rfl, by go_num, by omega, by simp only [ByteArray.size_append]; show u.size + 2 + f0.size + 3 + db.size + 2 ≤ _; omega, HT3, HX5⟩
              case measure => simp [intOf]; omega
            · have hljz : ¬ (j : Int) < (nF : Int) := by omega
              have HT3 : Hid ((u ++ (⟨#[125, 10]⟩ : ByteArray)).data.toList = t.data.toList ++ ((es.take (i + 1)).map enumL).flatten) := by
                have := HTX2.out
                rw [List.take_of_length_le (by rw [HNF.out]; omega)] at this
                show _ = _
                rw [HMN.out, ← List.append_assoc, ← HTX1.out, bytes_more, this, ← HP1.out]
                simp only [enumL, List.append_assoc]
              go_wp2_with fail
              clear c2 b1
              go_roundw
              case rel => exact ⟨u ++ (⟨#[125, 10]⟩ : ByteArray), i + 1, rfl, by go_num, by omega, by rw [ByteArray.size_append]; show u.size + 2 ≤ _; omega, HT3, HX⟩
              case measure => simp [intOf]; omega
        · have hlez : ¬ (i : Int) < (E : Int) := by omega
          have HQ2 : Hid (x.data.toList = t.data.toList ++ (es.map enumL).flatten) := by
            have := HTX1.out
            rw [List.take_of_length_le (by rw [HNE.out]; omega)] at this
            exact this
          clear HTX1
          go_wp2_with fail
          clear c2
          have HS3 : Hid (x.data.toList = x.data.toList ++ ((ts.take 0).map methL).flatten) := by show _ = _; simp
          go_loopw [4, 11] (fun tv iv wr => ∃ (u : ByteArray) (i : Nat), tv = .string u ∧ iv = .int .i64 (i : Int) ∧ i ≤ T ∧ u.size ≤ 3000000 + i * 1000 ∧ Hid (u.data.toList = x.data.toList ++ ((ts.take i).map methL).flatten) ∧ Hid (Below w4.heap.size w4 wr)) (fun _ iv _ => T - (intOf iv).toNat)
          case atStart => exact ⟨x, 0, rfl, rfl, by omega, by omega, HS3, HB⟩
          case round =>
            clear HS3 HB
            obtain ⟨u, i, rfl, rfl, hi, hus, HTX2, HX⟩ := hrel
            have c3 : wr.cell? ⟨bc, 3, none⟩ = some (.slice ta T tc) := (BC.below HX.out).cell 3
            by_cases hlj : i < T
            · have hljz : (i : Int) < (T : Int) := by omega
              obtain ⟨f, hf⟩ : ∃ x, ts[i]? = some x := ⟨_, List.getElem?_eq_getElem (by rw [HNT.out]; exact hlj)⟩
              obtain ⟨g2, o2, rfl, hcs⟩ := (HT4.out.below HX.out).get (show (mtRows ts)[i]? = some f.cells by simp [mtRows, hf])
              have HVN : Hid (((ts.take (i + 1)).map methL).flatten = ((ts.take i).map methL).flatten ++ methL f) := flat_snoc methL hf
              have HFF := HFT.out f (List.mem_of_getElem? hf)
              obtain ⟨f0, f1, f2⟩ := f
              simp only at HFF
              obtain ⟨q0, q1, q2⟩ := HFF
              have HT3 : Hid ((u ++ (⟨#[99, 97, 108, 108, 32]⟩ : ByteArray) ++ f0 ++ (⟨#[40]⟩ : ByteArray) ++ f1 ++ (⟨#[41, 32, 114, 101, 116, 117, 114, 110, 115, 32, 40]⟩ : ByteArray) ++ f2 ++ (⟨#[41, 59, 10]⟩ : ByteArray)).data.toList = x.data.toList ++ ((ts.take (i + 1)).map methL).flatten) := by
                show _ = _
                rw [HVN.out, ← List.append_assoc, ← HTX2.out]
                simp only [bytes_more, methL, List.append_assoc]
              have k0 := hcs 0 _ rfl
              have k1 := hcs 1 _ rfl
              have k2 := hcs 2 _ rfl
              rw [Nat.add_zero] at k0
              clear hcs hf
              go_wp2_with fail
              go_quiet (fail)
              go_wp2_with fail
              have HX5 : Hid (Below w4.heap.size w4 (wr.drewN nq)) := below_drewN nq HX.out
              go_roundw
              case rel => exact ⟨_, i + 1, rfl, by go_num, by omega, by simp only [ByteArray.size_append]; show u.size + 5 + f0.size + 1 + f1.size + 11 + f2.size + 3 ≤ _; omega, HT3, HX5⟩
              case measure => simp [intOf]; omega
            · have hljz : ¬ (i : Int) < (T : Int) := by omega
              have HQ3 : Hid (u = R) := by
                have := HTX2.out
                rw [List.take_of_length_le (by rw [HNT.out]; omega)] at this
                refine HPB.out u ?_
                rw [HTX.out, this, HQ2.out, HQ1.out, ← HP0.out]
              have hfin : Below w.heap.size w wr := HB4.out.trans (HX.out.mono HB4.out.size)
              go_wp2_with fail
              go_ret
              exact ⟨by rw [HQ3.out]; rfl, hfin⟩
end Go.Proofs.YtkfhlgajeejgeaaGreatDoor

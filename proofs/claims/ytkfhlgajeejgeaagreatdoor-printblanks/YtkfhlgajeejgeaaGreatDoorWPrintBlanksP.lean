/- PrintBlanks, walked. -/
import Derived.Test.YtkfhlgajeejgeaaGreatDoorPkC
import Derived.Test.YtkfhlgajeejgeaaGreatDoorPkD
import Derived.Test.YtkfhlgajeejgeaaGreatDoorPkE
import Derived.Test.YtkfhlgajeejgeaaGreatDoorPkM
import Derived.Test.YtkfhlgajeejgeaaGreatDoorPbParseP
import Derived.Test.YtkfhlgajeejgeaaGreatDoorSchSameP
import Derived.Test.YtkfhlgajeejgeaaGreatDoorLwPlaceP
import Derived.Test.YtkfhlgajeejgeaaGreatDoorPbSizeP
namespace Go.Proofs.YtkfhlgajeejgeaaGreatDoor
open Go.ChangeShapes Go.WideShapes Go.ChangeAt Go.RowKit
set_option linter.unusedVariables false
set_option linter.unusedSimpArgs false
set_option maxRecDepth 20000

theorem sep_0 : Blanks [32, 47, 47, 32, 104, 111, 112, 10] := ⟨by decide, fun r => by simp [skipN, skipG, blankB, headN]; omega⟩
theorem sep_1 : Blanks [10, 10, 9] := ⟨by decide, fun r => by simp [skipN, skipG, blankB]; omega⟩
/-- What a line's end is turned into. -/
def SepOk (sep : ByteArray) : Prop := sep.size ≤ 8 ∧ (∃ a r, sep.data.toList = a :: r ∧ blankB a = true) ∧ Blanks sep.data.toList
theorem expL_take (sep : List UInt8) {l : List UInt8} {i : Nat} {a : UInt8} (h : l[i]? = some a) : expL sep (l.take (i + 1)) = expL sep (l.take i) ++ (if a = 10 then sep else [a]) := by
  rw [List.take_add_one, h, expL_app]
  congr 1
  simp [expL]
theorem bytes_app_list (a b : ByteArray) : (a ++ b).data.toList = a.data.toList ++ b.data.toList := by simp
theorem expL_all (sep l : List UInt8) : expL sep (l.take l.length) = expL sep l := by rw [List.take_length]
set_option maxHeartbeats 16000000 in
theorem printBlanks_walk (v : Value) (s : ScS) (kd : Int) (w : World) (hr : ScIn w v s) (hw : ScW s) (g1 : (Lit.int .i64 kd).wf = true) (hG : Glob w) (hPT : PTab w) :
    Calls Tryz.prog 8 #[v, .int .i64 kd] w fun e w' => e = .returned (.bool true) ∧ Below w.heap.size w w' := by
  obtain ⟨hk1, hk2⟩ : -9223372036854775808 ≤ kd ∧ kd ≤ 9223372036854775807 := bounds_i64 g1
  clear g1
  have HG : Hid (Glob w) := hG
  have HPT : Hid (PTab w) := hPT
  clear hG hPT
  have HSC : Hid (ScIn w v s) := hr
  have HW : Hid (ScW s) := hw
  obtain ⟨vm0, ve0, vt0, rfl, hm, he, ht⟩ := hr
  obtain ⟨am, cm, rfl, qm1, qm2⟩ := hm.form2
  obtain ⟨ae, ce, rfl, qe1, qe2⟩ := he.form2
  obtain ⟨at', ct, rfl, qt1, qt2⟩ := ht.form2
  have HMI : Hid (MsIn w (.slice am s.msgs.length cm) s.msgs) := hm
  have HEI : Hid (EnIn w (.slice ae s.enums.length ce) s.enums) := he
  have hTl : (mtRows s.methods).length = s.methods.length := by simp [mtRows]
  rw [hTl] at ht HSC ⊢
  have HTI : Hid (RowG w (.slice at' s.methods.length ct) 3 (mtRows s.methods)) := ht
  clear hm he ht hw hTl
  obtain ⟨T, hT⟩ : ∃ N, s.methods.length = N := ⟨_, rfl⟩
  obtain ⟨nm, hnm⟩ : ∃ x, s.name = x := ⟨_, rfl⟩
  obtain ⟨M, hM⟩ : ∃ N, s.msgs.length = N := ⟨_, rfl⟩
  obtain ⟨E, hE⟩ : ∃ N, s.enums.length = N := ⟨_, rfl⟩
  rw [hnm, hM, hE, hT] at HSC ⊢
  rw [hM] at HMI
  rw [hE] at HEI
  rw [hT] at HTI
  have HTN : Hid (s.methods.length = T) := hT
  clear hT
  have HNM : Hid (s.name = nm) := hnm
  have HM : Hid (s.msgs.length = M) := hM
  have HE : Hid (s.enums.length = E) := hE
  clear hnm hM hE qm1 qe1 qt1 qm2 qe2 qt2
  have hba : Below w.heap.size w (w.alloc (.cells #[.string nm, .slice am M cm, .slice ae E ce, .slice at' T ct] 26)) := (Below.refl _ _).alloc (Nat.le_refl _) _
  have BX := Blk.new w #[.string nm, .slice am M cm, .slice ae E ce, .slice at' T ct] 26
  go_enter Tryz.func8, Tryz.ntmps8
  go_wp2_with fail
  refine (few_any (HSC.out.below hba) HW.out).mono ?_
  rintro e w1 ⟨hP, hb1⟩
  have hbw1 : Below w.heap.size w w1 := hba.trans (hb1.mono hba.size)
  rcases hP with rfl | ⟨rfl, hF⟩
  · go_wp2_with fail
    refine (pawake_any _ (HG.out.below hbw1) (HPT.out.below hbw1)).mono ?_
    rintro e w2 ⟨rfl, hb2⟩
    go_wp2_with fail
    go_ret
    exact ⟨rfl, hbw1.trans (hb2.mono hbw1.size)⟩
  have HF : Hid (FewS s) := hF
  clear hF
  have BX1 := BX.below hb1
  have c0 := (BX1.cell 0).trans rfl
  have c1 := (BX1.cell 1).trans rfl
  have c2 := (BX1.cell 2).trans rfl
  have c3 := (BX1.cell 3).trans rfl
  go_wp2_with fail
  clear c0 c1 c2 c3 hb1 BX
  refine (schema_any (HSC.out.below hbw1) HF.out.few).mono ?_
  rintro e w2 ⟨um, ue, ut, qm, qe, rfl, hM2, hE2, hT2, hb2⟩
  have HCK : Hid (Calls Tryz.prog 20 #[.agg #[.string s.name, um, ue, ut]] w2 fun e w' => e = .returned (.int .i64 (checkA s)) ∧ Below w2.heap.size w2 w') := check_any ⟨_, _, _, rfl, hM2.to_in, hE2.to_in, mt_in hT2⟩ HW.out HF.out.few
  rw [HNM.out] at HCK ⊢
  have hbw2 : Below w.heap.size w w2 := hbw1.trans (hb2.mono hbw1.size)
  have BX2 := BX1.below hb2
  clear hM2 hE2 hT2 hb2 BX1 hbw1
  go_wp2_with fail
  refine HCK.out.mono ?_
  rintro e w3 ⟨rfl, hb3⟩
  have hbw3 : Below w.heap.size w w3 := hbw2.trans (hb3.mono hbw2.size)
  have BX3 := BX2.below hb3
  by_cases hok : checkA s = 0
  case neg =>
    have e1 : (checkA s == 0) = false := by simpa using hok
    go_wp2_with fail
    refine (pawake_any _ (HG.out.below hbw3) (HPT.out.below hbw3)).mono ?_
    rintro e w4 ⟨rfl, hb4⟩
    go_wp2_with fail
    go_ret
    exact ⟨rfl, hbw3.trans (hb4.mono hbw3.size)⟩
  have HOK : Hid (OkS s) := (checkA_ok s).1 hok
  rw [hok]
  clear hok HCK hb3 BX2 hbw2
  have c0 := (BX3.cell 0).trans rfl
  have c1 := (BX3.cell 1).trans rfl
  have c2 := (BX3.cell 2).trans rfl
  have c3 := (BX3.cell 3).trans rfl
  go_wp2_with fail
  clear c0 c1 c2 c3
  refine (schema_any (HSC.out.below hbw3) HF.out.few).mono ?_
  rintro e w4 ⟨tm, te, tt, pm, pe, rfl, hM4, hE4, hT4, hb4⟩
  have HS4 : Hid (ScIn w4 (.agg #[.string s.name, tm, te, tt]) s) := ⟨_, _, _, rfl, hM4.to_in, hE4.to_in, mt_in hT4⟩
  rw [HNM.out] at HS4 ⊢
  have BX4 := BX3.below hb4
  have hbw4 : Below w.heap.size w w4 := hbw3.trans (hb4.mono hbw3.size)
  have OS : Hid (PrO s) := pro_ok HF.out HW.out ((checkA_ok s).2 HOK.out)
  clear hM4 hE4 hT4 hb4 hbw3 BX3
  go_wp2_with fail
  refine (pprint_any HS4.out OS.out (HPT.out.below hbw4)).mono ?_
  rintro e w5 ⟨rfl, hb5⟩
  have BX5 := BX4.below hb5
  have hbw5 : Below w.heap.size w w5 := hbw4.trans (hb5.mono hbw4.size)
  clear HS4 hb5 BX4 hbw4
  obtain ⟨ps, hps⟩ : ∃ x, printB s = x := ⟨_, rfl⟩
  rw [hps]
  have HPS : Hid (printB s = ps) := hps
  clear hps
  by_cases hl : 3000 < ps.size
  · have hlz : (3000 : Int) < (ps.size : Int) := by omega
    go_wp2_with fail
    refine (pawake_any _ (HG.out.below hbw5) (HPT.out.below hbw5)).mono ?_
    rintro e w6 ⟨rfl, hb6⟩
    go_wp2_with fail
    go_ret
    exact ⟨rfl, hbw5.trans (hb6.mono hbw5.size)⟩
  have hlz : ¬ (3000 : Int) < (ps.size : Int) := by omega
  have HL : Hid (ps.size ≤ 3000) := by show _ ≤ _; omega
  have HRA : Hid (readA (canonS s, 0, 0) = (canonS s, 0, 0)) := by
    show _ = _
    unfold readA
    rw [if_pos rfl, if_pos ((check_canon s).2 ((checkA_ok s).2 HOK.out)), canon_twice]
  have OC : Hid (PrO (canonS s)) := OS.out.canon
  have HNC : Hid ((canonS s).name = nm) := HNM.out
  have HPC : Hid (printB (canonS s) = ps) := by show _ = _; rw [print_canon]; exact HPS.out
  clear hl
  go_wp2_with fail
  refine (place_any kd 3 _ hk1 hk2 (by decide) (by decide)).mono ?_
  rintro e w5' ⟨k, rfl, hk3, rfl⟩
  clear hlz
  obtain ⟨N, hN⟩ : ∃ N, ps.size = N := ⟨_, rfl⟩
  have HN : Hid (ps.size = N) := hN
  have hN3 : N ≤ 3000 := by have := HL.out; omega
  have hk012 : k = 0 ∨ k = 1 ∨ k = 2 := by omega
  clear hk3
  rcases hk012 with rfl | rfl | rfl
  · have hix : ∀ W, (Instr.index 50 (.agg #[.string ⟨#[32, 47, 47, 32, 104, 111, 112, 10]⟩, .string ⟨#[10, 10, 9]⟩, .string ⟨#[32]⟩]) (.int .i64 0)).run Tryz.prog W = .ok (.string ⟨#[32, 47, 47, 32, 104, 111, 112, 10]⟩) W := fun W => by kernel_rfl
    go_upto_region 7 with fail
    clear hix
    have HSE : Hid (SepOk ⟨#[32, 47, 47, 32, 104, 111, 112, 10]⟩) := ⟨by decide, ⟨32, _, rfl, rfl⟩, sep_0⟩
    have hs8 : (⟨#[32, 47, 47, 32, 104, 111, 112, 10]⟩ : ByteArray).size ≤ 8 := HSE.out.1
    generalize (⟨#[32, 47, 47, 32, 104, 111, 112, 10]⟩ : ByteArray) = sep at *
    go_wp2_with fail
    go_loopw [7, 8] (fun uv iv wr => ∃ (u : ByteArray) (i : Nat), uv = .string u ∧ iv = .int .i64 (i : Int) ∧ i ≤ N ∧ u.size ≤ 8 * i ∧ Hid (u.data.toList = expL sep.data.toList (ps.data.toList.take i)) ∧ wr = w5') (fun _ iv _ => N - (intOf iv).toNat)
    case atStart => exact ⟨⟨#[]⟩, 0, rfl, rfl, by omega, by decide, rfl, rfl⟩
    case round =>
      obtain ⟨u, i, rfl, rfl, hi, hu, HU, rfl⟩ := hrel
      by_cases hlt : i < N
      · have hib : i < ps.size := by omega
        have hgt : ps.data.toList[i]? = some ps[i] := by
          rw [List.getElem?_eq_getElem (by rw [len_data]; exact hib)]; rfl
        have HX := expL_take sep.data.toList hgt
        obtain ⟨a, ha⟩ : ∃ a, ps[i] = a := ⟨_, rfl⟩
        rw [ha] at HX
        have HX' : Hid (expL sep.data.toList (ps.data.toList.take (i + 1)) = expL sep.data.toList (ps.data.toList.take i) ++ (if a = 10 then sep.data.toList else [a])) := HX
        have hltz : (i : Int) < (N : Int) := by omega
        clear HX hgt
        by_cases h10 : a = 10
        · have hb : ((a.toNat : Int) == 10) = true := by rw [h10]; rfl
          go_wp2_with fail
          go_roundw
          case rel =>
            refine ⟨u ++ sep, i + 1, rfl, by go_num, by omega, by rw [ByteArray.size_append]; omega, ?_, by trivial⟩
            show _ = _
            rw [HX'.out, if_pos h10, ← HU.out, bytes_app_list]
          case measure => simp [intOf]; omega
        · have hb : ((a.toNat : Int) == 10) = false := by
            rw [beq_eq_false_iff_ne]
            intro e
            apply h10
            apply UInt8.toNat_inj.1
            show a.toNat = 10
            omega
          have hsl : ∀ W, (Instr.slice 9 (.string ps) (some (.int .i64 (i : Int))) (some (.int .i64 ((i : Int) + 1))) none).run Tryz.prog W = .ok (.string (ps.extract i (i + 1))) W := fun W => slice_text W ps i (i + 1) (by omega) (by omega)
          have HXE : Hid ((ps.extract i (i + 1)).data.toList = [a] ∧ (ps.extract i (i + 1)).size = 1) := by
            have e1 := extract_list ps i 1
            have e2 : (ps.data.toList.drop i).take 1 = [a] := by rw [drop_cons ps i hib, ha]; rfl
            rw [e2] at e1
            exact ⟨e1, by rw [← len_data, e1]; rfl⟩
          generalize ps.extract i (i + 1) = cut at *
          have hc1 : cut.size = 1 := HXE.out.2
          go_wp2_with fail
          go_roundw
          case rel =>
            refine ⟨u ++ cut, i + 1, rfl, by go_num, by omega, by rw [ByteArray.size_append, HXE.out.2]; omega, ?_, by trivial⟩
            show _ = _
            rw [HX'.out, if_neg h10, ← HU.out, bytes_app_list, HXE.out.1]
          case measure => simp [intOf]; omega
      · obtain rfl : i = N := by omega
        have hltz : ¬ (i : Int) < (i : Int) := by omega
        have HUA : Hid (u.data.toList = expL sep.data.toList (printL s)) := by
          show _ = _
          rw [HU.out]
          have e1 : i = ps.data.toList.length := by rw [len_data]; exact HN.out.symm
          rw [e1, List.take_length, ← HPS.out]; rfl
        have HPA : Hid (parseA u = (canonS s, 0, 0)) := parse_print HOK.out HSE.out.2.1 HSE.out.2.2 HUA.out (by rw [← len_data, HUA.out]; exact Nat.le_trans (exp_small HOK.out (by rw [len_data]; exact HSE.out.1) (by rw [show (printL s).length = (printB s).size from rfl, HPS.out]; exact HL.out)) (by decide))
        have hun : u.size ≤ 140737488351232 := by omega
        go_wp2_with fail
        clear hltz hN HN HU HUA
        refine (read_any u hun (HG.out.below hbw5) (sc := canonS s) (p := 0) (e := 0) HPA.out (fun _ => ⟨OC.out.few, OC.out.wf⟩)).mono ?_
        rintro x w6 ⟨v6, rfl, hsc, hb6⟩
        rw [HRA.out] at hsc ⊢
        obtain ⟨xm, XM, xmc, xe, XE, xec, xt, XT, xtc, rfl⟩ := hsc.form
        rw [HNC.out] at hsc ⊢
        have HX6 : Hid (ScIn w6 (.agg #[.string nm, .slice xm XM xmc, .slice xe XE xec, .slice xt XT xtc]) (canonS s)) := hsc
        have hb7 : Below w6.heap.size w6 (w6.alloc (.cells #[.string nm, .slice xm XM xmc, .slice xe XE xec, .slice xt XT xtc] 26)) := (Below.refl _ _).alloc (Nat.le_refl _) _
        have BY := Blk.new w6 #[.string nm, .slice xm XM xmc, .slice xe XE xec, .slice xt XT xtc] 26
        have hbw6 : Below w.heap.size w w6 := hbw5.trans (hb6.mono hbw5.size)
        have HX : Hid (ScIn (w6.alloc (.cells #[.string nm, .slice xm XM xmc, .slice xe XE xec, .slice xt XT xtc] 26)) (.agg #[.string nm, .slice xm XM xmc, .slice xe XE xec, .slice xt XT xtc]) (canonS s)) := HX6.out.below hb7
        have BXX := (BX5.below hb6).below hb7
        have hbel : Below w.heap.size w (w6.alloc (.cells #[.string nm, .slice xm XM xmc, .slice xe XE xec, .slice xt XT xtc] 26)) := hbw6.trans (hb7.mono hbw6.size)
        obtain ⟨b7, hb7e⟩ : ∃ n, w6.heap.size = n := ⟨_, rfl⟩
        rw [hb7e] at BY
        go_upto_region 15 with fail
        generalize (w6.alloc (.cells #[.string nm, .slice xm XM xmc, .slice xe XE xec, .slice xt XT xtc] 26)) = wr at *
        clear hb7 hb6 hb7e hbw6 HX6 BX5 hbw5 hsc
        have HGW : Hid (Glob wr) := HG.out.below hbel
        have HTW : Hid (PTab wr) := HPT.out.below hbel
        have x0 := (BY.cell 0).trans rfl
        have x1 := (BY.cell 1).trans rfl
        have x2 := (BY.cell 2).trans rfl
        have x3 := (BY.cell 3).trans rfl
        go_wp2_with fail
        clear x0 x1 x2 x3
        refine (pprint_any HX.out OC.out HTW.out).mono ?_
        rintro e w8 ⟨rfl, hb8⟩
        rw [HPC.out]
        have hbw8 : Below w.heap.size w w8 := hbel.trans (hb8.mono hbel.size)
        have hpp : (ps.toList == ps.toList) = true := by simp
        go_wp2_with fail
        refine (pawake_any _ (HG.out.below hbw8) (HPT.out.below hbw8)).mono ?_
        rintro e w9 ⟨rfl, hb9⟩
        go_wp2_with fail
        go_ret
        exact ⟨rfl, hbw8.trans (hb9.mono hbw8.size)⟩
  · have hix : ∀ W, (Instr.index 50 (.agg #[.string ⟨#[32, 47, 47, 32, 104, 111, 112, 10]⟩, .string ⟨#[10, 10, 9]⟩, .string ⟨#[32]⟩]) (.int .i64 1)).run Tryz.prog W = .ok (.string ⟨#[10, 10, 9]⟩) W := fun W => by kernel_rfl
    go_upto_region 7 with fail
    clear hix
    have HSE : Hid (SepOk ⟨#[10, 10, 9]⟩) := ⟨by decide, ⟨10, _, rfl, rfl⟩, sep_1⟩
    have hs8 : (⟨#[10, 10, 9]⟩ : ByteArray).size ≤ 8 := HSE.out.1
    generalize (⟨#[10, 10, 9]⟩ : ByteArray) = sep at *
    go_wp2_with fail
    go_loopw [7, 8] (fun uv iv wr => ∃ (u : ByteArray) (i : Nat), uv = .string u ∧ iv = .int .i64 (i : Int) ∧ i ≤ N ∧ u.size ≤ 8 * i ∧ Hid (u.data.toList = expL sep.data.toList (ps.data.toList.take i)) ∧ wr = w5') (fun _ iv _ => N - (intOf iv).toNat)
    case atStart => exact ⟨⟨#[]⟩, 0, rfl, rfl, by omega, by decide, rfl, rfl⟩
    case round =>
      obtain ⟨u, i, rfl, rfl, hi, hu, HU, rfl⟩ := hrel
      by_cases hlt : i < N
      · have hib : i < ps.size := by omega
        have hgt : ps.data.toList[i]? = some ps[i] := by
          rw [List.getElem?_eq_getElem (by rw [len_data]; exact hib)]; rfl
        have HX := expL_take sep.data.toList hgt
        obtain ⟨a, ha⟩ : ∃ a, ps[i] = a := ⟨_, rfl⟩
        rw [ha] at HX
        have HX' : Hid (expL sep.data.toList (ps.data.toList.take (i + 1)) = expL sep.data.toList (ps.data.toList.take i) ++ (if a = 10 then sep.data.toList else [a])) := HX
        have hltz : (i : Int) < (N : Int) := by omega
        clear HX hgt
        by_cases h10 : a = 10
        · have hb : ((a.toNat : Int) == 10) = true := by rw [h10]; rfl
          go_wp2_with fail
          go_roundw
          case rel =>
            refine ⟨u ++ sep, i + 1, rfl, by go_num, by omega, by rw [ByteArray.size_append]; omega, ?_, by trivial⟩
            show _ = _
            rw [HX'.out, if_pos h10, ← HU.out, bytes_app_list]
          case measure => simp [intOf]; omega
        · have hb : ((a.toNat : Int) == 10) = false := by
            rw [beq_eq_false_iff_ne]
            intro e
            apply h10
            apply UInt8.toNat_inj.1
            show a.toNat = 10
            omega
          have hsl : ∀ W, (Instr.slice 9 (.string ps) (some (.int .i64 (i : Int))) (some (.int .i64 ((i : Int) + 1))) none).run Tryz.prog W = .ok (.string (ps.extract i (i + 1))) W := fun W => slice_text W ps i (i + 1) (by omega) (by omega)
          have HXE : Hid ((ps.extract i (i + 1)).data.toList = [a] ∧ (ps.extract i (i + 1)).size = 1) := by
            have e1 := extract_list ps i 1
            have e2 : (ps.data.toList.drop i).take 1 = [a] := by rw [drop_cons ps i hib, ha]; rfl
            rw [e2] at e1
            exact ⟨e1, by rw [← len_data, e1]; rfl⟩
          generalize ps.extract i (i + 1) = cut at *
          have hc1 : cut.size = 1 := HXE.out.2
          go_wp2_with fail
          go_roundw
          case rel =>
            refine ⟨u ++ cut, i + 1, rfl, by go_num, by omega, by rw [ByteArray.size_append, HXE.out.2]; omega, ?_, by trivial⟩
            show _ = _
            rw [HX'.out, if_neg h10, ← HU.out, bytes_app_list, HXE.out.1]
          case measure => simp [intOf]; omega
      · obtain rfl : i = N := by omega
        have hltz : ¬ (i : Int) < (i : Int) := by omega
        have HUA : Hid (u.data.toList = expL sep.data.toList (printL s)) := by
          show _ = _
          rw [HU.out]
          have e1 : i = ps.data.toList.length := by rw [len_data]; exact HN.out.symm
          rw [e1, List.take_length, ← HPS.out]; rfl
        have HPA : Hid (parseA u = (canonS s, 0, 0)) := parse_print HOK.out HSE.out.2.1 HSE.out.2.2 HUA.out (by rw [← len_data, HUA.out]; exact Nat.le_trans (exp_small HOK.out (by rw [len_data]; exact HSE.out.1) (by rw [show (printL s).length = (printB s).size from rfl, HPS.out]; exact HL.out)) (by decide))
        have hun : u.size ≤ 140737488351232 := by omega
        go_wp2_with fail
        clear hltz hN HN HU HUA
        refine (read_any u hun (HG.out.below hbw5) (sc := canonS s) (p := 0) (e := 0) HPA.out (fun _ => ⟨OC.out.few, OC.out.wf⟩)).mono ?_
        rintro x w6 ⟨v6, rfl, hsc, hb6⟩
        rw [HRA.out] at hsc ⊢
        obtain ⟨xm, XM, xmc, xe, XE, xec, xt, XT, xtc, rfl⟩ := hsc.form
        rw [HNC.out] at hsc ⊢
        have HX6 : Hid (ScIn w6 (.agg #[.string nm, .slice xm XM xmc, .slice xe XE xec, .slice xt XT xtc]) (canonS s)) := hsc
        have hb7 : Below w6.heap.size w6 (w6.alloc (.cells #[.string nm, .slice xm XM xmc, .slice xe XE xec, .slice xt XT xtc] 26)) := (Below.refl _ _).alloc (Nat.le_refl _) _
        have BY := Blk.new w6 #[.string nm, .slice xm XM xmc, .slice xe XE xec, .slice xt XT xtc] 26
        have hbw6 : Below w.heap.size w w6 := hbw5.trans (hb6.mono hbw5.size)
        have HX : Hid (ScIn (w6.alloc (.cells #[.string nm, .slice xm XM xmc, .slice xe XE xec, .slice xt XT xtc] 26)) (.agg #[.string nm, .slice xm XM xmc, .slice xe XE xec, .slice xt XT xtc]) (canonS s)) := HX6.out.below hb7
        have BXX := (BX5.below hb6).below hb7
        have hbel : Below w.heap.size w (w6.alloc (.cells #[.string nm, .slice xm XM xmc, .slice xe XE xec, .slice xt XT xtc] 26)) := hbw6.trans (hb7.mono hbw6.size)
        obtain ⟨b7, hb7e⟩ : ∃ n, w6.heap.size = n := ⟨_, rfl⟩
        rw [hb7e] at BY
        go_upto_region 15 with fail
        generalize (w6.alloc (.cells #[.string nm, .slice xm XM xmc, .slice xe XE xec, .slice xt XT xtc] 26)) = wr at *
        clear hb7 hb6 hb7e hbw6 HX6 BX5 hbw5 hsc
        have HGW : Hid (Glob wr) := HG.out.below hbel
        have HTW : Hid (PTab wr) := HPT.out.below hbel
        have x0 := (BY.cell 0).trans rfl
        have x1 := (BY.cell 1).trans rfl
        have x2 := (BY.cell 2).trans rfl
        have x3 := (BY.cell 3).trans rfl
        go_wp2_with fail
        clear x0 x1 x2 x3
        refine (pprint_any HX.out OC.out HTW.out).mono ?_
        rintro e w8 ⟨rfl, hb8⟩
        rw [HPC.out]
        have hbw8 : Below w.heap.size w w8 := hbel.trans (hb8.mono hbel.size)
        have hpp : (ps.toList == ps.toList) = true := by simp
        go_wp2_with fail
        refine (pawake_any _ (HG.out.below hbw8) (HPT.out.below hbw8)).mono ?_
        rintro e w9 ⟨rfl, hb9⟩
        go_wp2_with fail
        go_ret
        exact ⟨rfl, hbw8.trans (hb9.mono hbw8.size)⟩
  · have hix : ∀ W, (Instr.index 50 (.agg #[.string ⟨#[32, 47, 47, 32, 104, 111, 112, 10]⟩, .string ⟨#[10, 10, 9]⟩, .string ⟨#[32]⟩]) (.int .i64 2)).run Tryz.prog W = .ok (.string ⟨#[32]⟩) W := fun W => by kernel_rfl
    go_upto_region 7 with fail
    clear hix
    have HSE : Hid (SepOk ⟨#[32]⟩) := ⟨by decide, ⟨32, _, rfl, rfl⟩, blanks_0⟩
    have hs8 : (⟨#[32]⟩ : ByteArray).size ≤ 8 := HSE.out.1
    generalize (⟨#[32]⟩ : ByteArray) = sep at *
    go_wp2_with fail
    go_loopw [7, 8] (fun uv iv wr => ∃ (u : ByteArray) (i : Nat), uv = .string u ∧ iv = .int .i64 (i : Int) ∧ i ≤ N ∧ u.size ≤ 8 * i ∧ Hid (u.data.toList = expL sep.data.toList (ps.data.toList.take i)) ∧ wr = w5') (fun _ iv _ => N - (intOf iv).toNat)
    case atStart => exact ⟨⟨#[]⟩, 0, rfl, rfl, by omega, by decide, rfl, rfl⟩
    case round =>
      obtain ⟨u, i, rfl, rfl, hi, hu, HU, rfl⟩ := hrel
      by_cases hlt : i < N
      · have hib : i < ps.size := by omega
        have hgt : ps.data.toList[i]? = some ps[i] := by
          rw [List.getElem?_eq_getElem (by rw [len_data]; exact hib)]; rfl
        have HX := expL_take sep.data.toList hgt
        obtain ⟨a, ha⟩ : ∃ a, ps[i] = a := ⟨_, rfl⟩
        rw [ha] at HX
        have HX' : Hid (expL sep.data.toList (ps.data.toList.take (i + 1)) = expL sep.data.toList (ps.data.toList.take i) ++ (if a = 10 then sep.data.toList else [a])) := HX
        have hltz : (i : Int) < (N : Int) := by omega
        clear HX hgt
        by_cases h10 : a = 10
        · have hb : ((a.toNat : Int) == 10) = true := by rw [h10]; rfl
          go_wp2_with fail
          go_roundw
          case rel =>
            refine ⟨u ++ sep, i + 1, rfl, by go_num, by omega, by rw [ByteArray.size_append]; omega, ?_, by trivial⟩
            show _ = _
            rw [HX'.out, if_pos h10, ← HU.out, bytes_app_list]
          case measure => simp [intOf]; omega
        · have hb : ((a.toNat : Int) == 10) = false := by
            rw [beq_eq_false_iff_ne]
            intro e
            apply h10
            apply UInt8.toNat_inj.1
            show a.toNat = 10
            omega
          have hsl : ∀ W, (Instr.slice 9 (.string ps) (some (.int .i64 (i : Int))) (some (.int .i64 ((i : Int) + 1))) none).run Tryz.prog W = .ok (.string (ps.extract i (i + 1))) W := fun W => slice_text W ps i (i + 1) (by omega) (by omega)
          have HXE : Hid ((ps.extract i (i + 1)).data.toList = [a] ∧ (ps.extract i (i + 1)).size = 1) := by
            have e1 := extract_list ps i 1
            have e2 : (ps.data.toList.drop i).take 1 = [a] := by rw [drop_cons ps i hib, ha]; rfl
            rw [e2] at e1
            exact ⟨e1, by rw [← len_data, e1]; rfl⟩
          generalize ps.extract i (i + 1) = cut at *
          have hc1 : cut.size = 1 := HXE.out.2
          go_wp2_with fail
          go_roundw
          case rel =>
            refine ⟨u ++ cut, i + 1, rfl, by go_num, by omega, by rw [ByteArray.size_append, HXE.out.2]; omega, ?_, by trivial⟩
            show _ = _
            rw [HX'.out, if_neg h10, ← HU.out, bytes_app_list, HXE.out.1]
          case measure => simp [intOf]; omega
      · obtain rfl : i = N := by omega
        have hltz : ¬ (i : Int) < (i : Int) := by omega
        have HUA : Hid (u.data.toList = expL sep.data.toList (printL s)) := by
          show _ = _
          rw [HU.out]
          have e1 : i = ps.data.toList.length := by rw [len_data]; exact HN.out.symm
          rw [e1, List.take_length, ← HPS.out]; rfl
        have HPA : Hid (parseA u = (canonS s, 0, 0)) := parse_print HOK.out HSE.out.2.1 HSE.out.2.2 HUA.out (by rw [← len_data, HUA.out]; exact Nat.le_trans (exp_small HOK.out (by rw [len_data]; exact HSE.out.1) (by rw [show (printL s).length = (printB s).size from rfl, HPS.out]; exact HL.out)) (by decide))
        have hun : u.size ≤ 140737488351232 := by omega
        go_wp2_with fail
        clear hltz hN HN HU HUA
        refine (read_any u hun (HG.out.below hbw5) (sc := canonS s) (p := 0) (e := 0) HPA.out (fun _ => ⟨OC.out.few, OC.out.wf⟩)).mono ?_
        rintro x w6 ⟨v6, rfl, hsc, hb6⟩
        rw [HRA.out] at hsc ⊢
        obtain ⟨xm, XM, xmc, xe, XE, xec, xt, XT, xtc, rfl⟩ := hsc.form
        rw [HNC.out] at hsc ⊢
        have HX6 : Hid (ScIn w6 (.agg #[.string nm, .slice xm XM xmc, .slice xe XE xec, .slice xt XT xtc]) (canonS s)) := hsc
        have hb7 : Below w6.heap.size w6 (w6.alloc (.cells #[.string nm, .slice xm XM xmc, .slice xe XE xec, .slice xt XT xtc] 26)) := (Below.refl _ _).alloc (Nat.le_refl _) _
        have BY := Blk.new w6 #[.string nm, .slice xm XM xmc, .slice xe XE xec, .slice xt XT xtc] 26
        have hbw6 : Below w.heap.size w w6 := hbw5.trans (hb6.mono hbw5.size)
        have HX : Hid (ScIn (w6.alloc (.cells #[.string nm, .slice xm XM xmc, .slice xe XE xec, .slice xt XT xtc] 26)) (.agg #[.string nm, .slice xm XM xmc, .slice xe XE xec, .slice xt XT xtc]) (canonS s)) := HX6.out.below hb7
        have BXX := (BX5.below hb6).below hb7
        have hbel : Below w.heap.size w (w6.alloc (.cells #[.string nm, .slice xm XM xmc, .slice xe XE xec, .slice xt XT xtc] 26)) := hbw6.trans (hb7.mono hbw6.size)
        obtain ⟨b7, hb7e⟩ : ∃ n, w6.heap.size = n := ⟨_, rfl⟩
        rw [hb7e] at BY
        go_upto_region 15 with fail
        generalize (w6.alloc (.cells #[.string nm, .slice xm XM xmc, .slice xe XE xec, .slice xt XT xtc] 26)) = wr at *
        clear hb7 hb6 hb7e hbw6 HX6 BX5 hbw5 hsc
        have HGW : Hid (Glob wr) := HG.out.below hbel
        have HTW : Hid (PTab wr) := HPT.out.below hbel
        have x0 := (BY.cell 0).trans rfl
        have x1 := (BY.cell 1).trans rfl
        have x2 := (BY.cell 2).trans rfl
        have x3 := (BY.cell 3).trans rfl
        go_wp2_with fail
        clear x0 x1 x2 x3
        refine (pprint_any HX.out OC.out HTW.out).mono ?_
        rintro e w8 ⟨rfl, hb8⟩
        rw [HPC.out]
        have hbw8 : Below w.heap.size w w8 := hbel.trans (hb8.mono hbel.size)
        have hpp : (ps.toList == ps.toList) = true := by simp
        go_wp2_with fail
        refine (pawake_any _ (HG.out.below hbw8) (HPT.out.below hbw8)).mono ?_
        rintro e w9 ⟨rfl, hb9⟩
        go_wp2_with fail
        go_ret
        exact ⟨rfl, hbw8.trans (hb9.mono hbw8.size)⟩
end Go.Proofs.YtkfhlgajeejgeaaGreatDoor

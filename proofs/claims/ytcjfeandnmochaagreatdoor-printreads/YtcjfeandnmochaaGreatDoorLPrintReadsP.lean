/- For every text the statement's function PrintReads answers true: what the program reads of it is what the chapter's own answer reads. No condition but what its card ties: the four tables (math/bits' two, internal/strconv's powers of ten, idl's words) as the program's own text lays them. -/
import Derived.Test.YtcjfeandnmochaaGreatDoorPkAN
import Derived.Lib.LaidTab
import Derived.LaidMore
import Derived.Stop.Joined
import Derived.SevenTiedAt
import Derived.SizedLaws
import Derived.Carry
namespace Go.Proofs.YtcjfeandnmochaaGreatDoor
open Go.ChangeShapes Go.WideShapes Go.ChangeAt Go.RowKit
set_option linter.unusedVariables false
set_option linter.unusedSimpArgs false
set_option maxRecDepth 20000
theorem rparse_row (s : ByteArray) (w : World) (hs : s.size ≤ 140737488351232) (sc : ScS) (p e : Nat) (h : parseA s = (sc, p, e)) :
  Calls Tryz.prog 13 #[.string s] w fun x w' => ∃ vm ve vt, x = .returned (.tuple #[.agg #[.string sc.name, vm, ve, vt], .int .i64 (p : Int), .int .i64 (e : Int)]) ∧ MsIn w' vm sc.msgs ∧ EnIn w' ve sc.enums ∧ RowG w' vt 3 (mtRows sc.methods) ∧ Below w.heap.size w w' := by
 refine (rparse_any s w hs).mono ?_
 rintro x w' ⟨v, rfl, hF, hb⟩
 obtain ⟨vm, ve, vt, rfl, h1, h2, h3⟩ := hF.to_in
 rw [h] at h1 h2 h3 ⊢
 exact ⟨vm, ve, vt, rfl, h1, h2, h3, hb⟩
theorem parse_mayS {s : ByteArray} {sc : ScS} {p : Nat} (h : parseA s = (sc, p, 0)) : MayS sc := by
 obtain ⟨a1, a2⟩ := parse_b h
 refine ⟨a1.may a2 (by decide), Nat.le_trans a1.name (by decide), fun m hm => ?_, fun m hm => ?_, fun m hm => ?_⟩
 ·obtain ⟨⟨b1, b2, _⟩, _⟩ := a1.msgs m hm
  exact ⟨by omega, fun f hf => by have := (b2 f hf).1; omega⟩
 ·obtain ⟨⟨b1, b2⟩, _⟩ := a1.enums m hm
  exact ⟨by omega, fun f hf => by have := (b2 f hf).1; omega⟩
 ·have := (a1.meths m hm).1; omega
set_option maxHeartbeats 4000000 in
theorem rread_may (s : ByteArray) {w : World} (hs : s.size ≤ 140737488351232) {sc : ScS} {p e : Nat} (h : parseA s = (sc, p, e)) (hf : e = 0 → MayS sc) :
  Calls Tryz.prog 6 #[.string s] w fun x w' => ∃ v, x = .returned (.tuple #[v, .int .i64 ((readA (sc, p, e)).2.1 : Int), .int .i64 (readA (sc, p, e)).2.2]) ∧ ScIn w' v (readA (sc, p, e)).1 ∧ Below w.heap.size w w' := by
 have HF : Hid (e = 0 → MayS sc) := hf
 have BR0 : Blk (w.alloc (.cells #[.string ⟨#[]⟩, .slice none 0 0, .slice none 0 0, .slice none 0 0] 27)) w.heap.size #[.string ⟨#[]⟩, .slice none 0 0, .slice none 0 0, .slice none 0 0] 27 := Blk.new w _ _
 have H0 : Hid (Below w.heap.size w (w.alloc (.cells #[.string ⟨#[]⟩, .slice none 0 0, .slice none 0 0, .slice none 0 0] 27))) := (Below.refl _ _).alloc (Nat.le_refl _) _
 have HP : Hid (parseA s = (sc, p, e)) := h
 clear h hf
 go_enter Tryz.func6, Tryz.ntmps6
 go_wp2_with fail
 refine (rparse_row s _ hs sc p e HP.out).mono ?_
 rintro x w1 ⟨vm, ve, vt, rfl, hm, he, htt, hb1⟩
 obtain ⟨am, cm, rfl, _, _⟩ := hm.form2
 obtain ⟨ae, ce, rfl, _, _⟩ := he.form2
 obtain ⟨at', ct, rfl, _, _⟩ := htt.form2
 have HSC : Hid (ScIn w1 (.agg #[.string sc.name, .slice am sc.msgs.length cm, .slice ae sc.enums.length ce, .slice at' (mtRows sc.methods).length ct]) sc) := ⟨_, _, _, rfl, hm, he, htt⟩
 generalize sc.name = nm at *
 generalize sc.msgs.length = M at *
 generalize sc.enums.length = E at *
 generalize (mtRows sc.methods).length = T at *
 have BR1 := BR0.below hb1
 have H1 : Hid (Below w.heap.size w w1) := H0.out.trans (hb1.mono H0.out.size)
 clear hm he htt hb1 BR0 HP
 obtain ⟨R, hR⟩ : ∃ R, w.heap.size = R := ⟨_, rfl⟩
 have HRR : Hid (w.heap.size = R) := hR
 rw [hR] at BR1 ⊢
 clear hR
 have hRlt := BR1.lt
 have hal : Below w1.heap.size w1 (w1.alloc (.cells #[.string nm, .slice am M cm, .slice ae E ce, .slice at' T ct] 27)) := (Below.refl _ _).alloc (Nat.le_refl _) _
 have BX1 : Blk (w1.alloc (.cells #[.string nm, .slice am M cm, .slice ae E ce, .slice at' T ct] 27)) w1.heap.size #[.string nm, .slice am M cm, .slice ae E ce, .slice at' T ct] 27 := Blk.new _ _ _
 have BR2 := BR1.below hal
 have HS2 : Hid (ScIn (w1.alloc (.cells #[.string nm, .slice am M cm, .slice ae E ce, .slice at' T ct] 27)) (.agg #[.string nm, .slice am M cm, .slice ae E ce, .slice at' T ct]) sc) := HSC.out.below hal
 have H2 : Hid (Below w.heap.size w (w1.alloc (.cells #[.string nm, .slice am M cm, .slice ae E ce, .slice at' T ct] 27))) := H1.out.trans (hal.mono H1.out.size)
 obtain ⟨b5, hb5⟩ : ∃ n, w1.heap.size = n := ⟨_, rfl⟩
 rw [hb5] at BX1 hRlt
 go_upto_region 2 with fail
 generalize (w1.alloc (.cells #[.string nm, .slice am M cm, .slice ae E ce, .slice at' T ct] 27)) = w2 at *
 clear hal HSC H1 BR1 hb5
 have x0 := (BX1.cell 0).trans rfl
 have x1 := (BX1.cell 1).trans rfl
 have x2 := (BX1.cell 2).trans rfl
 have x3 := (BX1.cell 3).trans rfl
 by_cases he : e = 0
 ·subst he
  have hfew := HF.out rfl
  go_wp2_with fail
  clear x0 x1 x2 x3
  refine (rcheck_may HS2.out hfew).mono ?_
  rintro x w3 ⟨rfl, hb3⟩
  have BX3 := BX1.below hb3
  have BR3 := BR2.below hb3
  have HS3 : Hid (ScIn w3 (.agg #[.string nm, .slice am M cm, .slice ae E ce, .slice at' T ct]) sc) := HS2.out.below hb3
  have H3 : Hid (Below w.heap.size w w3) := H2.out.trans (hb3.mono H2.out.size)
  clear BX1 BR2 HS2 H2 hb3
  obtain ⟨C, hC⟩ : ∃ C, checkA sc = C := ⟨_, rfl⟩
  have HC : Hid (checkA sc = C) := hC
  rw [hC]
  clear hC
  have r0 := (BR3.cell 0).trans rfl
  have r1 := (BR3.cell 1).trans rfl
  have r2 := (BR3.cell 2).trans rfl
  have r3 := (BR3.cell 3).trans rfl
  have s0 := BR3.froz 0
  have s1 := BR3.froz 1
  have s2 := BR3.froz 2
  have s3 := BR3.froz 3
  have x0 := (BX3.cell 0).trans rfl
  have x1 := (BX3.cell 1).trans rfl
  have x2 := (BX3.cell 2).trans rfl
  have x3 := (BX3.cell 3).trans rfl
  by_cases hc : C = 0
  ·subst hc
   go_wp2_with fail
   clear x0 x1 x2 x3 r0 r1 r2 r3 s0 s1 s2 s3
   refine (rcanon_any HS3.out (ok_few ((checkA_ok sc).1 HC.out))).mono ?_
   rintro x w4 ⟨um, ue, ut, pm, pe, rfl, hMO, hEO, hTO, hb4⟩
   obtain ⟨a1, c1, rfl⟩ := own_form hMO.own
   obtain ⟨a2, c2, rfl⟩ := own_form hEO.own
   obtain ⟨a3, c3, rfl⟩ := own_form hTO
   have BR4 := BR3.below hb4
   have H4 : Hid (Below w.heap.size w w4) := H3.out.trans (hb4.mono H3.out.size)
   have HMO : Hid (MsO w4 w3.heap.size (.slice a1 (canonS sc).msgs.length c1) (canonS sc).msgs pm) := hMO
   have HEO : Hid (EnO w4 w3.heap.size (.slice a2 (canonS sc).enums.length c2) (canonS sc).enums pe) := hEO
   have HTO : Hid (w4.ownsRow w3.heap.size 46 3 (.slice a3 (canonS sc).methods.length c3) (canonS sc).methods.length (mtRows (canonS sc).methods).flatten) := hTO
   have HRA : Hid (readA (sc, p, 0) = (canonS sc, 0, 0)) := by show _ = _; simp [readA, HC.out]
   have HNM : Hid ((canonS sc).name = sc.name) := rfl
   have hR3 : R < w3.heap.size := BR3.lt
   have e3 : sc.methods.length = (canonS sc).methods.length := rfl
   rw [e3]
   clear e3 hMO hEO hTO hb4 HS3 H3 BR3 BX3
   generalize hcs : canonS sc = cs at *
   have HCS : Hid (canonS sc = cs) := hcs
   clear hcs
   rw [← HNM.out]
   generalize hnc : cs.name = nmc at *
   have HNC : Hid (cs.name = nmc) := hnc
   clear hnc
   generalize cs.msgs.length = M1 at *
   generalize cs.enums.length = E1 at *
   generalize cs.methods.length = T1 at *
   have r0 := (BR4.cell 0).trans rfl
   have r1 := (BR4.cell 1).trans rfl
   have r2 := (BR4.cell 2).trans rfl
   have r3 := (BR4.cell 3).trans rfl
   have s0 := BR4.froz 0
   have s1 := BR4.froz 1
   have s2 := BR4.froz 2
   have s3 := BR4.froz 3
   go_wp2_with fail
   refine bodyPost_ret (results_three rfl _ _ _ ⟨R, 0, none⟩ (.agg #[.string nmc, .slice a1 M1 c1, .slice a2 E1 c2, .slice a3 T1 c3]) (by go_simp) (by go_simp)) rfl ?_
   have KS : Kp (fun k => k = R) w4 ((((w4.setCell ⟨R, 0, none⟩ (.string nmc)).setCell ⟨R, 1, none⟩ (.slice a1 M1 c1)).setCell ⟨R, 2, none⟩ (.slice a2 E1 c2)).setCell ⟨R, 3, none⟩ (.slice a3 T1 c3)) := by
    refine Kp.setCell ?_ (fun _ => by simp) _
    refine Kp.setCell ?_ (fun _ => by simp) _
    refine Kp.setCell ?_ (fun _ => by simp) _
    refine Kp.setCell ?_ (fun _ => by simp) _
    exact Kp.refl _ _
   have hq : ∀ k, w3.heap.size ≤ k → ¬ k = R := fun k hk => by omega
   refine ⟨_, by rw [HRA.out]; rfl, ?_, H4.out.trans (KS.toBelow H4.out.size (fun k e => by have := HRR.out; omega))⟩
   rw [HRA.out]
   exact ⟨_, _, _, by rw [HNC.out], (HMO.out.kp KS hq).to_in, (HEO.out.kp KS hq).to_in, (RowG.own (mtr_len cs.methods) (by decide) (own_kp HTO.out KS hq)).1⟩
  ·have hcb : (C == 0) = false := by simpa using hc
   have HCN : Hid (¬ C = 0) := hc
   clear hc
   have hcn : (C != 0) = true := by simp [bne, hcb]
   go_wp2_with fail
   have HRA : Hid (readA (sc, p, 0) = (zeroS, 0, C)) := by
    show _ = _
    unfold readA
    simp only [if_true]
    rw [HC.out, if_neg HCN.out]
   refine bodyPost_ret (results_three rfl _ _ _ ⟨R, 0, none⟩ (.agg #[.string ⟨#[]⟩, .slice none 0 0, .slice none 0 0, .slice none 0 0]) (by go_simp) (by go_simp)) rfl ?_
   refine ⟨_, by rw [HRA.out]; rfl, by rw [HRA.out]; exact ScIn.zero _, ?_⟩
   have hle : w.heap.size ≤ R := Nat.le_of_eq HRR.out
   exact Below.setCell (Below.setCell (Below.setCell (Below.setCell H3.out hle _) hle _) hle _) hle _
 ·have heb : ((e : Int) == 0) = false := by simp; omega
  have heb' : ((e : Int) != 0) = true := by simp [bne, heb]
  have HEN : Hid (¬ e = 0) := he
  have HRA : Hid (readA (sc, p, e) = (zeroS, p, (e : Int))) := by show _ = _; simp only [readA]; rw [if_neg he]
  have r0 := (BR2.cell 0).trans rfl
  have r1 := (BR2.cell 1).trans rfl
  have r2 := (BR2.cell 2).trans rfl
  have r3 := (BR2.cell 3).trans rfl
  have s0 := BR2.froz 0
  have s1 := BR2.froz 1
  have s2 := BR2.froz 2
  have s3 := BR2.froz 3
  clear he
  go_wp2_with fail
  refine bodyPost_ret (results_three rfl _ _ _ ⟨R, 0, none⟩ (.agg #[.string ⟨#[]⟩, .slice none 0 0, .slice none 0 0, .slice none 0 0]) (by go_simp) (by go_simp)) rfl ?_
  refine ⟨_, by rw [HRA.out]; rfl, by rw [HRA.out]; exact ScIn.zero _, ?_⟩
  have hle : w.heap.size ≤ R := Nat.le_of_eq HRR.out
  exact Below.setCell (Below.setCell (Below.setCell (Below.setCell H2.out hle _) hle _) hle _) hle _
theorem rread_all (s : ByteArray) {w : World} (hs : s.size ≤ 140737488351232) {sc : ScS} {p e : Nat} (h : parseA s = (sc, p, e)) :
  Calls Tryz.prog 6 #[.string s] w fun x w' => ∃ v, x = .returned (.tuple #[v, .int .i64 ((readA (sc, p, e)).2.1 : Int), .int .i64 (readA (sc, p, e)).2.2]) ∧ ScIn w' v (readA (sc, p, e)).1 ∧ Below w.heap.size w w' :=
 rread_may s hs h (fun he => by subst he; exact parse_mayS h)
def awP : ScS := ⟨⟨#[97]⟩, [⟨⟨#[109]⟩, [⟨⟨#[120]⟩, 1, 1, 1, ⟨#[]⟩⟩], []⟩], [], []⟩
theorem awP_ok : checkA awP = 0 := by decide +kernel
theorem awP_w : ScW awP := by
 have h1 : I64 1 := ⟨by decide, by decide⟩
 exact ⟨by decide, fun m hm => by simp [awP] at hm; subst hm; exact ⟨by decide, fun f hf => by simp at hf; subst hf; exact ⟨by decide, by decide, h1, h1, h1⟩, fun n hn => by simp at hn⟩, fun m hm => by simp [awP] at hm, fun m hm => by simp [awP] at hm⟩
theorem awP_f : FewL awP := ⟨by decide, by decide, by decide, fun m hm => by simp [awP] at hm; subst hm; exact ⟨by decide, by decide⟩, fun m hm => by simp [awP] at hm⟩
theorem awP_txt : printB (canonS awP) = ⟨#[115, 99, 104, 101, 109, 97, 32, 97, 59, 10, 109, 101, 115, 115, 97, 103, 101, 32, 109, 32, 123, 10, 32, 32, 105, 110, 116, 51, 50, 32, 120, 32, 61, 32, 49, 59, 10, 125, 10]⟩ := by
 rw [print_canon]
 have e : canonS awP = awP := rfl
 unfold printB printL
 rw [e]
 have e2 : Lib.itoa 1 = [49] := by unfold Lib.itoa; rw [if_neg (by decide)]; exact Lib.decDigits_one (by decide)
 simp [textL, awP, msgL, fieldL, e2, plabL, wordL, resL]
theorem awP_p : PrO awP := ⟨awP_f, fun e he => by simp [awP] at he, awP_w, by
 have := awP_txt
 rw [print_canon] at this
 have h2 : (printB awP).size = 39 := by rw [this]; rfl
 have h3 : (printL awP).length = (printB awP).size := rfl
 omega⟩
set_option maxHeartbeats 2000000 in
theorem pawake_any (w : World) (hG : Glob w) (ht : PTab w) :
  Calls Tryz.prog 4 #[] w fun e w' => e = .returned (.bool true) ∧ Below w.heap.size w w' := by
 have HT : Hid (PTab w) := ht
 have HG : Hid (Glob w) := hG
 clear hG ht
 have HRA : Hid (readA (awP, 0, 0) = (canonS awP, 0, 0)) := by show _ = _; simp [readA, awP_ok]
 go_enter Tryz.func4, Tryz.ntmps4
 go_wp2_with fail
 refine (read_any _ (by decide) HG.out (sc := awP) (p := 0) (e := 0) parse_awake (fun _ => ⟨awP_f, awP_w⟩)).mono ?_
 rintro x w1 ⟨v, rfl, hsc, hb1⟩
 rw [HRA.out] at hsc ⊢
 have HSC : Hid (ScIn w1 v (canonS awP)) := hsc
 obtain ⟨am, M, cm, ae, E, ce, at', T, ct, rfl⟩ := hsc.form
 generalize (canonS awP).name = nm at *
 clear hsc
 have hal : Below w1.heap.size w1 (w1.alloc (.cells #[.string nm, .slice am M cm, .slice ae E ce, .slice at' T ct] 27)) := (Below.refl _ _).alloc (Nat.le_refl _) _
 have BX := Blk.new w1 #[.string nm, .slice am M cm, .slice ae E ce, .slice at' T ct] 27
 have HS2 : Hid (ScIn (w1.alloc (.cells #[.string nm, .slice am M cm, .slice ae E ce, .slice at' T ct] 27)) (.agg #[.string nm, .slice am M cm, .slice ae E ce, .slice at' T ct]) (canonS awP)) := HSC.out.below hal
 have H2 : Hid (Below w.heap.size w (w1.alloc (.cells #[.string nm, .slice am M cm, .slice ae E ce, .slice at' T ct] 27))) := hb1.trans (hal.mono hb1.size)
 obtain ⟨b5, hb5⟩ : ∃ n, w1.heap.size = n := ⟨_, rfl⟩
 rw [hb5] at BX
 go_upto_region 2 with fail
 generalize (w1.alloc (.cells #[.string nm, .slice am M cm, .slice ae E ce, .slice at' T ct] 27)) = w2 at *
 clear hal hb1 hb5 HSC
 have x0 := (BX.cell 0).trans rfl
 have x1 := (BX.cell 1).trans rfl
 have x2 := (BX.cell 2).trans rfl
 have x3 := (BX.cell 3).trans rfl
 go_wp2_with fail
 refine (pprint_any HS2.out awP_p.canon (HT.out.below H2.out)).mono ?_
 rintro e w3 ⟨rfl, hb3⟩
 rw [awP_txt]
 have BX3 := BX.below hb3
 have HS3 : Hid (ScIn w3 (.agg #[.string nm, .slice am M cm, .slice ae E ce, .slice at' T ct]) (canonS awP)) := HS2.out.below hb3
 have H3 : Hid (Below w.heap.size w w3) := H2.out.trans (hb3.mono H2.out.size)
 clear x0 x1 x2 x3 hb3
 have x0 := (BX3.cell 0).trans rfl
 have x1 := (BX3.cell 1).trans rfl
 have x2 := (BX3.cell 2).trans rfl
 have x3 := (BX3.cell 3).trans rfl
 go_wp2_with fail
 refine (psame_any HS3.out HS3.out awP_p.canon awP_p.canon (HT.out.below H3.out)).mono ?_
 rintro e w4 ⟨rfl, hb4⟩
 have H4 : Hid (Below w.heap.size w w4) := H3.out.trans (hb4.mono H3.out.size)
 rw [show ((printB (canonS awP)).toList == (printB (canonS awP)).toList) = true by simp]
 clear x0 x1 x2 x3 hb4
 go_wp2_with fail
 go_ret
 exact ⟨rfl, H4.out⟩
set_option maxHeartbeats 4000000 in
theorem sschemas_any {w : World} {v1 v2 : Value} {s : ScS} (h1 : ScIn w v1 s) (h2 : ScIn w v2 s) :
  Calls Tryz.prog 7 #[v1, v2] w fun e w' => e = .returned (.bool true) ∧ Below w.heap.size w w' := by
 obtain ⟨vm1, ve1, vt1, rfl, m1, e1, t1⟩ := h1
 obtain ⟨vm2, ve2, vt2, rfl, m2, e2, t2⟩ := h2
 obtain ⟨am1, cm1, rfl, qm1, qm2⟩ := m1.form2
 obtain ⟨am2, cm2, rfl, qm3, qm4⟩ := m2.form2
 obtain ⟨ae1, ce1, rfl, qe1, qe2⟩ := e1.form2
 obtain ⟨ae2, ce2, rfl, qe3, qe4⟩ := e2.form2
 obtain ⟨at1, ct1, rfl, qt1, qt2⟩ := t1.form2
 obtain ⟨at2, ct2, rfl, qt3, qt4⟩ := t2.form2
 have hT : (mtRows s.methods).length = s.methods.length := by simp [mtRows]
 rw [hT] at t1 t2 qt1 qt3 ⊢
 clear hT
 have HM1 : Hid (MsIn w (.slice am1 s.msgs.length cm1) s.msgs) := m1
 have HM2 : Hid (MsIn w (.slice am2 s.msgs.length cm2) s.msgs) := m2
 have HE1 : Hid (EnIn w (.slice ae1 s.enums.length ce1) s.enums) := e1
 have HE2 : Hid (EnIn w (.slice ae2 s.enums.length ce2) s.enums) := e2
 have HT1 : Hid (RowG w (.slice at1 s.methods.length ct1) 3 (mtRows s.methods)) := t1
 have HT2 : Hid (RowG w (.slice at2 s.methods.length ct2) 3 (mtRows s.methods)) := t2
 clear m1 m2 e1 e2 t1 t2
 obtain ⟨M, hM⟩ : ∃ N, s.msgs.length = N := ⟨_, rfl⟩
 obtain ⟨N, hN⟩ : ∃ N, s.enums.length = N := ⟨_, rfl⟩
 obtain ⟨T, hT⟩ : ∃ N, s.methods.length = N := ⟨_, rfl⟩
 rw [hM] at HM1 HM2 qm1 qm3 ⊢
 rw [hN] at HE1 HE2 qe1 qe3 ⊢
 rw [hT] at HT1 HT2 qt1 qt3 ⊢
 have HNM : Hid (s.msgs.length = M) := hM
 have HNN : Hid (s.enums.length = N) := hN
 have HNT : Hid (s.methods.length = T) := hT
 clear hM hN hT
 obtain ⟨nm, ms, es, mt⟩ := s
 simp only at HNM HNN HNT ⊢
 have HM1 : Hid (MsIn w (.slice am1 M cm1) ms) := HM1
 have HM2 : Hid (MsIn w (.slice am2 M cm2) ms) := HM2
 have HE1 : Hid (EnIn w (.slice ae1 N ce1) es) := HE1
 have HE2 : Hid (EnIn w (.slice ae2 N ce2) es) := HE2
 have HT1 : Hid (RowG w (.slice at1 T ct1) 3 (mtRows mt)) := HT1
 have HT2 : Hid (RowG w (.slice at2 T ct2) 3 (mtRows mt)) := HT2
 have hb0 : Below w.heap.size w ((w.alloc (.cells #[.string nm, .slice am1 M cm1, .slice ae1 N ce1, .slice at1 T ct1] 27)).alloc (.cells #[.string nm, .slice am2 M cm2, .slice ae2 N ce2, .slice at2 T ct2] 27)) := ((Below.refl _ _).alloc (Nat.le_refl _) _).alloc (by simp) _
 have HC : Hid (∀ W, Below (w.heap.size + 2) ((w.alloc (.cells #[.string nm, .slice am1 M cm1, .slice ae1 N ce1, .slice at1 T ct1] 27)).alloc (.cells #[.string nm, .slice am2 M cm2, .slice ae2 N ce2, .slice at2 T ct2] 27)) W → (W.cell? ⟨w.heap.size, 1, none⟩ = some (.slice am1 M cm1) ∧ W.cell? ⟨w.heap.size + 1, 1, none⟩ = some (.slice am2 M cm2)) ∧ (W.cell? ⟨w.heap.size, 2, none⟩ = some (.slice ae1 N ce1) ∧ W.cell? ⟨w.heap.size + 1, 2, none⟩ = some (.slice ae2 N ce2)) ∧ (W.cell? ⟨w.heap.size, 3, none⟩ = some (.slice at1 T ct1) ∧ W.cell? ⟨w.heap.size + 1, 3, none⟩ = some (.slice at2 T ct2))) := fun W hW => ⟨cells_two w _ _ _ _ W hW 1, cells_two w _ _ _ _ W hW 2, cells_two w _ _ _ _ W hW 3⟩
 go_enter Tryz.func7, Tryz.ntmps7
 go_wp2_with fail
 go_loopw [5] (fun iv wr => ∃ i : Nat, iv = .int .i64 (i : Int) ∧ i ≤ M ∧ Below w.heap.size w wr ∧ Below (w.heap.size + 2) ((w.alloc (.cells #[.string nm, .slice am1 M cm1, .slice ae1 N ce1, .slice at1 T ct1] 27)).alloc (.cells #[.string nm, .slice am2 M cm2, .slice ae2 N ce2, .slice at2 T ct2] 27)) wr) (fun iv _ => M - (intOf iv).toNat)
 case atStart => exact ⟨0, rfl, by omega, hb0, Below.refl _ _⟩
 case round =>
  obtain ⟨i, rfl, hi, hbel, hbox⟩ := hrel
  obtain ⟨⟨x1, x2⟩, _⟩ := HC.out wr hbox
  clear hb0
  have hsz : w.heap.size + 2 ≤ wr.heap.size := by have := hbox.size; simp at this; omega
  by_cases hlt : i < M
  ·obtain ⟨m, hm⟩ : ∃ n, ms[i]? = some n := ⟨_, List.getElem?_eq_getElem (by rw [HNM.out]; exact hlt)⟩
   obtain ⟨g1, o1, f1, r1, rfl, c0, c1, c2, hf1, hr1⟩ := (HM1.out.below hbel).get hm
   obtain ⟨g2, o2, f2, r2, rfl, d0, d1, d2, hf2, hr2⟩ := (HM2.out.below hbel).get hm
   obtain ⟨af1, cf1, rfl, _, _⟩ := hf1.form2
   obtain ⟨af2, cf2, rfl, _, _⟩ := hf2.form2
   obtain ⟨ar1, cr1, rfl, _, _⟩ := hr1.form2
   obtain ⟨ar2, cr2, rfl, _, _⟩ := hr2.form2
   have HS : Hid (∀ W, Below wr.heap.size wr W → Calls Tryz.prog 16 #[.agg #[.string m.name, .slice af1 (flRows m.fields).length cf1, .slice ar1 (inRows m.reserved).length cr1], .agg #[.string m.name, .slice af2 (flRows m.fields).length cf2, .slice ar2 (inRows m.reserved).length cr2]] W fun e W' => e = .returned (.bool true) ∧ Below wr.heap.size wr W') := fun W hW => by
    refine (smsgs_any (hf1.below hW) (hf2.below hW) (hr1.below hW) (hr2.below hW)).mono ?_
    rintro e W' ⟨rfl, hb⟩
    exact ⟨rfl, hW.trans (hb.mono hW.size)⟩
   have k1 := kept_cell x1
   have k2 := kept_cell x2
   have k3 := kept_cell c0
   have k4 := kept_cell c1
   have k5 := kept_cell c2
   have k6 := kept_cell d0
   have k7 := kept_cell d1
   have k8 := kept_cell d2
   generalize (flRows m.fields).length = nF at *
   generalize (inRows m.reserved).length = nR at *
   generalize m.name = mn at *
   clear hf1 hf2 hr1 hr2 hm c0 c1 c2 d0 d1 d2
   go_wp2_with fail
   clear x1 x2
   haveI := nonempty_qb (Below.refl wr.heap.size wr)
   refine wp_region_qb (Below.refl wr.heap.size wr) (by kernel_rfl) (by kernel_rfl) ?_
   repeat (go_big_quiet_step (first | (go_at_call 16; exact qb_call HS.out)))
   refine wpQuiet_nil ?_
   rintro _ ⟨⟨W, hW⟩, rfl⟩
   have hbn := hbel.trans (hW.mono (by omega))
   have hbx := hbox.trans (hW.mono hsz)
   clear k1 k2 k3 k4 k5 k6 k7 k8 hbel hbox hW
   go_wp2_with fail
   go_roundw
   case rel => exact ⟨i + 1, by go_num, by omega, hbn, hbx⟩
   case measure => simp [intOf]; omega
  ·go_wp2_with fail
   clear x1 x2
   go_loopw [6] (fun iv wr => ∃ i : Nat, iv = .int .i64 (i : Int) ∧ i ≤ N ∧ Below w.heap.size w wr ∧ Below (w.heap.size + 2) ((w.alloc (.cells #[.string nm, .slice am1 M cm1, .slice ae1 N ce1, .slice at1 T ct1] 27)).alloc (.cells #[.string nm, .slice am2 M cm2, .slice ae2 N ce2, .slice at2 T ct2] 27)) wr) (fun iv _ => N - (intOf iv).toNat)
   case atStart => exact ⟨0, rfl, by omega, hbel, hbox⟩
   case round =>
    obtain ⟨j, rfl, hj, hbel, hbox⟩ := hrel
    obtain ⟨_, ⟨x1, x2⟩, _⟩ := HC.out wr hbox
    have hsz : w.heap.size + 2 ≤ wr.heap.size := by have := hbox.size; simp at this; omega
    by_cases hlt : j < N
    ·obtain ⟨m, hm⟩ : ∃ n, es[j]? = some n := ⟨_, List.getElem?_eq_getElem (by rw [HNN.out]; exact hlt)⟩
     obtain ⟨g1, o1, f1, rfl, c0, c1, hf1⟩ := (HE1.out.below hbel).get hm
     obtain ⟨g2, o2, f2, rfl, d0, d1, hf2⟩ := (HE2.out.below hbel).get hm
     obtain ⟨af1, cf1, rfl, _, _⟩ := hf1.form2
     obtain ⟨af2, cf2, rfl, _, _⟩ := hf2.form2
     have HS : Hid (∀ W, Below wr.heap.size wr W → Calls Tryz.prog 17 #[.agg #[.string m.name, .slice af1 (nmRows m.values).length cf1], .agg #[.string m.name, .slice af2 (nmRows m.values).length cf2]] W fun e W' => e = .returned (.bool true) ∧ Below wr.heap.size wr W') := fun W hW => by
      refine (senums_any (hf1.below hW) (hf2.below hW)).mono ?_
      rintro e W' ⟨rfl, hb⟩
      exact ⟨rfl, hW.trans (hb.mono hW.size)⟩
     have k1 := kept_cell x1
     have k2 := kept_cell x2
     have k3 := kept_cell c0
     have k4 := kept_cell c1
     have k6 := kept_cell d0
     have k7 := kept_cell d1
     generalize (nmRows m.values).length = nF at *
     generalize m.name = mn at *
     clear hf1 hf2 hm c0 c1 d0 d1
     go_wp2_with fail
     clear x1 x2
     haveI := nonempty_qb (Below.refl wr.heap.size wr)
     refine wp_region_qb (Below.refl wr.heap.size wr) (by kernel_rfl) (by kernel_rfl) ?_
     repeat (go_big_quiet_step (first | (go_at_call 17; exact qb_call HS.out)))
     refine wpQuiet_nil ?_
     rintro _ ⟨⟨W, hW⟩, rfl⟩
     have hbn := hbel.trans (hW.mono (by omega))
     have hbx := hbox.trans (hW.mono hsz)
     clear k1 k2 k3 k4 k6 k7 hbel hbox hW
     go_wp2_with fail
     go_roundw
     case rel => exact ⟨j + 1, by go_num, by omega, hbn, hbx⟩
     case measure => simp [intOf]; omega
    ·go_wp2_with fail
     clear x1 x2
     go_loopw [7] (fun iv wr => ∃ i : Nat, iv = .int .i64 (i : Int) ∧ i ≤ T ∧ Below w.heap.size w wr ∧ Below (w.heap.size + 2) ((w.alloc (.cells #[.string nm, .slice am1 M cm1, .slice ae1 N ce1, .slice at1 T ct1] 27)).alloc (.cells #[.string nm, .slice am2 M cm2, .slice ae2 N ce2, .slice at2 T ct2] 27)) wr) (fun iv _ => T - (intOf iv).toNat)
     case atStart => exact ⟨0, rfl, by omega, hbel, hbox⟩
     case round =>
      obtain ⟨l, rfl, hl, hbel, hbox⟩ := hrel
      obtain ⟨_, _, ⟨x1, x2⟩⟩ := HC.out wr hbox
      by_cases hlt : l < T
      ·obtain ⟨m, hm⟩ : ∃ n, mt[l]? = some n := ⟨_, List.getElem?_eq_getElem (by rw [HNT.out]; exact hlt)⟩
       have hrr : (mtRows mt)[l]? = some m.cells := by simp [mtRows, hm]
       obtain ⟨g1, o1, rfl, c1⟩ := (HT1.out.below hbel).get hrr
       obtain ⟨g2, o2, rfl, c2⟩ := (HT2.out.below hbel).get hrr
       obtain ⟨n0, n1, n2⟩ := m
       have p0 := c1 0 _ rfl
       have p1 := c1 1 _ rfl
       have p2 := c1 2 _ rfl
       have r0 := c2 0 _ rfl
       have r1 := c2 1 _ rfl
       have r2 := c2 2 _ rfl
       simp only [Nat.add_zero] at p0 p1 p2 r0 r1 r2
       clear c1 c2 hrr hm
       go_wp2_with fail
       go_quiet (fail)
       have hbn := below_drewN nq hbel
       have hbx := below_drewN nq hbox
       clear p0 p1 p2 r0 r1 r2 hbel hbox x1 x2
       go_wp2_with fail
       go_roundw
       case rel => exact ⟨l + 1, by go_num, by omega, hbn, hbx⟩
       case measure => simp [intOf]; omega
      ·go_wp2_with fail
       go_ret
       exact ⟨rfl, hbel⟩
set_option maxHeartbeats 8000000 in
theorem printReads_walk (s : ByteArray) (hs : s.size ≤ 140737488351232) (w : World) (hG : Glob w) (hPT : PTab w) :
  Calls Tryz.prog 3 #[.string s] w fun e w' => e = .returned (.bool true) ∧ Below w.heap.size w w' := by
 have HG : Hid (Glob w) := hG
 have HPT : Hid (PTab w) := hPT
 clear hG hPT
 by_cases hl : 20000 < s.size
 ·have hlz : (20000 : Int) < (s.size : Int) := by omega
  go_enter Tryz.func3, Tryz.ntmps3
  go_wp2_with fail
  refine (pawake_any _ HG.out HPT.out).mono ?_
  rintro e w1 ⟨rfl, hb1⟩
  go_wp2_with fail
  go_ret
  exact ⟨rfl, hb1⟩
 ·have hlz : ¬ (20000 : Int) < (s.size : Int) := by omega
  obtain ⟨⟨sc, p, e⟩, hP⟩ : ∃ A, parseA s = A := ⟨_, rfl⟩
  have R1 := fun W hW => read_all s (w := W) hs hW hP
  have R2 := fun W => rread_all s (w := W) hs hP
  obtain ⟨⟨rc, q, f⟩, hA⟩ : ∃ A, readA (sc, p, e) = A := ⟨_, rfl⟩
  rw [hA] at R1 R2
  simp only at R1 R2
  have R1 : Hid _ := R1
  have R2 : Hid _ := R2
  obtain ⟨nm, hnm⟩ : ∃ x, rc.name = x := ⟨_, rfl⟩
  have HNM : Hid (rc.name = nm) := hnm
  clear hP hA hnm
  go_enter Tryz.func3, Tryz.ntmps3
  go_wp2_with fail
  refine (R1.out w HG.out).mono ?_
  rintro x w1 ⟨v1, rfl, hs1, hb1⟩
  obtain ⟨am, M, cm, ae, E, ce, at', T, ct, rfl⟩ := hs1.form
  rw [HNM.out] at hs1 ⊢
  have HS1 : Hid (ScIn w1 (.agg #[.string nm, .slice am M cm, .slice ae E ce, .slice at' T ct]) rc) := hs1
  have ha : Below w1.heap.size w1 (w1.alloc (.cells #[.string nm, .slice am M cm, .slice ae E ce, .slice at' T ct] 27)) := (Below.refl _ _).alloc (Nat.le_refl _) _
  have B1 := Blk.new w1 #[.string nm, .slice am M cm, .slice ae E ce, .slice at' T ct] 27
  have HS2 : Hid (ScIn (w1.alloc (.cells #[.string nm, .slice am M cm, .slice ae E ce, .slice at' T ct] 27)) (.agg #[.string nm, .slice am M cm, .slice ae E ce, .slice at' T ct]) rc) := HS1.out.below ha
  have hb2 : Below w.heap.size w (w1.alloc (.cells #[.string nm, .slice am M cm, .slice ae E ce, .slice at' T ct] 27)) := hb1.trans (ha.mono hb1.size)
  clear hs1 HS1 hb1 ha
  go_wp2_with fail
  generalize (w1.alloc (.cells #[.string nm, .slice am M cm, .slice ae E ce, .slice at' T ct] 27)) = w2 at *
  generalize w1.heap.size = b1 at *
  refine (R2.out w2).mono ?_
  rintro x w3 ⟨v2, rfl, hs3, hb3⟩
  obtain ⟨am2, M2, cm2, ae2, E2, ce2, at2, T2, ct2, rfl⟩ := hs3.form
  rw [HNM.out] at hs3 ⊢
  have HS3 : Hid (ScIn w3 (.agg #[.string nm, .slice am2 M2 cm2, .slice ae2 E2 ce2, .slice at2 T2 ct2]) rc) := hs3
  have ha : Below w3.heap.size w3 (w3.alloc (.cells #[.string nm, .slice am2 M2 cm2, .slice ae2 E2 ce2, .slice at2 T2 ct2] 27)) := (Below.refl _ _).alloc (Nat.le_refl _) _
  have B2 := Blk.new w3 #[.string nm, .slice am2 M2 cm2, .slice ae2 E2 ce2, .slice at2 T2 ct2] 27
  have B1' := (B1.below hb3).below ha
  have HS4 : Hid (ScIn (w3.alloc (.cells #[.string nm, .slice am2 M2 cm2, .slice ae2 E2 ce2, .slice at2 T2 ct2] 27)) (.agg #[.string nm, .slice am2 M2 cm2, .slice ae2 E2 ce2, .slice at2 T2 ct2]) rc) := HS3.out.below ha
  have HS5 : Hid (ScIn (w3.alloc (.cells #[.string nm, .slice am2 M2 cm2, .slice ae2 E2 ce2, .slice at2 T2 ct2] 27)) (.agg #[.string nm, .slice am M cm, .slice ae E ce, .slice at' T ct]) rc) := (HS2.out.below hb3).below ha
  have hb4 : Below w.heap.size w (w3.alloc (.cells #[.string nm, .slice am2 M2 cm2, .slice ae2 E2 ce2, .slice at2 T2 ct2] 27)) := (hb2.trans (hb3.mono hb2.size)).trans (ha.mono (hb2.trans (hb3.mono hb2.size)).size)
  clear hs3 HS3 hb3 ha B1 HS2 hb2
  have x0 := (B1'.cell 0).trans rfl
  have x1 := (B1'.cell 1).trans rfl
  have x2 := (B1'.cell 2).trans rfl
  have x3 := (B1'.cell 3).trans rfl
  have y0 := (B2.cell 0).trans rfl
  have y1 := (B2.cell 1).trans rfl
  have y2 := (B2.cell 2).trans rfl
  have y3 := (B2.cell 3).trans rfl
  go_wp2_with fail
  clear x0 x1 x2 x3 y0 y1 y2 y3
  generalize (w3.alloc (.cells #[.string nm, .slice am2 M2 cm2, .slice ae2 E2 ce2, .slice at2 T2 ct2] 27)) = w4 at *
  refine (sschemas_any HS5.out HS4.out).mono ?_
  rintro x w5 ⟨rfl, hb5⟩
  have hb6 : Below w.heap.size w w5 := hb4.trans (hb5.mono hb4.size)
  clear hb5 hb4 HS4 HS5 B1' B2
  go_wp2_with fail
  refine (pawake_any _ (HG.out.below hb6) (HPT.out.below hb6)).mono ?_
  rintro x w7 ⟨rfl, hb7⟩
  go_wp2_with fail
  go_ret
  exact ⟨rfl, hb6.trans (hb7.mono hb6.size)⟩
end Go.Proofs.YtcjfeandnmochaaGreatDoor
namespace Go.Proofs.YtcjfeandnmochaaGreatDoor
open Go.ChangeShapes Go.WideShapes Go.ChangeAt Go.RowKit
set_option linter.unusedVariables false
set_option linter.unusedSimpArgs false
set_option maxRecDepth 100000
def laid1 : List (String × DataW Unit) := [("math/bits.deBruijn32tab", Rows.laid_math_bits_deBruijn32tab), ("math/bits.deBruijn64tab", Rows.laid_math_bits_deBruijn64tab), ("internal/strconv.uint64pow10", Rows.laid_internal_strconv_uint64pow10), ("concordat/idl.scalars", Rows.laid_concordat_idl_scalars)]
theorem tPow : (Tryz.prog.globals[1]?).map (·.type) = some 212 := by kernel_rfl
theorem cPow : Tryz.prog.cellsOf 212 = 20 := by kernel_rfl
theorem cPowE : Tryz.prog.cellsOf 192 = 1 := by kernel_rfl
theorem datPow : (Rows.laid_internal_strconv_uint64pow10 : DataW Unit) = Lib.tabData .u64 Lib.pow10Tab := by rfl
theorem gTab : Tryz.prog.globalNamed "concordat/idl.scalars" = some 0 := by kernel_rfl
theorem tTab : (Tryz.prog.globals[0]?).map (·.type) = some 203 := by kernel_rfl
theorem door_met (os : Os) (args : Array Value) : laidMetH Tryz.prog laid1 ((World.doorLaid Tryz.prog 400 os).forCall (fun _ _ => 0) ⟨#[], args, []⟩).memory :=
 laidMetH_of_parts3 (fuel := 8) (laidMet_of_run' 8 (by kernel_rfl) (by kernel_rfl)) (by kernel_rfl) (by kernel_rfl)
theorem c115 : Tryz.prog.cellsOf 202 = 2 := by kernel_rfl
theorem c116 : Tryz.prog.cellsOf 203 = 10 := by kernel_rfl
theorem cStr : Tryz.prog.cellsOf 9 = 1 := by kernel_rfl
theorem cInt : Tryz.prog.cellsOf 3 = 1 := by kernel_rfl
theorem word_kind {enc : TypeId × Value → Unit} {W : World} {base : Nat} {spare : Nat → Bool} {held : Bool} {n : Nat} {cs : List Value} {x : DataW Unit × List MemPlace} {l : List UInt8} {k : Int} (h : DataW.trod enc Tryz.prog W base spare held n 202 cs = some x) (hx : x.1 = .agg [.lit (.string l), .lit (.int .i64 k)]) : cs = [.string ⟨l.toArray⟩, .int .i64 k] := by
 obtain ⟨y0, y1, m, rfl, hl, h0, h1⟩ := trod_struct2 Tryz.underlying202 h
 rw [c115] at hl
 simp only [DataW.agg.injEq, List.cons.injEq, and_true] at hx
 match cs, hl with
 | [a, b], _ =>
  have h0' : DataW.trod enc Tryz.prog W base spare held m 9 [a] = some y0 := by simpa [cStr] using h0
  have h1' : DataW.trod enc Tryz.prog W base spare held m 3 [b] = some y1 := by simpa [cInt] using h1
  obtain ⟨s, e1, e2, _⟩ := DataW.trod_string Tryz.underlying9 h0'
  obtain ⟨z, e3, e4, _⟩ := DataW.trod_int Tryz.underlying3 h1'
  rw [e2, e4] at hx
  simp only [DataW.lit.injEq, Lit.string.injEq, Lit.int.injEq, true_and] at hx
  obtain ⟨⟨a'⟩⟩ := s
  simp only at hx
  obtain ⟨rfl, rfl⟩ := hx
  simp only [List.cons.injEq, and_true] at e1 e3
  rw [e1, e3]
theorem of_laid {W : World} (h : laidMetH Tryz.prog laid1 W) : Glob W ∧ PTab W := by
 rw [MakeChecks.laidMetH_plain _ _ _ (by kernel_rfl)] at h
 obtain ⟨ps, ⟨g0, t0, cs0, f0, p0, q0, hg0, ht0, hv0, hd0, ⟨g1, t1, cs1, f1, p1, q1, hg1, ht1, hv1, hd1, ⟨g2, t2, cs2, f2, p2, q2, hg2, ht2, hv2, hd2, ⟨g3, t3, cs3, f3, p3, q3, hg3, ht3, hv3, hd3, _⟩, _⟩, _⟩, _⟩, _, _⟩ := h
 obtain rfl := Option.some.inj (gTab.symm.trans hg3)
 obtain rfl := Option.some.inj (tTab.symm.trans ht3)
 obtain rfl := Option.some.inj (gPow.symm.trans hg2)
 obtain rfl := Option.some.inj (tPow.symm.trans ht2)
 have hpow : PTab W := by
  rw [datPow] at hd2
  have := Lib.cells_of_tab Tryz.underlying212 Tryz.underlying192 cPowE cPow hd2
  show W.var? Tryz.prog _ = _
  rw [hv2, ← this]
 clear hv0 hv1 hv2 hd0 hd1 hd2 hg0 hg1 ht0 ht1
 have hc := World.var?_cell hg3 hv3
 obtain ⟨xs, m, rfl, hx, hl, hn, hel⟩ := DataW.trod_array Tryz.underlying203 hd3
 rw [c116] at hl
 simp only [Prod.mk.injEq] at hx
 have hx1 := hx.1
 simp only [Rows.laid_concordat_idl_scalars, DataW.agg.injEq] at hx1
 obtain ⟨l0⟩ := cs3
 simp only at hl hel
 match xs, hn, l0, hl with
 | [x0, x1, x2, x3, x4], _, [a0, a1, a2, a3, a4, a5, a6, a7, a8, a9], _ =>
  simp only [List.map_cons, List.map_nil, List.cons.injEq, and_true] at hx1
  obtain ⟨e0, e1, e2, e3, e4⟩ := hx1
  have h0 := word_kind (x := x0) (by have := hel 0 (by decide); simpa [c115] using this) e0.symm
  have h1 := word_kind (x := x1) (by have := hel 1 (by decide); simpa [c115] using this) e1.symm
  have h2 := word_kind (x := x2) (by have := hel 2 (by decide); simpa [c115] using this) e2.symm
  have h3 := word_kind (x := x3) (by have := hel 3 (by decide); simpa [c115] using this) e3.symm
  have h4 := word_kind (x := x4) (by have := hel 4 (by decide); simpa [c115] using this) e4.symm
  simp only [List.cons.injEq, and_true] at h0 h1 h2 h3 h4
  obtain ⟨rfl, rfl⟩ := h0
  obtain ⟨rfl, rfl⟩ := h1
  obtain ⟨rfl, rfl⟩ := h2
  obtain ⟨rfl, rfl⟩ := h3
  obtain ⟨rfl, rfl⟩ := h4
  refine ⟨⟨(hc 0).trans rfl, (hc 1).trans rfl, (hc 2).trans rfl, (hc 3).trans rfl, (hc 4).trans rfl, (hc 5).trans rfl, (hc 6).trans rfl, (hc 7).trans rfl, (hc 8).trans rfl, (hc 9).trans rfl⟩, hpow⟩
end Go.Proofs.YtcjfeandnmochaaGreatDoor
namespace Go.Proofs.YtcjfeandnmochaaGreatDoor.LPrintReads
open Go.ChangeShapes Go.WideShapes Go.ChangeAt Go.RowKit
open Go.ChangeMaps (open_string shut_string)
set_option linter.unusedVariables false
set_option linter.unusedSimpArgs false
theorem own : ownKnob Tryz.prog.godebug = none := by kernel_rfl
set_option maxRecDepth 100000 in
theorem lifted (os : Os) (started : os.Started) (H : Type) (enc : TypeId × Value → H) :
  ReturnsInHanded {} Tryz.checked os 3 .any (fun w args => (Rows.printReadsSpec.pre enc Tryz.prog Tryz.f3 [] false w args ∧ laidMetH Tryz.prog laid1 w) ∧ sizedMet enc Tryz.prog Tryz.f3 (OpenSpec.ofChange Rows.printReadsSpec) false w args)
   (Rows.printReadsSpec.post enc Tryz.prog Tryz.f3 false true false false) := by
 refine returnsInHanded_of_change_and (C := Tryz.checked) (X := fun w _ => laidMetH Tryz.prog laid1 w) (fun _ _ _ hh h => h.of_heap hh) own started (by kernel_rfl) Tryz.func3
  (ChangeSpec.witness_shaped (enc := enc) (C := Tryz.checked) (os := os) (X := fun w _ => laidMetH Tryz.prog laid1 w) false (World.doorLaid Tryz.prog 400 os) #[.string ByteArray.empty] 8 rfl (World.shaped_of_RefB (by kernel_rfl) (by kernel_rfl)) (by kernel_rfl) (by kernel_rfl) (by kernel_rfl) (door_met os _)) ?_
 intro W base args ds gs before hval0 hW hcnd hsz0 hL _
 have hval : ∀ (j : Nat) t v, Tryz.f3.params[j]? = some t → args[j]? = some v → Value.okWide Tryz.prog W .any base t v := hval0
 have hsz : (DataW.weightsEach Tryz.prog (Tryz.f3.params.toList ++ Rows.printReadsSpec.plain.varTypes Tryz.prog) (ds ++ gs)).all (· ≤ reachBytes) = true := hsz0
 have hW' := hW
 obtain ⟨p, q, hA0, hV, rfl, hfz, hnd⟩ := hW
 have hA : DataW.TrodAll enc Tryz.prog W 0 (fun _ => true) true Tryz.f3.params.toList args.toList ds p := hA0
 rw [Tryz.params3] at hA hval hsz
 obtain ⟨v0, vs0, d0, ds0, p0, q0, hargs, rfl, rfl, h0, r0⟩ := trodAll_cons hA
 obtain ⟨rfl, rfl, rfl⟩ := trodAll_nil r0
 obtain rfl : args = #[v0] := by cases args; simp_all
 obtain ⟨rfl, rfl⟩ := trodVars_none hV
 obtain ⟨a0, rfl, rfl, rfl, w0⟩ := open_string Tryz.underlying9 (hval 0 9 v0 rfl rfl) h0
 have z0 : a0.size ≤ 140737488351232 := by
  have := sized_string hsz (j := 0) (t := 9) rfl rfl
  rw [Array.length_toList, show reachBytes = 140737488351232 from rfl] at this
  exact this
 clear hA0 hval0 hsz0
 simp only [List.append_nil] at hW'
 refine (printReads_walk a0 z0 W (of_laid hL).1 (of_laid hL).2).mono fun e W' ⟨he, bel⟩ => ?_
 subst he
 exact ⟨_, rfl, _, _, _, [], [], [], hW', trodAll_mk1 (shut_bool Tryz.underlying4 _), (trodAll_cons_mk (shut_string Tryz.underlying9 w0) trodAll_mk0), rfl, bel.frame _, fun h => by cases h⟩
end Go.Proofs.YtcjfeandnmochaaGreatDoor.LPrintReads
namespace Go.Proofs.YtcjfeandnmochaaGreatDoor
theorem printReads_row : Rows.PrintReadsSaid :=
 OpenClaim.holds_of_wide 3 Tryz.f3 rfl rfl rfl rfl rfl rfl rfl ⟨rfl, rfl, rfl, rfl, rfl⟩ rfl rfl rfl rfl rfl (by kernel_rfl) Tryz.func3 (by kernel_rfl)
  (of_decide_eq_true (by kernel_rfl)) (by unfold Func.isWrapper; first | (rw [if_pos (by decide +kernel)]; kernel_rfl) | (rw [if_neg (by decide +kernel)]; exact ⟨rfl, rfl⟩))
  (fun os started H enc _ => LPrintReads.lifted os started H enc)
theorem printReads_holds : Rows.PrintReadsCardSaid :=
 Claim7.holds_tied_plain_at .later [] [.data, .data, .data, .data] true (true, "5dfef35d9f5ca125037dde186505326aa909b125126cf65f832239d2c0581b77") false
  printReads_row (fun _ h => by cases h) (by kernel_rfl) (fun _ h => by cases h) printReads_row_tie rfl ⟨rfl, rfl⟩ (by kernel_rfl) rfl
  (fun f fn hf hfn => by
   obtain rfl : f = 3 := Option.some.inj ((show Tryz.prog.funcNamed "concordat/concordatlaw08.PrintReads" = some 3 by kernel_rfl).symm.trans hf) |>.symm
   obtain rfl : fn = Tryz.f3 := (Option.some.inj (Tryz.func3.symm.trans hfn)).symm
   exact ⟨by kernel_rfl, fun j t ht => by
    rw [Tryz.params3] at ht
    have hm : t ∈ [9] := by simpa using Array.mem_of_getElem? ht
    have hall : ([9].all fun u => !Tryz.prog.wantsStandIn u) = true := by kernel_rfl
    exact (show Tryz.prog.wantsStandIn t = false by simpa using List.all_eq_true.1 hall t hm)⟩)
  (by kernel_rfl)
#print axioms printReads_holds
end Go.Proofs.YtcjfeandnmochaaGreatDoor

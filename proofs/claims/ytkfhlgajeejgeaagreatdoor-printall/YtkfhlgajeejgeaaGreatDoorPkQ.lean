/- What print's Same and Read answer. -/
import Derived.Lib.LaidTab
import Derived.ProofKit
import Derived.LaidMore
import Derived.OpenShut
import Derived.Stop.Joined
import Derived.Test.YtkfhlgajeejgeaaGreatDoorPkK
import Derived.Test.YtkfhlgajeejgeaaGreatDoorPkP
import Derived.Test.YtkfhlgajeejgeaaGreatDoorPkC
import Derived.Test.YtkfhlgajeejgeaaGreatDoorPkM
import Derived.Test.YtkfhlgajeejgeaaGreatDoorPkE
import Derived.Test.YtkfhlgajeejgeaaGreatDoorRows
namespace Go.Proofs.YtkfhlgajeejgeaaGreatDoor
open Go.ChangeShapes Go.WideShapes Go.ChangeAt Go.RowKit
set_option linter.unusedVariables false
set_option linter.unusedSimpArgs false
set_option maxRecDepth 20000

/-- A schema that can be printed. -/
structure PrO (s : ScS) : Prop where
  few : FewL s
  cap : ∀ e ∈ s.enums, e.values.length ≤ capN
  wf : ScW s
  len : (printL s).length ≤ 1000000000
theorem canon_twice (s : ScS) : canonS (canonS s) = canonS s := by
  obtain ⟨n, ms, es, ts⟩ := s
  simp only [canonS, List.map_map, ScS.mk.injEq, true_and, and_true]
  constructor
  · apply List.map_congr_left
    intro m _
    simp only [Function.comp, canonM, srtF_twice]
  · apply List.map_congr_left
    intro m _
    simp only [Function.comp, canonE, srtF_twice]
theorem PrO.canon {s : ScS} (h : PrO s) : PrO (canonS s) := by
  refine ⟨canon_few h.few, fun e he => ?_, canon_w h.wf, ?_⟩
  · obtain ⟨m', hm', rfl⟩ := List.mem_map.1 he
    rw [show (canonE m').values.length = m'.values.length from srtF_len _ _]
    exact h.cap m' hm'
  · unfold printL
    rw [canon_twice]
    exact h.len
theorem print_canon (s : ScS) : printB (canonS s) = printB s := by unfold printB printL; rw [canon_twice]
theorem pprint_any {w : World} {v : Value} {s : ScS} (hr : ScIn w v s) (h : PrO s) (ht : PTab w) : Calls Tryz.prog 15 #[v] w fun e w' => e = .returned (.string (printB s)) ∧ Below w.heap.size w w' :=
  print_any hr h.few h.cap h.wf ht h.len
/-- A schema's value, opened. -/
theorem ScIn.form {w : World} {v : Value} {s : ScS} (h : ScIn w v s) : ∃ am M cm ae E ce at' T ct, v = .agg #[.string s.name, .slice am M cm, .slice ae E ce, .slice at' T ct] := by
  obtain ⟨vm, ve, vt, rfl, h1, h2, h3⟩ := h
  obtain ⟨am, cm, rfl, _, _⟩ := h1.form2
  obtain ⟨ae, ce, rfl, _, _⟩ := h2.form2
  obtain ⟨at', ct, rfl, _, _⟩ := h3.form2
  exact ⟨_, _, _, _, _, _, _, _, _, rfl⟩
set_option maxHeartbeats 2000000 in
theorem psame_any {w : World} {va vb : Value} {a b : ScS} (ha : ScIn w va a) (hb : ScIn w vb b) (oa : PrO a) (ob : PrO b) (ht : PTab w) :
    Calls Tryz.prog 17 #[va, vb] w fun e w' => e = .returned (.bool ((printB a).toList == (printB b).toList)) ∧ Below w.heap.size w w' := by
  have HA : Hid (ScIn w va a) := ha
  have HB : Hid (ScIn w vb b) := hb
  have OA : Hid (PrO a) := oa
  have OB : Hid (PrO b) := ob
  have HT : Hid (PTab w) := ht
  obtain ⟨a1, n1, c1, a2, n2, c2, a3, n3, c3, rfl⟩ := ha.form
  obtain ⟨e1, m1, d1, e2, m2, d2, e3, m3, d3, rfl⟩ := hb.form
  clear ha hb oa ob ht
  generalize a.name = na at *
  generalize b.name = nb at *
  have H0 : Hid (Below w.heap.size w ((w.alloc (.cells #[.string na, .slice a1 n1 c1, .slice a2 n2 c2, .slice a3 n3 c3] 26)).alloc (.cells #[.string nb, .slice e1 m1 d1, .slice e2 m2 d2, .slice e3 m3 d3] 26)).drew) := below_drewN 1 (((Below.refl _ _).alloc (Nat.le_refl _) _).alloc (by simp) _)
  have hS : Blk ((w.alloc (.cells #[.string na, .slice a1 n1 c1, .slice a2 n2 c2, .slice a3 n3 c3] 26)).alloc (.cells #[.string nb, .slice e1 m1 d1, .slice e2 m2 d2, .slice e3 m3 d3] 26)).drew w.heap.size #[.string na, .slice a1 n1 c1, .slice a2 n2 c2, .slice a3 n3 c3] 26 ∧ Blk ((w.alloc (.cells #[.string na, .slice a1 n1 c1, .slice a2 n2 c2, .slice a3 n3 c3] 26)).alloc (.cells #[.string nb, .slice e1 m1 d1, .slice e2 m2 d2, .slice e3 m3 d3] 26)).drew (w.heap.size + 1) #[.string nb, .slice e1 m1 d1, .slice e2 m2 d2, .slice e3 m3 d3] 26 := by
    refine ⟨(Blk.new w _ _).below (below_drewN 1 ((Below.refl _ _).alloc (Nat.le_refl _) _)), ?_⟩
    have := Blk.new (w.alloc (.cells #[.string na, .slice a1 n1 c1, .slice a2 n2 c2, .slice a3 n3 c3] 26)) #[.string nb, .slice e1 m1 d1, .slice e2 m2 d2, .slice e3 m3 d3] 26
    rw [show (w.alloc (.cells #[.string na, .slice a1 n1 c1, .slice a2 n2 c2, .slice a3 n3 c3] 26)).heap.size = w.heap.size + 1 by simp] at this
    exact this
  go_enter Tryz.func17, Tryz.ntmps17
  go_wp2_with fail
  refine wp_region_held_drew (S := fun W => Blk W w.heap.size #[.string na, .slice a1 n1 c1, .slice a2 n2 c2, .slice a3 n3 c3] 26 ∧ Blk W (w.heap.size + 1) #[.string nb, .slice e1 m1 d1, .slice e2 m2 d2, .slice e3 m3 d3] 26) (by kernel_rfl) hS (fun hS => ?_)
  generalize ((w.alloc (.cells #[.string na, .slice a1 n1 c1, .slice a2 n2 c2, .slice a3 n3 c3] 26)).alloc (.cells #[.string nb, .slice e1 m1 d1, .slice e2 m2 d2, .slice e3 m3 d3] 26)).drew = W0 at *
  refine rg_take 0 5 (.agg #[.string na, .slice a1 n1 c1, .slice a2 n2 c2, .slice a3 n3 c3]) _ rfl rfl (by kernel_rfl) (by kernel_rfl) (by kernel_rfl) (fun _ _ _ h => h) (by rfl) (fun w' hw' => ?_) hS (listed' := #[true, false, false, false, false, false]) (by kernel_rfl) rfl ?_
  · have x0 := (hw'.1.cell 0).trans rfl; have x1 := (hw'.1.cell 1).trans rfl; have x2 := (hw'.1.cell 2).trans rfl; have x3 := (hw'.1.cell 3).trans rfl; go_simp
  simp only [List.setIfInBounds_toArray, List.set_cons_zero, List.set_cons_succ]
  refine rg_take 2 7 (.agg #[.string nb, .slice e1 m1 d1, .slice e2 m2 d2, .slice e3 m3 d3]) _ rfl rfl (by kernel_rfl) (by kernel_rfl) (by kernel_rfl) (fun _ _ _ h => h) (by rfl) (fun w' hw' => ?_) hS (listed' := #[true, false, true, false, false, false]) (by kernel_rfl) rfl ?_
  · have x0 := (hw'.2.cell 0).trans rfl; have x1 := (hw'.2.cell 1).trans rfl; have x2 := (hw'.2.cell 2).trans rfl; have x3 := (hw'.2.cell 3).trans rfl; go_simp
  simp only [List.setIfInBounds_toArray, List.set_cons_zero, List.set_cons_succ]
  refine rg_call 1 6 15 #[.agg #[.string na, .slice a1 n1 c1, .slice a2 n2 c2, .slice a3 n3 c3]] rfl rfl (by kernel_rfl) (by rfl) (listed' := #[true, true, true, false, false, false]) (by kernel_rfl) (fun W => by go_simp) ?_
  refine (pprint_any (HA.out.below H0.out) OA.out (HT.out.below H0.out)).mono ?_
  rintro e W1 ⟨rfl, hb1⟩
  have hS : Blk W1 w.heap.size #[.string na, .slice a1 n1 c1, .slice a2 n2 c2, .slice a3 n3 c3] 26 ∧ Blk W1 (w.heap.size + 1) #[.string nb, .slice e1 m1 d1, .slice e2 m2 d2, .slice e3 m3 d3] 26 := ⟨hS.1.below hb1, hS.2.below hb1⟩
  have H1 : Hid (Below w.heap.size w W1) := H0.out.trans (hb1.mono H0.out.size)
  refine ⟨_, rfl, hS, ?_⟩
  simp only [List.setIfInBounds_toArray, List.set_cons_zero, List.set_cons_succ]
  refine rg_call 3 8 15 #[.agg #[.string nb, .slice e1 m1 d1, .slice e2 m2 d2, .slice e3 m3 d3]] rfl rfl (by kernel_rfl) (by rfl) (listed' := #[true, true, true, true, false, false]) (by kernel_rfl) (fun W => by go_simp) ?_
  refine (pprint_any (HB.out.below H1.out) OB.out (HT.out.below H1.out)).mono ?_
  rintro e W2 ⟨rfl, hb2⟩
  have hS : Blk W2 w.heap.size #[.string na, .slice a1 n1 c1, .slice a2 n2 c2, .slice a3 n3 c3] 26 ∧ Blk W2 (w.heap.size + 1) #[.string nb, .slice e1 m1 d1, .slice e2 m2 d2, .slice e3 m3 d3] 26 := ⟨hS.1.below hb2, hS.2.below hb2⟩
  have H2 : Hid (Below w.heap.size w W2) := H1.out.trans (hb2.mono H1.out.size)
  refine ⟨_, rfl, hS, ?_⟩
  simp only [List.setIfInBounds_toArray, List.set_cons_zero, List.set_cons_succ]
  generalize hpa : printB a = pa
  have HPA : Hid (printB a = pa) := hpa
  generalize hpb : printB b = pb
  have HPB : Hid (printB b = pb) := hpb
  clear hpa hpb
  refine rg_take 4 9 (.bool (pa.toList == pb.toList)) _ rfl rfl (by kernel_rfl) (by kernel_rfl) (by kernel_rfl) (fun _ _ _ h => h) (by rfl) (fun w' hw' => ?_) hS (listed' := #[true, true, true, true, true, false]) (by kernel_rfl) rfl ?_
  · go_simp
  simp only [List.setIfInBounds_toArray, List.set_cons_zero, List.set_cons_succ]
  refine rg_take 5 4 (.bool (pa.toList == pb.toList)) _ rfl rfl (by kernel_rfl) (by kernel_rfl) (by kernel_rfl) (fun _ _ _ h => h) (by rfl) (fun w' hw' => ?_) hS (listed' := #[true, true, true, true, true, true]) (by kernel_rfl) rfl ?_
  · go_simp
  simp only [List.setIfInBounds_toArray, List.set_cons_zero, List.set_cons_succ]
  refine wpAnyH_done (by kernel_rfl) ?_ _
  generalize hq : (pa.toList == pb.toList) = q
  have HQ : Hid ((pa.toList == pb.toList) = q) := hq
  clear hq hS
  go_wp2_with fail
  go_ret
  exact ⟨by rw [HPA.out, HPB.out, HQ.out]; rfl, H2.out⟩
/-- What Read answers, of what Parse answers. -/
def readA (x : ScS × Nat × Nat) : ScS × Nat × Int := if x.2.2 = 0 then (if checkA x.1 = 0 then (canonS x.1, 0, 0) else (zeroS, 0, checkA x.1)) else (zeroS, x.2.1, (x.2.2 : Int))
theorem ok_vals {s : ScS} (h : checkA s = 0) : ∀ e ∈ s.enums, e.values.length ≤ 16 := by
  intro e he
  have := ((checkA_ok s).1 h).enums e he
  have h2 := this.2
  unfold chkEb at h2
  by_cases hl : 16 < e.values.length
  · rw [if_pos hl] at h2; cases h2
  · omega
set_option maxHeartbeats 4000000 in
theorem read_any (s : ByteArray) {w : World} (hs : s.size ≤ 140737488351232) (hG : Glob w) {sc : ScS} {p e : Nat} (h : parseA s = (sc, p, e)) (hf : e = 0 → FewL sc ∧ ScW sc) :
    Calls Tryz.prog 18 #[.string s] w fun x w' => ∃ v, x = .returned (.tuple #[v, .int .i64 ((readA (sc, p, e)).2.1 : Int), .int .i64 (readA (sc, p, e)).2.2]) ∧ ScIn w' v (readA (sc, p, e)).1 ∧ Below w.heap.size w w' := by
  have HF : Hid (e = 0 → FewL sc ∧ ScW sc) := hf
  have BR0 : Blk (w.alloc (.cells #[.string ⟨#[]⟩, .slice none 0 0, .slice none 0 0, .slice none 0 0] 26)) w.heap.size #[.string ⟨#[]⟩, .slice none 0 0, .slice none 0 0, .slice none 0 0] 26 := Blk.new w _ _
  have H0 : Hid (Below w.heap.size w (w.alloc (.cells #[.string ⟨#[]⟩, .slice none 0 0, .slice none 0 0, .slice none 0 0] 26))) := (Below.refl _ _).alloc (Nat.le_refl _) _
  have HP : Hid (parseA s = (sc, p, e)) := h
  have HG : Hid (Glob w) := hG
  clear h hf hG
  go_enter Tryz.func18, Tryz.ntmps18
  go_wp2_with fail
  refine (parse_row s _ hs (HG.out.below H0.out) sc p e HP.out).mono ?_
  rintro x w1 ⟨vm, ve, vt, rfl, hm, he, htt, hb1⟩
  obtain ⟨am, cm, rfl, _, _⟩ := hm.form2
  obtain ⟨ae, ce, rfl, _, _⟩ := he.form2
  obtain ⟨at', ct, rfl, _, _⟩ := htt.form2
  have HSC : Hid (ScIn w1 (.agg #[.string sc.name, .slice am sc.msgs.length cm, .slice ae sc.enums.length ce, .slice at' (mtRows sc.methods).length ct]) sc) := ⟨_, _, _, rfl, hm, he, htt⟩
  generalize sc.name = nm at *
  generalize sc.msgs.length = M at *
  generalize sc.enums.length = E at *
  generalize (mtRows sc.methods).length = T at *
  have BR1 := BR0.below hb1
  have H1 : Hid (Below w.heap.size w w1) := H0.out.trans (hb1.mono H0.out.size)
  clear hm he htt hb1 BR0 HP
  obtain ⟨R, hR⟩ : ∃ R, w.heap.size = R := ⟨_, rfl⟩
  have HRR : Hid (w.heap.size = R) := hR
  rw [hR] at BR1 ⊢
  clear hR
  have hRlt := BR1.lt
  have hal : Below w1.heap.size w1 (w1.alloc (.cells #[.string nm, .slice am M cm, .slice ae E ce, .slice at' T ct] 26)) := (Below.refl _ _).alloc (Nat.le_refl _) _
  have BX1 : Blk (w1.alloc (.cells #[.string nm, .slice am M cm, .slice ae E ce, .slice at' T ct] 26)) w1.heap.size #[.string nm, .slice am M cm, .slice ae E ce, .slice at' T ct] 26 := Blk.new _ _ _
  have BR2 := BR1.below hal
  have HS2 : Hid (ScIn (w1.alloc (.cells #[.string nm, .slice am M cm, .slice ae E ce, .slice at' T ct] 26)) (.agg #[.string nm, .slice am M cm, .slice ae E ce, .slice at' T ct]) sc) := HSC.out.below hal
  have H2 : Hid (Below w.heap.size w (w1.alloc (.cells #[.string nm, .slice am M cm, .slice ae E ce, .slice at' T ct] 26))) := H1.out.trans (hal.mono H1.out.size)
  obtain ⟨b5, hb5⟩ : ∃ n, w1.heap.size = n := ⟨_, rfl⟩
  rw [hb5] at BX1 hRlt
  go_upto_region 2 with fail
  generalize (w1.alloc (.cells #[.string nm, .slice am M cm, .slice ae E ce, .slice at' T ct] 26)) = w2 at *
  clear hal HSC H1 BR1 hb5
  have x0 := (BX1.cell 0).trans rfl
  have x1 := (BX1.cell 1).trans rfl
  have x2 := (BX1.cell 2).trans rfl
  have x3 := (BX1.cell 3).trans rfl
  by_cases he : e = 0
  · subst he
    obtain ⟨hfew, hwf⟩ := HF.out rfl
    go_wp2_with fail
    clear x0 x1 x2 x3
    refine (check_any HS2.out hwf hfew).mono ?_
    rintro x w3 ⟨rfl, hb3⟩
    have BX3 := BX1.below hb3
    have BR3 := BR2.below hb3
    have HS3 : Hid (ScIn w3 (.agg #[.string nm, .slice am M cm, .slice ae E ce, .slice at' T ct]) sc) := HS2.out.below hb3
    have H3 : Hid (Below w.heap.size w w3) := H2.out.trans (hb3.mono H2.out.size)
    clear BX1 BR2 HS2 H2 hb3
    obtain ⟨C, hC⟩ : ∃ C, checkA sc = C := ⟨_, rfl⟩
    have HC : Hid (checkA sc = C) := hC
    rw [hC]
    clear hC
    have r0 := (BR3.cell 0).trans rfl
    have r1 := (BR3.cell 1).trans rfl
    have r2 := (BR3.cell 2).trans rfl
    have r3 := (BR3.cell 3).trans rfl
    have s0 := BR3.froz 0
    have s1 := BR3.froz 1
    have s2 := BR3.froz 2
    have s3 := BR3.froz 3
    have x0 := (BX3.cell 0).trans rfl
    have x1 := (BX3.cell 1).trans rfl
    have x2 := (BX3.cell 2).trans rfl
    have x3 := (BX3.cell 3).trans rfl
    by_cases hc : C = 0
    · subst hc
      go_wp2_with fail
      clear x0 x1 x2 x3 r0 r1 r2 r3 s0 s1 s2 s3
      have hcap : ∀ e ∈ sc.enums, e.values.length ≤ capN := fun e he => Nat.le_trans (ok_vals HC.out e he) (by decide)
      refine (canon_any HS3.out hfew hcap).mono ?_
      rintro x w4 ⟨um, ue, ut, pm, pe, rfl, hMO, hEO, hTO, hb4⟩
      obtain ⟨a1, c1, rfl⟩ := own_form hMO.own
      obtain ⟨a2, c2, rfl⟩ := own_form hEO.own
      obtain ⟨a3, c3, rfl⟩ := own_form hTO
      have BR4 := BR3.below hb4
      have H4 : Hid (Below w.heap.size w w4) := H3.out.trans (hb4.mono H3.out.size)
      have HMO : Hid (MsO w4 w3.heap.size (.slice a1 (canonS sc).msgs.length c1) (canonS sc).msgs pm) := hMO
      have HEO : Hid (EnO w4 w3.heap.size (.slice a2 (canonS sc).enums.length c2) (canonS sc).enums pe) := hEO
      have HTO : Hid (w4.ownsRow w3.heap.size 54 3 (.slice a3 (canonS sc).methods.length c3) (canonS sc).methods.length (mtRows (canonS sc).methods).flatten) := hTO
      have HRA : Hid (readA (sc, p, 0) = (canonS sc, 0, 0)) := by show _ = _; simp [readA, HC.out]
      have HNM : Hid ((canonS sc).name = sc.name) := rfl
      have hR3 : R < w3.heap.size := BR3.lt
      have e3 : sc.methods.length = (canonS sc).methods.length := rfl
      rw [e3]
      clear e3 hMO hEO hTO hb4 HS3 H3 BR3 BX3
      generalize hcs : canonS sc = cs at *
      have HCS : Hid (canonS sc = cs) := hcs
      clear hcs
      rw [← HNM.out]
      generalize hnc : cs.name = nmc at *
      have HNC : Hid (cs.name = nmc) := hnc
      clear hnc
      generalize cs.msgs.length = M1 at *
      generalize cs.enums.length = E1 at *
      generalize cs.methods.length = T1 at *
      have r0 := (BR4.cell 0).trans rfl
      have r1 := (BR4.cell 1).trans rfl
      have r2 := (BR4.cell 2).trans rfl
      have r3 := (BR4.cell 3).trans rfl
      have s0 := BR4.froz 0
      have s1 := BR4.froz 1
      have s2 := BR4.froz 2
      have s3 := BR4.froz 3
      go_wp2_with fail
      refine bodyPost_ret (results_three rfl _ _ _ ⟨R, 0, none⟩ (.agg #[.string nmc, .slice a1 M1 c1, .slice a2 E1 c2, .slice a3 T1 c3]) (by go_simp) (by go_simp)) rfl ?_
      have KS : Kp (fun k => k = R) w4 ((((w4.setCell ⟨R, 0, none⟩ (.string nmc)).setCell ⟨R, 1, none⟩ (.slice a1 M1 c1)).setCell ⟨R, 2, none⟩ (.slice a2 E1 c2)).setCell ⟨R, 3, none⟩ (.slice a3 T1 c3)) := by
        refine Kp.setCell ?_ (fun _ => by simp) _
        refine Kp.setCell ?_ (fun _ => by simp) _
        refine Kp.setCell ?_ (fun _ => by simp) _
        refine Kp.setCell ?_ (fun _ => by simp) _
        exact Kp.refl _ _
      have hq : ∀ k, w3.heap.size ≤ k → ¬ k = R := fun k hk => by omega
      refine ⟨_, by rw [HRA.out]; rfl, ?_, H4.out.trans (KS.toBelow H4.out.size (fun k e => by have := HRR.out; omega))⟩
      rw [HRA.out]
      exact ⟨_, _, _, by rw [HNC.out], (HMO.out.kp KS hq).to_in, (HEO.out.kp KS hq).to_in, (RowG.own (mtr_len cs.methods) (by decide) (own_kp HTO.out KS hq)).1⟩
    · have hcb : (C == 0) = false := by simpa using hc
      have HCN : Hid (¬ C = 0) := hc
      clear hc
      have hcn : (C != 0) = true := by simp [bne, hcb]
      go_wp2_with fail
      have HRA : Hid (readA (sc, p, 0) = (zeroS, 0, C)) := by
        show _ = _
        unfold readA
        simp only [if_true]
        rw [HC.out, if_neg HCN.out]
      refine bodyPost_ret (results_three rfl _ _ _ ⟨R, 0, none⟩ (.agg #[.string ⟨#[]⟩, .slice none 0 0, .slice none 0 0, .slice none 0 0]) (by go_simp) (by go_simp)) rfl ?_
      refine ⟨_, by rw [HRA.out]; rfl, by rw [HRA.out]; exact ScIn.zero _, ?_⟩
      have hle : w.heap.size ≤ R := Nat.le_of_eq HRR.out
      exact Below.setCell (Below.setCell (Below.setCell (Below.setCell H3.out hle _) hle _) hle _) hle _
  · have heb : ((e : Int) == 0) = false := by simp; omega
    have heb' : ((e : Int) != 0) = true := by simp [bne, heb]
    have HEN : Hid (¬ e = 0) := he
    have HRA : Hid (readA (sc, p, e) = (zeroS, p, (e : Int))) := by show _ = _; simp only [readA]; rw [if_neg he]
    have r0 := (BR2.cell 0).trans rfl
    have r1 := (BR2.cell 1).trans rfl
    have r2 := (BR2.cell 2).trans rfl
    have r3 := (BR2.cell 3).trans rfl
    have s0 := BR2.froz 0
    have s1 := BR2.froz 1
    have s2 := BR2.froz 2
    have s3 := BR2.froz 3
    clear he
    go_wp2_with fail
    refine bodyPost_ret (results_three rfl _ _ _ ⟨R, 0, none⟩ (.agg #[.string ⟨#[]⟩, .slice none 0 0, .slice none 0 0, .slice none 0 0]) (by go_simp) (by go_simp)) rfl ?_
    refine ⟨_, by rw [HRA.out]; rfl, by rw [HRA.out]; exact ScIn.zero _, ?_⟩
    have hle : w.heap.size ≤ R := Nat.le_of_eq HRR.out
    exact Below.setCell (Below.setCell (Below.setCell (Below.setCell H2.out hle _) hle _) hle _) hle _
end Go.Proofs.YtkfhlgajeejgeaaGreatDoor

/- The document's example of layer 8 holds: awake answers true. -/
namespace Go.Proofs.YtkfhlgajeejgeaaGreatDoor
open Go.ChangeShapes Go.WideShapes Go.ChangeAt Go.RowKit
set_option linter.unusedVariables false
set_option linter.unusedSimpArgs false
set_option maxRecDepth 20000

def awP : ScS := ⟨⟨#[97]⟩, [⟨⟨#[109]⟩, [⟨⟨#[120]⟩, 1, 1, 1, ⟨#[]⟩⟩], []⟩], [], []⟩
theorem awP_ok : checkA awP = 0 := by decide +kernel
theorem awP_w : ScW awP := by
  have h1 : I64 1 := ⟨by decide, by decide⟩
  exact ⟨by decide, fun m hm => by simp [awP] at hm; subst hm; exact ⟨by decide, fun f hf => by simp at hf; subst hf; exact ⟨by decide, by decide, h1, h1, h1⟩, fun n hn => by simp at hn⟩, fun m hm => by simp [awP] at hm, fun m hm => by simp [awP] at hm⟩
theorem awP_f : FewL awP := ⟨by decide, by decide, by decide, fun m hm => by simp [awP] at hm; subst hm; exact ⟨by decide, by decide⟩, fun m hm => by simp [awP] at hm⟩
theorem awP_txt : printB (canonS awP) = ⟨#[115, 99, 104, 101, 109, 97, 32, 97, 59, 10, 109, 101, 115, 115, 97, 103, 101, 32, 109, 32, 123, 10, 32, 32, 105, 110, 116, 51, 50, 32, 120, 32, 61, 32, 49, 59, 10, 125, 10]⟩ := by
  rw [print_canon]
  have e : canonS awP = awP := rfl
  unfold printB printL
  rw [e]
  have e2 : Lib.itoa 1 = [49] := by unfold Lib.itoa; rw [if_neg (by decide)]; exact Lib.decDigits_one (by decide)
  simp [textL, awP, msgL, fieldL, e2, plabL, wordL, resL]
theorem awP_p : PrO awP := ⟨awP_f, fun e he => by simp [awP] at he, awP_w, by
  have := awP_txt
  rw [print_canon] at this
  have h2 : (printB awP).size = 39 := by rw [this]; rfl
  have h3 : (printL awP).length = (printB awP).size := rfl
  omega⟩
set_option maxHeartbeats 2000000 in
theorem pawake_any (w : World) (hG : Glob w) (ht : PTab w) :
    Calls Tryz.prog 10 #[] w fun e w' => e = .returned (.bool true) ∧ Below w.heap.size w w' := by
  have HT : Hid (PTab w) := ht
  have HG : Hid (Glob w) := hG
  clear hG ht
  have HRA : Hid (readA (awP, 0, 0) = (canonS awP, 0, 0)) := by show _ = _; simp [readA, awP_ok]
  go_enter Tryz.func10, Tryz.ntmps10
  go_wp2_with fail
  refine (read_any _ (by decide) HG.out (sc := awP) (p := 0) (e := 0) parse_awake (fun _ => ⟨awP_f, awP_w⟩)).mono ?_
  rintro x w1 ⟨v, rfl, hsc, hb1⟩
  rw [HRA.out] at hsc ⊢
  have HSC : Hid (ScIn w1 v (canonS awP)) := hsc
  obtain ⟨am, M, cm, ae, E, ce, at', T, ct, rfl⟩ := hsc.form
  generalize (canonS awP).name = nm at *
  clear hsc
  have hal : Below w1.heap.size w1 (w1.alloc (.cells #[.string nm, .slice am M cm, .slice ae E ce, .slice at' T ct] 26)) := (Below.refl _ _).alloc (Nat.le_refl _) _
  have BX := Blk.new w1 #[.string nm, .slice am M cm, .slice ae E ce, .slice at' T ct] 26
  have HS2 : Hid (ScIn (w1.alloc (.cells #[.string nm, .slice am M cm, .slice ae E ce, .slice at' T ct] 26)) (.agg #[.string nm, .slice am M cm, .slice ae E ce, .slice at' T ct]) (canonS awP)) := HSC.out.below hal
  have H2 : Hid (Below w.heap.size w (w1.alloc (.cells #[.string nm, .slice am M cm, .slice ae E ce, .slice at' T ct] 26))) := hb1.trans (hal.mono hb1.size)
  obtain ⟨b5, hb5⟩ : ∃ n, w1.heap.size = n := ⟨_, rfl⟩
  rw [hb5] at BX
  go_upto_region 2 with fail
  generalize (w1.alloc (.cells #[.string nm, .slice am M cm, .slice ae E ce, .slice at' T ct] 26)) = w2 at *
  clear hal hb1 hb5 HSC
  have x0 := (BX.cell 0).trans rfl
  have x1 := (BX.cell 1).trans rfl
  have x2 := (BX.cell 2).trans rfl
  have x3 := (BX.cell 3).trans rfl
  go_wp2_with fail
  refine (pprint_any HS2.out awP_p.canon (HT.out.below H2.out)).mono ?_
  rintro e w3 ⟨rfl, hb3⟩
  rw [awP_txt]
  have BX3 := BX.below hb3
  have HS3 : Hid (ScIn w3 (.agg #[.string nm, .slice am M cm, .slice ae E ce, .slice at' T ct]) (canonS awP)) := HS2.out.below hb3
  have H3 : Hid (Below w.heap.size w w3) := H2.out.trans (hb3.mono H2.out.size)
  clear x0 x1 x2 x3 hb3
  have x0 := (BX3.cell 0).trans rfl
  have x1 := (BX3.cell 1).trans rfl
  have x2 := (BX3.cell 2).trans rfl
  have x3 := (BX3.cell 3).trans rfl
  go_wp2_with fail
  refine (psame_any HS3.out HS3.out awP_p.canon awP_p.canon (HT.out.below H3.out)).mono ?_
  rintro e w4 ⟨rfl, hb4⟩
  have H4 : Hid (Below w.heap.size w w4) := H3.out.trans (hb4.mono H3.out.size)
  rw [show ((printB (canonS awP)).toList == (printB (canonS awP)).toList) = true by simp]
  clear x0 x1 x2 x3 hb4
  go_wp2_with fail
  go_ret
  exact ⟨rfl, H4.out⟩
end Go.Proofs.YtkfhlgajeejgeaaGreatDoor

/- How long a printed schema can be. -/
namespace Go.Proofs.YtkfhlgajeejgeaaGreatDoor
set_option linter.unusedVariables false
set_option linter.unusedSimpArgs false

theorem flat_le {α β : Type} (f : α → List β) (b : Nat) : ∀ l : List α, (∀ x ∈ l, (f x).length ≤ b) → (l.map f).flatten.length ≤ l.length * b
  | [], _ => by simp
  | a :: l, h => by
    have h1 := h a (List.mem_cons_self ..)
    have h2 := flat_le f b l (fun x hx => h x (List.mem_cons_of_mem _ hx))
    rw [List.map_cons, List.flatten_cons, List.length_append, List.length_cons, Nat.add_mul]
    omega
theorem plab_le (n : Int) : (plabL n).length ≤ 9 := by
  unfold plabL
  split
  · decide
  · split
    · decide
    · decide
theorem word_le (k : Int) (t : ByteArray) (h : t.size ≤ 200) : (wordL k t).length ≤ 200 := by
  unfold wordL
  repeat' split
  all_goals first | (exact Nat.le_trans (by decide) (show 5 ≤ 200 by decide)) | exact h
theorem field_le {f : FlS} (h1 : f.name.size ≤ 200) (h2 : f.tname.size ≤ 200) (h3 : I64 f.tag) : (fieldL f).length ≤ 440 := by
  have a1 := plab_le f.label
  have a2 := word_le f.kind f.tname h2
  have a3 := Lib.itoa_length_le f.tag h3.1 h3.2
  have a4 : f.name.data.toList.length = f.name.size := rfl
  unfold fieldL
  simp only [List.length_append, List.length_cons, List.length_nil]
  omega
theorem val_le {f : NmS} (h1 : f.name.size ≤ 200) (h3 : I64 f.n) : (valL f).length ≤ 230 := by
  have a3 := Lib.itoa_length_le f.n h3.1 h3.2
  have a4 : f.name.data.toList.length = f.name.size := rfl
  unfold valL
  simp only [List.length_append, List.length_cons, List.length_nil]
  omega
theorem meth_le {f : MtS} (h1 : f.name.size ≤ 200) (h2 : f.inn.size ≤ 200) (h3 : f.out.size ≤ 200) : (methL f).length ≤ 700 := by
  have a1 : f.name.data.toList.length = f.name.size := rfl
  have a2 : f.inn.data.toList.length = f.inn.size := rfl
  have a3 : f.out.data.toList.length = f.out.size := rfl
  unfold methL
  simp only [List.length_append, List.length_cons, List.length_nil]
  omega
theorem msg_le {m : MsS} (h0 : m.name.size ≤ 3000) (h1 : m.fields.length ≤ 20) (h2 : m.reserved.length ≤ 40) (hf : ∀ f ∈ m.fields, f.name.size ≤ 200 ∧ f.tname.size ≤ 200) (hw : MsW m) : (msgL m).length ≤ 20000 := by
  have a1 := flat_le fieldL 440 m.fields (fun f hf' => field_le (hf f hf').1 (hf f hf').2 (hw.2.1 f hf').2.2.1)
  have a2 := nums_len m.reserved (fun n hn => hw.2.2 n hn)
  have a4 : m.name.data.toList.length = m.name.size := rfl
  have a5 : (resL m.reserved).length ≤ 13 + (numsL m.reserved).length := by
    unfold resL
    split
    · simp
    · simp only [List.length_append, List.length_cons, List.length_nil]; omega
  have a6 : m.fields.length * 440 ≤ 20 * 440 := Nat.mul_le_mul_right _ h1
  have a7 : m.reserved.length * 23 ≤ 40 * 23 := Nat.mul_le_mul_right _ h2
  unfold msgL
  simp only [List.length_append, List.length_cons, List.length_nil]
  omega
theorem enum_le {m : EnS} (h0 : m.name.size ≤ 200) (h1 : m.values.length ≤ 24) (hf : ∀ f ∈ m.values, f.name.size ≤ 200) (hw : EnW m) : (enumL m).length ≤ 6000 := by
  have a1 := flat_le valL 230 m.values (fun f hf' => val_le (hf f hf') (hw.2 f hf').2)
  have a4 : m.name.data.toList.length = m.name.size := rfl
  have a6 : m.values.length * 230 ≤ 24 * 230 := Nat.mul_le_mul_right _ h1
  unfold enumL
  simp only [List.length_append, List.length_cons, List.length_nil]
  omega
theorem text_le {s : ScS} (h : FewS s) (hw : ScW s) : (printL s).length ≤ 1000000 := by
  have b1 : ((canonS s).msgs.map msgL).flatten.length ≤ (canonS s).msgs.length * 20000 := flat_le msgL 20000 _ (fun m hm => by
    obtain ⟨m', hm', rfl⟩ := List.mem_map.1 hm
    have e := h.eachM m' hm'
    have w := (canon_w hw).msgs _ hm
    refine msg_le e.1 (by rw [show (canonM m').fields.length = m'.fields.length from srtF_len _ _]; exact e.2.1) (by rw [show (canonM m').reserved.length = m'.reserved.length from srtF_len _ _]; exact e.2.2.1) (fun f hf => e.2.2.2 f ((srtF_mem _ _ _).1 hf)) w)
  have b2 : ((canonS s).enums.map enumL).flatten.length ≤ (canonS s).enums.length * 6000 := flat_le enumL 6000 _ (fun m hm => by
    obtain ⟨m', hm', rfl⟩ := List.mem_map.1 hm
    have e := h.eachE m' hm'
    have w := (canon_w hw).enums _ hm
    exact enum_le e.1 (by rw [show (canonE m').values.length = m'.values.length from srtF_len _ _]; exact e.2.1) (fun f hf => e.2.2 f ((srtF_mem _ _ _).1 hf)) w)
  have b3 : ((canonS s).methods.map methL).flatten.length ≤ (canonS s).methods.length * 700 := flat_le methL 700 _ (fun m hm => by
    have e := h.eachT m hm
    exact meth_le e.1 e.2.1 e.2.2)
  have c1 : (canonS s).msgs.length ≤ 14 := (canon_few h.few).msgs
  have c2 : (canonS s).enums.length ≤ 10 := (canon_few h.few).enums
  have c3 : (canonS s).methods.length ≤ 10 := (canon_few h.few).meths
  have c4 : (canonS s).name.data.toList.length ≤ 3000 := h.name
  have d1 : (canonS s).msgs.length * 20000 ≤ 14 * 20000 := Nat.mul_le_mul_right _ c1
  have d2 : (canonS s).enums.length * 6000 ≤ 10 * 6000 := Nat.mul_le_mul_right _ c2
  have d3 : (canonS s).methods.length * 700 ≤ 10 * 700 := Nat.mul_le_mul_right _ c3
  unfold printL textL
  simp only [List.length_append, List.length_cons, List.length_nil]
  omega
theorem pro_few {s : ScS} (h : FewS s) (hw : ScW s) : PrO s :=
  ⟨h.few, fun e he => (h.eachE e he).2.1, hw, Nat.le_trans (text_le h hw) (by decide)⟩
theorem pro_ok {s : ScS} (h : FewS s) (hw : ScW s) (hok : checkA s = 0) : PrO s := pro_few h hw
end Go.Proofs.YtkfhlgajeejgeaaGreatDoor

/- The table of the types' words and the table of tens: what the condition says of them lies in the memory. -/
namespace Go.Proofs.YtkfhlgajeejgeaaGreatDoor
open Go.ChangeShapes Go.WideShapes Go.ChangeAt Go.RowKit
set_option linter.unusedVariables false
set_option linter.unusedSimpArgs false
set_option maxRecDepth 100000

def laid1 : List (String × DataW Unit) := [("math/bits.deBruijn32tab", Rows.laid_math_bits_deBruijn32tab), ("math/bits.deBruijn64tab", Rows.laid_math_bits_deBruijn64tab), ("internal/strconv.uint64pow10", Rows.laid_internal_strconv_uint64pow10), ("concordat/idl.scalars", Rows.laid_concordat_idl_scalars)]
theorem tPow : (Tryz.prog.globals[0]?).map (·.type) = some 216 := by kernel_rfl
theorem cPow : Tryz.prog.cellsOf 216 = 20 := by kernel_rfl
theorem cPowE : Tryz.prog.cellsOf 176 = 1 := by kernel_rfl
theorem datPow : (Rows.laid_internal_strconv_uint64pow10 : DataW Unit) = Lib.tabData .u64 Lib.pow10Tab := by rfl
theorem gTab : Tryz.prog.globalNamed "concordat/idl.scalars" = some 1 := by kernel_rfl
theorem tTab : (Tryz.prog.globals[1]?).map (·.type) = some 221 := by kernel_rfl
/-- The program's own start meets the condition. -/
theorem door_met (os : Os) (args : Array Value) : laidMetH Tryz.prog laid1 ((World.doorLaid Tryz.prog 400 os).forCall (fun _ _ => 0) ⟨#[], args, []⟩).memory :=
  laidMetH_of_parts3 (fuel := 8) (laidMet_of_run' 8 (by kernel_rfl) (by kernel_rfl)) (by kernel_rfl) (by kernel_rfl)
theorem c115 : Tryz.prog.cellsOf 220 = 2 := by kernel_rfl
theorem c116 : Tryz.prog.cellsOf 221 = 10 := by kernel_rfl
theorem cStr : Tryz.prog.cellsOf 9 = 1 := by kernel_rfl
theorem cInt : Tryz.prog.cellsOf 3 = 1 := by kernel_rfl
/-- A word and its kind, read. -/
theorem word_kind {enc : TypeId × Value → Unit} {W : World} {base : Nat} {spare : Nat → Bool} {held : Bool} {n : Nat} {cs : List Value} {x : DataW Unit × List MemPlace} {l : List UInt8} {k : Int} (h : DataW.trod enc Tryz.prog W base spare held n 220 cs = some x) (hx : x.1 = .agg [.lit (.string l), .lit (.int .i64 k)]) : cs = [.string ⟨l.toArray⟩, .int .i64 k] := by
  obtain ⟨y0, y1, m, rfl, hl, h0, h1⟩ := trod_struct2 Tryz.underlying220 h
  rw [c115] at hl
  simp only [DataW.agg.injEq, List.cons.injEq, and_true] at hx
  match cs, hl with
  | [a, b], _ =>
    have h0' : DataW.trod enc Tryz.prog W base spare held m 9 [a] = some y0 := by simpa [cStr] using h0
    have h1' : DataW.trod enc Tryz.prog W base spare held m 3 [b] = some y1 := by simpa [cInt] using h1
    obtain ⟨s, e1, e2, _⟩ := DataW.trod_string Tryz.underlying9 h0'
    obtain ⟨z, e3, e4, _⟩ := DataW.trod_int Tryz.underlying3 h1'
    rw [e2, e4] at hx
    simp only [DataW.lit.injEq, Lit.string.injEq, Lit.int.injEq, true_and] at hx
    obtain ⟨⟨a'⟩⟩ := s
    simp only at hx
    obtain ⟨rfl, rfl⟩ := hx
    simp only [List.cons.injEq, and_true] at e1 e3
    rw [e1, e3]
theorem of_laid {W : World} (h : laidMetH Tryz.prog laid1 W) : Glob W ∧ PTab W := by
  rw [MakeChecks.laidMetH_plain _ _ _ (by kernel_rfl)] at h
  obtain ⟨ps, ⟨g0, t0, cs0, f0, p0, q0, hg0, ht0, hv0, hd0, ⟨g1, t1, cs1, f1, p1, q1, hg1, ht1, hv1, hd1, ⟨g2, t2, cs2, f2, p2, q2, hg2, ht2, hv2, hd2, ⟨g3, t3, cs3, f3, p3, q3, hg3, ht3, hv3, hd3, _⟩, _⟩, _⟩, _⟩, _, _⟩ := h
  obtain rfl := Option.some.inj (gTab.symm.trans hg3)
  obtain rfl := Option.some.inj (tTab.symm.trans ht3)
  obtain rfl := Option.some.inj (gPow.symm.trans hg2)
  obtain rfl := Option.some.inj (tPow.symm.trans ht2)
  have hpow : PTab W := by
    rw [datPow] at hd2
    have := Lib.cells_of_tab Tryz.underlying216 Tryz.underlying176 cPowE cPow hd2
    show W.var? Tryz.prog _ = _
    rw [hv2, ← this]
  clear hv0 hv1 hv2 hd0 hd1 hd2 hg0 hg1 ht0 ht1
  have hc := World.var?_cell hg3 hv3
  obtain ⟨xs, m, rfl, hx, hl, hn, hel⟩ := DataW.trod_array Tryz.underlying221 hd3
  rw [c116] at hl
  simp only [Prod.mk.injEq] at hx
  have hx1 := hx.1
  simp only [Rows.laid_concordat_idl_scalars, DataW.agg.injEq] at hx1
  obtain ⟨l0⟩ := cs3
  simp only at hl hel
  match xs, hn, l0, hl with
  | [x0, x1, x2, x3, x4], _, [a0, a1, a2, a3, a4, a5, a6, a7, a8, a9], _ =>
    simp only [List.map_cons, List.map_nil, List.cons.injEq, and_true] at hx1
    obtain ⟨e0, e1, e2, e3, e4⟩ := hx1
    have h0 := word_kind (x := x0) (by have := hel 0 (by decide); simpa [c115] using this) e0.symm
    have h1 := word_kind (x := x1) (by have := hel 1 (by decide); simpa [c115] using this) e1.symm
    have h2 := word_kind (x := x2) (by have := hel 2 (by decide); simpa [c115] using this) e2.symm
    have h3 := word_kind (x := x3) (by have := hel 3 (by decide); simpa [c115] using this) e3.symm
    have h4 := word_kind (x := x4) (by have := hel 4 (by decide); simpa [c115] using this) e4.symm
    simp only [List.cons.injEq, and_true] at h0 h1 h2 h3 h4
    obtain ⟨rfl, rfl⟩ := h0
    obtain ⟨rfl, rfl⟩ := h1
    obtain ⟨rfl, rfl⟩ := h2
    obtain ⟨rfl, rfl⟩ := h3
    obtain ⟨rfl, rfl⟩ := h4
    refine ⟨⟨(hc 0).trans rfl, (hc 1).trans rfl, (hc 2).trans rfl, (hc 3).trans rfl, (hc 4).trans rfl, (hc 5).trans rfl, (hc 6).trans rfl, (hc 7).trans rfl, (hc 8).trans rfl, (hc 9).trans rfl⟩, hpow⟩
end Go.Proofs.YtkfhlgajeejgeaaGreatDoor

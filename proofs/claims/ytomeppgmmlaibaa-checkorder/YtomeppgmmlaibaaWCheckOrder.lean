/- CheckOrder, walked. -/
import Derived.Test.YtomeppgmmlaibaaLwFew
import Derived.Test.YtomeppgmmlaibaaLwSchema
import Derived.Test.YtomeppgmmlaibaaCkAwake
import Derived.Test.YtomeppgmmlaibaaScOpen
import Derived.Test.YtomeppgmmlaibaaCkOrd
import Derived.Test.YtomeppgmmlaibaaLwPlaceI
import Derived.Test.YtomeppgmmlaibaaRg3
namespace Go.Proofs.Ytomeppgmmlaibaa
open Go.ChangeShapes Go.WideShapes Go.ChangeAt Go.RowKit
set_option linter.unusedVariables false
set_option linter.unusedSimpArgs false
set_option maxRecDepth 20000

set_option maxHeartbeats 16000000 in
theorem checkOrder_walk (v : Value) (s : ScS) (a1 : Int) (w : World) (hr : ScIn w v s) (hw : ScW s) (g1 : (Lit.int .i64 a1).wf = true) :
    Calls Try.prog 4 #[v, .int .i64 a1] w fun e w' => e = .returned (.bool true) ∧ Below w.heap.size w w' := by
  obtain ⟨i1, i2⟩ := bounds_i64 g1
  clear g1
  have HSC : Hid (ScIn w v s) := hr
  have HW : Hid (ScW s) := hw
  obtain ⟨vm0, ve0, vt0, rfl, hm, he, ht⟩ := hr
  obtain ⟨am, cm, rfl, qm1, qm2⟩ := hm.form2
  obtain ⟨ae, ce, rfl, qe1, qe2⟩ := he.form2
  obtain ⟨at', ct, rfl, qt1, qt2⟩ := ht.form2
  have HMI : Hid (MsIn w (.slice am s.msgs.length cm) s.msgs) := hm
  have HEI : Hid (EnIn w (.slice ae s.enums.length ce) s.enums) := he
  have hTl : (mtRows s.methods).length = s.methods.length := by simp [mtRows]
  rw [hTl] at ht HSC ⊢
  have HTI : Hid (RowG w (.slice at' s.methods.length ct) 3 (mtRows s.methods)) := ht
  clear hm he ht hw hTl
  obtain ⟨T, hT⟩ : ∃ N, s.methods.length = N := ⟨_, rfl⟩
  obtain ⟨nm, hnm⟩ : ∃ x, s.name = x := ⟨_, rfl⟩
  obtain ⟨M, hM⟩ : ∃ N, s.msgs.length = N := ⟨_, rfl⟩
  obtain ⟨E, hE⟩ : ∃ N, s.enums.length = N := ⟨_, rfl⟩
  rw [hnm, hM, hE, hT] at HSC ⊢
  rw [hM] at HMI
  rw [hE] at HEI
  rw [hT] at HTI
  have HTN : Hid (s.methods.length = T) := hT
  clear hT
  have HNM : Hid (s.name = nm) := hnm
  have HM : Hid (s.msgs.length = M) := hM
  have HE : Hid (s.enums.length = E) := hE
  clear hnm hM hE qm1 qe1 qt1 qm2 qe2 qt2
  have hba : Below w.heap.size w (w.alloc (.cells #[.string nm, .slice am M cm, .slice ae E ce, .slice at' T ct] 26)) := (Below.refl _ _).alloc (Nat.le_refl _) _
  have BX := Blk.new w #[.string nm, .slice am M cm, .slice ae E ce, .slice at' T ct] 26
  go_enter Try.func4, Try.ntmps4
  go_wp2_with fail
  refine (few_any (HSC.out.below hba) HW.out).mono ?_
  rintro e w1 ⟨hP, hb1⟩
  have hbw1 : Below w.heap.size w w1 := hba.trans (hb1.mono hba.size)
  rcases hP with rfl | ⟨rfl, hF⟩
  · go_wp2_with fail
    refine (awake_any _).mono ?_
    rintro e w2 ⟨rfl, hb2⟩
    go_wp2_with fail
    go_ret
    exact ⟨rfl, hbw1.trans (hb2.mono hbw1.size)⟩
  have HF : Hid (FewS s) := hF
  clear hF
  have BX1 := BX.below hb1
  have c0 := (BX1.cell 0).trans rfl
  have c1 := (BX1.cell 1).trans rfl
  have c2 := (BX1.cell 2).trans rfl
  have c3 := (BX1.cell 3).trans rfl
  go_wp2_with fail
  clear c0 c1 c2 c3 hb1 BX
  refine (schema_any (HSC.out.below hbw1) HF.out.few).mono ?_
  rintro e w2 ⟨um, ue, ut, qm, qe, rfl, hM2, hE2, hT2, hb2⟩
  have HCK : Hid (Calls Try.prog 11 #[.agg #[.string s.name, um, ue, ut]] w2 fun e w' => e = .returned (.int .i64 (checkA s)) ∧ Below w2.heap.size w2 w') := check_any ⟨_, _, _, rfl, hM2.to_in, hE2.to_in, mt_in hT2⟩ HW.out HF.out.few
  rw [HNM.out] at HCK ⊢
  have hbw2 : Below w.heap.size w w2 := hbw1.trans (hb2.mono hbw1.size)
  have BX2 := BX1.below hb2
  clear hM2 hE2 hT2 hb2 BX1 hbw1
  go_wp2_with fail
  refine HCK.out.mono ?_
  rintro e w3 ⟨rfl, hb3⟩
  have hbw3 : Below w.heap.size w w3 := hbw2.trans (hb3.mono hbw2.size)
  have BX3 := BX2.below hb3
  by_cases hok : checkA s = 0
  case neg =>
    have e1 : (checkA s == 0) = false := by simpa using hok
    go_wp2_with fail
    refine (awake_any _).mono ?_
    rintro e w4 ⟨rfl, hb4⟩
    go_wp2_with fail
    go_ret
    exact ⟨rfl, hbw3.trans (hb4.mono hbw3.size)⟩
  have HOK : Hid (OkS s) := (checkA_ok s).1 hok
  rw [hok]
  have hM0 : 0 < M := by have := HOK.out.some; rw [HM.out] at this; exact this
  have hM14 : M ≤ 14 := by have := HF.out.msgs; rw [HM.out] at this; exact this
  have hE10 : E ≤ 10 := by have := HF.out.enums; rw [HE.out] at this; exact this
  have hT10 : T ≤ 10 := by have := HF.out.meths; rw [HTN.out] at this; exact this
  clear hok HCK hb3 BX2 hbw2
  have c0 := (BX3.cell 0).trans rfl
  have c1 := (BX3.cell 1).trans rfl
  have c2 := (BX3.cell 2).trans rfl
  have c3 := (BX3.cell 3).trans rfl
  go_wp2_with fail
  clear c0 c1 c2 c3
  refine (schema_any (HSC.out.below hbw3) HF.out.few).mono ?_
  rintro e w4 ⟨tm, te, tt, pm, pe, rfl, hM4, hE4, hT4, hb4⟩
  have hB3 := BX3.lt
  rw [HNM.out]
  obtain ⟨qm, qmc, hq, hqa, hqb, hqc⟩ := hM4.addr (by rw [HM.out]; exact hM0)
  obtain ⟨ea, ec, hev⟩ := own_form hE4.own
  obtain ⟨ta, tc, htv⟩ := own_form hT4
  subst hq
  subst hev
  subst htv
  have o1 := hM4.own
  have o2 := hE4.own
  have o3 := hT4
  have l1 : (msRows s.msgs pm).length = M := by rw [← HM.out]; simp [msRows, hM4.len]
  have l2 : (enRows s.enums pe).length = E := by rw [← HE.out]; simp [enRows, hE4.len]
  have l3 : (mtRows s.methods).length = T := by rw [← HTN.out]; simp [mtRows]
  rw [HM.out] at o1 hqa ⊢
  rw [HE.out] at o2 ⊢
  rw [HTN.out] at o3 ⊢
  have ha : Below w4.heap.size w4 (w4.alloc (.cells #[.string nm, .slice (some ⟨qm, 0, none⟩) M qmc, .slice ea E ec, .slice ta T tc] 26)) := (Below.refl _ _).alloc (Nat.le_refl _) _
  have hbw4 : Below w.heap.size w w4 := hbw3.trans (hb4.mono hbw3.size)
  have HO : Hid (Ord w #[.string nm, .slice am M cm, .slice ae E ce, .slice at' T ct] #[.string nm, .slice (some ⟨qm, 0, none⟩) M qmc, .slice ea E ec, .slice ta T tc] w4.heap.size w3.heap.size (.slice (some ⟨qm, 0, none⟩) M qmc) (.slice ea E ec) (.slice ta T tc) M E T (msRows s.msgs pm) (enRows s.enums pe) (mtRows s.methods) (w4.alloc (.cells #[.string nm, .slice (some ⟨qm, 0, none⟩) M qmc, .slice ea E ec, .slice ta T tc] 26))) :=
    ⟨hbw4.trans (ha.mono hbw4.size), (BX3.below hb4).below ha, Blk.new w4 _ _, own_below o1 ha, own_below o2 ha, own_below o3 ha, hB3⟩
  have HL1 : Hid ((msRows s.msgs pm).length = M ∧ ∀ r ∈ msRows s.msgs pm, r.length = 3) := ⟨l1, ms_len _ _⟩
  have HL2 : Hid ((enRows s.enums pe).length = E ∧ ∀ r ∈ enRows s.enums pe, r.length = 2) := ⟨l2, en_len _ _⟩
  have HL3 : Hid ((mtRows s.methods).length = T ∧ ∀ r ∈ mtRows s.methods, r.length = 3) := ⟨l3, fun r hr => by simp only [mtRows, List.mem_map] at hr; obtain ⟨_, _, rfl⟩ := hr; rfl⟩
  clear o1 o2 o3 l1 l2 l3 ha hbw4 hM4 hE4 hT4 hqc BX3 hb4 hbw3 hB3
  generalize msRows s.msgs pm = rm0 at *
  generalize enRows s.enums pe = re0 at *
  generalize mtRows s.methods = rt0 at HL3 HO
  obtain ⟨P, hP⟩ := Int.eq_ofNat_of_zero_le (placeI_in a1 M (by omega)).1
  have hPM : P < M := by have := (placeI_in a1 M (by omega)).2; rw [hP] at this; omega
  have HPL : Hid (∀ W : World, Calls Try.prog 25 #[.int .i64 a1, .int .i64 (M : Int)] W fun e w' => e = .returned (.int .i64 (P : Int)) ∧ w' = W) := fun W => by rw [← hP]; exact place_is a1 M (by omega) (by omega) (by omega) (by omega) W
  clear hP
  go_wp2_with fail
  generalize w4.alloc (.cells #[.string nm, .slice (some ⟨qm, 0, none⟩) M qmc, .slice ea E ec, .slice ta T tc] 26) = w5 at *
  generalize w4.heap.size = b5 at *
  generalize w3.heap.size = B at *
  go_loopw [6] (fun iv wr => ∃ i : Nat, iv = .int .i64 (i : Int) ∧ i ≤ M ∧ OrdM w #[.string nm, .slice am M cm, .slice ae E ce, .slice at' T ct] #[.string nm, .slice (some ⟨qm, 0, none⟩) M qmc, .slice ea E ec, .slice ta T tc] b5 B (.slice (some ⟨qm, 0, none⟩) M qmc) (.slice ea E ec) (.slice ta T tc) M E T re0 rt0 s.msgs P i wr) (fun iv _ => M - (intOf iv).toNat)
  case atStart => exact ⟨0, rfl, by omega, rm0, HO.out, HL1.out.1, HL1.out.2, Done.zero _ _ _⟩
  case round =>
    clear HO HL1
    obtain ⟨i, rfl, hi, rs, hO, hlen, hl3, hdn⟩ := hrel
    have HO : Hid (Ord w #[.string nm, .slice am M cm, .slice ae E ce, .slice at' T ct] #[.string nm, .slice (some ⟨qm, 0, none⟩) M qmc, .slice ea E ec, .slice ta T tc] b5 B (.slice (some ⟨qm, 0, none⟩) M qmc) (.slice ea E ec) (.slice ta T tc) M E T rs re0 rt0 wr) := hO
    have HLN : Hid (rs.length = M) := hlen
    have HL : Hid (∀ r ∈ rs, r.length = 3) := hl3
    have HD : Hid (Done (srcM w s.msgs) (fun j => (j + P) % M) i rs) := hdn
    have x1 : wr.cell? ⟨w.heap.size, 1, none⟩ = some (.slice am M cm) := hO.box.cell 1
    clear hO hlen hl3 hdn
    by_cases hlt : i < M
    · obtain ⟨m, hm⟩ : ∃ x, s.msgs[i]? = some x := ⟨_, List.getElem?_eq_getElem (by rw [HM.out]; exact hlt)⟩
      obtain ⟨g, off, vf, vr, rfl, c0', c1', c2', hrf, hrr⟩ := HMI.out.get hm
      obtain ⟨a3, c3, rfl, _, _⟩ := hrf.form2
      obtain ⟨a4, c4, rfl, _, _⟩ := hrr.form2
      have HSR : Hid (srcM w s.msgs i [.string m.name, .slice a3 (flRows m.fields).length c3, .slice a4 (inRows m.reserved).length c4]) := ⟨m, _, _, hm, rfl, hrf, hrr⟩
      have C0 : Hid (w.cell? ⟨g, off + i * 3, none⟩ = some (.string m.name)) := c0'
      have C1 : Hid (w.cell? ⟨g, off + i * 3 + 1, none⟩ = some (.slice a3 (flRows m.fields).length c3)) := c1'
      have C2 : Hid (w.cell? ⟨g, off + i * 3 + 2, none⟩ = some (.slice a4 (inRows m.reserved).length c4)) := c2'
      clear c0' c1' c2' hrf hrr hm
      generalize (flRows m.fields).length = nF at *
      generalize (inRows m.reserved).length = nR at *
      generalize m.name = m0 at *
      obtain ⟨k, hk⟩ : ∃ k, (i + P) % M = k := ⟨_, rfl⟩
      have hkM : k < M := by rw [← hk]; exact Nat.mod_lt _ hM0
      have hk2 : ((i : Int) + (P : Int)).tmod (M : Int) = (k : Int) := by rw [← hk, Int.ofNat_tmod, Int.natCast_add]
      have HK : Hid ((i + P) % M = k) := hk
      have hz : ((M : Int) == 0) = false := by rw [beq_eq_false_iff_ne]; omega
      have hz2 : ¬ M = 0 := by omega
      have hw1 : IntKind.i64.wrap ((i : Int) + (P : Int)) = (i : Int) + (P : Int) := by rw [IntKind.wrap_i64]; omega
      clear hk
      go_wp2_with fail
      clear x1
      have HCL : Hid (∀ W, Kp (fun b => b = qm) wr W → W.cell? ⟨b5, 1, none⟩ = some (.slice (some ⟨qm, 0, none⟩) M qmc) ∧ W.cell? ⟨w.heap.size, 1, none⟩ = some (.slice (some ⟨g, off, none⟩) M cm) ∧ W.cell? ⟨g, off + i * 3, none⟩ = some (.string m0) ∧ W.cell? ⟨g, off + i * 3 + 1, none⟩ = some (.slice a3 nF c3) ∧ W.cell? ⟨g, off + i * 3 + 2, none⟩ = some (.slice a4 nR c4)) := fun W hW => by
        have hq := own_hi HO.out.own1
        have hbs := HO.out.base
        have n1 : b5 ≠ qm := fun e => by subst e; exact absurd (own_type HO.out.own1 rfl HO.out.tbox) (by decide)
        have hg := World.block_lt_of_cell? _ _ C0.out
        simp only at hg
        refine ⟨(HO.out.tbox.kp hW n1).cell 1, (HO.out.box.kp hW (by omega)).cell 1, ?_, ?_, ?_⟩
        · exact hW.cell ((HO.out.bel.cell (World.block_lt_of_cell? _ _ C0.out)).trans C0.out) (by show ¬ g = qm; omega)
        · exact hW.cell ((HO.out.bel.cell (World.block_lt_of_cell? _ _ C1.out)).trans C1.out) (by show ¬ g = qm; omega)
        · exact hW.cell ((HO.out.bel.cell (World.block_lt_of_cell? _ _ C2.out)).trans C2.out) (by show ¬ g = qm; omega)
      refine wp_region_held_drew (S := fun W => Kp (fun b => b = qm) wr W) (by kernel_rfl) (Kp.ofBelow (below_drewN 1 (Below.refl _ _))) (fun hS => ?_)
      have hY : Below wr.heap.size wr wr.drew := below_drewN 1 (Below.refl _ _)
      generalize wr.drew = Y at *
      refine rg_take 0 28 (.pointer (some ⟨b5, 1, none⟩)) _ rfl rfl (by kernel_rfl) (by kernel_rfl) (by kernel_rfl) (fun _ _ _ h => h) (by rfl) (fun w' hw' => ?_) hS (listed' := #[true, false, false, false, false, false, false, false, false, false, false, false, false, false, false, false, false, false, false, false]) (by kernel_rfl) rfl ?_
      · obtain ⟨g0, g1, g2, g3, g4⟩ := HCL.out w' hw'; go_simp
      simp only [List.setIfInBounds_toArray, List.set_cons_zero, List.set_cons_succ]
      refine rg_take 1 29 (.slice (some ⟨qm, 0, none⟩) M qmc) _ rfl rfl (by kernel_rfl) (by kernel_rfl) (by kernel_rfl) (fun _ _ _ h => h) (by rfl) (fun w' hw' => ?_) hS (listed' := #[true, true, false, false, false, false, false, false, false, false, false, false, false, false, false, false, false, false, false, false]) (by kernel_rfl) rfl ?_
      · obtain ⟨g0, g1, g2, g3, g4⟩ := HCL.out w' hw'; go_simp
      simp only [List.setIfInBounds_toArray, List.set_cons_zero, List.set_cons_succ]
      refine rg_take 2 30 (.int .i64 (i : Int)) _ rfl rfl (by kernel_rfl) (by kernel_rfl) (by kernel_rfl) (fun _ _ _ h => h) (by rfl) (fun w' hw' => ?_) hS (listed' := #[true, true, true, false, false, false, false, false, false, false, false, false, false, false, false, false, false, false, false, false]) (by kernel_rfl) rfl ?_
      · obtain ⟨g0, g1, g2, g3, g4⟩ := HCL.out w' hw'; go_simp
      simp only [List.setIfInBounds_toArray, List.set_cons_zero, List.set_cons_succ]
      refine rg_take 3 31 (.int .i64 a1) _ rfl rfl (by kernel_rfl) (by kernel_rfl) (by kernel_rfl) (fun _ _ _ h => h) (by rfl) (fun w' hw' => ?_) hS (listed' := #[true, true, true, true, false, false, false, false, false, false, false, false, false, false, false, false, false, false, false, false]) (by kernel_rfl) rfl ?_
      · obtain ⟨g0, g1, g2, g3, g4⟩ := HCL.out w' hw'; go_simp
      simp only [List.setIfInBounds_toArray, List.set_cons_zero, List.set_cons_succ]
      refine rg_take 4 32 (.pointer (some ⟨w.heap.size, 1, none⟩)) _ rfl rfl (by kernel_rfl) (by kernel_rfl) (by kernel_rfl) (fun _ _ _ h => h) (by rfl) (fun w' hw' => ?_) hS (listed' := #[true, true, true, true, true, false, false, false, false, false, false, false, false, false, false, false, false, false, false, false]) (by kernel_rfl) rfl ?_
      · obtain ⟨g0, g1, g2, g3, g4⟩ := HCL.out w' hw'; go_simp
      simp only [List.setIfInBounds_toArray, List.set_cons_zero, List.set_cons_succ]
      refine rg_take 5 33 (.slice (some ⟨g, off, none⟩) M cm) _ rfl rfl (by kernel_rfl) (by kernel_rfl) (by kernel_rfl) (fun _ _ _ h => h) (by rfl) (fun w' hw' => ?_) hS (listed' := #[true, true, true, true, true, true, false, false, false, false, false, false, false, false, false, false, false, false, false, false]) (by kernel_rfl) rfl ?_
      · obtain ⟨g0, g1, g2, g3, g4⟩ := HCL.out w' hw'; go_simp
      simp only [List.setIfInBounds_toArray, List.set_cons_zero, List.set_cons_succ]
      refine rg_take 6 34 (.int .i64 (M : Int)) _ rfl rfl (by kernel_rfl) (by kernel_rfl) (by kernel_rfl) (fun _ _ _ h => h) (by rfl) (fun w' hw' => ?_) hS (listed' := #[true, true, true, true, true, true, true, false, false, false, false, false, false, false, false, false, false, false, false, false]) (by kernel_rfl) rfl ?_
      · obtain ⟨g0, g1, g2, g3, g4⟩ := HCL.out w' hw'; go_simp
      simp only [List.setIfInBounds_toArray, List.set_cons_zero, List.set_cons_succ]
      refine rg_take 9 37 (.pointer (some ⟨w.heap.size, 1, none⟩)) _ rfl rfl (by kernel_rfl) (by kernel_rfl) (by kernel_rfl) (fun _ _ _ h => h) (by rfl) (fun w' hw' => ?_) hS (listed' := #[true, true, true, true, true, true, true, false, false, true, false, false, false, false, false, false, false, false, false, false]) (by kernel_rfl) rfl ?_
      · obtain ⟨g0, g1, g2, g3, g4⟩ := HCL.out w' hw'; go_simp
      simp only [List.setIfInBounds_toArray, List.set_cons_zero, List.set_cons_succ]
      refine rg_take 10 38 (.slice (some ⟨g, off, none⟩) M cm) _ rfl rfl (by kernel_rfl) (by kernel_rfl) (by kernel_rfl) (fun _ _ _ h => h) (by rfl) (fun w' hw' => ?_) hS (listed' := #[true, true, true, true, true, true, true, false, false, true, true, false, false, false, false, false, false, false, false, false]) (by kernel_rfl) rfl ?_
      · obtain ⟨g0, g1, g2, g3, g4⟩ := HCL.out w' hw'; go_simp
      simp only [List.setIfInBounds_toArray, List.set_cons_zero, List.set_cons_succ]
      refine rg_take 11 39 (.int .i64 (M : Int)) _ rfl rfl (by kernel_rfl) (by kernel_rfl) (by kernel_rfl) (fun _ _ _ h => h) (by rfl) (fun w' hw' => ?_) hS (listed' := #[true, true, true, true, true, true, true, false, false, true, true, true, false, false, false, false, false, false, false, false]) (by kernel_rfl) rfl ?_
      · obtain ⟨g0, g1, g2, g3, g4⟩ := HCL.out w' hw'; go_simp
      simp only [List.setIfInBounds_toArray, List.set_cons_zero, List.set_cons_succ]
      refine rg_take 13 41 (.pointer (some ⟨w.heap.size, 1, none⟩)) _ rfl rfl (by kernel_rfl) (by kernel_rfl) (by kernel_rfl) (fun _ _ _ h => h) (by rfl) (fun w' hw' => ?_) hS (listed' := #[true, true, true, true, true, true, true, false, false, true, true, true, false, true, false, false, false, false, false, false]) (by kernel_rfl) rfl ?_
      · obtain ⟨g0, g1, g2, g3, g4⟩ := HCL.out w' hw'; go_simp
      simp only [List.setIfInBounds_toArray, List.set_cons_zero, List.set_cons_succ]
      refine rg_take 14 42 (.slice (some ⟨g, off, none⟩) M cm) _ rfl rfl (by kernel_rfl) (by kernel_rfl) (by kernel_rfl) (fun _ _ _ h => h) (by rfl) (fun w' hw' => ?_) hS (listed' := #[true, true, true, true, true, true, true, false, false, true, true, true, false, true, true, false, false, false, false, false]) (by kernel_rfl) rfl ?_
      · obtain ⟨g0, g1, g2, g3, g4⟩ := HCL.out w' hw'; go_simp
      simp only [List.setIfInBounds_toArray, List.set_cons_zero, List.set_cons_succ]
      refine rg_take 15 43 (.int .i64 (i : Int)) _ rfl rfl (by kernel_rfl) (by kernel_rfl) (by kernel_rfl) (fun _ _ _ h => h) (by rfl) (fun w' hw' => ?_) hS (listed' := #[true, true, true, true, true, true, true, false, false, true, true, true, false, true, true, true, false, false, false, false]) (by kernel_rfl) rfl ?_
      · obtain ⟨g0, g1, g2, g3, g4⟩ := HCL.out w' hw'; go_simp
      simp only [List.setIfInBounds_toArray, List.set_cons_zero, List.set_cons_succ]
      refine rg_take 16 44 (.pointer (some ⟨g, off + i * 3, none⟩)) _ rfl rfl (by kernel_rfl) (by kernel_rfl) (by kernel_rfl) (fun _ _ _ h => h) (by rfl) (fun w' hw' => ?_) hS (listed' := #[true, true, true, true, true, true, true, false, false, true, true, true, false, true, true, true, true, false, false, false]) (by kernel_rfl) rfl ?_
      · obtain ⟨g0, g1, g2, g3, g4⟩ := HCL.out w' hw'; go_simp
      simp only [List.setIfInBounds_toArray, List.set_cons_zero, List.set_cons_succ]
      refine rg_take 17 45 (.agg #[.string m0, .slice a3 nF c3, .slice a4 nR c4]) _ rfl rfl (by kernel_rfl) (by kernel_rfl) (by kernel_rfl) (fun _ _ _ h => h) (by rfl) (fun w' hw' => ?_) hS (listed' := #[true, true, true, true, true, true, true, false, false, true, true, true, false, true, true, true, true, true, false, false]) (by kernel_rfl) rfl ?_
      · obtain ⟨g0, g1, g2, g3, g4⟩ := HCL.out w' hw'; go_simp
      simp only [List.setIfInBounds_toArray, List.set_cons_zero, List.set_cons_succ]
      refine rg_call 7 35 25 #[.int .i64 a1, .int .i64 (M : Int)] rfl rfl (by kernel_rfl) (by rfl) (listed' := #[true, true, true, true, true, true, true, true, false, true, true, true, false, true, true, true, true, true, false, false]) (by kernel_rfl) (fun W => by go_simp) ?_
      refine (HPL.out _).mono ?_
      rintro e Y2 ⟨rfl, rfl⟩
      refine ⟨_, rfl, hS, ?_⟩
      simp only [List.setIfInBounds_toArray, List.set_cons_zero, List.set_cons_succ]
      refine rg_take 8 36 (.int .i64 ((i : Int) + (P : Int))) _ rfl rfl (by kernel_rfl) (by kernel_rfl) (by kernel_rfl) (fun _ _ _ h => h) (by rfl) (fun w' hw' => ?_) hS (listed' := #[true, true, true, true, true, true, true, true, true, true, true, true, false, true, true, true, true, true, false, false]) (by kernel_rfl) rfl ?_
      · obtain ⟨g0, g1, g2, g3, g4⟩ := HCL.out w' hw'; go_simp
      simp only [List.setIfInBounds_toArray, List.set_cons_zero, List.set_cons_succ]
      refine rg_take 12 40 (.int .i64 (k : Int)) _ rfl rfl (by kernel_rfl) (by kernel_rfl) (by kernel_rfl) (fun _ _ _ h => h) (by rfl) (fun w' hw' => ?_) hS (listed' := #[true, true, true, true, true, true, true, true, true, true, true, true, true, true, true, true, true, true, false, false]) (by kernel_rfl) rfl ?_
      · obtain ⟨g0, g1, g2, g3, g4⟩ := HCL.out w' hw'; go_simp
      simp only [List.setIfInBounds_toArray, List.set_cons_zero, List.set_cons_succ]
      refine rg_take 18 46 (.pointer (some ⟨qm, k * 3, none⟩)) _ rfl rfl (by kernel_rfl) (by kernel_rfl) (by kernel_rfl) (fun _ _ _ h => h) (by rfl) (fun w' hw' => ?_) hS (listed' := #[true, true, true, true, true, true, true, true, true, true, true, true, true, true, true, true, true, true, true, false]) (by kernel_rfl) rfl ?_
      · obtain ⟨g0, g1, g2, g3, g4⟩ := HCL.out w' hw'; go_simp
      simp only [List.setIfInBounds_toArray, List.set_cons_zero, List.set_cons_succ]
      have hO2 := HO.out.below hY
      obtain ⟨hO3, hK3⟩ := hO2.set1 HL.out (k := k) (by rw [HLN.out]; exact hkM) (.string m0) (.slice a3 nF c3) (.slice a4 nR c4)
      obtain ⟨xa, xb, xc, hrk⟩ : ∃ xa xb xc, rs[k]? = some [xa, xb, xc] := by
        obtain ⟨r, hr⟩ : ∃ r, rs[k]? = some r := ⟨_, List.getElem?_eq_getElem (by rw [HLN.out]; exact hkM)⟩
        have h3 := HL.out r (List.mem_of_getElem? hr)
        match r, h3 with
        | [x1, x2, x3], _ => exact ⟨_, _, _, hr⟩
      have t0 : Y2.cell? ⟨qm, k * 3, none⟩ = some xa := own_at HL.out hO2.own1 hrk (j := 0) rfl
      have y0 : Y2.frozen? ⟨qm, k * 3, none⟩ = false := own_froz hO2.own1 _
      have t1 : Y2.cell? ⟨qm, k * 3 + 1, none⟩ = some xb := own_at HL.out hO2.own1 hrk (j := 1) rfl
      have y1 : Y2.frozen? ⟨qm, k * 3 + 1, none⟩ = false := own_froz hO2.own1 _
      have t2 : Y2.cell? ⟨qm, k * 3 + 2, none⟩ = some xc := own_at HL.out hO2.own1 hrk (j := 2) rfl
      have y2 : Y2.frozen? ⟨qm, k * 3 + 2, none⟩ = false := own_froz hO2.own1 _
      refine rg_store 19 (((Y2.setCell ⟨qm, k * 3, none⟩ (.string m0)).setCell ⟨qm, k * 3 + 1, none⟩ (.slice a3 nF c3)).setCell ⟨qm, k * 3 + 2, none⟩ (.slice a4 nR c4)) rfl rfl (by kernel_rfl) (by rfl) (listed' := #[true, true, true, true, true, true, true, true, true, true, true, true, true, true, true, true, true, true, true, true]) (by kernel_rfl) (by go_simp) ((Kp.ofBelow hY).trans hK3) ?_
      refine wpAnyH_done (by kernel_rfl) ?_ _
      have HN : Hid (OrdM w #[.string nm, .slice (some ⟨g, off, none⟩) M cm, .slice ae E ce, .slice at' T ct] #[.string nm, .slice (some ⟨qm, 0, none⟩) M qmc, .slice ea E ec, .slice ta T tc] b5 B (.slice (some ⟨qm, 0, none⟩) M qmc) (.slice ea E ec) (.slice ta T tc) M E T re0 rt0 s.msgs P (i + 1) (((Y2.setCell ⟨qm, k * 3, none⟩ (.string m0)).setCell ⟨qm, k * 3 + 1, none⟩ (.slice a3 nF c3)).setCell ⟨qm, k * 3 + 2, none⟩ (.slice a4 nR c4))) := ⟨_, hO3, by rw [List.length_set]; exact HLN.out, set_len HL.out k rfl, (by have hs := HD.out.step HSR.out (show (i + P) % M < rs.length by rw [HK.out, HLN.out]; exact hkM) (fun j hj => rot_inj hPM hlt hj); simp only [HK.out] at hs; exact hs)⟩
      clear t0 y0 t1 y1 t2 y2 hO2 hO3 hK3 hrk HO HD HL HLN HCL hS hY
      generalize (((Y2.setCell ⟨qm, k * 3, none⟩ (.string m0)).setCell ⟨qm, k * 3 + 1, none⟩ (.slice a3 nF c3)).setCell ⟨qm, k * 3 + 2, none⟩ (.slice a4 nR c4)) = wz at *
      go_wp2_with fail
      go_roundw
      case rel => exact ⟨i + 1, by go_num, by omega, HN.out⟩
      case measure => simp [intOf]; omega
    · have hiM : i = M := by omega
      rw [hiM] at HD
      have HDM : Hid (Done (srcM w s.msgs) (fun j => (j + P) % M) M rs ∧ (∀ r ∈ rs, r.length = 3)) := ⟨HD.out, HL.out⟩
      have HO1 : Hid (Ord w #[.string nm, .slice am M cm, .slice ae E ce, .slice at' T ct] #[.string nm, .slice (some ⟨qm, 0, none⟩) M qmc, .slice ea E ec, .slice ta T tc] b5 B (.slice (some ⟨qm, 0, none⟩) M qmc) (.slice ea E ec) (.slice ta T tc) M E T rs re0 rt0 wr) := HO.out
      clear HD HL HLN HO hiM
      go_wp2_with fail
      clear x1
      go_loopw [7] (fun iv wr => ∃ j : Nat, iv = .int .i64 (j : Int) ∧ j ≤ E ∧ OrdE w #[.string nm, .slice am M cm, .slice ae E ce, .slice at' T ct] #[.string nm, .slice (some ⟨qm, 0, none⟩) M qmc, .slice ea E ec, .slice ta T tc] b5 B (.slice (some ⟨qm, 0, none⟩) M qmc) (.slice ea E ec) (.slice ta T tc) M E T rs rt0 s.enums j wr) (fun iv _ => E - (intOf iv).toNat)
      case atStart => exact ⟨0, rfl, by omega, re0, HO1.out, HL2.out.1, HL2.out.2, Done.zero _ _ _⟩
      case round =>
        clear HO1 HL2 hlt hi
        have HSM : Hid True := trivial
        obtain ⟨rsM, hrsM⟩ : ∃ x, rs = x := ⟨_, rfl⟩
        rw [hrsM] at hrel HDM
        obtain ⟨i, rfl, hi, rs, hO, hlen, hl3, hdn⟩ := hrel
        have HO : Hid (Ord w #[.string nm, .slice am M cm, .slice ae E ce, .slice at' T ct] #[.string nm, .slice (some ⟨qm, 0, none⟩) M qmc, .slice ea E ec, .slice ta T tc] b5 B (.slice (some ⟨qm, 0, none⟩) M qmc) (.slice ea E ec) (.slice ta T tc) M E T rsM rs rt0 wr) := hO
        have HLN : Hid (rs.length = E) := hlen
        have HL : Hid (∀ r ∈ rs, r.length = 2) := hl3
        have HD : Hid (Done (srcE w s.enums) (fun j => E - 1 - j) i rs) := hdn
        have x1 : wr.cell? ⟨w.heap.size, 2, none⟩ = some (.slice ae E ce) := hO.box.cell 2
        have HRE : Hid (rsM = rsM) := rfl
        have HRS : Hid _ := hrsM
        clear hO hlen hl3 hdn hrsM
        by_cases hlt : i < E
        · obtain ⟨m, hm⟩ : ∃ x, s.enums[i]? = some x := ⟨_, List.getElem?_eq_getElem (by rw [HE.out]; exact hlt)⟩
          obtain ⟨g, off, vv, rfl, c0', c1', hrf⟩ := HEI.out.get hm
          obtain ⟨a3, c3, rfl, _, _⟩ := hrf.form2
          have HSR : Hid (srcE w s.enums i [.string m.name, .slice a3 (nmRows m.values).length c3]) := ⟨m, _, hm, rfl, hrf⟩
          have C0 : Hid (w.cell? ⟨g, off + i * 2, none⟩ = some (.string m.name)) := c0'
          have C1 : Hid (w.cell? ⟨g, off + i * 2 + 1, none⟩ = some (.slice a3 (nmRows m.values).length c3)) := c1'
          clear c0' c1' hrf hm
          generalize (nmRows m.values).length = nF at *
          generalize m.name = m0 at *
          obtain ⟨qe, qec, hqe, hqa1, hqa2, _, _⟩ := own_addr HO.out.own2 (by omega)
          simp only [Value.slice.injEq] at hqe
          obtain ⟨rfl, _, rfl⟩ := hqe
          unfold maxLen at hqa2
          obtain ⟨k, hk⟩ : ∃ k, E - 1 - i = k := ⟨_, rfl⟩
          have hkM : k < E := by omega
          have hk2 : (E : Int) - 1 - (i : Int) = (k : Int) := by omega
          have HK : Hid (E - 1 - i = k) := hk
          have hw1 : IntKind.i64.wrap ((E : Int) - 1) = (E : Int) - 1 := by rw [IntKind.wrap_i64]; omega
          have hw2 : IntKind.i64.wrap (k : Int) = (k : Int) := by rw [IntKind.wrap_i64]; omega
          clear hk
          go_wp2_with fail
          clear x1
          have HCL : Hid (∀ W, Kp (fun b => b = qe) wr W → W.cell? ⟨b5, 2, none⟩ = some (.slice (some ⟨qe, 0, none⟩) E ec) ∧ W.cell? ⟨w.heap.size, 2, none⟩ = some (.slice (some ⟨g, off, none⟩) E ce) ∧ W.cell? ⟨g, off + i * 2, none⟩ = some (.string m0) ∧ W.cell? ⟨g, off + i * 2 + 1, none⟩ = some (.slice a3 nF c3)) := fun W hW => by
            have hq := own_hi HO.out.own2
            have hbs := HO.out.base
            have n1 : b5 ≠ qe := fun e => by subst e; exact absurd (own_type HO.out.own2 rfl HO.out.tbox) (by decide)
            have hg := World.block_lt_of_cell? _ _ C0.out
            simp only at hg
            refine ⟨(HO.out.tbox.kp hW n1).cell 2, (HO.out.box.kp hW (by omega)).cell 2, ?_, ?_⟩
            · exact hW.cell ((HO.out.bel.cell (World.block_lt_of_cell? _ _ C0.out)).trans C0.out) (by show ¬ g = qe; omega)
            · exact hW.cell ((HO.out.bel.cell (World.block_lt_of_cell? _ _ C1.out)).trans C1.out) (by show ¬ g = qe; omega)
          refine wp_region_held_drew (S := fun W => Kp (fun b => b = qe) wr W) (by kernel_rfl) (Kp.ofBelow (below_drewN 1 (Below.refl _ _))) (fun hS => ?_)
          have hY : Below wr.heap.size wr wr.drew := below_drewN 1 (Below.refl _ _)
          generalize wr.drew = Y at *
          refine rg_take 0 54 (.pointer (some ⟨b5, 2, none⟩)) _ rfl rfl (by kernel_rfl) (by kernel_rfl) (by kernel_rfl) (fun _ _ _ h => h) (by rfl) (fun w' hw' => ?_) hS (listed' := #[true, false, false, false, false, false, false, false, false, false, false, false, false, false, false]) (by kernel_rfl) rfl ?_
          · obtain ⟨g0, g1, g2, g3⟩ := HCL.out w' hw'; go_simp
          simp only [List.setIfInBounds_toArray, List.set_cons_zero, List.set_cons_succ]
          refine rg_take 1 55 (.slice (some ⟨qe, 0, none⟩) E ec) _ rfl rfl (by kernel_rfl) (by kernel_rfl) (by kernel_rfl) (fun _ _ _ h => h) (by rfl) (fun w' hw' => ?_) hS (listed' := #[true, true, false, false, false, false, false, false, false, false, false, false, false, false, false]) (by kernel_rfl) rfl ?_
          · obtain ⟨g0, g1, g2, g3⟩ := HCL.out w' hw'; go_simp
          simp only [List.setIfInBounds_toArray, List.set_cons_zero, List.set_cons_succ]
          refine rg_take 2 56 (.pointer (some ⟨w.heap.size, 2, none⟩)) _ rfl rfl (by kernel_rfl) (by kernel_rfl) (by kernel_rfl) (fun _ _ _ h => h) (by rfl) (fun w' hw' => ?_) hS (listed' := #[true, true, true, false, false, false, false, false, false, false, false, false, false, false, false]) (by kernel_rfl) rfl ?_
          · obtain ⟨g0, g1, g2, g3⟩ := HCL.out w' hw'; go_simp
          simp only [List.setIfInBounds_toArray, List.set_cons_zero, List.set_cons_succ]
          refine rg_take 3 57 (.slice (some ⟨g, off, none⟩) E ce) _ rfl rfl (by kernel_rfl) (by kernel_rfl) (by kernel_rfl) (fun _ _ _ h => h) (by rfl) (fun w' hw' => ?_) hS (listed' := #[true, true, true, true, false, false, false, false, false, false, false, false, false, false, false]) (by kernel_rfl) rfl ?_
          · obtain ⟨g0, g1, g2, g3⟩ := HCL.out w' hw'; go_simp
          simp only [List.setIfInBounds_toArray, List.set_cons_zero, List.set_cons_succ]
          refine rg_take 4 58 (.int .i64 (E : Int)) _ rfl rfl (by kernel_rfl) (by kernel_rfl) (by kernel_rfl) (fun _ _ _ h => h) (by rfl) (fun w' hw' => ?_) hS (listed' := #[true, true, true, true, true, false, false, false, false, false, false, false, false, false, false]) (by kernel_rfl) rfl ?_
          · obtain ⟨g0, g1, g2, g3⟩ := HCL.out w' hw'; go_simp
          simp only [List.setIfInBounds_toArray, List.set_cons_zero, List.set_cons_succ]
          refine rg_take 5 59 (.int .i64 ((E : Int) - 1)) _ rfl rfl (by kernel_rfl) (by kernel_rfl) (by kernel_rfl) (fun _ _ _ h => h) (by rfl) (fun w' hw' => ?_) hS (listed' := #[true, true, true, true, true, true, false, false, false, false, false, false, false, false, false]) (by kernel_rfl) rfl ?_
          · obtain ⟨g0, g1, g2, g3⟩ := HCL.out w' hw'; go_simp
          simp only [List.setIfInBounds_toArray, List.set_cons_zero, List.set_cons_succ]
          refine rg_take 6 60 (.int .i64 (i : Int)) _ rfl rfl (by kernel_rfl) (by kernel_rfl) (by kernel_rfl) (fun _ _ _ h => h) (by rfl) (fun w' hw' => ?_) hS (listed' := #[true, true, true, true, true, true, true, false, false, false, false, false, false, false, false]) (by kernel_rfl) rfl ?_
          · obtain ⟨g0, g1, g2, g3⟩ := HCL.out w' hw'; go_simp
          simp only [List.setIfInBounds_toArray, List.set_cons_zero, List.set_cons_succ]
          refine rg_take 7 61 (.int .i64 (k : Int)) _ rfl rfl (by kernel_rfl) (by kernel_rfl) (by kernel_rfl) (fun _ _ _ h => h) (by rfl) (fun w' hw' => ?_) hS (listed' := #[true, true, true, true, true, true, true, true, false, false, false, false, false, false, false]) (by kernel_rfl) rfl ?_
          · obtain ⟨g0, g1, g2, g3⟩ := HCL.out w' hw'; go_simp
          simp only [List.setIfInBounds_toArray, List.set_cons_zero, List.set_cons_succ]
          refine rg_take 8 62 (.pointer (some ⟨w.heap.size, 2, none⟩)) _ rfl rfl (by kernel_rfl) (by kernel_rfl) (by kernel_rfl) (fun _ _ _ h => h) (by rfl) (fun w' hw' => ?_) hS (listed' := #[true, true, true, true, true, true, true, true, true, false, false, false, false, false, false]) (by kernel_rfl) rfl ?_
          · obtain ⟨g0, g1, g2, g3⟩ := HCL.out w' hw'; go_simp
          simp only [List.setIfInBounds_toArray, List.set_cons_zero, List.set_cons_succ]
          refine rg_take 9 63 (.slice (some ⟨g, off, none⟩) E ce) _ rfl rfl (by kernel_rfl) (by kernel_rfl) (by kernel_rfl) (fun _ _ _ h => h) (by rfl) (fun w' hw' => ?_) hS (listed' := #[true, true, true, true, true, true, true, true, true, true, false, false, false, false, false]) (by kernel_rfl) rfl ?_
          · obtain ⟨g0, g1, g2, g3⟩ := HCL.out w' hw'; go_simp
          simp only [List.setIfInBounds_toArray, List.set_cons_zero, List.set_cons_succ]
          refine rg_take 10 64 (.int .i64 (i : Int)) _ rfl rfl (by kernel_rfl) (by kernel_rfl) (by kernel_rfl) (fun _ _ _ h => h) (by rfl) (fun w' hw' => ?_) hS (listed' := #[true, true, true, true, true, true, true, true, true, true, true, false, false, false, false]) (by kernel_rfl) rfl ?_
          · obtain ⟨g0, g1, g2, g3⟩ := HCL.out w' hw'; go_simp
          simp only [List.setIfInBounds_toArray, List.set_cons_zero, List.set_cons_succ]
          refine rg_take 11 65 (.pointer (some ⟨g, off + i * 2, none⟩)) _ rfl rfl (by kernel_rfl) (by kernel_rfl) (by kernel_rfl) (fun _ _ _ h => h) (by rfl) (fun w' hw' => ?_) hS (listed' := #[true, true, true, true, true, true, true, true, true, true, true, true, false, false, false]) (by kernel_rfl) rfl ?_
          · obtain ⟨g0, g1, g2, g3⟩ := HCL.out w' hw'; go_simp
          simp only [List.setIfInBounds_toArray, List.set_cons_zero, List.set_cons_succ]
          refine rg_take 12 66 (.agg #[.string m0, .slice a3 nF c3]) _ rfl rfl (by kernel_rfl) (by kernel_rfl) (by kernel_rfl) (fun _ _ _ h => h) (by rfl) (fun w' hw' => ?_) hS (listed' := #[true, true, true, true, true, true, true, true, true, true, true, true, true, false, false]) (by kernel_rfl) rfl ?_
          · obtain ⟨g0, g1, g2, g3⟩ := HCL.out w' hw'; go_simp
          simp only [List.setIfInBounds_toArray, List.set_cons_zero, List.set_cons_succ]
          refine rg_take 13 67 (.pointer (some ⟨qe, k * 2, none⟩)) _ rfl rfl (by kernel_rfl) (by kernel_rfl) (by kernel_rfl) (fun _ _ _ h => h) (by rfl) (fun w' hw' => ?_) hS (listed' := #[true, true, true, true, true, true, true, true, true, true, true, true, true, true, false]) (by kernel_rfl) rfl ?_
          · obtain ⟨g0, g1, g2, g3⟩ := HCL.out w' hw'; go_simp
          simp only [List.setIfInBounds_toArray, List.set_cons_zero, List.set_cons_succ]
          have hO2 := HO.out.below hY
          obtain ⟨hO3, hK3⟩ := hO2.set2 HL.out (k := k) (by rw [HLN.out]; exact hkM) (.string m0) (.slice a3 nF c3)
          obtain ⟨xa, xb, hrk⟩ : ∃ xa xb, rs[k]? = some [xa, xb] := by
            obtain ⟨r, hr⟩ : ∃ r, rs[k]? = some r := ⟨_, List.getElem?_eq_getElem (by rw [HLN.out]; exact hkM)⟩
            have h3 := HL.out r (List.mem_of_getElem? hr)
            match r, h3 with
            | [x1, x2], _ => exact ⟨_, _, hr⟩
          have t0 : Y.cell? ⟨qe, k * 2, none⟩ = some xa := own_at HL.out hO2.own2 hrk (j := 0) rfl
          have y0 : Y.frozen? ⟨qe, k * 2, none⟩ = false := own_froz hO2.own2 _
          have t1 : Y.cell? ⟨qe, k * 2 + 1, none⟩ = some xb := own_at HL.out hO2.own2 hrk (j := 1) rfl
          have y1 : Y.frozen? ⟨qe, k * 2 + 1, none⟩ = false := own_froz hO2.own2 _
          refine rg_store 14 ((Y.setCell ⟨qe, k * 2, none⟩ (.string m0)).setCell ⟨qe, k * 2 + 1, none⟩ (.slice a3 nF c3)) rfl rfl (by kernel_rfl) (by rfl) (listed' := #[true, true, true, true, true, true, true, true, true, true, true, true, true, true, true]) (by kernel_rfl) (by go_simp) ((Kp.ofBelow hY).trans hK3) ?_
          refine wpAnyH_done (by kernel_rfl) ?_ _
          have HN : Hid (OrdE w #[.string nm, .slice am M cm, .slice (some ⟨g, off, none⟩) E ce, .slice at' T ct] #[.string nm, .slice (some ⟨qm, 0, none⟩) M qmc, .slice (some ⟨qe, 0, none⟩) E ec, .slice ta T tc] b5 B (.slice (some ⟨qm, 0, none⟩) M qmc) (.slice (some ⟨qe, 0, none⟩) E ec) (.slice ta T tc) M E T rsM rt0 s.enums (i + 1) ((Y.setCell ⟨qe, k * 2, none⟩ (.string m0)).setCell ⟨qe, k * 2 + 1, none⟩ (.slice a3 nF c3))) := ⟨_, hO3, by rw [List.length_set]; exact HLN.out, set_len HL.out k rfl, (by have hs := HD.out.step HSR.out (show E - 1 - i < rs.length by rw [HK.out, HLN.out]; exact hkM) (fun j hj => by show E - 1 - j ≠ E - 1 - i; omega); simp only [HK.out] at hs; exact hs)⟩
          clear t0 y0 t1 y1 hO2 hO3 hK3 hrk HO HD HL HLN HCL hS hY
          generalize ((Y.setCell ⟨qe, k * 2, none⟩ (.string m0)).setCell ⟨qe, k * 2 + 1, none⟩ (.slice a3 nF c3)) = wz at *
          go_wp2_with fail
          go_roundw
          case rel => exact ⟨i + 1, by go_num, by omega, by rw [HRS.out]; exact HN.out⟩
          case measure => simp [intOf]; omega
        · have hiM : i = E := by omega
          rw [hiM] at HD
          have HDE : Hid (Done (srcE w s.enums) (fun j => E - 1 - j) E rs ∧ (∀ r ∈ rs, r.length = 2)) := ⟨HD.out, HL.out⟩
          have HO1 : Hid (Ord w #[.string nm, .slice am M cm, .slice ae E ce, .slice at' T ct] #[.string nm, .slice (some ⟨qm, 0, none⟩) M qmc, .slice ea E ec, .slice ta T tc] b5 B (.slice (some ⟨qm, 0, none⟩) M qmc) (.slice ea E ec) (.slice ta T tc) M E T rsM rs rt0 wr) := HO.out
          clear HD HL HLN HO hiM
          go_wp2_with fail
          clear x1
          go_loopw [8] (fun iv wr => ∃ j : Nat, iv = .int .i64 (j : Int) ∧ j ≤ T ∧ OrdT w #[.string nm, .slice am M cm, .slice ae E ce, .slice at' T ct] #[.string nm, .slice (some ⟨qm, 0, none⟩) M qmc, .slice ea E ec, .slice ta T tc] b5 B (.slice (some ⟨qm, 0, none⟩) M qmc) (.slice ea E ec) (.slice ta T tc) M E T rsM rs s.methods j wr) (fun iv _ => T - (intOf iv).toNat)
          case atStart => exact ⟨0, rfl, by omega, rt0, HO1.out, HL3.out.1, HL3.out.2, Done.zero _ _ _⟩
          case round =>
            clear HO1 HL3 hlt hi
            obtain ⟨rsE, hrsE⟩ : ∃ x, rs = x := ⟨_, rfl⟩
            rw [hrsE] at hrel HDE
            obtain ⟨i, rfl, hi, rs, hO, hlen, hl3, hdn⟩ := hrel
            have HO : Hid (Ord w #[.string nm, .slice am M cm, .slice ae E ce, .slice at' T ct] #[.string nm, .slice (some ⟨qm, 0, none⟩) M qmc, .slice ea E ec, .slice ta T tc] b5 B (.slice (some ⟨qm, 0, none⟩) M qmc) (.slice ea E ec) (.slice ta T tc) M E T rsM rsE rs wr) := hO
            have HLN : Hid (rs.length = T) := hlen
            have HL : Hid (∀ r ∈ rs, r.length = 3) := hl3
            have HD : Hid (Done (srcT s.methods) (fun j => T - 1 - j) i rs) := hdn
            have x1 : wr.cell? ⟨w.heap.size, 3, none⟩ = some (.slice at' T ct) := hO.box.cell 3
            have HRS2 : Hid _ := hrsE
            clear hO hlen hl3 hdn hrsE
            by_cases hlt : i < T
            · obtain ⟨m, hm⟩ : ∃ x, s.methods[i]? = some x := ⟨_, List.getElem?_eq_getElem (by rw [HTN.out]; exact hlt)⟩
              obtain ⟨m0, m1, m2⟩ := m
              have hfr : (mtRows s.methods)[i]? = some [.string m0, .string m1, .string m2] := by simp [mtRows, MtS.cells, hm]
              obtain ⟨g, off, rfl, hcs⟩ := HTI.out.get hfr
              have HSR : Hid (srcT s.methods i [.string m0, .string m1, .string m2]) := ⟨⟨m0, m1, m2⟩, hm, rfl⟩
              have C0 : Hid (w.cell? ⟨g, off + i * 3, none⟩ = some (.string m0)) := hcs 0 _ rfl
              have C1 : Hid (w.cell? ⟨g, off + i * 3 + 1, none⟩ = some (.string m1)) := hcs 1 _ rfl
              have C2 : Hid (w.cell? ⟨g, off + i * 3 + 2, none⟩ = some (.string m2)) := hcs 2 _ rfl
              clear hcs hfr hm
              obtain ⟨qe, qec, hqe, hqa1, hqa2, _, _⟩ := own_addr HO.out.own3 (by omega)
              simp only [Value.slice.injEq] at hqe
              obtain ⟨rfl, _, rfl⟩ := hqe
              unfold maxLen at hqa2
              obtain ⟨k, hk⟩ : ∃ k, T - 1 - i = k := ⟨_, rfl⟩
              have hkM : k < T := by omega
              have hk2 : (T : Int) - 1 - (i : Int) = (k : Int) := by omega
              have HK : Hid (T - 1 - i = k) := hk
              have hw1 : IntKind.i64.wrap ((T : Int) - 1) = (T : Int) - 1 := by rw [IntKind.wrap_i64]; omega
              have hw2 : IntKind.i64.wrap (k : Int) = (k : Int) := by rw [IntKind.wrap_i64]; omega
              clear hk
              go_wp2_with fail
              clear x1
              have HCL : Hid (∀ W, Kp (fun b => b = qe) wr W → W.cell? ⟨b5, 3, none⟩ = some (.slice (some ⟨qe, 0, none⟩) T tc) ∧ W.cell? ⟨w.heap.size, 3, none⟩ = some (.slice (some ⟨g, off, none⟩) T ct) ∧ W.cell? ⟨g, off + i * 3, none⟩ = some (.string m0) ∧ W.cell? ⟨g, off + i * 3 + 1, none⟩ = some (.string m1) ∧ W.cell? ⟨g, off + i * 3 + 2, none⟩ = some (.string m2)) := fun W hW => by
                have hq := own_hi HO.out.own3
                have hbs := HO.out.base
                have n1 : b5 ≠ qe := fun e => by subst e; exact absurd (own_type HO.out.own3 rfl HO.out.tbox) (by decide)
                have hg := World.block_lt_of_cell? _ _ C0.out
                simp only at hg
                refine ⟨(HO.out.tbox.kp hW n1).cell 3, (HO.out.box.kp hW (by omega)).cell 3, ?_, ?_, ?_⟩
                · exact hW.cell ((HO.out.bel.cell (World.block_lt_of_cell? _ _ C0.out)).trans C0.out) (by show ¬ g = qe; omega)
                · exact hW.cell ((HO.out.bel.cell (World.block_lt_of_cell? _ _ C1.out)).trans C1.out) (by show ¬ g = qe; omega)
                · exact hW.cell ((HO.out.bel.cell (World.block_lt_of_cell? _ _ C2.out)).trans C2.out) (by show ¬ g = qe; omega)
              refine wp_region_held_drew (S := fun W => Kp (fun b => b = qe) wr W) (by kernel_rfl) (Kp.ofBelow (below_drewN 1 (Below.refl _ _))) (fun hS => ?_)
              have hY : Below wr.heap.size wr wr.drew := below_drewN 1 (Below.refl _ _)
              generalize wr.drew = Y at *
              refine rg_take 0 75 (.pointer (some ⟨b5, 3, none⟩)) _ rfl rfl (by kernel_rfl) (by kernel_rfl) (by kernel_rfl) (fun _ _ _ h => h) (by rfl) (fun w' hw' => ?_) hS (listed' := #[true, false, false, false, false, false, false, false, false, false, false, false, false, false, false]) (by kernel_rfl) rfl ?_
              · obtain ⟨g0, g1, g2, g3, g4⟩ := HCL.out w' hw'; go_simp
              simp only [List.setIfInBounds_toArray, List.set_cons_zero, List.set_cons_succ]
              refine rg_take 1 76 (.slice (some ⟨qe, 0, none⟩) T tc) _ rfl rfl (by kernel_rfl) (by kernel_rfl) (by kernel_rfl) (fun _ _ _ h => h) (by rfl) (fun w' hw' => ?_) hS (listed' := #[true, true, false, false, false, false, false, false, false, false, false, false, false, false, false]) (by kernel_rfl) rfl ?_
              · obtain ⟨g0, g1, g2, g3, g4⟩ := HCL.out w' hw'; go_simp
              simp only [List.setIfInBounds_toArray, List.set_cons_zero, List.set_cons_succ]
              refine rg_take 2 77 (.pointer (some ⟨w.heap.size, 3, none⟩)) _ rfl rfl (by kernel_rfl) (by kernel_rfl) (by kernel_rfl) (fun _ _ _ h => h) (by rfl) (fun w' hw' => ?_) hS (listed' := #[true, true, true, false, false, false, false, false, false, false, false, false, false, false, false]) (by kernel_rfl) rfl ?_
              · obtain ⟨g0, g1, g2, g3, g4⟩ := HCL.out w' hw'; go_simp
              simp only [List.setIfInBounds_toArray, List.set_cons_zero, List.set_cons_succ]
              refine rg_take 3 78 (.slice (some ⟨g, off, none⟩) T ct) _ rfl rfl (by kernel_rfl) (by kernel_rfl) (by kernel_rfl) (fun _ _ _ h => h) (by rfl) (fun w' hw' => ?_) hS (listed' := #[true, true, true, true, false, false, false, false, false, false, false, false, false, false, false]) (by kernel_rfl) rfl ?_
              · obtain ⟨g0, g1, g2, g3, g4⟩ := HCL.out w' hw'; go_simp
              simp only [List.setIfInBounds_toArray, List.set_cons_zero, List.set_cons_succ]
              refine rg_take 4 79 (.int .i64 (T : Int)) _ rfl rfl (by kernel_rfl) (by kernel_rfl) (by kernel_rfl) (fun _ _ _ h => h) (by rfl) (fun w' hw' => ?_) hS (listed' := #[true, true, true, true, true, false, false, false, false, false, false, false, false, false, false]) (by kernel_rfl) rfl ?_
              · obtain ⟨g0, g1, g2, g3, g4⟩ := HCL.out w' hw'; go_simp
              simp only [List.setIfInBounds_toArray, List.set_cons_zero, List.set_cons_succ]
              refine rg_take 5 80 (.int .i64 ((T : Int) - 1)) _ rfl rfl (by kernel_rfl) (by kernel_rfl) (by kernel_rfl) (fun _ _ _ h => h) (by rfl) (fun w' hw' => ?_) hS (listed' := #[true, true, true, true, true, true, false, false, false, false, false, false, false, false, false]) (by kernel_rfl) rfl ?_
              · obtain ⟨g0, g1, g2, g3, g4⟩ := HCL.out w' hw'; go_simp
              simp only [List.setIfInBounds_toArray, List.set_cons_zero, List.set_cons_succ]
              refine rg_take 6 81 (.int .i64 (i : Int)) _ rfl rfl (by kernel_rfl) (by kernel_rfl) (by kernel_rfl) (fun _ _ _ h => h) (by rfl) (fun w' hw' => ?_) hS (listed' := #[true, true, true, true, true, true, true, false, false, false, false, false, false, false, false]) (by kernel_rfl) rfl ?_
              · obtain ⟨g0, g1, g2, g3, g4⟩ := HCL.out w' hw'; go_simp
              simp only [List.setIfInBounds_toArray, List.set_cons_zero, List.set_cons_succ]
              refine rg_take 7 82 (.int .i64 (k : Int)) _ rfl rfl (by kernel_rfl) (by kernel_rfl) (by kernel_rfl) (fun _ _ _ h => h) (by rfl) (fun w' hw' => ?_) hS (listed' := #[true, true, true, true, true, true, true, true, false, false, false, false, false, false, false]) (by kernel_rfl) rfl ?_
              · obtain ⟨g0, g1, g2, g3, g4⟩ := HCL.out w' hw'; go_simp
              simp only [List.setIfInBounds_toArray, List.set_cons_zero, List.set_cons_succ]
              refine rg_take 8 83 (.pointer (some ⟨w.heap.size, 3, none⟩)) _ rfl rfl (by kernel_rfl) (by kernel_rfl) (by kernel_rfl) (fun _ _ _ h => h) (by rfl) (fun w' hw' => ?_) hS (listed' := #[true, true, true, true, true, true, true, true, true, false, false, false, false, false, false]) (by kernel_rfl) rfl ?_
              · obtain ⟨g0, g1, g2, g3, g4⟩ := HCL.out w' hw'; go_simp
              simp only [List.setIfInBounds_toArray, List.set_cons_zero, List.set_cons_succ]
              refine rg_take 9 84 (.slice (some ⟨g, off, none⟩) T ct) _ rfl rfl (by kernel_rfl) (by kernel_rfl) (by kernel_rfl) (fun _ _ _ h => h) (by rfl) (fun w' hw' => ?_) hS (listed' := #[true, true, true, true, true, true, true, true, true, true, false, false, false, false, false]) (by kernel_rfl) rfl ?_
              · obtain ⟨g0, g1, g2, g3, g4⟩ := HCL.out w' hw'; go_simp
              simp only [List.setIfInBounds_toArray, List.set_cons_zero, List.set_cons_succ]
              refine rg_take 10 85 (.int .i64 (i : Int)) _ rfl rfl (by kernel_rfl) (by kernel_rfl) (by kernel_rfl) (fun _ _ _ h => h) (by rfl) (fun w' hw' => ?_) hS (listed' := #[true, true, true, true, true, true, true, true, true, true, true, false, false, false, false]) (by kernel_rfl) rfl ?_
              · obtain ⟨g0, g1, g2, g3, g4⟩ := HCL.out w' hw'; go_simp
              simp only [List.setIfInBounds_toArray, List.set_cons_zero, List.set_cons_succ]
              refine rg_take 11 86 (.pointer (some ⟨g, off + i * 3, none⟩)) _ rfl rfl (by kernel_rfl) (by kernel_rfl) (by kernel_rfl) (fun _ _ _ h => h) (by rfl) (fun w' hw' => ?_) hS (listed' := #[true, true, true, true, true, true, true, true, true, true, true, true, false, false, false]) (by kernel_rfl) rfl ?_
              · obtain ⟨g0, g1, g2, g3, g4⟩ := HCL.out w' hw'; go_simp
              simp only [List.setIfInBounds_toArray, List.set_cons_zero, List.set_cons_succ]
              refine rg_take 12 87 (.agg #[.string m0, .string m1, .string m2]) _ rfl rfl (by kernel_rfl) (by kernel_rfl) (by kernel_rfl) (fun _ _ _ h => h) (by rfl) (fun w' hw' => ?_) hS (listed' := #[true, true, true, true, true, true, true, true, true, true, true, true, true, false, false]) (by kernel_rfl) rfl ?_
              · obtain ⟨g0, g1, g2, g3, g4⟩ := HCL.out w' hw'; go_simp
              simp only [List.setIfInBounds_toArray, List.set_cons_zero, List.set_cons_succ]
              refine rg_take 13 88 (.pointer (some ⟨qe, k * 3, none⟩)) _ rfl rfl (by kernel_rfl) (by kernel_rfl) (by kernel_rfl) (fun _ _ _ h => h) (by rfl) (fun w' hw' => ?_) hS (listed' := #[true, true, true, true, true, true, true, true, true, true, true, true, true, true, false]) (by kernel_rfl) rfl ?_
              · obtain ⟨g0, g1, g2, g3, g4⟩ := HCL.out w' hw'; go_simp
              simp only [List.setIfInBounds_toArray, List.set_cons_zero, List.set_cons_succ]
              have hO2 := HO.out.below hY
              obtain ⟨hO3, hK3⟩ := hO2.set3 HL.out (k := k) (by rw [HLN.out]; exact hkM) (.string m0) (.string m1) (.string m2)
              obtain ⟨xa, xb, xc, hrk⟩ : ∃ xa xb xc, rs[k]? = some [xa, xb, xc] := by
                obtain ⟨r, hr⟩ : ∃ r, rs[k]? = some r := ⟨_, List.getElem?_eq_getElem (by rw [HLN.out]; exact hkM)⟩
                have h3 := HL.out r (List.mem_of_getElem? hr)
                match r, h3 with
                | [x1, x2, x3], _ => exact ⟨_, _, _, hr⟩
              have t0 : Y.cell? ⟨qe, k * 3, none⟩ = some xa := own_at HL.out hO2.own3 hrk (j := 0) rfl
              have y0 : Y.frozen? ⟨qe, k * 3, none⟩ = false := own_froz hO2.own3 _
              have t1 : Y.cell? ⟨qe, k * 3 + 1, none⟩ = some xb := own_at HL.out hO2.own3 hrk (j := 1) rfl
              have y1 : Y.frozen? ⟨qe, k * 3 + 1, none⟩ = false := own_froz hO2.own3 _
              have t2 : Y.cell? ⟨qe, k * 3 + 2, none⟩ = some xc := own_at HL.out hO2.own3 hrk (j := 2) rfl
              have y2 : Y.frozen? ⟨qe, k * 3 + 2, none⟩ = false := own_froz hO2.own3 _
              refine rg_store 14 (((Y.setCell ⟨qe, k * 3, none⟩ (.string m0)).setCell ⟨qe, k * 3 + 1, none⟩ (.string m1)).setCell ⟨qe, k * 3 + 2, none⟩ (.string m2)) rfl rfl (by kernel_rfl) (by rfl) (listed' := #[true, true, true, true, true, true, true, true, true, true, true, true, true, true, true]) (by kernel_rfl) (by go_simp) ((Kp.ofBelow hY).trans hK3) ?_
              refine wpAnyH_done (by kernel_rfl) ?_ _
              have HN : Hid (OrdT w #[.string nm, .slice am M cm, .slice ae E ce, .slice (some ⟨g, off, none⟩) T ct] #[.string nm, .slice (some ⟨qm, 0, none⟩) M qmc, .slice ea E ec, .slice (some ⟨qe, 0, none⟩) T tc] b5 B (.slice (some ⟨qm, 0, none⟩) M qmc) (.slice ea E ec) (.slice (some ⟨qe, 0, none⟩) T tc) M E T rsM rsE s.methods (i + 1) (((Y.setCell ⟨qe, k * 3, none⟩ (.string m0)).setCell ⟨qe, k * 3 + 1, none⟩ (.string m1)).setCell ⟨qe, k * 3 + 2, none⟩ (.string m2))) := ⟨_, hO3, by rw [List.length_set]; exact HLN.out, set_len HL.out k rfl, (by have hs := HD.out.step HSR.out (show T - 1 - i < rs.length by rw [HK.out, HLN.out]; exact hkM) (fun j hj => by show T - 1 - j ≠ T - 1 - i; omega); simp only [HK.out] at hs; exact hs)⟩
              clear t0 y0 t1 y1 t2 y2 hO2 hO3 hK3 hrk HO HD HL HLN HCL hS hY
              generalize (((Y.setCell ⟨qe, k * 3, none⟩ (.string m0)).setCell ⟨qe, k * 3 + 1, none⟩ (.string m1)).setCell ⟨qe, k * 3 + 2, none⟩ (.string m2)) = wz at *
              go_wp2_with fail
              go_roundw
              case rel => exact ⟨i + 1, by go_num, by omega, by rw [HRS2.out]; exact HN.out⟩
              case measure => simp [intOf]; omega
            · have hiM : i = T := by omega
              rw [hiM] at HD
              have HDT : Hid (Done (srcT s.methods) (fun j => T - 1 - j) T rs ∧ (∀ r ∈ rs, r.length = 3)) := ⟨HD.out, HL.out⟩
              have c0 : wr.cell? ⟨b5, 0, none⟩ = some (.string nm) := HO.out.tbox.cell 0
              have c1 : wr.cell? ⟨b5, 1, none⟩ = some (.slice (some ⟨qm, 0, none⟩) M qmc) := HO.out.tbox.cell 1
              have c2 : wr.cell? ⟨b5, 2, none⟩ = some (.slice ea E ec) := HO.out.tbox.cell 2
              have c3 : wr.cell? ⟨b5, 3, none⟩ = some (.slice ta T tc) := HO.out.tbox.cell 3
              have HCK : Hid (Calls Try.prog 11 #[.agg #[.string nm, .slice (some ⟨qm, 0, none⟩) M qmc, .slice ea E ec, .slice ta T tc]] wr fun e w' => e = .returned (.int .i64 0) ∧ Below wr.heap.size wr w') := by
                have p1 : (ScS.mk s.name (rotL P s.msgs) s.enums.reverse s.methods.reverse).msgs.Perm s.msgs := rotL_perm P s.msgs
                have p2 : (ScS.mk s.name (rotL P s.msgs) s.enums.reverse s.methods.reverse).enums.Perm s.enums := List.reverse_perm _
                have p3 : (ScS.mk s.name (rotL P s.msgs) s.enums.reverse s.methods.reverse).methods.Perm s.methods := List.reverse_perm _
                have hD1 := HDM.out
                have hD2 := HDE.out
                have hD3 := HDT.out
                have hOO := HO.out
                rw [← HM.out] at hD1
                rw [← HE.out] at hD2
                rw [← HTN.out] at hD3
                have q1 := hOO.own1
                have q2 := hOO.own2
                have q3 := hOO.own3
                have hPs : P < s.msgs.length := by rw [HM.out]; exact hPM
                have k1 : MsIn wr (.slice (some ⟨qm, 0, none⟩) M qmc) (rotL P s.msgs) := Done.toM hD1.1 hPs hD1.2 (by rw [HM.out]; exact q1) hOO.bel
                have k2 : EnIn wr (.slice ea E ec) s.enums.reverse := Done.toE hD2.1 hD2.2 (by rw [HE.out]; exact q2) hOO.bel
                have k3 : RowG wr (.slice ta T tc) 3 (mtRows s.methods.reverse) := Done.toT hD3.1 hD3.2 (by rw [HTN.out]; exact q3)
                have hz : checkA (ScS.mk s.name (rotL P s.msgs) s.enums.reverse s.methods.reverse) = 0 := (checkA_ok _).2 (ok_perm HOK.out rfl p1 p2 p3)
                have := check_any (s := ScS.mk s.name (rotL P s.msgs) s.enums.reverse s.methods.reverse) (v := .agg #[.string nm, .slice (some ⟨qm, 0, none⟩) M qmc, .slice ea E ec, .slice ta T tc]) (w := wr) ⟨_, _, _, by rw [← HNM.out], k1, k2, k3⟩ (scW_perm HW.out rfl p1 p2 p3) (few_perm HF.out.few p1 p2 p3)
                rw [hz] at this
                exact this
              have hbn := HO.out.bel
              clear HD HL HLN HO hiM HDT
              go_wp2_with fail
              clear x1 c0 c1 c2 c3
              refine HCK.out.mono ?_
              rintro e w7 ⟨rfl, hb7⟩
              have hbw7 : Below w.heap.size w w7 := hbn.trans (hb7.mono hbn.size)
              clear hbn hb7 HCK
              go_wp2_with fail
              refine (awake_any _).mono ?_
              rintro e w8 ⟨rfl, hb8⟩
              go_wp2_with fail
              go_ret
              exact ⟨rfl, hbw7.trans (hb8.mono hbw7.size)⟩
end Go.Proofs.Ytomeppgmmlaibaa

/- CheckFinds, walked. -/
import Derived.Test.YtomeppgmmlaibaaLwFew
import Derived.Test.YtomeppgmmlaibaaLwSchema
import Derived.Test.YtomeppgmmlaibaaCkFindM
import Derived.Test.YtomeppgmmlaibaaCkRes
import Derived.Test.YtomeppgmmlaibaaCkAwake
import Derived.Test.YtomeppgmmlaibaaScOpen
import Derived.Test.YtomeppgmmlaibaaScSame
import Derived.Test.YtomeppgmmlaibaaCkFindsMath
import Derived.Test.YtomeppgmmlaibaaRg7
namespace Go.Proofs.Ytomeppgmmlaibaa
open Go.ChangeShapes Go.WideShapes Go.ChangeAt Go.RowKit
set_option linter.unusedVariables false
set_option linter.unusedSimpArgs false
set_option maxRecDepth 20000

def tup0 : Value → Value
  | .tuple a => a.getD 0 undef
  | _ => undef
def tup1 : Value → Value
  | .tuple a => a.getD 1 undef
  | _ => undef
set_option maxHeartbeats 16000000 in
theorem checkFinds_walk (v : Value) (s : ScS) (w : World) (hr : ScIn w v s) (hw : ScW s) :
    Calls Try.prog 7 #[v] w fun e w' => e = .returned (.bool true) ∧ Below w.heap.size w w' := by
  have HSC : Hid (ScIn w v s) := hr
  have HW : Hid (ScW s) := hw
  obtain ⟨vm0, ve0, vt0, rfl, hm, he, ht⟩ := hr
  obtain ⟨am, cm, rfl, qm1, qm2⟩ := hm.form2
  obtain ⟨ae, ce, rfl, qe1, qe2⟩ := he.form2
  obtain ⟨at', ct, rfl, qt1, qt2⟩ := ht.form2
  have HMI : Hid (MsIn w (.slice am s.msgs.length cm) s.msgs) := hm
  have HEI : Hid (EnIn w (.slice ae s.enums.length ce) s.enums) := he
  have hTl : (mtRows s.methods).length = s.methods.length := by simp [mtRows]
  rw [hTl] at ht HSC ⊢
  have HTI : Hid (RowG w (.slice at' s.methods.length ct) 3 (mtRows s.methods)) := ht
  clear hm he ht hw hTl
  obtain ⟨T, hT⟩ : ∃ N, s.methods.length = N := ⟨_, rfl⟩
  obtain ⟨nm, hnm⟩ : ∃ x, s.name = x := ⟨_, rfl⟩
  obtain ⟨M, hM⟩ : ∃ N, s.msgs.length = N := ⟨_, rfl⟩
  obtain ⟨E, hE⟩ : ∃ N, s.enums.length = N := ⟨_, rfl⟩
  rw [hnm, hM, hE, hT] at HSC ⊢
  rw [hM] at HMI
  rw [hE] at HEI
  rw [hT] at HTI
  have HTN : Hid (s.methods.length = T) := hT
  clear hT
  have HNM : Hid (s.name = nm) := hnm
  have HM : Hid (s.msgs.length = M) := hM
  have HE : Hid (s.enums.length = E) := hE
  clear hnm hM hE qm1 qe1 qt1 qm2 qe2 qt2
  have hba : Below w.heap.size w (w.alloc (.cells #[.string nm, .slice am M cm, .slice ae E ce, .slice at' T ct] 26)) := (Below.refl _ _).alloc (Nat.le_refl _) _
  have BX := Blk.new w #[.string nm, .slice am M cm, .slice ae E ce, .slice at' T ct] 26
  go_enter Try.func7, Try.ntmps7
  go_wp2_with fail
  refine (few_any (HSC.out.below hba) HW.out).mono ?_
  rintro e w1 ⟨hP, hb1⟩
  have hbw1 : Below w.heap.size w w1 := hba.trans (hb1.mono hba.size)
  rcases hP with rfl | ⟨rfl, hF⟩
  · go_wp2_with fail
    refine (awake_any _).mono ?_
    rintro e w2 ⟨rfl, hb2⟩
    go_wp2_with fail
    go_ret
    exact ⟨rfl, hbw1.trans (hb2.mono hbw1.size)⟩
  have HF : Hid (FewS s) := hF
  clear hF
  have BX1 := BX.below hb1
  have c0 := (BX1.cell 0).trans rfl
  have c1 := (BX1.cell 1).trans rfl
  have c2 := (BX1.cell 2).trans rfl
  have c3 := (BX1.cell 3).trans rfl
  go_wp2_with fail
  clear c0 c1 c2 c3 hb1 BX
  refine (schema_any (HSC.out.below hbw1) HF.out.few).mono ?_
  rintro e w2 ⟨um, ue, ut, qm, qe, rfl, hM2, hE2, hT2, hb2⟩
  have HCK : Hid (Calls Try.prog 11 #[.agg #[.string s.name, um, ue, ut]] w2 fun e w' => e = .returned (.int .i64 (checkA s)) ∧ Below w2.heap.size w2 w') := check_any ⟨_, _, _, rfl, hM2.to_in, hE2.to_in, mt_in hT2⟩ HW.out HF.out.few
  rw [HNM.out] at HCK ⊢
  have hbw2 : Below w.heap.size w w2 := hbw1.trans (hb2.mono hbw1.size)
  have BX2 := BX1.below hb2
  clear hM2 hE2 hT2 hb2 BX1 hbw1
  go_wp2_with fail
  refine HCK.out.mono ?_
  rintro e w3 ⟨rfl, hb3⟩
  have hbw3 : Below w.heap.size w w3 := hbw2.trans (hb3.mono hbw2.size)
  have BX3 := BX2.below hb3
  by_cases hok : checkA s = 0
  case neg =>
    have e1 : (checkA s == 0) = false := by simpa using hok
    go_wp2_with fail
    refine (awake_any _).mono ?_
    rintro e w4 ⟨rfl, hb4⟩
    go_wp2_with fail
    go_ret
    exact ⟨rfl, hbw3.trans (hb4.mono hbw3.size)⟩
  have HOK : Hid (OkS s) := (checkA_ok s).1 hok
  rw [hok]
  clear hok HCK hb3 BX2 hbw2
  have hM14 : M ≤ 14 := by have := HF.out.msgs; rw [HM.out] at this; exact this
  have hE10 : E ≤ 10 := by have := HF.out.enums; rw [HE.out] at this; exact this
  have hT10 : T ≤ 10 := by have := HF.out.meths; rw [HTN.out] at this; exact this
  go_wp2_with fail
  go_loopw [3] (fun iv wr => ∃ i : Nat, iv = .int .i64 (i : Int) ∧ i ≤ M ∧ Below w.heap.size w wr ∧ Blk wr w.heap.size #[.string nm, .slice am M cm, .slice ae E ce, .slice at' T ct] 26) (fun iv _ => M - (intOf iv).toNat)
  case atStart => exact ⟨0, rfl, by omega, hbw3, BX3⟩
  case round =>
    obtain ⟨i, rfl, hi, hbel, BX⟩ := hrel
    clear hbw3 BX3
    have x1 : wr.cell? ⟨w.heap.size, 1, none⟩ = some (.slice am M cm) := BX.cell 1
    by_cases hlt : i < M
    · obtain ⟨m, hm⟩ : ∃ x, s.msgs[i]? = some x := ⟨_, List.getElem?_eq_getElem (by rw [HM.out]; exact hlt)⟩
      obtain ⟨g, off, vf, vr, rfl, c0', c1', c2', hrf, hrr⟩ := HMI.out.get hm
      have HIX : Hid (s.msgs[i]? = some m) := hm
      have HMM : Hid (m ∈ s.msgs) := List.mem_of_getElem? hm
      obtain ⟨a3, c3, rfl, _, _⟩ := hrf.form2
      obtain ⟨a4, c4, rfl, _, _⟩ := hrr.form2
      have e1 : (flRows m.fields).length = m.fields.length := by simp [flRows]
      have e2 : (inRows m.reserved).length = m.reserved.length := by simp [inRows]
      rw [e1] at hrf c1'
      rw [e2] at hrr c2'
      have hfew := HF.out.eachM m HMM.out
      obtain ⟨m0, mf, mr⟩ := m
      simp only at c0' c1' c2' hrf hrr hfew
      obtain ⟨nF, hnF⟩ : ∃ x, mf.length = x := ⟨_, rfl⟩
      obtain ⟨nR, hnR⟩ : ∃ x, mr.length = x := ⟨_, rfl⟩
      rw [hnF] at c1' hrf
      rw [hnR] at c2' hrr
      have HNF : Hid (mf.length = nF) := hnF
      have HNR : Hid (mr.length = nR) := hnR
      have hnF20 : nF ≤ 20 := by rw [← hnF]; exact hfew.2.1
      have hnR40 : nR ≤ 40 := by rw [← hnR]; exact hfew.2.2.1
      have C0 : Hid (w.cell? ⟨g, off + i * 3, none⟩ = some (.string m0)) := c0'
      have C1 : Hid (w.cell? ⟨g, off + i * 3 + 1, none⟩ = some (.slice a3 nF c3)) := c1'
      have C2 : Hid (w.cell? ⟨g, off + i * 3 + 2, none⟩ = some (.slice a4 nR c4)) := c2'
      have HRF : Hid (RowG w (.slice a3 nF c3) 5 (flRows mf)) := hrf
      have HRR : Hid (RowG w (.slice a4 nR c4) 1 (inRows mr)) := hrr
      clear c0' c1' c2' hrf hrr hm e1 e2 hnF hnR hfew
      go_wp2_with fail
      clear x1
      have HCL : Hid (∀ W, Below wr.heap.size wr W → W.cell? ⟨w.heap.size, 0, none⟩ = some (.string nm) ∧ W.cell? ⟨w.heap.size, 1, none⟩ = some (.slice (some ⟨g, off, none⟩) M cm) ∧ W.cell? ⟨w.heap.size, 2, none⟩ = some (.slice ae E ce) ∧ W.cell? ⟨w.heap.size, 3, none⟩ = some (.slice at' T ct) ∧ W.cell? ⟨g, off + i * 3, none⟩ = some (.string m0)) := fun W hW => by
        have hB := BX.below hW
        have hwW : Below w.heap.size w W := hbel.trans (hW.mono hbel.size)
        exact ⟨hB.cell 0, hB.cell 1, hB.cell 2, hB.cell 3, (hwW.cell (World.block_lt_of_cell? _ _ C0.out)).trans C0.out⟩
      have HCALL : Hid (∀ W, Below wr.heap.size wr W → Calls Try.prog 13 #[.agg #[.string nm, .slice (some ⟨g, off, none⟩) M cm, .slice ae E ce, .slice at' T ct], .string m0] W fun e w' => (∃ fa fc ra rc, e = .returned (.tuple #[.agg #[.string m0, .slice fa nF fc, .slice ra nR rc], .bool true]) ∧ (w'.ownsRow wr.heap.size 52 5 (.slice fa nF fc) nF (flRows mf).flatten ∧ w'.ownsRow wr.heap.size 3 1 (.slice ra nR rc) nR (inRows mr).flatten)) ∧ Below W.heap.size W w') := fun W hW => by
        have hwW : Below w.heap.size w W := hbel.trans (hW.mono hbel.size)
        refine (cmessage_any (HMI.out.below hwW) HF.out.few.flds).mono ?_
        rintro e w' ⟨vf, vr, rfl, h1, h2, hb⟩
        have hfd := ok_findM HOK.out HIX.out
        simp only at hfd
        rw [hfd] at h1 h2 ⊢
        simp only [Option.getD_some, Option.isSome_some] at h1 h2 ⊢
        rw [HNF.out] at h1
        rw [HNR.out] at h2
        obtain ⟨fa, fc, rfl⟩ := own_form h1
        obtain ⟨ra, rc, rfl⟩ := own_form h2
        exact ⟨⟨fa, fc, ra, rc, rfl, own_base h1 hW.size, own_base h2 hW.size⟩, hb⟩
      refine wp_region_held_drew (S := fun W => Below wr.heap.size wr W) (by kernel_rfl) (below_drewN 1 (Below.refl _ _)) (fun hS => ?_)
      generalize wr.drew = Y6 at *
      refine rg_take 0 42 (.agg #[.string nm, .slice (some ⟨g, off, none⟩) M cm, .slice ae E ce, .slice at' T ct]) _ rfl rfl (by kernel_rfl) (by kernel_rfl) (by kernel_rfl) (fun _ _ _ h => h) (by rfl) (fun w' hw' => ?_) hS (listed' := #[true, false, false, false, false, false, false, false, false, false, false, false, false, false]) (by kernel_rfl) rfl ?_
      · obtain ⟨g0, g1, g2, g3, g4⟩ := HCL.out w' hw'; go_simp
      simp only [List.setIfInBounds_toArray, List.set_cons_zero, List.set_cons_succ]
      refine rg_take 1 43 (.pointer (some ⟨w.heap.size, 1, none⟩)) _ rfl rfl (by kernel_rfl) (by kernel_rfl) (by kernel_rfl) (fun _ _ _ h => h) (by rfl) (fun w' hw' => ?_) hS (listed' := #[true, true, false, false, false, false, false, false, false, false, false, false, false, false]) (by kernel_rfl) rfl ?_
      · obtain ⟨g0, g1, g2, g3, g4⟩ := HCL.out w' hw'; go_simp
      simp only [List.setIfInBounds_toArray, List.set_cons_zero, List.set_cons_succ]
      refine rg_take 3 45 (.int .i64 (i : Int)) _ rfl rfl (by kernel_rfl) (by kernel_rfl) (by kernel_rfl) (fun _ _ _ h => h) (by rfl) (fun w' hw' => ?_) hS (listed' := #[true, true, false, true, false, false, false, false, false, false, false, false, false, false]) (by kernel_rfl) rfl ?_
      · obtain ⟨g0, g1, g2, g3, g4⟩ := HCL.out w' hw'; go_simp
      simp only [List.setIfInBounds_toArray, List.set_cons_zero, List.set_cons_succ]
      refine rg_take 2 44 (.slice (some ⟨g, off, none⟩) M cm) _ rfl rfl (by kernel_rfl) (by kernel_rfl) (by kernel_rfl) (fun _ _ _ h => h) (by rfl) (fun w' hw' => ?_) hS (listed' := #[true, true, true, true, false, false, false, false, false, false, false, false, false, false]) (by kernel_rfl) rfl ?_
      · obtain ⟨g0, g1, g2, g3, g4⟩ := HCL.out w' hw'; go_simp
      simp only [List.setIfInBounds_toArray, List.set_cons_zero, List.set_cons_succ]
      refine rg_take 4 46 (.pointer (some ⟨g, off + i * 3, none⟩)) _ rfl rfl (by kernel_rfl) (by kernel_rfl) (by kernel_rfl) (fun _ _ _ h => h) (by rfl) (fun w' hw' => ?_) hS (listed' := #[true, true, true, true, true, false, false, false, false, false, false, false, false, false]) (by kernel_rfl) rfl ?_
      · obtain ⟨g0, g1, g2, g3, g4⟩ := HCL.out w' hw'; go_simp
      simp only [List.setIfInBounds_toArray, List.set_cons_zero, List.set_cons_succ]
      refine rg_take 5 47 (.pointer (some ⟨g, off + i * 3, none⟩)) _ rfl rfl (by kernel_rfl) (by kernel_rfl) (by kernel_rfl) (fun _ _ _ h => h) (by rfl) (fun w' hw' => ?_) hS (listed' := #[true, true, true, true, true, true, false, false, false, false, false, false, false, false]) (by kernel_rfl) rfl ?_
      · obtain ⟨g0, g1, g2, g3, g4⟩ := HCL.out w' hw'; go_simp
      simp only [List.setIfInBounds_toArray, List.set_cons_zero, List.set_cons_succ]
      refine rg_take 6 48 (.string m0) _ rfl rfl (by kernel_rfl) (by kernel_rfl) (by kernel_rfl) (fun _ _ _ h => h) (by rfl) (fun w' hw' => ?_) hS (listed' := #[true, true, true, true, true, true, true, false, false, false, false, false, false, false]) (by kernel_rfl) rfl ?_
      · obtain ⟨g0, g1, g2, g3, g4⟩ := HCL.out w' hw'; go_simp
      simp only [List.setIfInBounds_toArray, List.set_cons_zero, List.set_cons_succ]
      refine rg_ca3 7 11 8 9 10 49 4 41 50 51 13 #[.agg #[.string nm, .slice (some ⟨g, off, none⟩) M cm, .slice ae E ce, .slice at' T ct], .string m0] (fun W => .pointer (some ⟨W.heap.size, 0, none⟩)) (fun W => W.alloc (.cells #[.string ⟨#[]⟩, .slice none 0 0, .slice none 0 0] 35)) (fun v => v) tup0 tup1 (fun v => ∃ fa fc ra rc, v = .tuple #[.agg #[.string m0, .slice fa nF fc, .slice ra nR rc], .bool true])
        (fun v p W => ∃ fa fc ra rc b, v = .tuple #[.agg #[.string m0, .slice fa nF fc, .slice ra nR rc], .bool true] ∧ p = .pointer (some ⟨b, 0, none⟩) ∧ wr.heap.size ≤ b ∧ Blk W b #[.string ⟨#[]⟩, .slice none 0 0, .slice none 0 0] 35 ∧ W.ownsRow wr.heap.size 52 5 (.slice fa nF fc) nF (flRows mf).flatten ∧ W.ownsRow wr.heap.size 3 1 (.slice ra nR rc) nR (inRows mr).flatten)
        rfl rfl rfl rfl rfl rfl rfl rfl rfl rfl (by decide) (by decide) (by decide) (by decide) (by decide) (by decide) (by decide) (by decide) (by kernel_rfl) (by kernel_rfl) (by kernel_rfl) (by kernel_rfl) (by kernel_rfl) (by kernel_rfl) (by kernel_rfl) (by kernel_rfl) (by kernel_rfl) (by kernel_rfl) (by kernel_rfl) (by kernel_rfl) (by kernel_rfl) (by kernel_rfl) (by kernel_rfl) (by kernel_rfl)
        (fun _ => rfl) (fun _ => rfl) (fun _ => rfl) (fun _ => rfl) (fun _ => rfl) (fun d _ _ _ _ h => by cases d <;> exact h) ?xj ?xi ?xi' ?x1 ?x1' ?x2 ?x2' ?x3 ?x3' ?hA ?hB ?_
      case xj => intro a' W'; go_simp
      case xi => intro W'; go_simp
      case xi' => intro v W'; go_simp
      case x1 => rintro v W' ⟨fa, fc, ra, rc, rfl⟩; go_simp
      case x1' => rintro v p W' ⟨fa, fc, ra, rc, rfl⟩; go_simp
      case x2 => rintro v W' ⟨fa, fc, ra, rc, rfl⟩; simp only [tup0]; go_simp
      case x2' => rintro v p W' ⟨fa, fc, ra, rc, rfl⟩; simp only [tup0]; go_simp
      case x3 => rintro v W' ⟨fa, fc, ra, rc, rfl⟩; simp only [tup0, tup1]; go_simp
      case x3' => rintro v p W' ⟨fa, fc, ra, rc, rfl⟩; simp only [tup0, tup1]; go_simp
      case hA =>
        refine (HCALL.out Y6 hS).mono ?_
        rintro e w1 ⟨⟨fa, fc, ra, rc, rfl, hrw⟩, hb⟩
        have s1 : Below wr.heap.size wr w1 := hS.trans (hb.mono hS.size)
        have sa : Below w1.heap.size w1 (w1.alloc (.cells #[.string ⟨#[]⟩, .slice none 0 0, .slice none 0 0] 35)) := (Below.refl _ _).alloc (Nat.le_refl _) _
        exact ⟨_, rfl, ⟨fa, fc, ra, rc, rfl⟩, s1, s1.trans (sa.mono s1.size), fa, fc, ra, rc, w1.heap.size, rfl, rfl, s1.size, Blk.new w1 _ _, ⟨own_below hrw.1 sa, own_below hrw.2 sa⟩⟩
      case hB =>
        have s0 : Below wr.heap.size wr (Y6.alloc (.cells #[.string ⟨#[]⟩, .slice none 0 0, .slice none 0 0] 35)) := hS.alloc hS.size _
        refine ⟨s0, (HCALL.out _ s0).mono ?_⟩
        rintro e w1 ⟨⟨fa, fc, ra, rc, rfl, hrw⟩, hb⟩
        exact ⟨_, rfl, ⟨fa, fc, ra, rc, rfl⟩, s0.trans (hb.mono s0.size), fa, fc, ra, rc, Y6.heap.size, rfl, rfl, hS.size, (Blk.new Y6 _ _).below hb, hrw⟩
      rintro v p W1 _ hS ⟨fa, fc, ra, rc, bm, rfl, rfl, hbm, BM, hrw⟩
      simp only [tup0, tup1, List.setIfInBounds_toArray, List.set_cons_zero, List.set_cons_succ, List.getD_eq_getElem?_getD, Array.getD_eq_getD_getElem?, List.getElem?_toArray, List.getElem?_cons_zero, List.getElem?_cons_succ, Option.getD_some]
      have t0 := (BM.cell 0).trans rfl
      have y0 := BM.froz 0
      have t1 := (BM.cell 1).trans rfl
      have y1 := BM.froz 1
      have t2 := (BM.cell 2).trans rfl
      have y2 := BM.froz 2
      have s2 : Below wr.heap.size wr (((W1.setCell ⟨bm, 0, none⟩ (.string m0)).setCell ⟨bm, 1, none⟩ (.slice fa nF fc)).setCell ⟨bm, 2, none⟩ (.slice ra nR rc)) := (Below.setCell (Below.setCell (Below.setCell hS hbm _) hbm _) hbm _)
      refine rg_store 12 (((W1.setCell ⟨bm, 0, none⟩ (.string m0)).setCell ⟨bm, 1, none⟩ (.slice fa nF fc)).setCell ⟨bm, 2, none⟩ (.slice ra nR rc)) rfl rfl (by kernel_rfl) (by rfl) (listed' := #[true, true, true, true, true, true, true, true, true, true, true, true, true, false]) (by kernel_rfl) (by go_simp) s2 ?_
      have BM0 : Blk (W1.setCell ⟨bm, 0, none⟩ (.string m0)) bm #[.string m0, .slice none 0 0, .slice none 0 0] 35 := BM.set 0 (.string m0) rfl
      have BM1 : Blk ((W1.setCell ⟨bm, 0, none⟩ (.string m0)).setCell ⟨bm, 1, none⟩ (.slice fa nF fc)) bm #[.string m0, .slice fa nF fc, .slice none 0 0] 35 := BM0.set 1 (.slice fa nF fc) rfl
      have BM2 : Blk (((W1.setCell ⟨bm, 0, none⟩ (.string m0)).setCell ⟨bm, 1, none⟩ (.slice fa nF fc)).setCell ⟨bm, 2, none⟩ (.slice ra nR rc)) bm #[.string m0, .slice fa nF fc, .slice ra nR rc] 35 := BM1.set 2 (.slice ra nR rc) rfl
      have KS : Kp (fun k => k = bm) W1 (((W1.setCell ⟨bm, 0, none⟩ (.string m0)).setCell ⟨bm, 1, none⟩ (.slice fa nF fc)).setCell ⟨bm, 2, none⟩ (.slice ra nR rc)) := by
        refine Kp.setCell ?_ (fun _ => by simp) _
        refine Kp.setCell ?_ (fun _ => by simp) _
        refine Kp.setCell ?_ (fun _ => by simp) _
        exact Kp.refl _ _
      have hrw2 : (((W1.setCell ⟨bm, 0, none⟩ (.string m0)).setCell ⟨bm, 1, none⟩ (.slice fa nF fc)).setCell ⟨bm, 2, none⟩ (.slice ra nR rc)).ownsRow wr.heap.size 52 5 (.slice fa nF fc) nF (flRows mf).flatten ∧ (((W1.setCell ⟨bm, 0, none⟩ (.string m0)).setCell ⟨bm, 1, none⟩ (.slice fa nF fc)).setCell ⟨bm, 2, none⟩ (.slice ra nR rc)).ownsRow wr.heap.size 3 1 (.slice ra nR rc) nR (inRows mr).flatten := ⟨own_blk hrw.1 BM (by decide) KS, own_blk hrw.2 BM (by decide) KS⟩
      refine rg_take 13 5 (.bool true) _ rfl rfl (by kernel_rfl) (by kernel_rfl) (by kernel_rfl) (fun _ _ _ h => h) (by rfl) (fun w' hw' => ?_) s2 (listed' := #[true, true, true, true, true, true, true, true, true, true, true, true, true, true]) (by kernel_rfl) rfl ?_
      · go_simp
      simp only [List.setIfInBounds_toArray, List.set_cons_zero, List.set_cons_succ]
      refine wpAnyH_done (by kernel_rfl) ?_ _
      generalize (((W1.setCell ⟨bm, 0, none⟩ (.string m0)).setCell ⟨bm, 1, none⟩ (.slice fa nF fc)).setCell ⟨bm, 2, none⟩ (.slice ra nR rc)) = wa at *
      have Bbm : Blk wa bm #[.string m0, .slice fa nF fc, .slice ra nR rc] 35 := BM2
      clear KS t0 y0 BM0 t1 y1 BM1 t2 y2 BM2 BM hrw hS HCL HCALL
      have HRA : Hid (RowG wa (.slice fa nF fc) 5 (flRows mf)) := own_rowF hrw2.1
      have HRB : Hid (RowG wa (.slice ra nR rc) 1 (inRows mr)) := own_rowI hrw2.2
      have hbela : Below w.heap.size w wa := hbel.trans (s2.mono hbel.size)
      have BXa := BX.below s2
      clear hrw2 s2 hbm hbel BX
      go_wp2_with fail
      have HCL : Hid (∀ W, Below wa.heap.size wa W → W.cell? ⟨w.heap.size, 0, none⟩ = some (.string nm) ∧ W.cell? ⟨w.heap.size, 1, none⟩ = some (.slice (some ⟨g, off, none⟩) M cm) ∧ W.cell? ⟨w.heap.size, 2, none⟩ = some (.slice ae E ce) ∧ W.cell? ⟨w.heap.size, 3, none⟩ = some (.slice at' T ct) ∧ W.cell? ⟨g, off + i * 3, none⟩ = some (.string m0)) := fun W hW => by
        have hB := BXa.below hW
        have hwW : Below w.heap.size w W := hbela.trans (hW.mono hbela.size)
        exact ⟨hB.cell 0, hB.cell 1, hB.cell 2, hB.cell 3, (hwW.cell (World.block_lt_of_cell? _ _ C0.out)).trans C0.out⟩
      have HCALL : Hid (∀ W, Below wa.heap.size wa W → Calls Try.prog 15 #[.agg #[.string nm, .slice (some ⟨g, off, none⟩) M cm, .slice ae E ce, .slice at' T ct], .string m0] W fun e w' => (∃ va vc, e = .returned (.tuple #[.agg #[.string ⟨#[]⟩, .slice va 0 vc], .bool false]) ∧ True) ∧ Below W.heap.size W w') := fun W hW => by
        have hwW : Below w.heap.size w W := hbela.trans (hW.mono hbela.size)
        refine (cenumf_any (HEI.out.below hwW) HF.out.few.vals).mono ?_
        rintro e w' ⟨vv, rfl, h1, hb⟩
        have hfd := ok_findMno HOK.out HIX.out
        simp only at hfd
        rw [hfd] at h1 ⊢
        obtain ⟨fa, fc, rfl⟩ := own_form h1
        exact ⟨⟨fa, fc, rfl, trivial⟩, hb⟩
      refine wp_region_held_drew (S := fun W => Below wa.heap.size wa W) (by kernel_rfl) (below_drewN 1 (Below.refl _ _)) (fun hS => ?_)
      generalize wa.drew = Y7 at *
      refine rg_take 0 53 (.agg #[.string nm, .slice (some ⟨g, off, none⟩) M cm, .slice ae E ce, .slice at' T ct]) _ rfl rfl (by kernel_rfl) (by kernel_rfl) (by kernel_rfl) (fun _ _ _ h => h) (by rfl) (fun w' hw' => ?_) hS (listed' := #[true, false, false, false, false, false, false, false, false, false, false, false, false, false]) (by kernel_rfl) rfl ?_
      · obtain ⟨g0, g1, g2, g3, g4⟩ := HCL.out w' hw'; go_simp
      simp only [List.setIfInBounds_toArray, List.set_cons_zero, List.set_cons_succ]
      refine rg_take 1 54 (.pointer (some ⟨w.heap.size, 1, none⟩)) _ rfl rfl (by kernel_rfl) (by kernel_rfl) (by kernel_rfl) (fun _ _ _ h => h) (by rfl) (fun w' hw' => ?_) hS (listed' := #[true, true, false, false, false, false, false, false, false, false, false, false, false, false]) (by kernel_rfl) rfl ?_
      · obtain ⟨g0, g1, g2, g3, g4⟩ := HCL.out w' hw'; go_simp
      simp only [List.setIfInBounds_toArray, List.set_cons_zero, List.set_cons_succ]
      refine rg_take 3 56 (.int .i64 (i : Int)) _ rfl rfl (by kernel_rfl) (by kernel_rfl) (by kernel_rfl) (fun _ _ _ h => h) (by rfl) (fun w' hw' => ?_) hS (listed' := #[true, true, false, true, false, false, false, false, false, false, false, false, false, false]) (by kernel_rfl) rfl ?_
      · obtain ⟨g0, g1, g2, g3, g4⟩ := HCL.out w' hw'; go_simp
      simp only [List.setIfInBounds_toArray, List.set_cons_zero, List.set_cons_succ]
      refine rg_take 2 55 (.slice (some ⟨g, off, none⟩) M cm) _ rfl rfl (by kernel_rfl) (by kernel_rfl) (by kernel_rfl) (fun _ _ _ h => h) (by rfl) (fun w' hw' => ?_) hS (listed' := #[true, true, true, true, false, false, false, false, false, false, false, false, false, false]) (by kernel_rfl) rfl ?_
      · obtain ⟨g0, g1, g2, g3, g4⟩ := HCL.out w' hw'; go_simp
      simp only [List.setIfInBounds_toArray, List.set_cons_zero, List.set_cons_succ]
      refine rg_take 4 57 (.pointer (some ⟨g, off + i * 3, none⟩)) _ rfl rfl (by kernel_rfl) (by kernel_rfl) (by kernel_rfl) (fun _ _ _ h => h) (by rfl) (fun w' hw' => ?_) hS (listed' := #[true, true, true, true, true, false, false, false, false, false, false, false, false, false]) (by kernel_rfl) rfl ?_
      · obtain ⟨g0, g1, g2, g3, g4⟩ := HCL.out w' hw'; go_simp
      simp only [List.setIfInBounds_toArray, List.set_cons_zero, List.set_cons_succ]
      refine rg_take 5 58 (.pointer (some ⟨g, off + i * 3, none⟩)) _ rfl rfl (by kernel_rfl) (by kernel_rfl) (by kernel_rfl) (fun _ _ _ h => h) (by rfl) (fun w' hw' => ?_) hS (listed' := #[true, true, true, true, true, true, false, false, false, false, false, false, false, false]) (by kernel_rfl) rfl ?_
      · obtain ⟨g0, g1, g2, g3, g4⟩ := HCL.out w' hw'; go_simp
      simp only [List.setIfInBounds_toArray, List.set_cons_zero, List.set_cons_succ]
      refine rg_take 6 59 (.string m0) _ rfl rfl (by kernel_rfl) (by kernel_rfl) (by kernel_rfl) (fun _ _ _ h => h) (by rfl) (fun w' hw' => ?_) hS (listed' := #[true, true, true, true, true, true, true, false, false, false, false, false, false, false]) (by kernel_rfl) rfl ?_
      · obtain ⟨g0, g1, g2, g3, g4⟩ := HCL.out w' hw'; go_simp
      simp only [List.setIfInBounds_toArray, List.set_cons_zero, List.set_cons_succ]
      refine rg_ca3 7 11 8 9 10 60 6 52 61 62 15 #[.agg #[.string nm, .slice (some ⟨g, off, none⟩) M cm, .slice ae E ce, .slice at' T ct], .string m0] (fun W => .pointer (some ⟨W.heap.size, 0, none⟩)) (fun W => W.alloc (.cells #[.string ⟨#[]⟩, .slice none 0 0] 40)) (fun v => v) tup0 tup1 (fun v => ∃ va vc, v = .tuple #[.agg #[.string ⟨#[]⟩, .slice va 0 vc], .bool false])
        (fun v p W => ∃ va vc b, v = .tuple #[.agg #[.string ⟨#[]⟩, .slice va 0 vc], .bool false] ∧ p = .pointer (some ⟨b, 0, none⟩) ∧ wa.heap.size ≤ b ∧ Blk W b #[.string ⟨#[]⟩, .slice none 0 0] 40 ∧ True)
        rfl rfl rfl rfl rfl rfl rfl rfl rfl rfl (by decide) (by decide) (by decide) (by decide) (by decide) (by decide) (by decide) (by decide) (by kernel_rfl) (by kernel_rfl) (by kernel_rfl) (by kernel_rfl) (by kernel_rfl) (by kernel_rfl) (by kernel_rfl) (by kernel_rfl) (by kernel_rfl) (by kernel_rfl) (by kernel_rfl) (by kernel_rfl) (by kernel_rfl) (by kernel_rfl) (by kernel_rfl) (by kernel_rfl)
        (fun _ => rfl) (fun _ => rfl) (fun _ => rfl) (fun _ => rfl) (fun _ => rfl) (fun d _ _ _ _ h => by cases d <;> exact h) ?xj ?xi ?xi' ?x1 ?x1' ?x2 ?x2' ?x3 ?x3' ?hA ?hB ?_
      case xj => intro a' W'; go_simp
      case xi => intro W'; go_simp
      case xi' => intro v W'; go_simp
      case x1 => rintro v W' ⟨va, vc, rfl⟩; go_simp
      case x1' => rintro v p W' ⟨va, vc, rfl⟩; go_simp
      case x2 => rintro v W' ⟨va, vc, rfl⟩; simp only [tup0]; go_simp
      case x2' => rintro v p W' ⟨va, vc, rfl⟩; simp only [tup0]; go_simp
      case x3 => rintro v W' ⟨va, vc, rfl⟩; simp only [tup0, tup1]; go_simp
      case x3' => rintro v p W' ⟨va, vc, rfl⟩; simp only [tup0, tup1]; go_simp
      case hA =>
        refine (HCALL.out Y7 hS).mono ?_
        rintro e w1 ⟨⟨va, vc, rfl, hrw⟩, hb⟩
        have s1 : Below wa.heap.size wa w1 := hS.trans (hb.mono hS.size)
        have sa : Below w1.heap.size w1 (w1.alloc (.cells #[.string ⟨#[]⟩, .slice none 0 0] 40)) := (Below.refl _ _).alloc (Nat.le_refl _) _
        exact ⟨_, rfl, ⟨va, vc, rfl⟩, s1, s1.trans (sa.mono s1.size), va, vc, w1.heap.size, rfl, rfl, s1.size, Blk.new w1 _ _, trivial⟩
      case hB =>
        have s0 : Below wa.heap.size wa (Y7.alloc (.cells #[.string ⟨#[]⟩, .slice none 0 0] 40)) := hS.alloc hS.size _
        refine ⟨s0, (HCALL.out _ s0).mono ?_⟩
        rintro e w1 ⟨⟨va, vc, rfl, hrw⟩, hb⟩
        exact ⟨_, rfl, ⟨va, vc, rfl⟩, s0.trans (hb.mono s0.size), va, vc, Y7.heap.size, rfl, rfl, hS.size, (Blk.new Y7 _ _).below hb, trivial⟩
      rintro v p W1 _ hS ⟨va, vc, be, rfl, rfl, hbm, BM, hrw⟩
      simp only [tup0, tup1, List.setIfInBounds_toArray, List.set_cons_zero, List.set_cons_succ, List.getD_eq_getElem?_getD, Array.getD_eq_getD_getElem?, List.getElem?_toArray, List.getElem?_cons_zero, List.getElem?_cons_succ, Option.getD_some]
      have t0 := (BM.cell 0).trans rfl
      have y0 := BM.froz 0
      have t1 := (BM.cell 1).trans rfl
      have y1 := BM.froz 1
      have s2 : Below wa.heap.size wa ((W1.setCell ⟨be, 0, none⟩ (.string ⟨#[]⟩)).setCell ⟨be, 1, none⟩ (.slice va 0 vc)) := (Below.setCell (Below.setCell hS hbm _) hbm _)
      refine rg_store 12 ((W1.setCell ⟨be, 0, none⟩ (.string ⟨#[]⟩)).setCell ⟨be, 1, none⟩ (.slice va 0 vc)) rfl rfl (by kernel_rfl) (by rfl) (listed' := #[true, true, true, true, true, true, true, true, true, true, true, true, true, false]) (by kernel_rfl) (by go_simp) s2 ?_
      have BM0 : Blk (W1.setCell ⟨be, 0, none⟩ (.string ⟨#[]⟩)) be #[.string ⟨#[]⟩, .slice none 0 0] 40 := BM.set 0 (.string ⟨#[]⟩) rfl
      have BM1 : Blk ((W1.setCell ⟨be, 0, none⟩ (.string ⟨#[]⟩)).setCell ⟨be, 1, none⟩ (.slice va 0 vc)) be #[.string ⟨#[]⟩, .slice va 0 vc] 40 := BM0.set 1 (.slice va 0 vc) rfl
      have KS : Kp (fun k => k = be) W1 ((W1.setCell ⟨be, 0, none⟩ (.string ⟨#[]⟩)).setCell ⟨be, 1, none⟩ (.slice va 0 vc)) := by
        refine Kp.setCell ?_ (fun _ => by simp) _
        refine Kp.setCell ?_ (fun _ => by simp) _
        exact Kp.refl _ _
      refine rg_take 13 7 (.bool false) _ rfl rfl (by kernel_rfl) (by kernel_rfl) (by kernel_rfl) (fun _ _ _ h => h) (by rfl) (fun w' hw' => ?_) s2 (listed' := #[true, true, true, true, true, true, true, true, true, true, true, true, true, true]) (by kernel_rfl) rfl ?_
      · go_simp
      simp only [List.setIfInBounds_toArray, List.set_cons_zero, List.set_cons_succ]
      refine wpAnyH_done (by kernel_rfl) ?_ _
      generalize ((W1.setCell ⟨be, 0, none⟩ (.string ⟨#[]⟩)).setCell ⟨be, 1, none⟩ (.slice va 0 vc)) = wb at *
      have Bbe : Blk wb be #[.string ⟨#[]⟩, .slice va 0 vc] 40 := BM1
      clear KS t0 y0 BM0 t1 y1 BM1 BM hrw hS HCL HCALL
      have hbelb : Below w.heap.size w wb := hbela.trans (s2.mono hbela.size)
      have BXb := BXa.below s2
      have Bbmb := Bbm.below s2
      have HRAb : Hid (RowG wb (.slice fa nF fc) 5 (flRows mf)) := HRA.out.below s2
      have HRBb : Hid (RowG wb (.slice ra nR rc) 1 (inRows mr)) := HRB.out.below s2
      clear s2 hbela BXa Bbm Bbe hbm HRA HRB
      go_wp2_with fail
      have HS : Hid (∀ W, Below wb.heap.size wb W → Calls Try.prog 19 #[.agg #[.string m0, .slice fa nF fc, .slice ra nR rc], .agg #[.string m0, .slice a3 nF c3, .slice a4 nR c4]] W fun e W' => e = .returned (.bool true) ∧ Below wb.heap.size wb W') := fun W hW => by
        have hwW : Below w.heap.size w W := hbelb.trans (hW.mono hbelb.size)
        refine (smsgs_any (HRAb.out.below hW) (HRF.out.below hwW) (HRBb.out.below hW) (HRR.out.below hwW)).mono ?_
        rintro e W' ⟨rfl, hb⟩
        exact ⟨rfl, hW.trans (hb.mono hW.size)⟩
      have k0 : wb.cell? ⟨g, off + i * 3, none⟩ = some (.string m0) := (hbelb.cell (World.block_lt_of_cell? _ _ C0.out)).trans C0.out
      have k1 : wb.cell? ⟨g, off + i * 3 + 1, none⟩ = some (.slice a3 nF c3) := (hbelb.cell (World.block_lt_of_cell? _ _ C1.out)).trans C1.out
      have k2 : wb.cell? ⟨g, off + i * 3 + 2, none⟩ = some (.slice a4 nR c4) := (hbelb.cell (World.block_lt_of_cell? _ _ C2.out)).trans C2.out
      have j0 : wb.cell? ⟨bm, 0, none⟩ = some (.string m0) := Bbmb.cell 0
      have j1 : wb.cell? ⟨bm, 1, none⟩ = some (.slice fa nF fc) := Bbmb.cell 1
      have j2 : wb.cell? ⟨bm, 2, none⟩ = some (.slice ra nR rc) := Bbmb.cell 2
      have x1 : wb.cell? ⟨w.heap.size, 1, none⟩ = some (.slice (some ⟨g, off, none⟩) M cm) := BXb.cell 1
      have kk0 := kept_cell k0
      have kk1 := kept_cell k1
      have kk2 := kept_cell k2
      have kk3 := kept_cell j0
      have kk4 := kept_cell j1
      have kk5 := kept_cell j2
      have kk6 := kept_cell x1
      haveI := nonempty_qb (Below.refl wb.heap.size wb)
      refine wp_region_qb (Below.refl wb.heap.size wb) (by kernel_rfl) (by kernel_rfl) ?_
      repeat (go_big_quiet_step (first | (go_at_call 19; exact qb_call HS.out)))
      refine wpQuiet_nil ?_
      rintro wc ⟨⟨_, hW⟩, rfl⟩
      clear kk0 kk1 kk2 kk3 kk4 kk5 kk6
      have hbelc : Below w.heap.size w wc := hbelb.trans (hW.mono hbelb.size)
      have BXc := BXb.below hW
      have Bbmc := Bbmb.below hW
      have HRAc : Hid (RowG wc (.slice fa nF fc) 5 (flRows mf)) := HRAb.out.below hW
      have HRBc : Hid (RowG wc (.slice ra nR rc) 1 (inRows mr)) := HRBb.out.below hW
      clear k0 k1 k2 j0 j1 j2 x1 HS hW hbelb BXb Bbmb HRAb HRBb
      go_wp2_with fail
      go_loopw [8] (fun jv wr => ∃ j : Nat, jv = .int .i64 (j : Int) ∧ j ≤ nF ∧ Below wc.heap.size wc wr) (fun jv _ => nF - (intOf jv).toNat)
      case atStart => exact ⟨0, rfl, by omega, Below.refl _ _⟩
      case round =>
        obtain ⟨j, rfl, hj, hbc⟩ := hrel
        have x1 : wr.cell? ⟨bm, 1, none⟩ = some (.slice fa nF fc) := (Bbmc.below hbc).cell 1
        by_cases hltj : j < nF
        · obtain ⟨f, hf⟩ : ∃ x, mf[j]? = some x := ⟨_, List.getElem?_eq_getElem (by rw [HNF.out]; exact hltj)⟩
          obtain ⟨hfd, hmi⟩ := ok_findF HOK.out HMM.out (f := f) hf
          obtain ⟨f0, f1, f2, f3, f4⟩ := f
          have hfr : (flRows mf)[j]? = some [.string f0, .int .i64 f1, .int .i64 f2, .int .i64 f3, .string f4] := by simp [flRows, FlS.cells, hf]
          obtain ⟨gf, of, rfl, hcs⟩ := (HRAc.out.below hbc).get hfr
          have q0 : wr.cell? ⟨gf, of + j * 5, none⟩ = some (.string f0) := hcs 0 _ rfl
          have q1 : wr.cell? ⟨gf, of + j * 5 + 1, none⟩ = some (.int .i64 f1) := hcs 1 _ rfl
          have q2 : wr.cell? ⟨gf, of + j * 5 + 2, none⟩ = some (.int .i64 f2) := hcs 2 _ rfl
          have q3 : wr.cell? ⟨gf, of + j * 5 + 3, none⟩ = some (.int .i64 f3) := hcs 3 _ rfl
          have q4 : wr.cell? ⟨gf, of + j * 5 + 4, none⟩ = some (.string f4) := hcs 4 _ rfl
          have HQ0 : Hid (wr.cell? ⟨gf, of + j * 5, none⟩ = some (.string f0)) := q0
          have HQ1 : Hid (wr.cell? ⟨gf, of + j * 5 + 1, none⟩ = some (.int .i64 f1)) := q1
          have HQ2 : Hid (wr.cell? ⟨gf, of + j * 5 + 2, none⟩ = some (.int .i64 f2)) := q2
          have HQ3 : Hid (wr.cell? ⟨gf, of + j * 5 + 3, none⟩ = some (.int .i64 f3)) := q3
          have HQ4 : Hid (wr.cell? ⟨gf, of + j * 5 + 4, none⟩ = some (.string f4)) := q4
          have HFD : Hid ((mf.find? fun x => decide (x.tag = f1)) = some ⟨f0, f1, f2, f3, f4⟩) := hfd
          have HMI2 : Hid (memI f1 mr = false) := hmi
          clear hf hfd hmi hfr hcs q0 q1 q2 q3 q4
          go_wp2_with fail
          clear x1
          have HCL : Hid (∀ W, Below wr.heap.size wr W → W.cell? ⟨bm, 0, none⟩ = some (.string m0) ∧ W.cell? ⟨bm, 1, none⟩ = some (.slice (some ⟨gf, of, none⟩) nF fc) ∧ W.cell? ⟨bm, 2, none⟩ = some (.slice ra nR rc) ∧ W.cell? ⟨gf, of + j * 5 + 1, none⟩ = some (.int .i64 f1)) := fun W hW => by
            have hB := (Bbmc.below hbc).below hW
            exact ⟨hB.cell 0, hB.cell 1, hB.cell 2, (hW.cell (World.block_lt_of_cell? _ _ HQ1.out)).trans HQ1.out⟩
          have HCALL : Hid (∀ W, Below wr.heap.size wr W → Calls Try.prog 21 #[.agg #[.string m0, .slice (some ⟨gf, of, none⟩) nF fc, .slice ra nR rc], .int .i64 f1] W fun e w' => (e = .returned (.tuple #[.agg #[.string f0, .int .i64 f1, .int .i64 f2, .int .i64 f3, .string f4], .bool true]) ∧ True) ∧ Below W.heap.size W w') := fun W hW => by
            refine (cfield_any ((HRAc.out.below hbc).below hW)).mono ?_
            rintro e w' ⟨rfl, hb⟩
            rw [HFD.out]
            exact ⟨⟨rfl, trivial⟩, hb⟩
          refine wp_region_held_drew (S := fun W => Below wr.heap.size wr W) (by kernel_rfl) (below_drewN 1 (Below.refl _ _)) (fun hS => ?_)
          generalize wr.drew = Y13 at *
          refine rg_take 0 86 (.agg #[.string m0, .slice (some ⟨gf, of, none⟩) nF fc, .slice ra nR rc]) _ rfl rfl (by kernel_rfl) (by kernel_rfl) (by kernel_rfl) (fun _ _ _ h => h) (by rfl) (fun w' hw' => ?_) hS (listed' := #[true, false, false, false, false, false, false, false, false, false, false, false, false, false]) (by kernel_rfl) rfl ?_
          · obtain ⟨g0, g1, g2, g3⟩ := HCL.out w' hw'; go_simp
          simp only [List.setIfInBounds_toArray, List.set_cons_zero, List.set_cons_succ]
          refine rg_take 1 87 (.pointer (some ⟨bm, 1, none⟩)) _ rfl rfl (by kernel_rfl) (by kernel_rfl) (by kernel_rfl) (fun _ _ _ h => h) (by rfl) (fun w' hw' => ?_) hS (listed' := #[true, true, false, false, false, false, false, false, false, false, false, false, false, false]) (by kernel_rfl) rfl ?_
          · obtain ⟨g0, g1, g2, g3⟩ := HCL.out w' hw'; go_simp
          simp only [List.setIfInBounds_toArray, List.set_cons_zero, List.set_cons_succ]
          refine rg_take 3 89 (.int .i64 (j : Int)) _ rfl rfl (by kernel_rfl) (by kernel_rfl) (by kernel_rfl) (fun _ _ _ h => h) (by rfl) (fun w' hw' => ?_) hS (listed' := #[true, true, false, true, false, false, false, false, false, false, false, false, false, false]) (by kernel_rfl) rfl ?_
          · obtain ⟨g0, g1, g2, g3⟩ := HCL.out w' hw'; go_simp
          simp only [List.setIfInBounds_toArray, List.set_cons_zero, List.set_cons_succ]
          refine rg_take 2 88 (.slice (some ⟨gf, of, none⟩) nF fc) _ rfl rfl (by kernel_rfl) (by kernel_rfl) (by kernel_rfl) (fun _ _ _ h => h) (by rfl) (fun w' hw' => ?_) hS (listed' := #[true, true, true, true, false, false, false, false, false, false, false, false, false, false]) (by kernel_rfl) rfl ?_
          · obtain ⟨g0, g1, g2, g3⟩ := HCL.out w' hw'; go_simp
          simp only [List.setIfInBounds_toArray, List.set_cons_zero, List.set_cons_succ]
          refine rg_take 4 90 (.pointer (some ⟨gf, of + j * 5, none⟩)) _ rfl rfl (by kernel_rfl) (by kernel_rfl) (by kernel_rfl) (fun _ _ _ h => h) (by rfl) (fun w' hw' => ?_) hS (listed' := #[true, true, true, true, true, false, false, false, false, false, false, false, false, false]) (by kernel_rfl) rfl ?_
          · obtain ⟨g0, g1, g2, g3⟩ := HCL.out w' hw'; go_simp
          simp only [List.setIfInBounds_toArray, List.set_cons_zero, List.set_cons_succ]
          refine rg_take 5 91 (.pointer (some ⟨gf, of + j * 5 + 1, none⟩)) _ rfl rfl (by kernel_rfl) (by kernel_rfl) (by kernel_rfl) (fun _ _ _ h => h) (by rfl) (fun w' hw' => ?_) hS (listed' := #[true, true, true, true, true, true, false, false, false, false, false, false, false, false]) (by kernel_rfl) rfl ?_
          · obtain ⟨g0, g1, g2, g3⟩ := HCL.out w' hw'; go_simp
          simp only [List.setIfInBounds_toArray, List.set_cons_zero, List.set_cons_succ]
          refine rg_take 6 92 (.int .i64 f1) _ rfl rfl (by kernel_rfl) (by kernel_rfl) (by kernel_rfl) (fun _ _ _ h => h) (by rfl) (fun w' hw' => ?_) hS (listed' := #[true, true, true, true, true, true, true, false, false, false, false, false, false, false]) (by kernel_rfl) rfl ?_
          · obtain ⟨g0, g1, g2, g3⟩ := HCL.out w' hw'; go_simp
          simp only [List.setIfInBounds_toArray, List.set_cons_zero, List.set_cons_succ]
          refine rg_ca3 7 11 8 9 10 93 9 85 94 95 21 #[.agg #[.string m0, .slice (some ⟨gf, of, none⟩) nF fc, .slice ra nR rc], .int .i64 f1] (fun W => .pointer (some ⟨W.heap.size, 0, none⟩)) (fun W => W.alloc (.cells #[.string ⟨#[]⟩, .int .i64 0, .int .i64 0, .int .i64 0, .string ⟨#[]⟩] 52)) (fun v => v) tup0 tup1 (fun v => v = .tuple #[.agg #[.string f0, .int .i64 f1, .int .i64 f2, .int .i64 f3, .string f4], .bool true])
            (fun v p W => ∃ b, v = .tuple #[.agg #[.string f0, .int .i64 f1, .int .i64 f2, .int .i64 f3, .string f4], .bool true] ∧ p = .pointer (some ⟨b, 0, none⟩) ∧ wr.heap.size ≤ b ∧ Blk W b #[.string ⟨#[]⟩, .int .i64 0, .int .i64 0, .int .i64 0, .string ⟨#[]⟩] 52 ∧ True)
            rfl rfl rfl rfl rfl rfl rfl rfl rfl rfl (by decide) (by decide) (by decide) (by decide) (by decide) (by decide) (by decide) (by decide) (by kernel_rfl) (by kernel_rfl) (by kernel_rfl) (by kernel_rfl) (by kernel_rfl) (by kernel_rfl) (by kernel_rfl) (by kernel_rfl) (by kernel_rfl) (by kernel_rfl) (by kernel_rfl) (by kernel_rfl) (by kernel_rfl) (by kernel_rfl) (by kernel_rfl) (by kernel_rfl)
            (fun _ => rfl) (fun _ => rfl) (fun _ => rfl) (fun _ => rfl) (fun _ => rfl) (fun d _ _ _ _ h => by cases d <;> exact h) ?xj ?xi ?xi' ?x1 ?x1' ?x2 ?x2' ?x3 ?x3' ?hA ?hB ?_
          case xj => intro a' W'; go_simp
          case xi => intro W'; go_simp
          case xi' => intro v W'; go_simp
          case x1 => rintro v W' rfl; go_simp
          case x1' => rintro v p W' rfl; go_simp
          case x2 => rintro v W' rfl; simp only [tup0]; go_simp
          case x2' => rintro v p W' rfl; simp only [tup0]; go_simp
          case x3 => rintro v W' rfl; simp only [tup0, tup1]; go_simp
          case x3' => rintro v p W' rfl; simp only [tup0, tup1]; go_simp
          case hA =>
            refine (HCALL.out Y13 hS).mono ?_
            rintro e w1 ⟨⟨rfl, hrw⟩, hb⟩
            have s1 : Below wr.heap.size wr w1 := hS.trans (hb.mono hS.size)
            have sa : Below w1.heap.size w1 (w1.alloc (.cells #[.string ⟨#[]⟩, .int .i64 0, .int .i64 0, .int .i64 0, .string ⟨#[]⟩] 52)) := (Below.refl _ _).alloc (Nat.le_refl _) _
            exact ⟨_, rfl, rfl, s1, s1.trans (sa.mono s1.size), w1.heap.size, rfl, rfl, s1.size, Blk.new w1 _ _, trivial⟩
          case hB =>
            have s0 : Below wr.heap.size wr (Y13.alloc (.cells #[.string ⟨#[]⟩, .int .i64 0, .int .i64 0, .int .i64 0, .string ⟨#[]⟩] 52)) := hS.alloc hS.size _
            refine ⟨s0, (HCALL.out _ s0).mono ?_⟩
            rintro e w1 ⟨⟨rfl, hrw⟩, hb⟩
            exact ⟨_, rfl, rfl, s0.trans (hb.mono s0.size), Y13.heap.size, rfl, rfl, hS.size, (Blk.new Y13 _ _).below hb, trivial⟩
          rintro v p W1 _ hS ⟨bf, rfl, rfl, hbm, BM, hrw⟩
          simp only [tup0, tup1, List.setIfInBounds_toArray, List.set_cons_zero, List.set_cons_succ, List.getD_eq_getElem?_getD, Array.getD_eq_getD_getElem?, List.getElem?_toArray, List.getElem?_cons_zero, List.getElem?_cons_succ, Option.getD_some]
          have t0 := (BM.cell 0).trans rfl
          have y0 := BM.froz 0
          have t1 := (BM.cell 1).trans rfl
          have y1 := BM.froz 1
          have t2 := (BM.cell 2).trans rfl
          have y2 := BM.froz 2
          have t3 := (BM.cell 3).trans rfl
          have y3 := BM.froz 3
          have t4 := (BM.cell 4).trans rfl
          have y4 := BM.froz 4
          have s2 : Below wr.heap.size wr (((((W1.setCell ⟨bf, 0, none⟩ (.string f0)).setCell ⟨bf, 1, none⟩ (.int .i64 f1)).setCell ⟨bf, 2, none⟩ (.int .i64 f2)).setCell ⟨bf, 3, none⟩ (.int .i64 f3)).setCell ⟨bf, 4, none⟩ (.string f4)) := (Below.setCell (Below.setCell (Below.setCell (Below.setCell (Below.setCell hS hbm _) hbm _) hbm _) hbm _) hbm _)
          refine rg_store 12 (((((W1.setCell ⟨bf, 0, none⟩ (.string f0)).setCell ⟨bf, 1, none⟩ (.int .i64 f1)).setCell ⟨bf, 2, none⟩ (.int .i64 f2)).setCell ⟨bf, 3, none⟩ (.int .i64 f3)).setCell ⟨bf, 4, none⟩ (.string f4)) rfl rfl (by kernel_rfl) (by rfl) (listed' := #[true, true, true, true, true, true, true, true, true, true, true, true, true, false]) (by kernel_rfl) (by go_simp) s2 ?_
          have BM0 : Blk (W1.setCell ⟨bf, 0, none⟩ (.string f0)) bf #[.string f0, .int .i64 0, .int .i64 0, .int .i64 0, .string ⟨#[]⟩] 52 := BM.set 0 (.string f0) rfl
          have BM1 : Blk ((W1.setCell ⟨bf, 0, none⟩ (.string f0)).setCell ⟨bf, 1, none⟩ (.int .i64 f1)) bf #[.string f0, .int .i64 f1, .int .i64 0, .int .i64 0, .string ⟨#[]⟩] 52 := BM0.set 1 (.int .i64 f1) rfl
          have BM2 : Blk (((W1.setCell ⟨bf, 0, none⟩ (.string f0)).setCell ⟨bf, 1, none⟩ (.int .i64 f1)).setCell ⟨bf, 2, none⟩ (.int .i64 f2)) bf #[.string f0, .int .i64 f1, .int .i64 f2, .int .i64 0, .string ⟨#[]⟩] 52 := BM1.set 2 (.int .i64 f2) rfl
          have BM3 : Blk ((((W1.setCell ⟨bf, 0, none⟩ (.string f0)).setCell ⟨bf, 1, none⟩ (.int .i64 f1)).setCell ⟨bf, 2, none⟩ (.int .i64 f2)).setCell ⟨bf, 3, none⟩ (.int .i64 f3)) bf #[.string f0, .int .i64 f1, .int .i64 f2, .int .i64 f3, .string ⟨#[]⟩] 52 := BM2.set 3 (.int .i64 f3) rfl
          have BM4 : Blk (((((W1.setCell ⟨bf, 0, none⟩ (.string f0)).setCell ⟨bf, 1, none⟩ (.int .i64 f1)).setCell ⟨bf, 2, none⟩ (.int .i64 f2)).setCell ⟨bf, 3, none⟩ (.int .i64 f3)).setCell ⟨bf, 4, none⟩ (.string f4)) bf #[.string f0, .int .i64 f1, .int .i64 f2, .int .i64 f3, .string f4] 52 := BM3.set 4 (.string f4) rfl
          have KS : Kp (fun k => k = bf) W1 (((((W1.setCell ⟨bf, 0, none⟩ (.string f0)).setCell ⟨bf, 1, none⟩ (.int .i64 f1)).setCell ⟨bf, 2, none⟩ (.int .i64 f2)).setCell ⟨bf, 3, none⟩ (.int .i64 f3)).setCell ⟨bf, 4, none⟩ (.string f4)) := by
            refine Kp.setCell ?_ (fun _ => by simp) _
            refine Kp.setCell ?_ (fun _ => by simp) _
            refine Kp.setCell ?_ (fun _ => by simp) _
            refine Kp.setCell ?_ (fun _ => by simp) _
            refine Kp.setCell ?_ (fun _ => by simp) _
            exact Kp.refl _ _
          refine rg_take 13 10 (.bool true) _ rfl rfl (by kernel_rfl) (by kernel_rfl) (by kernel_rfl) (fun _ _ _ h => h) (by rfl) (fun w' hw' => ?_) s2 (listed' := #[true, true, true, true, true, true, true, true, true, true, true, true, true, true]) (by kernel_rfl) rfl ?_
          · go_simp
          simp only [List.setIfInBounds_toArray, List.set_cons_zero, List.set_cons_succ]
          refine wpAnyH_done (by kernel_rfl) ?_ _
          generalize (((((W1.setCell ⟨bf, 0, none⟩ (.string f0)).setCell ⟨bf, 1, none⟩ (.int .i64 f1)).setCell ⟨bf, 2, none⟩ (.int .i64 f2)).setCell ⟨bf, 3, none⟩ (.int .i64 f3)).setCell ⟨bf, 4, none⟩ (.string f4)) = wd at *
          have Bbf : Blk wd bf #[.string f0, .int .i64 f1, .int .i64 f2, .int .i64 f3, .string f4] 52 := BM4
          clear KS t0 y0 BM0 t1 y1 BM1 t2 y2 BM2 t3 y3 BM3 t4 y4 BM4 BM hrw hS HCL HCALL
          have hbd : Below wc.heap.size wc wd := hbc.trans (s2.mono hbc.size)
          have Bbmd := (Bbmc.below hbc).below s2
          have k0 : wd.cell? ⟨gf, of + j * 5, none⟩ = some (.string f0) := (s2.cell (World.block_lt_of_cell? _ _ HQ0.out)).trans HQ0.out
          have k1 : wd.cell? ⟨gf, of + j * 5 + 1, none⟩ = some (.int .i64 f1) := (s2.cell (World.block_lt_of_cell? _ _ HQ1.out)).trans HQ1.out
          have k2 : wd.cell? ⟨gf, of + j * 5 + 2, none⟩ = some (.int .i64 f2) := (s2.cell (World.block_lt_of_cell? _ _ HQ2.out)).trans HQ2.out
          have k3 : wd.cell? ⟨gf, of + j * 5 + 3, none⟩ = some (.int .i64 f3) := (s2.cell (World.block_lt_of_cell? _ _ HQ3.out)).trans HQ3.out
          have k4 : wd.cell? ⟨gf, of + j * 5 + 4, none⟩ = some (.string f4) := (s2.cell (World.block_lt_of_cell? _ _ HQ4.out)).trans HQ4.out
          have n0 : wd.cell? ⟨bf, 0, none⟩ = some (.string f0) := Bbf.cell 0
          have n1 : wd.cell? ⟨bf, 1, none⟩ = some (.int .i64 f1) := Bbf.cell 1
          have n2 : wd.cell? ⟨bf, 2, none⟩ = some (.int .i64 f2) := Bbf.cell 2
          have n3 : wd.cell? ⟨bf, 3, none⟩ = some (.int .i64 f3) := Bbf.cell 3
          have n4 : wd.cell? ⟨bf, 4, none⟩ = some (.string f4) := Bbf.cell 4
          have j0 : wd.cell? ⟨bm, 0, none⟩ = some (.string m0) := Bbmd.cell 0
          have j1 : wd.cell? ⟨bm, 1, none⟩ = some (.slice (some ⟨gf, of, none⟩) nF fc) := Bbmd.cell 1
          have j2 : wd.cell? ⟨bm, 2, none⟩ = some (.slice ra nR rc) := Bbmd.cell 2
          have HS : Hid (∀ W, Below wd.heap.size wd W → Calls Try.prog 23 #[.agg #[.string m0, .slice (some ⟨gf, of, none⟩) nF fc, .slice ra nR rc], .int .i64 f1] W fun e W' => e = .returned (.bool false) ∧ Below wd.heap.size wd W') := fun W hW => by
            refine (creserved_any f1 ((HRBc.out.below hbd).below hW)).mono ?_
            rintro e W' ⟨rfl, hb⟩
            rw [HMI2.out]
            exact ⟨rfl, hW.trans (hb.mono hW.size)⟩
          clear s2 hbc Bbmd Bbf hbm
          go_wp2_with fail
          have kk0 := kept_cell k0
          have kk1 := kept_cell k1
          have kk2 := kept_cell k2
          have kk3 := kept_cell k3
          have kk4 := kept_cell k4
          have kk5 := kept_cell n0
          have kk6 := kept_cell n1
          have kk7 := kept_cell n2
          have kk8 := kept_cell n3
          have kk9 := kept_cell n4
          have kk10 := kept_cell j0
          have kk11 := kept_cell j1
          have kk12 := kept_cell j2
          haveI := nonempty_qb (Below.refl wd.heap.size wd)
          refine wp_region_qb (Below.refl wd.heap.size wd) (by kernel_rfl) (by kernel_rfl) ?_
          repeat (go_big_quiet_step (first | (go_at_call 23; exact qb_call HS.out)))
          refine wpQuiet_nil ?_
          rintro we ⟨⟨_, hW⟩, rfl⟩
          clear kk0 kk1 kk2 kk3 kk4 kk5 kk6 kk7 kk8 kk9 kk10 kk11 kk12
          have hbn : Below wc.heap.size wc we := hbd.trans (hW.mono hbd.size)
          clear k0 k1 k2 k3 k4 n0 n1 n2 n3 n4 j0 j1 j2 HS hW hbd
          go_wp2_with fail
          go_roundw
          case rel => exact ⟨j + 1, by go_num, by omega, hbn⟩
          case measure => simp [intOf]; omega
        · go_wp2_with fail
          clear x1
          go_loopw [11] (fun jv wr => ∃ j : Nat, jv = .int .i64 (j : Int) ∧ j ≤ nR ∧ Below wc.heap.size wc wr) (fun jv _ => nR - (intOf jv).toNat)
          case atStart => exact ⟨0, rfl, by omega, hbc⟩
          case round =>
            clear hbc
            obtain ⟨q, rfl, hq, hbc⟩ := hrel
            have x1 : wr.cell? ⟨bm, 2, none⟩ = some (.slice ra nR rc) := (Bbmc.below hbc).cell 2
            by_cases hltq : q < nR
            · obtain ⟨n, hn⟩ : ∃ x, mr[q]? = some x := ⟨_, List.getElem?_eq_getElem (by rw [HNR.out]; exact hltq)⟩
              obtain ⟨hfd, hmi⟩ := ok_findR HOK.out HMM.out (n := n) hn
              have hfr : (inRows mr)[q]? = some [.int .i64 n] := by simp [inRows, hn]
              obtain ⟨gf, of, rfl, hcs⟩ := (HRBc.out.below hbc).get hfr
              have q0 : wr.cell? ⟨gf, of + q, none⟩ = some (.int .i64 n) := by have := hcs 0 _ rfl; simpa using this
              have HQ0 : Hid (wr.cell? ⟨gf, of + q, none⟩ = some (.int .i64 n)) := q0
              have HFD : Hid ((mf.find? fun x => decide (x.tag = n)) = none) := hfd
              have HMI2 : Hid (memI n mr = true) := hmi
              clear hn hfd hmi hfr hcs q0
              go_wp2_with fail
              clear x1
              have HCL : Hid (∀ W, Below wr.heap.size wr W → W.cell? ⟨bm, 0, none⟩ = some (.string m0) ∧ W.cell? ⟨bm, 1, none⟩ = some (.slice fa nF fc) ∧ W.cell? ⟨bm, 2, none⟩ = some (.slice (some ⟨gf, of, none⟩) nR rc) ∧ W.cell? ⟨gf, of + q, none⟩ = some (.int .i64 n)) := fun W hW => by
                have hB := (Bbmc.below hbc).below hW
                exact ⟨hB.cell 0, hB.cell 1, hB.cell 2, (hW.cell (World.block_lt_of_cell? _ _ HQ0.out)).trans HQ0.out⟩
              have HCALL : Hid (∀ W, Below wr.heap.size wr W → Calls Try.prog 21 #[.agg #[.string m0, .slice fa nF fc, .slice (some ⟨gf, of, none⟩) nR rc], .int .i64 n] W fun e w' => (e = .returned (.tuple #[.agg #[.string ⟨#[]⟩, .int .i64 0, .int .i64 0, .int .i64 0, .string ⟨#[]⟩], .bool false]) ∧ True) ∧ Below W.heap.size W w') := fun W hW => by
                refine (cfield_any ((HRAc.out.below hbc).below hW)).mono ?_
                rintro e w' ⟨rfl, hb⟩
                rw [HFD.out]
                exact ⟨⟨rfl, trivial⟩, hb⟩
              refine wp_region_held_drew (S := fun W => Below wr.heap.size wr W) (by kernel_rfl) (below_drewN 1 (Below.refl _ _)) (fun hS => ?_)
              generalize wr.drew = Y19 at *
              refine rg_take 0 121 (.agg #[.string m0, .slice fa nF fc, .slice (some ⟨gf, of, none⟩) nR rc]) _ rfl rfl (by kernel_rfl) (by kernel_rfl) (by kernel_rfl) (fun _ _ _ h => h) (by rfl) (fun w' hw' => ?_) hS (listed' := #[true, false, false, false, false, false, false, false, false, false, false, false, false]) (by kernel_rfl) rfl ?_
              · obtain ⟨g0, g1, g2, g3⟩ := HCL.out w' hw'; go_simp
              simp only [List.setIfInBounds_toArray, List.set_cons_zero, List.set_cons_succ]
              refine rg_take 1 122 (.pointer (some ⟨bm, 2, none⟩)) _ rfl rfl (by kernel_rfl) (by kernel_rfl) (by kernel_rfl) (fun _ _ _ h => h) (by rfl) (fun w' hw' => ?_) hS (listed' := #[true, true, false, false, false, false, false, false, false, false, false, false, false]) (by kernel_rfl) rfl ?_
              · obtain ⟨g0, g1, g2, g3⟩ := HCL.out w' hw'; go_simp
              simp only [List.setIfInBounds_toArray, List.set_cons_zero, List.set_cons_succ]
              refine rg_take 3 124 (.int .i64 (q : Int)) _ rfl rfl (by kernel_rfl) (by kernel_rfl) (by kernel_rfl) (fun _ _ _ h => h) (by rfl) (fun w' hw' => ?_) hS (listed' := #[true, true, false, true, false, false, false, false, false, false, false, false, false]) (by kernel_rfl) rfl ?_
              · obtain ⟨g0, g1, g2, g3⟩ := HCL.out w' hw'; go_simp
              simp only [List.setIfInBounds_toArray, List.set_cons_zero, List.set_cons_succ]
              refine rg_take 2 123 (.slice (some ⟨gf, of, none⟩) nR rc) _ rfl rfl (by kernel_rfl) (by kernel_rfl) (by kernel_rfl) (fun _ _ _ h => h) (by rfl) (fun w' hw' => ?_) hS (listed' := #[true, true, true, true, false, false, false, false, false, false, false, false, false]) (by kernel_rfl) rfl ?_
              · obtain ⟨g0, g1, g2, g3⟩ := HCL.out w' hw'; go_simp
              simp only [List.setIfInBounds_toArray, List.set_cons_zero, List.set_cons_succ]
              refine rg_take 4 125 (.pointer (some ⟨gf, of + q, none⟩)) _ rfl rfl (by kernel_rfl) (by kernel_rfl) (by kernel_rfl) (fun _ _ _ h => h) (by rfl) (fun w' hw' => ?_) hS (listed' := #[true, true, true, true, true, false, false, false, false, false, false, false, false]) (by kernel_rfl) rfl ?_
              · obtain ⟨g0, g1, g2, g3⟩ := HCL.out w' hw'; go_simp
              simp only [List.setIfInBounds_toArray, List.set_cons_zero, List.set_cons_succ]
              refine rg_take 5 126 (.int .i64 n) _ rfl rfl (by kernel_rfl) (by kernel_rfl) (by kernel_rfl) (fun _ _ _ h => h) (by rfl) (fun w' hw' => ?_) hS (listed' := #[true, true, true, true, true, true, false, false, false, false, false, false, false]) (by kernel_rfl) rfl ?_
              · obtain ⟨g0, g1, g2, g3⟩ := HCL.out w' hw'; go_simp
              simp only [List.setIfInBounds_toArray, List.set_cons_zero, List.set_cons_succ]
              refine rg_ca3 6 10 7 8 9 127 12 120 128 129 21 #[.agg #[.string m0, .slice fa nF fc, .slice (some ⟨gf, of, none⟩) nR rc], .int .i64 n] (fun W => .pointer (some ⟨W.heap.size, 0, none⟩)) (fun W => W.alloc (.cells #[.string ⟨#[]⟩, .int .i64 0, .int .i64 0, .int .i64 0, .string ⟨#[]⟩] 52)) (fun v => v) tup0 tup1 (fun v => v = .tuple #[.agg #[.string ⟨#[]⟩, .int .i64 0, .int .i64 0, .int .i64 0, .string ⟨#[]⟩], .bool false])
                (fun v p W => ∃ b, v = .tuple #[.agg #[.string ⟨#[]⟩, .int .i64 0, .int .i64 0, .int .i64 0, .string ⟨#[]⟩], .bool false] ∧ p = .pointer (some ⟨b, 0, none⟩) ∧ wr.heap.size ≤ b ∧ Blk W b #[.string ⟨#[]⟩, .int .i64 0, .int .i64 0, .int .i64 0, .string ⟨#[]⟩] 52 ∧ True)
                rfl rfl rfl rfl rfl rfl rfl rfl rfl rfl (by decide) (by decide) (by decide) (by decide) (by decide) (by decide) (by decide) (by decide) (by kernel_rfl) (by kernel_rfl) (by kernel_rfl) (by kernel_rfl) (by kernel_rfl) (by kernel_rfl) (by kernel_rfl) (by kernel_rfl) (by kernel_rfl) (by kernel_rfl) (by kernel_rfl) (by kernel_rfl) (by kernel_rfl) (by kernel_rfl) (by kernel_rfl) (by kernel_rfl)
                (fun _ => rfl) (fun _ => rfl) (fun _ => rfl) (fun _ => rfl) (fun _ => rfl) (fun d _ _ _ _ h => by cases d <;> exact h) ?xj ?xi ?xi' ?x1 ?x1' ?x2 ?x2' ?x3 ?x3' ?hA ?hB ?_
              case xj => intro a' W'; go_simp
              case xi => intro W'; go_simp
              case xi' => intro v W'; go_simp
              case x1 => rintro v W' rfl; go_simp
              case x1' => rintro v p W' rfl; go_simp
              case x2 => rintro v W' rfl; simp only [tup0]; go_simp
              case x2' => rintro v p W' rfl; simp only [tup0]; go_simp
              case x3 => rintro v W' rfl; simp only [tup0, tup1]; go_simp
              case x3' => rintro v p W' rfl; simp only [tup0, tup1]; go_simp
              case hA =>
                refine (HCALL.out Y19 hS).mono ?_
                rintro e w1 ⟨⟨rfl, hrw⟩, hb⟩
                have s1 : Below wr.heap.size wr w1 := hS.trans (hb.mono hS.size)
                have sa : Below w1.heap.size w1 (w1.alloc (.cells #[.string ⟨#[]⟩, .int .i64 0, .int .i64 0, .int .i64 0, .string ⟨#[]⟩] 52)) := (Below.refl _ _).alloc (Nat.le_refl _) _
                exact ⟨_, rfl, rfl, s1, s1.trans (sa.mono s1.size), w1.heap.size, rfl, rfl, s1.size, Blk.new w1 _ _, trivial⟩
              case hB =>
                have s0 : Below wr.heap.size wr (Y19.alloc (.cells #[.string ⟨#[]⟩, .int .i64 0, .int .i64 0, .int .i64 0, .string ⟨#[]⟩] 52)) := hS.alloc hS.size _
                refine ⟨s0, (HCALL.out _ s0).mono ?_⟩
                rintro e w1 ⟨⟨rfl, hrw⟩, hb⟩
                exact ⟨_, rfl, rfl, s0.trans (hb.mono s0.size), Y19.heap.size, rfl, rfl, hS.size, (Blk.new Y19 _ _).below hb, trivial⟩
              rintro v p W1 _ hS ⟨bf, rfl, rfl, hbm, BM, hrw⟩
              simp only [tup0, tup1, List.setIfInBounds_toArray, List.set_cons_zero, List.set_cons_succ, List.getD_eq_getElem?_getD, Array.getD_eq_getD_getElem?, List.getElem?_toArray, List.getElem?_cons_zero, List.getElem?_cons_succ, Option.getD_some]
              have t0 := (BM.cell 0).trans rfl
              have y0 := BM.froz 0
              have t1 := (BM.cell 1).trans rfl
              have y1 := BM.froz 1
              have t2 := (BM.cell 2).trans rfl
              have y2 := BM.froz 2
              have t3 := (BM.cell 3).trans rfl
              have y3 := BM.froz 3
              have t4 := (BM.cell 4).trans rfl
              have y4 := BM.froz 4
              have s2 : Below wr.heap.size wr (((((W1.setCell ⟨bf, 0, none⟩ (.string ⟨#[]⟩)).setCell ⟨bf, 1, none⟩ (.int .i64 0)).setCell ⟨bf, 2, none⟩ (.int .i64 0)).setCell ⟨bf, 3, none⟩ (.int .i64 0)).setCell ⟨bf, 4, none⟩ (.string ⟨#[]⟩)) := (Below.setCell (Below.setCell (Below.setCell (Below.setCell (Below.setCell hS hbm _) hbm _) hbm _) hbm _) hbm _)
              refine rg_store 11 (((((W1.setCell ⟨bf, 0, none⟩ (.string ⟨#[]⟩)).setCell ⟨bf, 1, none⟩ (.int .i64 0)).setCell ⟨bf, 2, none⟩ (.int .i64 0)).setCell ⟨bf, 3, none⟩ (.int .i64 0)).setCell ⟨bf, 4, none⟩ (.string ⟨#[]⟩)) rfl rfl (by kernel_rfl) (by rfl) (listed' := #[true, true, true, true, true, true, true, true, true, true, true, true, false]) (by kernel_rfl) (by go_simp) s2 ?_
              have BM0 : Blk (W1.setCell ⟨bf, 0, none⟩ (.string ⟨#[]⟩)) bf #[.string ⟨#[]⟩, .int .i64 0, .int .i64 0, .int .i64 0, .string ⟨#[]⟩] 52 := BM.set 0 (.string ⟨#[]⟩) rfl
              have BM1 : Blk ((W1.setCell ⟨bf, 0, none⟩ (.string ⟨#[]⟩)).setCell ⟨bf, 1, none⟩ (.int .i64 0)) bf #[.string ⟨#[]⟩, .int .i64 0, .int .i64 0, .int .i64 0, .string ⟨#[]⟩] 52 := BM0.set 1 (.int .i64 0) rfl
              have BM2 : Blk (((W1.setCell ⟨bf, 0, none⟩ (.string ⟨#[]⟩)).setCell ⟨bf, 1, none⟩ (.int .i64 0)).setCell ⟨bf, 2, none⟩ (.int .i64 0)) bf #[.string ⟨#[]⟩, .int .i64 0, .int .i64 0, .int .i64 0, .string ⟨#[]⟩] 52 := BM1.set 2 (.int .i64 0) rfl
              have BM3 : Blk ((((W1.setCell ⟨bf, 0, none⟩ (.string ⟨#[]⟩)).setCell ⟨bf, 1, none⟩ (.int .i64 0)).setCell ⟨bf, 2, none⟩ (.int .i64 0)).setCell ⟨bf, 3, none⟩ (.int .i64 0)) bf #[.string ⟨#[]⟩, .int .i64 0, .int .i64 0, .int .i64 0, .string ⟨#[]⟩] 52 := BM2.set 3 (.int .i64 0) rfl
              have BM4 : Blk (((((W1.setCell ⟨bf, 0, none⟩ (.string ⟨#[]⟩)).setCell ⟨bf, 1, none⟩ (.int .i64 0)).setCell ⟨bf, 2, none⟩ (.int .i64 0)).setCell ⟨bf, 3, none⟩ (.int .i64 0)).setCell ⟨bf, 4, none⟩ (.string ⟨#[]⟩)) bf #[.string ⟨#[]⟩, .int .i64 0, .int .i64 0, .int .i64 0, .string ⟨#[]⟩] 52 := BM3.set 4 (.string ⟨#[]⟩) rfl
              have KS : Kp (fun k => k = bf) W1 (((((W1.setCell ⟨bf, 0, none⟩ (.string ⟨#[]⟩)).setCell ⟨bf, 1, none⟩ (.int .i64 0)).setCell ⟨bf, 2, none⟩ (.int .i64 0)).setCell ⟨bf, 3, none⟩ (.int .i64 0)).setCell ⟨bf, 4, none⟩ (.string ⟨#[]⟩)) := by
                refine Kp.setCell ?_ (fun _ => by simp) _
                refine Kp.setCell ?_ (fun _ => by simp) _
                refine Kp.setCell ?_ (fun _ => by simp) _
                refine Kp.setCell ?_ (fun _ => by simp) _
                refine Kp.setCell ?_ (fun _ => by simp) _
                exact Kp.refl _ _
              refine rg_take 12 13 (.bool false) _ rfl rfl (by kernel_rfl) (by kernel_rfl) (by kernel_rfl) (fun _ _ _ h => h) (by rfl) (fun w' hw' => ?_) s2 (listed' := #[true, true, true, true, true, true, true, true, true, true, true, true, true]) (by kernel_rfl) rfl ?_
              · go_simp
              simp only [List.setIfInBounds_toArray, List.set_cons_zero, List.set_cons_succ]
              refine wpAnyH_done (by kernel_rfl) ?_ _
              generalize (((((W1.setCell ⟨bf, 0, none⟩ (.string ⟨#[]⟩)).setCell ⟨bf, 1, none⟩ (.int .i64 0)).setCell ⟨bf, 2, none⟩ (.int .i64 0)).setCell ⟨bf, 3, none⟩ (.int .i64 0)).setCell ⟨bf, 4, none⟩ (.string ⟨#[]⟩)) = wd at *
              have Bbf : Blk wd bf #[.string ⟨#[]⟩, .int .i64 0, .int .i64 0, .int .i64 0, .string ⟨#[]⟩] 52 := BM4
              clear KS t0 y0 BM0 t1 y1 BM1 t2 y2 BM2 t3 y3 BM3 t4 y4 BM4 BM hrw hS HCL HCALL
              have hbd : Below wc.heap.size wc wd := hbc.trans (s2.mono hbc.size)
              have Bbmd := (Bbmc.below hbc).below s2
              have k0 : wd.cell? ⟨gf, of + q, none⟩ = some (.int .i64 n) := (s2.cell (World.block_lt_of_cell? _ _ HQ0.out)).trans HQ0.out
              have j0 : wd.cell? ⟨bm, 0, none⟩ = some (.string m0) := Bbmd.cell 0
              have j1 : wd.cell? ⟨bm, 1, none⟩ = some (.slice fa nF fc) := Bbmd.cell 1
              have j2 : wd.cell? ⟨bm, 2, none⟩ = some (.slice (some ⟨gf, of, none⟩) nR rc) := Bbmd.cell 2
              have HS : Hid (∀ W, Below wd.heap.size wd W → Calls Try.prog 23 #[.agg #[.string m0, .slice fa nF fc, .slice (some ⟨gf, of, none⟩) nR rc], .int .i64 n] W fun e W' => e = .returned (.bool true) ∧ Below wd.heap.size wd W') := fun W hW => by
                refine (creserved_any n ((HRBc.out.below hbd).below hW)).mono ?_
                rintro e W' ⟨rfl, hb⟩
                rw [HMI2.out]
                exact ⟨rfl, hW.trans (hb.mono hW.size)⟩
              clear s2 hbc Bbmd Bbf hbm
              go_wp2_with fail
              have kk0 := kept_cell k0
              have kk1 := kept_cell j0
              have kk2 := kept_cell j1
              have kk3 := kept_cell j2
              haveI := nonempty_qb (Below.refl wd.heap.size wd)
              refine wp_region_qb (Below.refl wd.heap.size wd) (by kernel_rfl) (by kernel_rfl) ?_
              repeat (go_big_quiet_step (first | (go_at_call 23; exact qb_call HS.out)))
              refine wpQuiet_nil ?_
              rintro we ⟨⟨_, hW⟩, rfl⟩
              clear kk0 kk1 kk2 kk3
              have hbn : Below wc.heap.size wc we := hbd.trans (hW.mono hbd.size)
              clear k0 j0 j1 j2 HS hW hbd
              go_wp2_with fail
              go_roundw
              case rel => exact ⟨q + 1, by go_num, by omega, hbn⟩
              case measure => simp [intOf]; omega
            · have hbn : Below w.heap.size w wr := hbelc.trans (hbc.mono hbelc.size)
              have hbx := BXc.below hbc
              go_wp2_with fail
              go_roundw
              case rel => exact ⟨i + 1, by go_num, by omega, hbn, hbx⟩
              case measure => simp [intOf]; omega
    · go_wp2_with fail
      clear x1
      go_loopw [14] (fun iv wr => ∃ i : Nat, iv = .int .i64 (i : Int) ∧ i ≤ E ∧ Below w.heap.size w wr ∧ Blk wr w.heap.size #[.string nm, .slice am M cm, .slice ae E ce, .slice at' T ct] 26) (fun iv _ => E - (intOf iv).toNat)
      case atStart => exact ⟨0, rfl, by omega, hbel, BX⟩
      case round =>
        clear hbel BX hlt hi
        obtain ⟨i, rfl, hi, hbel, BX⟩ := hrel
        have x1 : wr.cell? ⟨w.heap.size, 2, none⟩ = some (.slice ae E ce) := BX.cell 2
        by_cases hlt : i < E
        · obtain ⟨m, hm⟩ : ∃ x, s.enums[i]? = some x := ⟨_, List.getElem?_eq_getElem (by rw [HE.out]; exact hlt)⟩
          obtain ⟨g, off, vv, rfl, c0', c1', hrv⟩ := HEI.out.get hm
          have HIX : Hid (s.enums[i]? = some m) := hm
          obtain ⟨a3, c3, rfl, _, _⟩ := hrv.form2
          have e1 : (nmRows m.values).length = m.values.length := by simp [nmRows]
          rw [e1] at hrv c1'
          obtain ⟨m0, mv⟩ := m
          simp only at c0' c1' hrv
          obtain ⟨nV, hnV⟩ : ∃ x, mv.length = x := ⟨_, rfl⟩
          rw [hnV] at c1' hrv
          have HNV : Hid (mv.length = nV) := hnV
          have C0 : Hid (w.cell? ⟨g, off + i * 2, none⟩ = some (.string m0)) := c0'
          have C1 : Hid (w.cell? ⟨g, off + i * 2 + 1, none⟩ = some (.slice a3 nV c3)) := c1'
          have HRV : Hid (RowG w (.slice a3 nV c3) 2 (nmRows mv)) := hrv
          clear c0' c1' hrv hm e1 hnV
          go_wp2_with fail
          clear x1
          have HCL : Hid (∀ W, Below wr.heap.size wr W → W.cell? ⟨w.heap.size, 0, none⟩ = some (.string nm) ∧ W.cell? ⟨w.heap.size, 1, none⟩ = some (.slice am M cm) ∧ W.cell? ⟨w.heap.size, 2, none⟩ = some (.slice (some ⟨g, off, none⟩) E ce) ∧ W.cell? ⟨w.heap.size, 3, none⟩ = some (.slice at' T ct) ∧ W.cell? ⟨g, off + i * 2, none⟩ = some (.string m0)) := fun W hW => by
            have hB := BX.below hW
            have hwW : Below w.heap.size w W := hbel.trans (hW.mono hbel.size)
            exact ⟨hB.cell 0, hB.cell 1, hB.cell 2, hB.cell 3, (hwW.cell (World.block_lt_of_cell? _ _ C0.out)).trans C0.out⟩
          have HCALL : Hid (∀ W, Below wr.heap.size wr W → Calls Try.prog 15 #[.agg #[.string nm, .slice am M cm, .slice (some ⟨g, off, none⟩) E ce, .slice at' T ct], .string m0] W fun e w' => (∃ fa fc, e = .returned (.tuple #[.agg #[.string m0, .slice fa nV fc], .bool true]) ∧ (w'.ownsRow wr.heap.size 65 2 (.slice fa nV fc) nV (nmRows mv).flatten)) ∧ Below W.heap.size W w') := fun W hW => by
            have hwW : Below w.heap.size w W := hbel.trans (hW.mono hbel.size)
            refine (cenumf_any (HEI.out.below hwW) HF.out.few.vals).mono ?_
            rintro e w' ⟨vv, rfl, h1, hb⟩
            have hfd := ok_findE HOK.out HIX.out
            simp only at hfd
            rw [hfd] at h1 ⊢
            simp only [Option.getD_some, Option.isSome_some] at h1 ⊢
            rw [HNV.out] at h1
            obtain ⟨fa, fc, rfl⟩ := own_form h1
            exact ⟨⟨fa, fc, rfl, own_base h1 hW.size⟩, hb⟩
          refine wp_region_held_drew (S := fun W => Below wr.heap.size wr W) (by kernel_rfl) (below_drewN 1 (Below.refl _ _)) (fun hS => ?_)
          generalize wr.drew = Y25 at *
          refine rg_take 0 149 (.agg #[.string nm, .slice am M cm, .slice (some ⟨g, off, none⟩) E ce, .slice at' T ct]) _ rfl rfl (by kernel_rfl) (by kernel_rfl) (by kernel_rfl) (fun _ _ _ h => h) (by rfl) (fun w' hw' => ?_) hS (listed' := #[true, false, false, false, false, false, false, false, false, false, false, false, false, false]) (by kernel_rfl) rfl ?_
          · obtain ⟨g0, g1, g2, g3, g4⟩ := HCL.out w' hw'; go_simp
          simp only [List.setIfInBounds_toArray, List.set_cons_zero, List.set_cons_succ]
          refine rg_take 1 150 (.pointer (some ⟨w.heap.size, 2, none⟩)) _ rfl rfl (by kernel_rfl) (by kernel_rfl) (by kernel_rfl) (fun _ _ _ h => h) (by rfl) (fun w' hw' => ?_) hS (listed' := #[true, true, false, false, false, false, false, false, false, false, false, false, false, false]) (by kernel_rfl) rfl ?_
          · obtain ⟨g0, g1, g2, g3, g4⟩ := HCL.out w' hw'; go_simp
          simp only [List.setIfInBounds_toArray, List.set_cons_zero, List.set_cons_succ]
          refine rg_take 3 152 (.int .i64 (i : Int)) _ rfl rfl (by kernel_rfl) (by kernel_rfl) (by kernel_rfl) (fun _ _ _ h => h) (by rfl) (fun w' hw' => ?_) hS (listed' := #[true, true, false, true, false, false, false, false, false, false, false, false, false, false]) (by kernel_rfl) rfl ?_
          · obtain ⟨g0, g1, g2, g3, g4⟩ := HCL.out w' hw'; go_simp
          simp only [List.setIfInBounds_toArray, List.set_cons_zero, List.set_cons_succ]
          refine rg_take 2 151 (.slice (some ⟨g, off, none⟩) E ce) _ rfl rfl (by kernel_rfl) (by kernel_rfl) (by kernel_rfl) (fun _ _ _ h => h) (by rfl) (fun w' hw' => ?_) hS (listed' := #[true, true, true, true, false, false, false, false, false, false, false, false, false, false]) (by kernel_rfl) rfl ?_
          · obtain ⟨g0, g1, g2, g3, g4⟩ := HCL.out w' hw'; go_simp
          simp only [List.setIfInBounds_toArray, List.set_cons_zero, List.set_cons_succ]
          refine rg_take 4 153 (.pointer (some ⟨g, off + i * 2, none⟩)) _ rfl rfl (by kernel_rfl) (by kernel_rfl) (by kernel_rfl) (fun _ _ _ h => h) (by rfl) (fun w' hw' => ?_) hS (listed' := #[true, true, true, true, true, false, false, false, false, false, false, false, false, false]) (by kernel_rfl) rfl ?_
          · obtain ⟨g0, g1, g2, g3, g4⟩ := HCL.out w' hw'; go_simp
          simp only [List.setIfInBounds_toArray, List.set_cons_zero, List.set_cons_succ]
          refine rg_take 5 154 (.pointer (some ⟨g, off + i * 2, none⟩)) _ rfl rfl (by kernel_rfl) (by kernel_rfl) (by kernel_rfl) (fun _ _ _ h => h) (by rfl) (fun w' hw' => ?_) hS (listed' := #[true, true, true, true, true, true, false, false, false, false, false, false, false, false]) (by kernel_rfl) rfl ?_
          · obtain ⟨g0, g1, g2, g3, g4⟩ := HCL.out w' hw'; go_simp
          simp only [List.setIfInBounds_toArray, List.set_cons_zero, List.set_cons_succ]
          refine rg_take 6 155 (.string m0) _ rfl rfl (by kernel_rfl) (by kernel_rfl) (by kernel_rfl) (fun _ _ _ h => h) (by rfl) (fun w' hw' => ?_) hS (listed' := #[true, true, true, true, true, true, true, false, false, false, false, false, false, false]) (by kernel_rfl) rfl ?_
          · obtain ⟨g0, g1, g2, g3, g4⟩ := HCL.out w' hw'; go_simp
          simp only [List.setIfInBounds_toArray, List.set_cons_zero, List.set_cons_succ]
          refine rg_ca3 7 11 8 9 10 156 15 148 157 158 15 #[.agg #[.string nm, .slice am M cm, .slice (some ⟨g, off, none⟩) E ce, .slice at' T ct], .string m0] (fun W => .pointer (some ⟨W.heap.size, 0, none⟩)) (fun W => W.alloc (.cells #[.string ⟨#[]⟩, .slice none 0 0] 40)) (fun v => v) tup0 tup1 (fun v => ∃ fa fc, v = .tuple #[.agg #[.string m0, .slice fa nV fc], .bool true])
            (fun v p W => ∃ fa fc b, v = .tuple #[.agg #[.string m0, .slice fa nV fc], .bool true] ∧ p = .pointer (some ⟨b, 0, none⟩) ∧ wr.heap.size ≤ b ∧ Blk W b #[.string ⟨#[]⟩, .slice none 0 0] 40 ∧ W.ownsRow wr.heap.size 65 2 (.slice fa nV fc) nV (nmRows mv).flatten)
            rfl rfl rfl rfl rfl rfl rfl rfl rfl rfl (by decide) (by decide) (by decide) (by decide) (by decide) (by decide) (by decide) (by decide) (by kernel_rfl) (by kernel_rfl) (by kernel_rfl) (by kernel_rfl) (by kernel_rfl) (by kernel_rfl) (by kernel_rfl) (by kernel_rfl) (by kernel_rfl) (by kernel_rfl) (by kernel_rfl) (by kernel_rfl) (by kernel_rfl) (by kernel_rfl) (by kernel_rfl) (by kernel_rfl)
            (fun _ => rfl) (fun _ => rfl) (fun _ => rfl) (fun _ => rfl) (fun _ => rfl) (fun d _ _ _ _ h => by cases d <;> exact h) ?xj ?xi ?xi' ?x1 ?x1' ?x2 ?x2' ?x3 ?x3' ?hA ?hB ?_
          case xj => intro a' W'; go_simp
          case xi => intro W'; go_simp
          case xi' => intro v W'; go_simp
          case x1 => rintro v W' ⟨fa, fc, rfl⟩; go_simp
          case x1' => rintro v p W' ⟨fa, fc, rfl⟩; go_simp
          case x2 => rintro v W' ⟨fa, fc, rfl⟩; simp only [tup0]; go_simp
          case x2' => rintro v p W' ⟨fa, fc, rfl⟩; simp only [tup0]; go_simp
          case x3 => rintro v W' ⟨fa, fc, rfl⟩; simp only [tup0, tup1]; go_simp
          case x3' => rintro v p W' ⟨fa, fc, rfl⟩; simp only [tup0, tup1]; go_simp
          case hA =>
            refine (HCALL.out Y25 hS).mono ?_
            rintro e w1 ⟨⟨fa, fc, rfl, hrw⟩, hb⟩
            have s1 : Below wr.heap.size wr w1 := hS.trans (hb.mono hS.size)
            have sa : Below w1.heap.size w1 (w1.alloc (.cells #[.string ⟨#[]⟩, .slice none 0 0] 40)) := (Below.refl _ _).alloc (Nat.le_refl _) _
            exact ⟨_, rfl, ⟨fa, fc, rfl⟩, s1, s1.trans (sa.mono s1.size), fa, fc, w1.heap.size, rfl, rfl, s1.size, Blk.new w1 _ _, own_below hrw sa⟩
          case hB =>
            have s0 : Below wr.heap.size wr (Y25.alloc (.cells #[.string ⟨#[]⟩, .slice none 0 0] 40)) := hS.alloc hS.size _
            refine ⟨s0, (HCALL.out _ s0).mono ?_⟩
            rintro e w1 ⟨⟨fa, fc, rfl, hrw⟩, hb⟩
            exact ⟨_, rfl, ⟨fa, fc, rfl⟩, s0.trans (hb.mono s0.size), fa, fc, Y25.heap.size, rfl, rfl, hS.size, (Blk.new Y25 _ _).below hb, hrw⟩
          rintro v p W1 _ hS ⟨fa, fc, bm, rfl, rfl, hbm, BM, hrw⟩
          simp only [tup0, tup1, List.setIfInBounds_toArray, List.set_cons_zero, List.set_cons_succ, List.getD_eq_getElem?_getD, Array.getD_eq_getD_getElem?, List.getElem?_toArray, List.getElem?_cons_zero, List.getElem?_cons_succ, Option.getD_some]
          have t0 := (BM.cell 0).trans rfl
          have y0 := BM.froz 0
          have t1 := (BM.cell 1).trans rfl
          have y1 := BM.froz 1
          have s2 : Below wr.heap.size wr ((W1.setCell ⟨bm, 0, none⟩ (.string m0)).setCell ⟨bm, 1, none⟩ (.slice fa nV fc)) := (Below.setCell (Below.setCell hS hbm _) hbm _)
          refine rg_store 12 ((W1.setCell ⟨bm, 0, none⟩ (.string m0)).setCell ⟨bm, 1, none⟩ (.slice fa nV fc)) rfl rfl (by kernel_rfl) (by rfl) (listed' := #[true, true, true, true, true, true, true, true, true, true, true, true, true, false]) (by kernel_rfl) (by go_simp) s2 ?_
          have BM0 : Blk (W1.setCell ⟨bm, 0, none⟩ (.string m0)) bm #[.string m0, .slice none 0 0] 40 := BM.set 0 (.string m0) rfl
          have BM1 : Blk ((W1.setCell ⟨bm, 0, none⟩ (.string m0)).setCell ⟨bm, 1, none⟩ (.slice fa nV fc)) bm #[.string m0, .slice fa nV fc] 40 := BM0.set 1 (.slice fa nV fc) rfl
          have KS : Kp (fun k => k = bm) W1 ((W1.setCell ⟨bm, 0, none⟩ (.string m0)).setCell ⟨bm, 1, none⟩ (.slice fa nV fc)) := by
            refine Kp.setCell ?_ (fun _ => by simp) _
            refine Kp.setCell ?_ (fun _ => by simp) _
            exact Kp.refl _ _
          have hrw2 : ((W1.setCell ⟨bm, 0, none⟩ (.string m0)).setCell ⟨bm, 1, none⟩ (.slice fa nV fc)).ownsRow wr.heap.size 65 2 (.slice fa nV fc) nV (nmRows mv).flatten := own_blk hrw BM (by decide) KS
          refine rg_take 13 16 (.bool true) _ rfl rfl (by kernel_rfl) (by kernel_rfl) (by kernel_rfl) (fun _ _ _ h => h) (by rfl) (fun w' hw' => ?_) s2 (listed' := #[true, true, true, true, true, true, true, true, true, true, true, true, true, true]) (by kernel_rfl) rfl ?_
          · go_simp
          simp only [List.setIfInBounds_toArray, List.set_cons_zero, List.set_cons_succ]
          refine wpAnyH_done (by kernel_rfl) ?_ _
          generalize ((W1.setCell ⟨bm, 0, none⟩ (.string m0)).setCell ⟨bm, 1, none⟩ (.slice fa nV fc)) = wa at *
          have Bbm : Blk wa bm #[.string m0, .slice fa nV fc] 40 := BM1
          clear KS t0 y0 BM0 t1 y1 BM1 BM hrw hS HCL HCALL
          have HRA : Hid (RowG wa (.slice fa nV fc) 2 (nmRows mv)) := own_rowN hrw2
          have hbela : Below w.heap.size w wa := hbel.trans (s2.mono hbel.size)
          have BXa := BX.below s2
          clear hrw2 s2 hbm hbel BX
          go_wp2_with fail
          have HS : Hid (∀ W, Below wa.heap.size wa W → Calls Try.prog 20 #[.agg #[.string m0, .slice fa nV fc], .agg #[.string m0, .slice a3 nV c3]] W fun e W' => e = .returned (.bool true) ∧ Below wa.heap.size wa W') := fun W hW => by
            have hwW : Below w.heap.size w W := hbela.trans (hW.mono hbela.size)
            refine (senums_any (HRA.out.below hW) (HRV.out.below hwW)).mono ?_
            rintro e W' ⟨rfl, hb⟩
            exact ⟨rfl, hW.trans (hb.mono hW.size)⟩
          have k0 : wa.cell? ⟨g, off + i * 2, none⟩ = some (.string m0) := (hbela.cell (World.block_lt_of_cell? _ _ C0.out)).trans C0.out
          have k1 : wa.cell? ⟨g, off + i * 2 + 1, none⟩ = some (.slice a3 nV c3) := (hbela.cell (World.block_lt_of_cell? _ _ C1.out)).trans C1.out
          have j0 : wa.cell? ⟨bm, 0, none⟩ = some (.string m0) := Bbm.cell 0
          have j1 : wa.cell? ⟨bm, 1, none⟩ = some (.slice fa nV fc) := Bbm.cell 1
          have x1 : wa.cell? ⟨w.heap.size, 2, none⟩ = some (.slice (some ⟨g, off, none⟩) E ce) := BXa.cell 2
          have kk0 := kept_cell k0
          have kk1 := kept_cell k1
          have kk2 := kept_cell j0
          have kk3 := kept_cell j1
          have kk4 := kept_cell x1
          haveI := nonempty_qb (Below.refl wa.heap.size wa)
          refine wp_region_qb (Below.refl wa.heap.size wa) (by kernel_rfl) (by kernel_rfl) ?_
          repeat (go_big_quiet_step (first | (go_at_call 20; exact qb_call HS.out)))
          refine wpQuiet_nil ?_
          rintro wc ⟨⟨_, hW⟩, rfl⟩
          clear kk0 kk1 kk2 kk3 kk4
          have hbn : Below w.heap.size w wc := hbela.trans (hW.mono hbela.size)
          have hbx := BXa.below hW
          clear k0 k1 j0 j1 x1 HS hW hbela BXa Bbm HRA
          go_wp2_with fail
          go_roundw
          case rel => exact ⟨i + 1, by go_num, by omega, hbn, hbx⟩
          case measure => simp [intOf]; omega
        · go_wp2_with fail
          clear x1
          go_loopw [17] (fun iv wr => ∃ i : Nat, iv = .int .i64 (i : Int) ∧ i ≤ T ∧ Below w.heap.size w wr ∧ Blk wr w.heap.size #[.string nm, .slice am M cm, .slice ae E ce, .slice at' T ct] 26) (fun iv _ => T - (intOf iv).toNat)
          case atStart => exact ⟨0, rfl, by omega, hbel, BX⟩
          case round =>
            clear hbel BX hlt hi
            obtain ⟨i, rfl, hi, hbel, BX⟩ := hrel
            have x1 : wr.cell? ⟨w.heap.size, 3, none⟩ = some (.slice at' T ct) := BX.cell 3
            by_cases hlt : i < T
            · obtain ⟨m, hm⟩ : ∃ x, s.methods[i]? = some x := ⟨_, List.getElem?_eq_getElem (by rw [HTN.out]; exact hlt)⟩
              obtain ⟨hi1, hi2⟩ := ok_in HOK.out hm
              have hfd := ok_findT HOK.out hm
              obtain ⟨m0, m1, m2⟩ := m
              simp only at hfd hi1 hi2
              have hfr : (mtRows s.methods)[i]? = some [.string m0, .string m1, .string m2] := by simp [mtRows, MtS.cells, hm]
              obtain ⟨g, off, rfl, hcs⟩ := HTI.out.get hfr
              have C0 : Hid (w.cell? ⟨g, off + i * 3, none⟩ = some (.string m0)) := hcs 0 _ rfl
              have C1 : Hid (w.cell? ⟨g, off + i * 3 + 1, none⟩ = some (.string m1)) := hcs 1 _ rfl
              have C2 : Hid (w.cell? ⟨g, off + i * 3 + 2, none⟩ = some (.string m2)) := hcs 2 _ rfl
              have HFD : Hid ((s.methods.find? fun x => decide (x.name = m0)) = some ⟨m0, m1, m2⟩) := hfd
              obtain ⟨y1, hy1⟩ := Option.isSome_iff_exists.1 hi1
              obtain ⟨y2, hy2⟩ := Option.isSome_iff_exists.1 hi2
              have HY1 : Hid ((s.msgs.find? fun x => decide (x.name = m1)) = some y1) := hy1
              have HY2 : Hid ((s.msgs.find? fun x => decide (x.name = m2)) = some y2) := hy2
              clear hm hi1 hi2 hfd hfr hcs hy1 hy2
              go_wp2_with fail
              clear x1
              have HCL : Hid (∀ W, Below wr.heap.size wr W → W.cell? ⟨w.heap.size, 0, none⟩ = some (.string nm) ∧ W.cell? ⟨w.heap.size, 1, none⟩ = some (.slice am M cm) ∧ W.cell? ⟨w.heap.size, 2, none⟩ = some (.slice ae E ce) ∧ W.cell? ⟨w.heap.size, 3, none⟩ = some (.slice (some ⟨g, off, none⟩) T ct) ∧ W.cell? ⟨g, off + i * 3, none⟩ = some (.string m0)) := fun W hW => by
                have hB := BX.below hW
                have hwW : Below w.heap.size w W := hbel.trans (hW.mono hbel.size)
                exact ⟨hB.cell 0, hB.cell 1, hB.cell 2, hB.cell 3, (hwW.cell (World.block_lt_of_cell? _ _ C0.out)).trans C0.out⟩
              have HCALL : Hid (∀ W, Below wr.heap.size wr W → Calls Try.prog 17 #[.agg #[.string nm, .slice am M cm, .slice ae E ce, .slice (some ⟨g, off, none⟩) T ct], .string m0] W fun e w' => (e = .returned (.tuple #[.agg #[.string m0, .string m1, .string m2], .bool true]) ∧ True) ∧ Below W.heap.size W w') := fun W hW => by
                have hwW : Below w.heap.size w W := hbel.trans (hW.mono hbel.size)
                refine (cmethod_any (HTI.out.below hwW)).mono ?_
                rintro e w' ⟨rfl, hb⟩
                rw [HFD.out]
                exact ⟨⟨rfl, trivial⟩, hb⟩
              refine wp_region_held_drew (S := fun W => Below wr.heap.size wr W) (by kernel_rfl) (below_drewN 1 (Below.refl _ _)) (fun hS => ?_)
              generalize wr.drew = Y31 at *
              refine rg_take 0 179 (.agg #[.string nm, .slice am M cm, .slice ae E ce, .slice (some ⟨g, off, none⟩) T ct]) _ rfl rfl (by kernel_rfl) (by kernel_rfl) (by kernel_rfl) (fun _ _ _ h => h) (by rfl) (fun w' hw' => ?_) hS (listed' := #[true, false, false, false, false, false, false, false, false, false, false, false, false, false]) (by kernel_rfl) rfl ?_
              · obtain ⟨g0, g1, g2, g3, g4⟩ := HCL.out w' hw'; go_simp
              simp only [List.setIfInBounds_toArray, List.set_cons_zero, List.set_cons_succ]
              refine rg_take 1 180 (.pointer (some ⟨w.heap.size, 3, none⟩)) _ rfl rfl (by kernel_rfl) (by kernel_rfl) (by kernel_rfl) (fun _ _ _ h => h) (by rfl) (fun w' hw' => ?_) hS (listed' := #[true, true, false, false, false, false, false, false, false, false, false, false, false, false]) (by kernel_rfl) rfl ?_
              · obtain ⟨g0, g1, g2, g3, g4⟩ := HCL.out w' hw'; go_simp
              simp only [List.setIfInBounds_toArray, List.set_cons_zero, List.set_cons_succ]
              refine rg_take 3 182 (.int .i64 (i : Int)) _ rfl rfl (by kernel_rfl) (by kernel_rfl) (by kernel_rfl) (fun _ _ _ h => h) (by rfl) (fun w' hw' => ?_) hS (listed' := #[true, true, false, true, false, false, false, false, false, false, false, false, false, false]) (by kernel_rfl) rfl ?_
              · obtain ⟨g0, g1, g2, g3, g4⟩ := HCL.out w' hw'; go_simp
              simp only [List.setIfInBounds_toArray, List.set_cons_zero, List.set_cons_succ]
              refine rg_take 2 181 (.slice (some ⟨g, off, none⟩) T ct) _ rfl rfl (by kernel_rfl) (by kernel_rfl) (by kernel_rfl) (fun _ _ _ h => h) (by rfl) (fun w' hw' => ?_) hS (listed' := #[true, true, true, true, false, false, false, false, false, false, false, false, false, false]) (by kernel_rfl) rfl ?_
              · obtain ⟨g0, g1, g2, g3, g4⟩ := HCL.out w' hw'; go_simp
              simp only [List.setIfInBounds_toArray, List.set_cons_zero, List.set_cons_succ]
              refine rg_take 4 183 (.pointer (some ⟨g, off + i * 3, none⟩)) _ rfl rfl (by kernel_rfl) (by kernel_rfl) (by kernel_rfl) (fun _ _ _ h => h) (by rfl) (fun w' hw' => ?_) hS (listed' := #[true, true, true, true, true, false, false, false, false, false, false, false, false, false]) (by kernel_rfl) rfl ?_
              · obtain ⟨g0, g1, g2, g3, g4⟩ := HCL.out w' hw'; go_simp
              simp only [List.setIfInBounds_toArray, List.set_cons_zero, List.set_cons_succ]
              refine rg_take 5 184 (.pointer (some ⟨g, off + i * 3, none⟩)) _ rfl rfl (by kernel_rfl) (by kernel_rfl) (by kernel_rfl) (fun _ _ _ h => h) (by rfl) (fun w' hw' => ?_) hS (listed' := #[true, true, true, true, true, true, false, false, false, false, false, false, false, false]) (by kernel_rfl) rfl ?_
              · obtain ⟨g0, g1, g2, g3, g4⟩ := HCL.out w' hw'; go_simp
              simp only [List.setIfInBounds_toArray, List.set_cons_zero, List.set_cons_succ]
              refine rg_take 6 185 (.string m0) _ rfl rfl (by kernel_rfl) (by kernel_rfl) (by kernel_rfl) (fun _ _ _ h => h) (by rfl) (fun w' hw' => ?_) hS (listed' := #[true, true, true, true, true, true, true, false, false, false, false, false, false, false]) (by kernel_rfl) rfl ?_
              · obtain ⟨g0, g1, g2, g3, g4⟩ := HCL.out w' hw'; go_simp
              simp only [List.setIfInBounds_toArray, List.set_cons_zero, List.set_cons_succ]
              refine rg_ca3 7 11 8 9 10 186 18 178 187 188 17 #[.agg #[.string nm, .slice am M cm, .slice ae E ce, .slice (some ⟨g, off, none⟩) T ct], .string m0] (fun W => .pointer (some ⟨W.heap.size, 0, none⟩)) (fun W => W.alloc (.cells #[.string ⟨#[]⟩, .string ⟨#[]⟩, .string ⟨#[]⟩] 44)) (fun v => v) tup0 tup1 (fun v => v = .tuple #[.agg #[.string m0, .string m1, .string m2], .bool true])
                (fun v p W => ∃ b, v = .tuple #[.agg #[.string m0, .string m1, .string m2], .bool true] ∧ p = .pointer (some ⟨b, 0, none⟩) ∧ wr.heap.size ≤ b ∧ Blk W b #[.string ⟨#[]⟩, .string ⟨#[]⟩, .string ⟨#[]⟩] 44 ∧ True)
                rfl rfl rfl rfl rfl rfl rfl rfl rfl rfl (by decide) (by decide) (by decide) (by decide) (by decide) (by decide) (by decide) (by decide) (by kernel_rfl) (by kernel_rfl) (by kernel_rfl) (by kernel_rfl) (by kernel_rfl) (by kernel_rfl) (by kernel_rfl) (by kernel_rfl) (by kernel_rfl) (by kernel_rfl) (by kernel_rfl) (by kernel_rfl) (by kernel_rfl) (by kernel_rfl) (by kernel_rfl) (by kernel_rfl)
                (fun _ => rfl) (fun _ => rfl) (fun _ => rfl) (fun _ => rfl) (fun _ => rfl) (fun d _ _ _ _ h => by cases d <;> exact h) ?xj ?xi ?xi' ?x1 ?x1' ?x2 ?x2' ?x3 ?x3' ?hA ?hB ?_
              case xj => intro a' W'; go_simp
              case xi => intro W'; go_simp
              case xi' => intro v W'; go_simp
              case x1 => rintro v W' rfl; go_simp
              case x1' => rintro v p W' rfl; go_simp
              case x2 => rintro v W' rfl; simp only [tup0]; go_simp
              case x2' => rintro v p W' rfl; simp only [tup0]; go_simp
              case x3 => rintro v W' rfl; simp only [tup0, tup1]; go_simp
              case x3' => rintro v p W' rfl; simp only [tup0, tup1]; go_simp
              case hA =>
                refine (HCALL.out Y31 hS).mono ?_
                rintro e w1 ⟨⟨rfl, hrw⟩, hb⟩
                have s1 : Below wr.heap.size wr w1 := hS.trans (hb.mono hS.size)
                have sa : Below w1.heap.size w1 (w1.alloc (.cells #[.string ⟨#[]⟩, .string ⟨#[]⟩, .string ⟨#[]⟩] 44)) := (Below.refl _ _).alloc (Nat.le_refl _) _
                exact ⟨_, rfl, rfl, s1, s1.trans (sa.mono s1.size), w1.heap.size, rfl, rfl, s1.size, Blk.new w1 _ _, trivial⟩
              case hB =>
                have s0 : Below wr.heap.size wr (Y31.alloc (.cells #[.string ⟨#[]⟩, .string ⟨#[]⟩, .string ⟨#[]⟩] 44)) := hS.alloc hS.size _
                refine ⟨s0, (HCALL.out _ s0).mono ?_⟩
                rintro e w1 ⟨⟨rfl, hrw⟩, hb⟩
                exact ⟨_, rfl, rfl, s0.trans (hb.mono s0.size), Y31.heap.size, rfl, rfl, hS.size, (Blk.new Y31 _ _).below hb, trivial⟩
              rintro v p W1 _ hS ⟨bm, rfl, rfl, hbm, BM, hrw⟩
              simp only [tup0, tup1, List.setIfInBounds_toArray, List.set_cons_zero, List.set_cons_succ, List.getD_eq_getElem?_getD, Array.getD_eq_getD_getElem?, List.getElem?_toArray, List.getElem?_cons_zero, List.getElem?_cons_succ, Option.getD_some]
              have t0 := (BM.cell 0).trans rfl
              have y0 := BM.froz 0
              have t1 := (BM.cell 1).trans rfl
              have y1 := BM.froz 1
              have t2 := (BM.cell 2).trans rfl
              have y2 := BM.froz 2
              have s2 : Below wr.heap.size wr (((W1.setCell ⟨bm, 0, none⟩ (.string m0)).setCell ⟨bm, 1, none⟩ (.string m1)).setCell ⟨bm, 2, none⟩ (.string m2)) := (Below.setCell (Below.setCell (Below.setCell hS hbm _) hbm _) hbm _)
              refine rg_store 12 (((W1.setCell ⟨bm, 0, none⟩ (.string m0)).setCell ⟨bm, 1, none⟩ (.string m1)).setCell ⟨bm, 2, none⟩ (.string m2)) rfl rfl (by kernel_rfl) (by rfl) (listed' := #[true, true, true, true, true, true, true, true, true, true, true, true, true, false]) (by kernel_rfl) (by go_simp) s2 ?_
              have BM0 : Blk (W1.setCell ⟨bm, 0, none⟩ (.string m0)) bm #[.string m0, .string ⟨#[]⟩, .string ⟨#[]⟩] 44 := BM.set 0 (.string m0) rfl
              have BM1 : Blk ((W1.setCell ⟨bm, 0, none⟩ (.string m0)).setCell ⟨bm, 1, none⟩ (.string m1)) bm #[.string m0, .string m1, .string ⟨#[]⟩] 44 := BM0.set 1 (.string m1) rfl
              have BM2 : Blk (((W1.setCell ⟨bm, 0, none⟩ (.string m0)).setCell ⟨bm, 1, none⟩ (.string m1)).setCell ⟨bm, 2, none⟩ (.string m2)) bm #[.string m0, .string m1, .string m2] 44 := BM1.set 2 (.string m2) rfl
              have KS : Kp (fun k => k = bm) W1 (((W1.setCell ⟨bm, 0, none⟩ (.string m0)).setCell ⟨bm, 1, none⟩ (.string m1)).setCell ⟨bm, 2, none⟩ (.string m2)) := by
                refine Kp.setCell ?_ (fun _ => by simp) _
                refine Kp.setCell ?_ (fun _ => by simp) _
                refine Kp.setCell ?_ (fun _ => by simp) _
                exact Kp.refl _ _
              refine rg_take 13 19 (.bool true) _ rfl rfl (by kernel_rfl) (by kernel_rfl) (by kernel_rfl) (fun _ _ _ h => h) (by rfl) (fun w' hw' => ?_) s2 (listed' := #[true, true, true, true, true, true, true, true, true, true, true, true, true, true]) (by kernel_rfl) rfl ?_
              · go_simp
              simp only [List.setIfInBounds_toArray, List.set_cons_zero, List.set_cons_succ]
              refine wpAnyH_done (by kernel_rfl) ?_ _
              generalize (((W1.setCell ⟨bm, 0, none⟩ (.string m0)).setCell ⟨bm, 1, none⟩ (.string m1)).setCell ⟨bm, 2, none⟩ (.string m2)) = wa at *
              have Bbm : Blk wa bm #[.string m0, .string m1, .string m2] 44 := BM2
              clear KS t0 y0 BM0 t1 y1 BM1 t2 y2 BM2 BM hrw hS HCL HCALL
              have hbwa : Below w.heap.size w wa := hbel.trans (s2.mono hbel.size)
              have BXwa := BX.below s2
              have Bmwa := Bbm
              clear s2 hbm hbel BX Bbm
              have b0 : (wa).cell? ⟨w.heap.size, 0, none⟩ = some (.string nm) := BXwa.cell 0
              have b1 : (wa).cell? ⟨w.heap.size, 1, none⟩ = some (.slice am M cm) := BXwa.cell 1
              have b2 : (wa).cell? ⟨w.heap.size, 2, none⟩ = some (.slice ae E ce) := BXwa.cell 2
              have b3 : (wa).cell? ⟨w.heap.size, 3, none⟩ = some (.slice (some ⟨g, off, none⟩) T ct) := BXwa.cell 3
              have b4 : (wa).cell? ⟨bm, 1, none⟩ = some (.string m1) := Bmwa.cell 1
              go_wp2_with fail
              refine (cmessage_any (HMI.out.below hbwa) HF.out.few.flds).mono ?_
              rintro e wv ⟨vf, vr, rfl, h1, h2, hb⟩
              rw [HY1.out] at h1 h2 ⊢
              simp only [Option.getD_some, Option.isSome_some] at h1 h2 ⊢
              obtain ⟨ya, yc, rfl⟩ := own_form h1
              obtain ⟨yd, ye, rfl⟩ := own_form h2
              generalize y1.name = yn at *
              generalize y1.fields.length = yF at *
              generalize y1.reserved.length = yR at *
              have ha : Below wv.heap.size wv (wv.alloc (.cells #[.string yn, .slice ya yF yc, .slice yd yR ye] 35)) := (Below.refl _ _).alloc (Nat.le_refl _) _
              have hbwv : Below w.heap.size w (wv.alloc (.cells #[.string yn, .slice ya yF yc, .slice yd yR ye] 35)) := (hbwa.trans (hb.mono hbwa.size)).trans (ha.mono (hbwa.trans (hb.mono hbwa.size)).size)
              have BXwv := (BXwa.below hb).below ha
              have Bmwv := (Bmwa.below hb).below ha
              clear b0 b1 b2 b3 b4 h1 h2 hb hbwa BXwa Bmwa ha
              have b0 : (wv.alloc (.cells #[.string yn, .slice ya yF yc, .slice yd yR ye] 35)).cell? ⟨w.heap.size, 0, none⟩ = some (.string nm) := BXwv.cell 0
              have b1 : (wv.alloc (.cells #[.string yn, .slice ya yF yc, .slice yd yR ye] 35)).cell? ⟨w.heap.size, 1, none⟩ = some (.slice am M cm) := BXwv.cell 1
              have b2 : (wv.alloc (.cells #[.string yn, .slice ya yF yc, .slice yd yR ye] 35)).cell? ⟨w.heap.size, 2, none⟩ = some (.slice ae E ce) := BXwv.cell 2
              have b3 : (wv.alloc (.cells #[.string yn, .slice ya yF yc, .slice yd yR ye] 35)).cell? ⟨w.heap.size, 3, none⟩ = some (.slice (some ⟨g, off, none⟩) T ct) := BXwv.cell 3
              have b4 : (wv.alloc (.cells #[.string yn, .slice ya yF yc, .slice yd yR ye] 35)).cell? ⟨bm, 2, none⟩ = some (.string m2) := Bmwv.cell 2
              go_wp2_with fail
              refine (cmessage_any (HMI.out.below hbwv) HF.out.few.flds).mono ?_
              rintro e wx ⟨vf, vr, rfl, h1, h2, hb⟩
              rw [HY2.out] at h1 h2 ⊢
              simp only [Option.getD_some, Option.isSome_some] at h1 h2 ⊢
              obtain ⟨za, zc, rfl⟩ := own_form h1
              obtain ⟨zd, ze, rfl⟩ := own_form h2
              generalize y2.name = zn at *
              generalize y2.fields.length = zF at *
              generalize y2.reserved.length = zR at *
              have ha : Below wx.heap.size wx (wx.alloc (.cells #[.string zn, .slice za zF zc, .slice zd zR ze] 35)) := (Below.refl _ _).alloc (Nat.le_refl _) _
              have hbwx : Below w.heap.size w (wx.alloc (.cells #[.string zn, .slice za zF zc, .slice zd zR ze] 35)) := (hbwv.trans (hb.mono hbwv.size)).trans (ha.mono (hbwv.trans (hb.mono hbwv.size)).size)
              have BXwx := (BXwv.below hb).below ha
              have Bmwx := (Bmwv.below hb).below ha
              clear b0 b1 b2 b3 b4 h1 h2 hb hbwv BXwv Bmwv ha
              go_wp2_with fail
              generalize wx.alloc (.cells #[.string zn, .slice za zF zc, .slice zd zR ze] 35) = wz at *
              have k0 : wz.cell? ⟨g, off + i * 3, none⟩ = some (.string m0) := (hbwx.cell (World.block_lt_of_cell? _ _ C0.out)).trans C0.out
              have k1 : wz.cell? ⟨g, off + i * 3 + 1, none⟩ = some (.string m1) := (hbwx.cell (World.block_lt_of_cell? _ _ C1.out)).trans C1.out
              have k2 : wz.cell? ⟨g, off + i * 3 + 2, none⟩ = some (.string m2) := (hbwx.cell (World.block_lt_of_cell? _ _ C2.out)).trans C2.out
              have j0 : wz.cell? ⟨bm, 0, none⟩ = some (.string m0) := Bmwx.cell 0
              have j1 : wz.cell? ⟨bm, 1, none⟩ = some (.string m1) := Bmwx.cell 1
              have j2 : wz.cell? ⟨bm, 2, none⟩ = some (.string m2) := Bmwx.cell 2
              have x1 : wz.cell? ⟨w.heap.size, 3, none⟩ = some (.slice (some ⟨g, off, none⟩) T ct) := BXwx.cell 3
              have kk0 := kept_cell k0
              have kk1 := kept_cell k1
              have kk2 := kept_cell k2
              have kk3 := kept_cell j0
              have kk4 := kept_cell j1
              have kk5 := kept_cell j2
              have kk6 := kept_cell x1
              haveI := nonempty_qb (Below.refl wz.heap.size wz)
              refine wp_region_qb (Below.refl wz.heap.size wz) (by kernel_rfl) (by kernel_rfl) ?_
              repeat (go_big_quiet_step (fail))
              refine wpQuiet_nil ?_
              rintro wc ⟨⟨_, hW⟩, rfl⟩
              clear kk0 kk1 kk2 kk3 kk4 kk5 kk6
              have hbn : Below w.heap.size w wc := hbwx.trans (hW.mono hbwx.size)
              have hbx := BXwx.below hW
              clear k0 k1 k2 j0 j1 j2 x1 hW hbwx BXwx Bmwx
              go_wp2_with fail
              go_roundw
              case rel => exact ⟨i + 1, by go_num, by omega, hbn, hbx⟩
              case measure => simp [intOf]; omega
            · go_wp2_with fail
              clear x1
              refine (awake_any _).mono ?_
              rintro e w6 ⟨rfl, hb6⟩
              go_wp2_with fail
              go_ret
              exact ⟨rfl, hbel.trans (hb6.mono hbel.size)⟩
end Go.Proofs.Ytomeppgmmlaibaa

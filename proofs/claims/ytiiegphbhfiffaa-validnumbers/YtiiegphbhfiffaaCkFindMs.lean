/- What Message answers. -/
import Derived.Test.YtiiegphbhfiffaaCkFindF
import Derived.Test.YtiiegphbhfiffaaCkFreshF
import Derived.Test.YtiiegphbhfiffaaRg5
namespace Go.Proofs.Ytiiegphbhfiffaa
open Go.ChangeShapes Go.WideShapes Go.ChangeAt Go.RowKit Go.Maps
set_option linter.unusedVariables false
set_option linter.unusedSimpArgs false
set_option maxRecDepth 20000

set_option maxHeartbeats 4000000 in
theorem cmessage_any {w : World} {snm nm : ByteArray} {ae at' : Option Addr} {E ce T ct : Nat} {vm : Value} {ms : List MsS} (hr : MsIn w vm ms) (hl : ∀ m ∈ ms, m.fields.length ≤ 20 ∧ m.reserved.length ≤ 40) :
    Calls Try.prog 21 #[.agg #[.string snm, vm, .slice ae E ce, .slice at' T ct], .string nm] w fun e w' => ∃ vf vr, e = .returned (.tuple #[.agg #[.string ((ms.find? (fun m => decide (m.name = nm))).getD zeroM).name, vf, vr], .bool (ms.find? (fun m => decide (m.name = nm))).isSome]) ∧ w'.ownsRow w.heap.size 49 5 vf ((ms.find? (fun m => decide (m.name = nm))).getD zeroM).fields.length (flRows ((ms.find? (fun m => decide (m.name = nm))).getD zeroM).fields).flatten ∧ w'.ownsRow w.heap.size 3 1 vr ((ms.find? (fun m => decide (m.name = nm))).getD zeroM).reserved.length (inRows ((ms.find? (fun m => decide (m.name = nm))).getD zeroM).reserved).flatten ∧ Below w.heap.size w w' := by
  obtain ⟨a, c, rfl, q1, q2⟩ := hr.form2
  have HR : Hid (MsIn w (.slice a ms.length c) ms) := hr
  obtain ⟨N, hN⟩ : ∃ N, ms.length = N := ⟨_, rfl⟩
  rw [hN] at HR q1 ⊢
  have HN : Hid (ms.length = N) := hN
  clear hN hr
  have HL : Hid (∀ m ∈ ms, m.fields.length ≤ 20 ∧ m.reserved.length ≤ 40) := hl
  clear hl
  obtain ⟨A, hA⟩ : ∃ A, (ms.find? (fun m => decide (m.name = nm))) = A := ⟨_, rfl⟩
  rw [hA]
  have HA : Hid (A = ((ms.drop 0).find? (fun m => decide (m.name = nm)))) := hA.symm
  clear hA
  have BX0 : Blk ((w.alloc (.cells #[.string snm, .slice a N c, .slice ae E ce, .slice at' T ct] 26)).alloc (.cells #[.string ⟨#[]⟩, .slice none 0 0, .slice none 0 0] 47)) w.heap.size #[.string snm, .slice a N c, .slice ae E ce, .slice at' T ct] 26 := (Blk.new w _ _).below ((Below.refl _ _).alloc (Nat.le_refl _) _)
  have BR0 : Blk ((w.alloc (.cells #[.string snm, .slice a N c, .slice ae E ce, .slice at' T ct] 26)).alloc (.cells #[.string ⟨#[]⟩, .slice none 0 0, .slice none 0 0] 47)) (w.heap.size + 1) #[.string ⟨#[]⟩, .slice none 0 0, .slice none 0 0] 47 := by
    have := Blk.new (w.alloc (.cells #[.string snm, .slice a N c, .slice ae E ce, .slice at' T ct] 26)) #[.string ⟨#[]⟩, .slice none 0 0, .slice none 0 0] 47
    rwa [show (w.alloc (.cells #[.string snm, .slice a N c, .slice ae E ce, .slice at' T ct] 26)).heap.size = w.heap.size + 1 by simp] at this
  have hb0 : Below w.heap.size w ((w.alloc (.cells #[.string snm, .slice a N c, .slice ae E ce, .slice at' T ct] 26)).alloc (.cells #[.string ⟨#[]⟩, .slice none 0 0, .slice none 0 0] 47)) := ((Below.refl _ _).alloc (Nat.le_refl _) _).alloc (by simp) _
  go_enter Try.func21, Try.ntmps21
  go_wp2_with fail
  go_loopw [11] (fun iv wr => ∃ k : Nat, iv = .int .i64 (k : Int) ∧ k ≤ N ∧ Hid (A = ((ms.drop k).find? (fun m => decide (m.name = nm)))) ∧ Below w.heap.size w wr ∧ Blk wr (w.heap.size + 1) #[.string ⟨#[]⟩, .slice none 0 0, .slice none 0 0] 47) (fun iv _ => N - (intOf iv).toNat)
  case atStart => exact ⟨0, rfl, by omega, HA, hb0, BR0⟩
  case round =>
    obtain ⟨k, rfl, hk, HAk, hbel, BR⟩ := hrel
    clear BX0 BR0 hb0
    have hlt2 : w.heap.size + 1 < wr.heap.size := BR.lt
    have r0 := (BR.cell 0).trans rfl
    have z0 := BR.froz 0
    have r1 := (BR.cell 1).trans rfl
    have z1 := BR.froz 1
    have r2 := (BR.cell 2).trans rfl
    have z2 := BR.froz 2
    by_cases hlt : k < N
    · obtain ⟨f, hf⟩ : ∃ n, ms[k]? = some n := ⟨_, List.getElem?_eq_getElem (by rw [HN.out]; exact hlt)⟩
      obtain ⟨g, off, vf, vr, rfl, c0', c1', c2', hrf, hrr⟩ := HR.out.get hf
      have c0 := (hbel.cell (World.block_lt_of_cell? _ _ c0')).trans c0'
      have c1 := (hbel.cell (World.block_lt_of_cell? _ _ c1')).trans c1'
      have c2 := (hbel.cell (World.block_lt_of_cell? _ _ c2')).trans c2'
      clear c0' c1' c2'
      have HF : Hid (RowG w vf 5 (flRows f.fields)) := hrf
      have HV : Hid (RowG w vr 1 (inRows f.reserved)) := hrr
      obtain ⟨a3, c3, rfl, _, _⟩ := hrf.form2
      obtain ⟨a4, c4, rfl, _, _⟩ := hrr.form2
      have HF : Hid (RowG w (.slice a3 (flRows f.fields).length c3) 5 (flRows f.fields)) := HF
      have HV : Hid (RowG w (.slice a4 (inRows f.reserved).length c4) 1 (inRows f.reserved)) := HV
      have HLf : Hid _ := HL.out f (List.mem_of_getElem? hf)
      have HA2 : Hid (A = if decide (f.name = nm) = true then some f else ((ms.drop (k + 1)).find? (fun m => decide (m.name = nm)))) := by
        show _ = _
        rw [HAk.out, drop_at hf, List.find?_cons]
        cases decide (f.name = nm) <;> rfl
      obtain ⟨f0, ff, fr⟩ := f
      simp only at c0 c1 c2 HA2 HF HV HLf
      generalize hnF : (flRows ff).length = nF at *
      generalize hnR : (inRows fr).length = nR at *
      clear hrf hrr hf HAk hnF hnR
      by_cases he : f0 = nm
      · subst he
        have HA3 : Hid (A = some ⟨f0, ff, fr⟩) := by show _ = _; rw [HA2.out, if_pos (by simp)]
        clear HA2
        go_wp2_with fail
        refine wp_region_held_drew (S := fun _ => True) (by kernel_rfl) trivial (fun hS => ?_)
        have hba : Below w.heap.size w (wr.alloc (.cells #[.string f0, .slice a3 nF c3, .slice a4 nR c4] 47)).drew := below_drewN 1 (hbel.alloc (by omega) _)
        have BT : Blk (wr.alloc (.cells #[.string f0, .slice a3 nF c3, .slice a4 nR c4] 47)).drew wr.heap.size #[.string f0, .slice a3 nF c3, .slice a4 nR c4] 47 := Blk.new wr #[.string f0, .slice a3 nF c3, .slice a4 nR c4] 47
        have BR2 : Blk (wr.alloc (.cells #[.string f0, .slice a3 nF c3, .slice a4 nR c4] 47)).drew (w.heap.size + 1) #[.string ⟨#[]⟩, .slice none 0 0, .slice none 0 0] 47 := BR.below (below_drewN 1 ((Below.refl _ _).alloc (Nat.le_refl _) _))
        have HSZ : Hid ((wr.alloc (.cells #[.string f0, .slice a3 nF c3, .slice a4 nR c4] 47)).drew.heap.size = wr.heap.size + 1) := by show _ = _; simp [World.drew]
        generalize (wr.alloc (.cells #[.string f0, .slice a3 nF c3, .slice a4 nR c4] 47)).drew = W0 at *
        obtain ⟨bt, hbt⟩ : ∃ n, wr.heap.size = n := ⟨_, rfl⟩
        rw [hbt] at BT HSZ hlt2 ⊢
        clear hbt c0 c1 c2 r0 r1 r2 z0 z1 z2 hS
        have t1 : W0.cell? ⟨bt, 1, none⟩ = some (.slice a3 nF c3) := BT.cell 1
        have t2 : W0.cell? ⟨bt, 2, none⟩ = some (.slice a4 nR c4) := BT.cell 2
        refine rg_take 0 19 (.pointer (some ⟨bt, 1, none⟩)) _ rfl rfl (by kernel_rfl) (by kernel_rfl) (by kernel_rfl) (fun _ _ _ h => h) (by rfl) (fun w' hw' => ?_) trivial (listed' := #[true, false, false, false, false, false, false, false, false, false]) (by kernel_rfl) rfl ?_
        · go_simp
        simp only [List.setIfInBounds_toArray, List.set_cons_zero, List.set_cons_succ]
        refine rg_take 3 22 (.pointer (some ⟨bt, 2, none⟩)) _ rfl rfl (by kernel_rfl) (by kernel_rfl) (by kernel_rfl) (fun _ _ _ h => h) (by rfl) (fun w' hw' => ?_) trivial (listed' := #[true, false, false, true, false, false, false, false, false, false]) (by kernel_rfl) rfl ?_
        · go_simp
        simp only [List.setIfInBounds_toArray, List.set_cons_zero, List.set_cons_succ]
        refine rg_llc 1 4 2 20 23 21 (.slice a3 nF c3) (.slice a4 nR c4) 36 #[.slice a3 nF c3] (fun W => W.cell? ⟨bt, 2, none⟩ = some (.slice a4 nR c4)) rfl rfl rfl rfl rfl rfl (by kernel_rfl) (by kernel_rfl) (by kernel_rfl) (by kernel_rfl) (by kernel_rfl) (fun _ => rfl) (fun _ => rfl) (fun _ => rfl) (by decide) (by decide) (by decide) (by decide) (by go_simp) (by go_simp) (by go_simp) (by go_simp) (fun v W hLD => by go_simp) (fun W => by go_simp) (fun W => by go_simp) ?_
        refine (freshF_any (HF.out.below hba) (by have := HLf.out; omega)).mono ?_
        rintro e w2 ⟨rv, rfl, ho, hb2⟩
        have BT2 := BT.below hb2
        have BR3 := BR2.below hb2
        have hbw2 : Below w.heap.size w w2 := hba.trans (hb2.mono hba.size)
        refine ⟨_, rfl, BT2.cell 2, ?_⟩
        simp only [List.setIfInBounds_toArray, List.set_cons_zero, List.set_cons_succ]
        clear t1 t2
        refine rg_take 6 25 (.pointer (some ⟨bt, 1, none⟩)) _ rfl rfl (by kernel_rfl) (by kernel_rfl) (by kernel_rfl) (fun _ _ _ h => h) (by rfl) (fun w' hw' => ?_) trivial (listed' := #[true, true, true, true, true, false, true, false, false, false]) (by kernel_rfl) rfl ?_
        · go_simp
        simp only [List.setIfInBounds_toArray, List.set_cons_zero, List.set_cons_succ]
        refine rg_call 5 24 37 #[.slice a4 nR c4] rfl rfl (by kernel_rfl) (by rfl) (listed' := #[true, true, true, true, true, true, true, false, false, false]) (by kernel_rfl) (fun W => by go_simp) ?_
        refine (freshI_any (HV.out.below hbw2) (by have := HLf.out; omega)).mono ?_
        rintro e w3 ⟨rw, rfl, ho2, hb3⟩
        refine ⟨_, rfl, trivial, ?_⟩
        simp only [List.setIfInBounds_toArray, List.set_cons_zero, List.set_cons_succ]
        have BT3 := BT2.below hb3
        have BR4 := BR3.below hb3
        have hbw : Below w.heap.size w w3 := hbw2.trans (hb3.mono hbw2.size)
        have HO1 : Hid (w3.ownsRow (bt + 1) 49 5 rv ff.length (flRows ff).flatten) := by show World.ownsRow _ _ _ _ _ _ _; rw [HSZ.out] at ho; exact own_below ho hb3
        have HO2 : Hid (w3.ownsRow (bt + 1) 3 1 rw fr.length (inRows fr).flatten) := own_base ho2 (by have := hb2.size; have := HSZ.out; omega)
        obtain ⟨ra, rc, hrv⟩ := own_form ho
        obtain ⟨qa, qc, hqv⟩ := own_form ho2
        subst hrv hqv
        have HO1 : Hid (w3.ownsRow (bt + 1) 49 5 (.slice ra ff.length rc) ff.length (flRows ff).flatten) := HO1
        have HO2 : Hid (w3.ownsRow (bt + 1) 3 1 (.slice qa fr.length qc) fr.length (inRows fr).flatten) := HO2
        obtain ⟨nFF, hNL⟩ : ∃ x, ff.length = x := ⟨_, rfl⟩
        obtain ⟨nRR, hRL⟩ : ∃ x, fr.length = x := ⟨_, rfl⟩
        rw [hNL] at HO1 ⊢
        rw [hRL] at HO2 ⊢
        have HNL : Hid (ff.length = nFF) := hNL
        have HRL : Hid (fr.length = nRR) := hRL
        clear hNL hRL
        have hlt3 : bt < w3.heap.size := BT3.lt
        clear ho ho2 hb2 hb3 BT BT2 BR2 BR3 hba hbw2 hbel HSZ BR
        have t0 : w3.cell? ⟨bt, 0, none⟩ = some (.string f0) := BT3.cell 0
        have t1 : w3.cell? ⟨bt, 1, none⟩ = some (.slice a3 nF c3) := BT3.cell 1
        have t2 : w3.cell? ⟨bt, 2, none⟩ = some (.slice a4 nR c4) := BT3.cell 2
        have y1 := BT3.froz 1
        have y2 := BT3.froz 2
        have r0 := (BR4.cell 0).trans rfl
        have r1 := (BR4.cell 1).trans rfl
        have r2 := (BR4.cell 2).trans rfl
        have z0 := BR4.froz 0
        have z1 := BR4.froz 1
        have z2 := BR4.froz 2
        have hdd : w.heap.size + 1 ≠ bt := by omega
        refine rg_store 7 (w3.setCell ⟨bt, 1, none⟩ (.slice ra nFF rc)) rfl rfl (by kernel_rfl) (by rfl) (listed' := #[true, true, true, true, true, true, true, true, false, false]) (by kernel_rfl) (by go_simp) trivial ?_
        refine rg_take 8 26 (.pointer (some ⟨bt, 2, none⟩)) _ rfl rfl (by kernel_rfl) (by kernel_rfl) (by kernel_rfl) (fun _ _ _ h => h) (by rfl) (fun w' hw' => ?_) trivial (listed' := #[true, true, true, true, true, true, true, true, true, false]) (by kernel_rfl) rfl ?_
        · go_simp
        simp only [List.setIfInBounds_toArray, List.set_cons_zero, List.set_cons_succ]
        refine rg_store 9 ((w3.setCell ⟨bt, 1, none⟩ (.slice ra nFF rc)).setCell ⟨bt, 2, none⟩ (.slice qa nRR qc)) rfl rfl (by kernel_rfl) (by rfl) (listed' := #[true, true, true, true, true, true, true, true, true, true]) (by kernel_rfl) (by go_simp) trivial ?_
        refine wpAnyH_done (by kernel_rfl) ?_ _
        go_wp2_with fail
        refine bodyPost_ret (results_two rfl _ _ _ ⟨w.heap.size + 1, 0, none⟩ (.agg #[.string f0, .slice ra nFF rc, .slice qa nRR qc]) (by go_simp) (by go_simp)) rfl ?_
        refine ⟨.slice ra nFF rc, .slice qa nRR qc, ret_two (by rw [HA3.out]; rfl) (by rw [HA3.out]; rfl), ?_, ?_, ?_⟩
        · rw [HA3.out]
          rw [show ((some (⟨f0, ff, fr⟩ : MsS)).getD zeroM).fields.length = nFF from HNL.out]
          refine own_base (own_kp HO1.out (S := fun k => k = bt ∨ k = w.heap.size + 1) ?_ (fun k hk => by omega)) (by omega)
          repeat' first | exact Kp.refl _ _ | refine Kp.setCell ?_ (fun _ => by simp) _
        · rw [HA3.out]
          rw [show ((some (⟨f0, ff, fr⟩ : MsS)).getD zeroM).reserved.length = nRR from HRL.out]
          refine own_base (own_kp HO2.out (S := fun k => k = bt ∨ k = w.heap.size + 1) ?_ (fun k hk => by omega)) (by omega)
          repeat' first | exact Kp.refl _ _ | refine Kp.setCell ?_ (fun _ => by simp) _
        · repeat' first | exact hbw | refine Below.setCell ?_ (by first | (simp; done) | (simp; omega)) _
      · have hq := bytes_ne he
        have HA3 : Hid (A = ((ms.drop (k + 1)).find? (fun m => decide (m.name = nm)))) := by show _ = _; rw [HA2.out, if_neg (by simpa using he)]
        have hb2 : Below w.heap.size w (wr.alloc (.cells #[.string f0, .slice a3 nF c3, .slice a4 nR c4] 47)) := hbel.alloc (by omega) _
        have BR2 : Blk (wr.alloc (.cells #[.string f0, .slice a3 nF c3, .slice a4 nR c4] 47)) (w.heap.size + 1) #[.string ⟨#[]⟩, .slice none 0 0, .slice none 0 0] 47 := BR.below ((Below.refl _ _).alloc (Nat.le_refl _) _)
        go_wp2_with fail
        go_roundw
        case rel => exact ⟨k + 1, by go_num, by omega, HA3, hb2, BR2⟩
        case measure => simp [intOf]; omega
    · have HA2 : Hid (A = none) := by show _ = _; rw [HAk.out, drop_end (by rw [HN.out]; omega)]; rfl
      go_wp2_with fail
      refine bodyPost_ret (results_two rfl _ _ _ ⟨w.heap.size + 1, 0, none⟩ (.agg #[.string ⟨#[]⟩, .slice none 0 0, .slice none 0 0]) (by go_simp) (by go_simp)) rfl ?_
      exact ⟨.slice none 0 0, .slice none 0 0, ret_two (by rw [HA2.out]; rfl) (by rw [HA2.out]; rfl), by rw [HA2.out]; exact World.ownsRow_nil _ _ _ _, by rw [HA2.out]; exact World.ownsRow_nil _ _ _ _, (Below.setCell (Below.setCell (Below.setCell hbel (by simp) _) (by simp) _) (by simp) _)⟩
end Go.Proofs.Ytiiegphbhfiffaa

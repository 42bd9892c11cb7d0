/- What the reference's Message and Enum answer. -/
import Derived.Test.YtomeppgmmlaibaaCkFind
namespace Go.Proofs.Ytomeppgmmlaibaa
open Go.ChangeShapes Go.WideShapes Go.ChangeAt Go.RowKit Go.Maps
set_option linter.unusedVariables false
set_option linter.unusedSimpArgs false
set_option maxRecDepth 20000

set_option maxHeartbeats 4000000 in
theorem rmessage_any {w : World} {snm nm : ByteArray} {ae at' : Option Addr} {E ce T ct : Nat} {vm : Value} {ms : List MsS} (hr : MsIn w vm ms)  :
    Calls Try.prog 14 #[.agg #[.string snm, vm, .slice ae E ce, .slice at' T ct], .string nm] w fun e w' => ∃ vf vr, e = .returned (.tuple #[.agg #[.string ((ms.find? (fun m => decide (m.name = nm))).getD zeroM).name, vf, vr], .bool (ms.find? (fun m => decide (m.name = nm))).isSome]) ∧ RowG w' vf 5 (flRows ((ms.find? (fun m => decide (m.name = nm))).getD zeroM).fields) ∧ RowG w' vr 1 (inRows ((ms.find? (fun m => decide (m.name = nm))).getD zeroM).reserved) ∧ Below w.heap.size w w' := by
  obtain ⟨a, c, rfl, q1, q2⟩ := hr.form2
  have HR : Hid (MsIn w (.slice a ms.length c) ms) := hr
  obtain ⟨N, hN⟩ : ∃ N, ms.length = N := ⟨_, rfl⟩
  rw [hN] at HR q1 ⊢
  have HN : Hid (ms.length = N) := hN
  clear hN hr
  obtain ⟨A, hA⟩ : ∃ A, (ms.find? (fun m => decide (m.name = nm))) = A := ⟨_, rfl⟩
  rw [hA]
  have HA : Hid (A = ((ms.drop 0).find? (fun m => decide (m.name = nm)))) := hA.symm
  clear hA
  have BX0 : Blk ((w.alloc (.cells #[.string snm, .slice a N c, .slice ae E ce, .slice at' T ct] 26)).alloc (.cells #[.string ⟨#[]⟩, .slice none 0 0, .slice none 0 0] 35)) w.heap.size #[.string snm, .slice a N c, .slice ae E ce, .slice at' T ct] 26 := (Blk.new w _ _).below ((Below.refl _ _).alloc (Nat.le_refl _) _)
  have BR0 : Blk ((w.alloc (.cells #[.string snm, .slice a N c, .slice ae E ce, .slice at' T ct] 26)).alloc (.cells #[.string ⟨#[]⟩, .slice none 0 0, .slice none 0 0] 35)) (w.heap.size + 1) #[.string ⟨#[]⟩, .slice none 0 0, .slice none 0 0] 35 := by
    have := Blk.new (w.alloc (.cells #[.string snm, .slice a N c, .slice ae E ce, .slice at' T ct] 26)) #[.string ⟨#[]⟩, .slice none 0 0, .slice none 0 0] 35
    rwa [show (w.alloc (.cells #[.string snm, .slice a N c, .slice ae E ce, .slice at' T ct] 26)).heap.size = w.heap.size + 1 by simp] at this
  have hb0 : Below w.heap.size w ((w.alloc (.cells #[.string snm, .slice a N c, .slice ae E ce, .slice at' T ct] 26)).alloc (.cells #[.string ⟨#[]⟩, .slice none 0 0, .slice none 0 0] 35)) := ((Below.refl _ _).alloc (Nat.le_refl _) _).alloc (by simp) _
  go_enter Try.func14, Try.ntmps14
  go_wp2_with fail
  go_loopw [6] (fun iv wr => ∃ k : Nat, iv = .int .i64 (k : Int) ∧ k ≤ N ∧ Hid (A = ((ms.drop k).find? (fun m => decide (m.name = nm)))) ∧ Below w.heap.size w wr ∧ Blk wr (w.heap.size + 1) #[.string ⟨#[]⟩, .slice none 0 0, .slice none 0 0] 35 ∧ Blk wr w.heap.size #[.string snm, .slice a N c, .slice ae E ce, .slice at' T ct] 26) (fun iv _ => N - (intOf iv).toNat)
  case atStart => exact ⟨0, rfl, by omega, HA, hb0, BR0, BX0⟩
  case round =>
    obtain ⟨k, rfl, hk, HAk, hbel, BR, BX⟩ := hrel
    clear BX0 BR0 hb0
    have hlt2 : w.heap.size + 1 < wr.heap.size := BR.lt
    have r0 := (BR.cell 0).trans rfl
    have z0 := BR.froz 0
    have r1 := (BR.cell 1).trans rfl
    have z1 := BR.froz 1
    have r2 := (BR.cell 2).trans rfl
    have z2 := BR.froz 2
    have x1 : wr.cell? ⟨w.heap.size, 1, none⟩ = some (.slice a N c) := BX.cell 1
    by_cases hlt : k < N
    · obtain ⟨f, hf⟩ : ∃ n, ms[k]? = some n := ⟨_, List.getElem?_eq_getElem (by rw [HN.out]; exact hlt)⟩
      obtain ⟨g, off, vf, vr, rfl, c0', c1', c2', hrf, hrr⟩ := HR.out.get hf
      have c0 := (hbel.cell (World.block_lt_of_cell? _ _ c0')).trans c0'
      have c1 := (hbel.cell (World.block_lt_of_cell? _ _ c1')).trans c1'
      have c2 := (hbel.cell (World.block_lt_of_cell? _ _ c2')).trans c2'
      clear c0' c1' c2'
      have HF : Hid (RowG w vf 5 (flRows f.fields)) := hrf
      have HV : Hid (RowG w vr 1 (inRows f.reserved)) := hrr
      obtain ⟨a3, c3, rfl, _, _⟩ := hrf.form2
      obtain ⟨a4, c4, rfl, _, _⟩ := hrr.form2
      have HF : Hid (RowG w (.slice a3 (flRows f.fields).length c3) 5 (flRows f.fields)) := HF
      have HV : Hid (RowG w (.slice a4 (inRows f.reserved).length c4) 1 (inRows f.reserved)) := HV
      have HA2 : Hid (A = if decide (f.name = nm) = true then some f else ((ms.drop (k + 1)).find? (fun m => decide (m.name = nm)))) := by
        show _ = _
        rw [HAk.out, drop_at hf, List.find?_cons]
        cases decide (f.name = nm) <;> rfl
      obtain ⟨f0, ff, fr⟩ := f
      simp only at c0 c1 c2 HA2 HF HV 
      generalize hnF : (flRows ff).length = nF at *
      generalize hnR : (inRows fr).length = nR at *
      clear hrf hrr hf HAk hnF hnR
      by_cases he : f0 = nm
      · subst he
        have HA3 : Hid (A = some ⟨f0, ff, fr⟩) := by show _ = _; rw [HA2.out, if_pos (by simp)]
        clear HA2
        go_wp2_with fail
        refine bodyPost_ret (results_two rfl _ _ _ ⟨w.heap.size + 1, 0, none⟩ (.agg #[.string f0, .slice a3 nF c3, .slice a4 nR c4]) (by go_simp) (by go_simp)) rfl ?_
        refine ⟨.slice a3 nF c3, .slice a4 nR c4, ret_two (by rw [HA3.out]; rfl) (by rw [HA3.out]; rfl), ?_, ?_, (Below.setCell (Below.setCell (Below.setCell hbel (by simp) _) (by simp) _) (by simp) _)⟩
        · rw [HA3.out]; exact HF.out.below (Below.setCell (Below.setCell (Below.setCell hbel (by simp) _) (by simp) _) (by simp) _)
        · rw [HA3.out]; exact HV.out.below (Below.setCell (Below.setCell (Below.setCell hbel (by simp) _) (by simp) _) (by simp) _)
      · have hq := bytes_ne he
        have HA3 : Hid (A = ((ms.drop (k + 1)).find? (fun m => decide (m.name = nm)))) := by show _ = _; rw [HA2.out, if_neg (by simpa using he)]
        go_wp2_with fail
        go_roundw
        case rel => exact ⟨k + 1, by go_num, by omega, HA3, hbel, BR, BX⟩
        case measure => simp [intOf]; omega
    · have HA2 : Hid (A = none) := by show _ = _; rw [HAk.out, drop_end (by rw [HN.out]; omega)]; rfl
      go_wp2_with fail
      refine bodyPost_ret (results_two rfl _ _ _ ⟨w.heap.size + 1, 0, none⟩ (.agg #[.string ⟨#[]⟩, .slice none 0 0, .slice none 0 0]) (by go_simp) (by go_simp)) rfl ?_
      exact ⟨.slice none 0 0, .slice none 0 0, ret_two (by rw [HA2.out]; rfl) (by rw [HA2.out]; rfl), by rw [HA2.out]; exact RowG.nil _ _, by rw [HA2.out]; exact RowG.nil _ _, (Below.setCell (Below.setCell (Below.setCell hbel (by simp) _) (by simp) _) (by simp) _)⟩
set_option maxHeartbeats 4000000 in
theorem renum_any {w : World} {snm nm : ByteArray} {am at' : Option Addr} {M cm T ct : Nat} {ve : Value} {ms : List EnS} (hr : EnIn w ve ms)  :
    Calls Try.prog 16 #[.agg #[.string snm, .slice am M cm, ve, .slice at' T ct], .string nm] w fun e w' => ∃ vv, e = .returned (.tuple #[.agg #[.string ((ms.find? (fun m => decide (m.name = nm))).getD zeroN).name, vv], .bool (ms.find? (fun m => decide (m.name = nm))).isSome]) ∧ RowG w' vv 2 (nmRows ((ms.find? (fun m => decide (m.name = nm))).getD zeroN).values) ∧ Below w.heap.size w w' := by
  obtain ⟨a, c, rfl, q1, q2⟩ := hr.form2
  have HR : Hid (EnIn w (.slice a ms.length c) ms) := hr
  obtain ⟨N, hN⟩ : ∃ N, ms.length = N := ⟨_, rfl⟩
  rw [hN] at HR q1 ⊢
  have HN : Hid (ms.length = N) := hN
  clear hN hr
  obtain ⟨A, hA⟩ : ∃ A, (ms.find? (fun m => decide (m.name = nm))) = A := ⟨_, rfl⟩
  rw [hA]
  have HA : Hid (A = ((ms.drop 0).find? (fun m => decide (m.name = nm)))) := hA.symm
  clear hA
  have BX0 : Blk ((w.alloc (.cells #[.string snm, .slice am M cm, .slice a N c, .slice at' T ct] 26)).alloc (.cells #[.string ⟨#[]⟩, .slice none 0 0] 40)) w.heap.size #[.string snm, .slice am M cm, .slice a N c, .slice at' T ct] 26 := (Blk.new w _ _).below ((Below.refl _ _).alloc (Nat.le_refl _) _)
  have BR0 : Blk ((w.alloc (.cells #[.string snm, .slice am M cm, .slice a N c, .slice at' T ct] 26)).alloc (.cells #[.string ⟨#[]⟩, .slice none 0 0] 40)) (w.heap.size + 1) #[.string ⟨#[]⟩, .slice none 0 0] 40 := by
    have := Blk.new (w.alloc (.cells #[.string snm, .slice am M cm, .slice a N c, .slice at' T ct] 26)) #[.string ⟨#[]⟩, .slice none 0 0] 40
    rwa [show (w.alloc (.cells #[.string snm, .slice am M cm, .slice a N c, .slice at' T ct] 26)).heap.size = w.heap.size + 1 by simp] at this
  have hb0 : Below w.heap.size w ((w.alloc (.cells #[.string snm, .slice am M cm, .slice a N c, .slice at' T ct] 26)).alloc (.cells #[.string ⟨#[]⟩, .slice none 0 0] 40)) := ((Below.refl _ _).alloc (Nat.le_refl _) _).alloc (by simp) _
  go_enter Try.func16, Try.ntmps16
  go_wp2_with fail
  go_loopw [6] (fun iv wr => ∃ k : Nat, iv = .int .i64 (k : Int) ∧ k ≤ N ∧ Hid (A = ((ms.drop k).find? (fun m => decide (m.name = nm)))) ∧ Below w.heap.size w wr ∧ Blk wr (w.heap.size + 1) #[.string ⟨#[]⟩, .slice none 0 0] 40 ∧ Blk wr w.heap.size #[.string snm, .slice am M cm, .slice a N c, .slice at' T ct] 26) (fun iv _ => N - (intOf iv).toNat)
  case atStart => exact ⟨0, rfl, by omega, HA, hb0, BR0, BX0⟩
  case round =>
    obtain ⟨k, rfl, hk, HAk, hbel, BR, BX⟩ := hrel
    clear BX0 BR0 hb0
    have hlt2 : w.heap.size + 1 < wr.heap.size := BR.lt
    have r0 := (BR.cell 0).trans rfl
    have z0 := BR.froz 0
    have r1 := (BR.cell 1).trans rfl
    have z1 := BR.froz 1
    have x1 : wr.cell? ⟨w.heap.size, 2, none⟩ = some (.slice a N c) := BX.cell 2
    by_cases hlt : k < N
    · obtain ⟨f, hf⟩ : ∃ n, ms[k]? = some n := ⟨_, List.getElem?_eq_getElem (by rw [HN.out]; exact hlt)⟩
      obtain ⟨g, off, vv, rfl, c0', c1', hrf⟩ := HR.out.get hf
      have c0 := (hbel.cell (World.block_lt_of_cell? _ _ c0')).trans c0'
      have c1 := (hbel.cell (World.block_lt_of_cell? _ _ c1')).trans c1'
      clear c0' c1'
      have HF : Hid (RowG w vv 2 (nmRows f.values)) := hrf
      obtain ⟨a3, c3, rfl, _, _⟩ := hrf.form2
      have HF : Hid (RowG w (.slice a3 (nmRows f.values).length c3) 2 (nmRows f.values)) := HF
      have HA2 : Hid (A = if decide (f.name = nm) = true then some f else ((ms.drop (k + 1)).find? (fun m => decide (m.name = nm)))) := by
        show _ = _
        rw [HAk.out, drop_at hf, List.find?_cons]
        cases decide (f.name = nm) <;> rfl
      obtain ⟨f0, ff⟩ := f
      simp only at c0 c1 HA2 HF 
      generalize hnF : (nmRows ff).length = nF at *
      clear hrf hf HAk hnF
      by_cases he : f0 = nm
      · subst he
        have HA3 : Hid (A = some ⟨f0, ff⟩) := by show _ = _; rw [HA2.out, if_pos (by simp)]
        clear HA2
        go_wp2_with fail
        refine bodyPost_ret (results_two rfl _ _ _ ⟨w.heap.size + 1, 0, none⟩ (.agg #[.string f0, .slice a3 nF c3]) (by go_simp) (by go_simp)) rfl ?_
        refine ⟨.slice a3 nF c3, ret_two (by rw [HA3.out]; rfl) (by rw [HA3.out]; rfl), ?_, (Below.setCell (Below.setCell hbel (by simp) _) (by simp) _)⟩
        rw [HA3.out]; exact HF.out.below (Below.setCell (Below.setCell hbel (by simp) _) (by simp) _)
      · have hq := bytes_ne he
        have HA3 : Hid (A = ((ms.drop (k + 1)).find? (fun m => decide (m.name = nm)))) := by show _ = _; rw [HA2.out, if_neg (by simpa using he)]
        go_wp2_with fail
        go_roundw
        case rel => exact ⟨k + 1, by go_num, by omega, HA3, hbel, BR, BX⟩
        case measure => simp [intOf]; omega
    · have HA2 : Hid (A = none) := by show _ = _; rw [HAk.out, drop_end (by rw [HN.out]; omega)]; rfl
      go_wp2_with fail
      refine bodyPost_ret (results_two rfl _ _ _ ⟨w.heap.size + 1, 0, none⟩ (.agg #[.string ⟨#[]⟩, .slice none 0 0]) (by go_simp) (by go_simp)) rfl ?_
      exact ⟨.slice none 0 0, ret_two (by rw [HA2.out]; rfl) (by rw [HA2.out]; rfl), by rw [HA2.out]; exact RowG.nil _ _, (Below.setCell (Below.setCell hbel (by simp) _) (by simp) _)⟩
end Go.Proofs.Ytomeppgmmlaibaa

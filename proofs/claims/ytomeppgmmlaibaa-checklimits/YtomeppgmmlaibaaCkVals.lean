/- What checkValues and checkMethods answer. -/
import Derived.Test.YtomeppgmmlaibaaCkRow
namespace Go.Proofs.Ytomeppgmmlaibaa
open Go.ChangeShapes Go.WideShapes Go.ChangeAt Go.RowKit Go.Maps
set_option linter.unusedVariables false
set_option linter.unusedSimpArgs false
set_option maxRecDepth 20000

theorem numR_low {n : Int} (h : n < 0) : numR n = false := by unfold numR; rw [decide_eq_false (by omega)]
theorem numR_high {n : Int} (h : 2147483647 < n) : numR n = false := by unfold numR; rw [decide_eq_false (by omega)]
theorem numR_in {n : Int} (h : ¬ n < 0) (h2 : ¬ 2147483647 < n) : numR n = true := by unfold numR; rw [decide_eq_true (by omega)]
set_option maxHeartbeats 2000000 in
theorem cvalues_any {w : World} {v : Value} {vs : List NmS} (hr : RowG w v 2 (nmRows vs)) (hl : vs.length ≤ 24) (hw : ∀ f ∈ vs, NmW f) :
    Calls Try.prog 49 #[v] w fun e w' => e = .returned (.int .i64 (chkVs [] [] vs)) ∧ Below w.heap.size w w' := by
  obtain ⟨a, c, rfl, q1, q2⟩ := hr.form2
  have hN : (nmRows vs).length = vs.length := by simp [nmRows]
  rw [hN] at hr q1 ⊢
  clear hN
  obtain ⟨N, hN⟩ : ∃ N, vs.length = N := ⟨_, rfl⟩
  rw [hN] at hr q1 hl ⊢
  have HN : Hid (vs.length = N) := hN
  have HR : Hid (RowG w (.slice a N c) 2 (nmRows vs)) := hr
  have HW : Hid (∀ f ∈ vs, NmW f) := hw
  clear hN hr hw
  obtain ⟨A, hA⟩ : ∃ A, chkVs [] [] vs = A := ⟨_, rfl⟩
  rw [hA]
  have HA : Hid (A = chkVs [] [] vs) := hA.symm
  clear hA
  have hmm := @run_makeMap Try.prog
  go_enter Try.func49, Try.ntmps49
  go_wp2_with fail
  clear hmm
  have HM0 : SetS ((w.alloc (.map #[] 0)).alloc (.map #[] 0)) w.heap.size 0 [] := SetK.below (SetK.made 9 w) ((Below.refl _ _).alloc (Nat.le_refl _) _)
  have HM1 : SetI ((w.alloc (.map #[] 0)).alloc (.map #[] 0)) (w.heap.size + 1) 0 [] := by
    have := SetK.made 3 (w.alloc (.map #[] 0))
    rwa [show (w.alloc (.map #[] 0)).heap.size = w.heap.size + 1 by simp] at this
  have KP0 : Below w.heap.size w ((w.alloc (.map #[] 0)).alloc (.map #[] 0)) := ((Below.refl _ _).alloc (Nat.le_refl _) _).alloc (by simp) _
  obtain ⟨bn, hbn⟩ : ∃ n, w.heap.size = n := ⟨_, rfl⟩
  rw [hbn] at HM0 HM1 KP0 ⊢
  have HB : Hid (w.heap.size = bn) := hbn
  clear hbn
  go_loopw [11] (fun iv wr => ∃ (k : Nat) (al : List ByteArray) (t : List Int), iv = .int .i64 (k : Int) ∧ k ≤ N ∧ Hid (A = chkVs al t (vs.drop k)) ∧ Hid (SetS wr bn k al) ∧ Hid (SetI wr (bn + 1) k t) ∧ Below bn w wr) (fun iv _ => N - (intOf iv).toNat)
  case atStart => exact ⟨0, [], [], rfl, by omega, HA, HM0, HM1, KP0⟩
  case round =>
    obtain ⟨k, al, t, rfl, hk, HAk, HSn, HSt, hbel⟩ := hrel
    clear HM0 HM1 KP0
    have hbw : bn + 1 < wr.heap.size := SetK.lt HSt.out
    have hbW : Below w.heap.size w wr := by rw [HB.out]; exact hbel
    by_cases hlt : k < N
    · obtain ⟨f, hf⟩ : ∃ n, vs[k]? = some n := ⟨_, List.getElem?_eq_getElem (by rw [HN.out]; exact hlt)⟩
      have hrr : (nmRows vs)[k]? = some f.cells := by simp [nmRows, hf]
      obtain ⟨g, off, rfl, c1⟩ := (HR.out.below hbW).get hrr
      have hfw := HW.out _ (List.mem_of_getElem? hf)
      obtain ⟨f0, f1⟩ := f
      obtain ⟨w1', w2'⟩ := hfw
      simp only at w1' w2'
      have HA2 : Hid (A = if freshB f0 al = false then 6 else if numB f1 t = false then 11 else chkVs (al ++ [f0]) (t ++ [f1]) (vs.drop (k + 1))) := by
        show _ = _
        rw [HAk.out, drop_at hf]; rfl
      have p0 := c1 0 _ rfl
      have p1 := c1 1 _ rfl
      simp only [Nat.add_zero] at p0 p1
      clear c1 hrr hf HAk hbW
      go_wp2_with fail
      clear p0 p1
      have hba : Below wr.heap.size wr (wr.alloc (.cells #[.string f0, .int .i64 f1] 65)) := (Below.refl _ _).alloc (Nat.le_refl _) _
      have BX := Blk.new wr #[.string f0, .int .i64 f1] 65
      refine (newname_any (SetK.below HSn.out hba) w1' (by omega)).mono ?_
      rintro e w1 ⟨rfl, hs1, hk1⟩
      have HS1 : Hid _ := hs1
      clear hs1
      have hb1 : Below bn w w1 := (hbel.alloc (by omega) _).trans (hk1.toBelow (by simp; omega) (fun k e => by omega))
      cases h1 : freshB f0 al
      · go_wp2_with fail
        go_ret
        exact ⟨ret_int (by rw [HA2.out, if_pos h1]), by rw [HB.out]; exact hb1⟩
      · have BX1 := BX.kp hk1 (by omega)
        have b1 : w1.cell? ⟨wr.heap.size, 1, none⟩ = some (.int .i64 f1) := BX1.cell 1
        by_cases hlo : f1 < 0
        · go_wp2_with fail
          go_ret
          exact ⟨ret_int (by rw [HA2.out, if_neg (by rw [h1]; decide), if_pos (by unfold numB; rw [numR_low hlo]; rfl)]), by rw [HB.out]; exact hb1⟩
        · by_cases hhi : 2147483647 < f1
          · go_wp2_with fail
            go_ret
            exact ⟨ret_int (by rw [HA2.out, if_neg (by rw [h1]; decide), if_pos (by unfold numB; rw [numR_high hhi]; rfl)]), by rw [HB.out]; exact hb1⟩
          · have HNB : Hid (numB f1 t = !memI f1 t) := by show _ = _; unfold numB; rw [numR_in hlo hhi]; rfl
            go_wp2_with fail
            clear b1
            refine (add_int (SetK.kp (SetK.below HSt.out hba) hk1 (by omega)) w2' (by omega)).mono ?_
            rintro e w2 ⟨rfl, hs2, hk2⟩
            have HS2 : Hid _ := hs2
            clear hs2
            have hb2 : Below bn w w2 := hb1.trans (hk2.toBelow (by have := hb1.size; have := HB.out; omega) (fun k e => by omega))
            cases h2 : memI f1 t
            · have HA3 : Hid (A = chkVs (al ++ [f0]) (t ++ [f1]) (vs.drop (k + 1))) := by
                show _ = _
                rw [HA2.out, if_neg (by rw [h1]; decide), if_neg (by rw [HNB.out, h2]; decide)]
              have HS1' : Hid (SetS w2 bn (k + 1) (al ++ [f0])) := SetK.kp (HS1.out h1) hk2 (by omega)
              have HS2' : Hid (SetI w2 (bn + 1) (k + 1) (t ++ [f1])) := HS2.out h2
              clear HS1 HS2 hbel hb1 hba hk1 hk2 BX BX1 HA2
              go_wp2_with fail
              go_roundw
              case rel => exact ⟨k + 1, _, _, by go_num, by omega, HA3, HS1', HS2', hb2⟩
              case measure => simp [intOf]; omega
            · go_wp2_with fail
              go_ret
              exact ⟨ret_int (by rw [HA2.out, if_neg (by rw [h1]; decide), if_pos (by rw [HNB.out, h2]; rfl)]), by rw [HB.out]; exact hb2⟩
    · go_wp2_with fail
      go_ret
      exact ⟨ret_int (by rw [HAk.out, drop_end (by rw [HN.out]; omega)]; rfl), hbW⟩
theorem typeB_msg (mn en : List ByteArray) (t : ByteArray) : typeB mn en 7 t = memB t mn := by
  unfold typeB; simp
set_option maxHeartbeats 2000000 in
theorem cmethods_any {w : World} {v : Value} {ts : List MtS} {mn en : List ByteArray} {bY ny : Nat} {T : List (Int × ByteArray)}
    (hr : RowG w v 3 (mtRows ts)) (hl : ts.length ≤ 10) (hT : SetT w bY ny T) (hTt : ∀ k s, memT (k, s) T = typeB mn en k s) (hw : ∀ f ∈ ts, MtW f) :
    Calls Try.prog 33 #[v, .map (some bY)] w fun e w' => e = .returned (.int .i64 (chkTs mn [] ts)) ∧ Below w.heap.size w w' := by
  obtain ⟨a, c, rfl, q1, q2⟩ := hr.form2
  have hN : (mtRows ts).length = ts.length := by simp [mtRows]
  rw [hN] at hr q1 ⊢
  clear hN
  obtain ⟨N, hN⟩ : ∃ N, ts.length = N := ⟨_, rfl⟩
  rw [hN] at hr q1 hl ⊢
  have HN : Hid (ts.length = N) := hN
  have HR : Hid (RowG w (.slice a N c) 3 (mtRows ts)) := hr
  have HT : Hid (SetT w bY ny T) := hT
  have HTT : Hid (∀ s, memT (7, s) T = memB s mn) := fun s => by rw [hTt, typeB_msg]
  have HW : Hid (∀ f ∈ ts, MtW f) := hw
  clear hN hr hT hTt hw
  obtain ⟨A, hA⟩ : ∃ A, chkTs mn [] ts = A := ⟨_, rfl⟩
  rw [hA]
  have HA : Hid (A = chkTs mn [] ts) := hA.symm
  clear hA
  have hmm := @run_makeMap Try.prog
  go_enter Try.func33, Try.ntmps33
  go_wp2_with fail
  clear hmm
  have HM0 := SetK.made 9 w
  have KP0 : Below w.heap.size w (w.alloc (.map #[] 0)) := (Below.refl _ _).alloc (Nat.le_refl _) _
  obtain ⟨bn, hbn⟩ : ∃ n, w.heap.size = n := ⟨_, rfl⟩
  rw [hbn] at HM0 KP0 ⊢
  have HB : Hid (w.heap.size = bn) := hbn
  clear hbn
  go_loopw [11] (fun iv wr => ∃ (k : Nat) (al : List ByteArray), iv = .int .i64 (k : Int) ∧ k ≤ N ∧ Hid (A = chkTs mn al (ts.drop k)) ∧ Hid (SetS wr bn k al) ∧ Below bn w wr) (fun iv _ => N - (intOf iv).toNat)
  case atStart => exact ⟨0, [], rfl, by omega, HA, HM0, KP0⟩
  case round =>
    obtain ⟨k, al, rfl, hk, HAk, HSn, hbel⟩ := hrel
    clear HM0 KP0
    have hbw : bn < wr.heap.size := SetK.lt HSn.out
    have hbW : Below w.heap.size w wr := by rw [HB.out]; exact hbel
    by_cases hlt : k < N
    · obtain ⟨f, hf⟩ : ∃ n, ts[k]? = some n := ⟨_, List.getElem?_eq_getElem (by rw [HN.out]; exact hlt)⟩
      have hrr : (mtRows ts)[k]? = some f.cells := by simp [mtRows, hf]
      obtain ⟨g, off, rfl, c1⟩ := (HR.out.below hbW).get hrr
      have hfw := HW.out _ (List.mem_of_getElem? hf)
      obtain ⟨f0, f1, f2⟩ := f
      obtain ⟨w1', w2', w3'⟩ := hfw
      simp only at w1' w2' w3'
      have HA2 : Hid (A = if freshB f0 al = false then 6 else if (memB f1 mn && memB f2 mn) = false then 8 else chkTs mn (al ++ [f0]) (ts.drop (k + 1))) := by
        show _ = _
        rw [HAk.out, drop_at hf]; rfl
      have p0 := c1 0 _ rfl
      have p1 := c1 1 _ rfl
      have p2 := c1 2 _ rfl
      simp only [Nat.add_zero] at p0 p1 p2
      have HTr : Hid (SetT wr bY ny T) := SetK.below HT.out hbW
      have hYn : bY < bn := by have := SetK.lt HT.out; have := HB.out; omega
      clear c1 hrr hf HAk hbW
      go_wp2_with fail
      clear p0 p1 p2
      have hba : Below wr.heap.size wr (wr.alloc (.cells #[.string f0, .string f1, .string f2] 44)) := (Below.refl _ _).alloc (Nat.le_refl _) _
      have BX := Blk.new wr #[.string f0, .string f1, .string f2] 44
      refine (newname_any (SetK.below HSn.out hba) w1' (by omega)).mono ?_
      rintro e w1 ⟨rfl, hs1, hk1⟩
      have HS1 : Hid _ := hs1
      clear hs1
      have hb1 : Below bn w w1 := (hbel.alloc (by omega) _).trans (hk1.toBelow (by simp; omega) (fun k e => by omega))
      cases h1 : freshB f0 al
      · go_wp2_with fail
        go_ret
        exact ⟨ret_int (by rw [HA2.out, if_pos h1]), by rw [HB.out]; exact hb1⟩
      · have BX1 := BX.kp hk1 (by omega)
        have b1 : w1.cell? ⟨wr.heap.size, 1, none⟩ = some (.string f1) := BX1.cell 1
        have HT1 : Hid (SetT w1 bY ny T) := SetK.kp (SetK.below HTr.out hba) hk1 (by omega)
        go_wp2_with fail
        refine (msgtype_any _ _).mono ?_
        rintro e w2 ⟨rfl, hb2⟩
        clear b1
        go_wp2_with fail
        refine (has_ty (SetK.below HT1.out hb2) ⟨by decide, by decide⟩ w2').mono ?_
        rintro e w3 ⟨rfl, hb3⟩
        rw [HTT.out]
        have hb13 : Below w1.heap.size w1 w3 := hb2.trans (hb3.mono hb2.size)
        have hbn1 : bn ≤ w1.heap.size := by have := hb1.size; have := HB.out; omega
        have hb03 : Below bn w w3 := hb1.trans (hb13.mono hbn1)
        cases h2 : memB f1 mn
        · go_wp2_with fail
          go_ret
          exact ⟨ret_int (by rw [HA2.out, if_neg (by rw [h1]; decide), if_pos (by rw [h2]; rfl)]), by rw [HB.out]; exact hb03⟩
        · have BX3 := BX1.below hb13
          have b2 : w3.cell? ⟨wr.heap.size, 2, none⟩ = some (.string f2) := BX3.cell 2
          clear hb2 hb3
          go_wp2_with fail
          refine (msgtype_any _ _).mono ?_
          rintro e w4 ⟨rfl, hb4⟩
          clear b2
          go_wp2_with fail
          refine (has_ty (SetK.below (SetK.below HT1.out hb13) hb4) ⟨by decide, by decide⟩ w3').mono ?_
          rintro e w5 ⟨rfl, hb5⟩
          rw [HTT.out]
          have hb35 : Below w3.heap.size w3 w5 := hb4.trans (hb5.mono hb4.size)
          have hb05 : Below bn w w5 := hb03.trans (hb35.mono (Nat.le_trans hbn1 hb13.size))
          cases h3 : memB f2 mn
          · go_wp2_with fail
            go_ret
            exact ⟨ret_int (by rw [HA2.out, if_neg (by rw [h1]; decide), if_pos (by rw [h2, h3]; rfl)]), by rw [HB.out]; exact hb05⟩
          · have HA3 : Hid (A = chkTs mn (al ++ [f0]) (ts.drop (k + 1))) := by
              show _ = _
              rw [HA2.out, if_neg (by rw [h1]; decide), if_neg (by rw [h2, h3]; decide)]
            have HS1' : Hid (SetS w5 bn (k + 1) (al ++ [f0])) := SetK.below (SetK.below (HS1.out h1) hb13) hb35
            clear HS1 hbel hb1 hba hk1 BX BX1 BX3 HA2 hb03 hb35 hb13 hb4 hb5 HT1
            go_wp2_with fail
            go_roundw
            case rel => exact ⟨k + 1, _, by go_num, by omega, HA3, HS1', hb05⟩
            case measure => simp [intOf]; omega
    · go_wp2_with fail
      go_ret
      exact ⟨ret_int (by rw [HAk.out, drop_end (by rw [HN.out]; omega)]; rfl), hbW⟩
end Go.Proofs.Ytomeppgmmlaibaa

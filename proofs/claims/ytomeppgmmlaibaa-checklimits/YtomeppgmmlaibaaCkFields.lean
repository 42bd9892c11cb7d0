/- What checkFields answers. -/
import Derived.Test.YtomeppgmmlaibaaCkRow
namespace Go.Proofs.Ytomeppgmmlaibaa
open Go.ChangeShapes Go.WideShapes Go.ChangeAt Go.RowKit Go.Maps
set_option linter.unusedVariables false
set_option linter.unusedSimpArgs false
set_option maxRecDepth 20000

set_option maxHeartbeats 2000000 in
theorem cfields_any {w : World} {v : Value} {fs : List FlS} {mn en : List ByteArray} {bt nt bY ny : Nat} {L : List Int} {T : List (Int × ByteArray)}
    (hr : RowG w v 5 (flRows fs)) (hl : fs.length ≤ 20) (hI : SetI w bt nt L) (hnt : nt ≤ 100) (hT : SetT w bY ny T) (hne : bY ≠ bt) (hTt : ∀ k s, memT (k, s) T = typeB mn en k s) (hw : ∀ f ∈ fs, FlW f) :
    Calls Try.prog 46 #[v, .map (some bt), .map (some bY)] w fun e w' => e = .returned (.int .i64 (chkFs mn en [] L fs)) ∧ Kp (fun k => k = bt) w w' := by
  obtain ⟨a, c, rfl, q1, q2⟩ := hr.form2
  have hN : (flRows fs).length = fs.length := by simp [flRows]
  rw [hN] at hr q1 ⊢
  clear hN
  obtain ⟨N, hN⟩ : ∃ N, fs.length = N := ⟨_, rfl⟩
  rw [hN] at hr q1 hl ⊢
  have HN : Hid (fs.length = N) := hN
  have HR : Hid (RowG w (.slice a N c) 5 (flRows fs)) := hr
  have HI : Hid (SetI w bt nt L) := hI
  have HT : Hid (SetT w bY ny T) := hT
  have HTT : Hid (∀ k s, memT (k, s) T = typeB mn en k s) := hTt
  have HW : Hid (∀ f ∈ fs, FlW f) := hw
  have hbt : bt < w.heap.size := SetK.lt hI
  clear hN hr hI hT hTt hw
  obtain ⟨A, hA⟩ : ∃ A, chkFs mn en [] L fs = A := ⟨_, rfl⟩
  rw [hA]
  have HA : Hid (A = chkFs mn en [] L fs) := hA.symm
  clear hA
  have hmm := @run_makeMap Try.prog
  go_enter Try.func46, Try.ntmps46
  go_wp2_with fail
  clear hmm
  have HM0 := SetK.made 9 w
  have KP0 : Kp (fun k => k = bt) w (w.alloc (.map #[] 0)) := (Kp.refl _ _).alloc _
  have HI0 : Hid (SetI (w.alloc (.map #[] 0)) bt nt L) := SetK.kp HI.out (S := fun _ => False) ((Kp.refl _ _).alloc _) (fun e => e)
  obtain ⟨bn, hbn⟩ : ∃ n, w.heap.size = n := ⟨_, rfl⟩
  rw [hbn] at HM0 hbt ⊢
  have HB : Hid (w.heap.size = bn) := hbn
  clear hbn
  go_loopw [13] (fun iv wr => ∃ (k : Nat) (al : List ByteArray) (t : List Int), iv = .int .i64 (k : Int) ∧ k ≤ N ∧ Hid (A = chkFs mn en al t (fs.drop k)) ∧ Hid (SetS wr bn k al) ∧ Hid (SetI wr bt (nt + k) t) ∧ Kp (fun k => k = bt) w wr) (fun iv _ => N - (intOf iv).toNat)
  case atStart => exact ⟨0, [], L, rfl, by omega, HA, HM0, HI0, KP0⟩
  case round =>
    obtain ⟨k, al, t, rfl, hk, HAk, HSn, HSt, hkp⟩ := hrel
    clear HM0 KP0 HI0
    have hbw : bn < wr.heap.size := SetK.lt HSn.out
    by_cases hlt : k < N
    · obtain ⟨f, hf⟩ : ∃ n, fs[k]? = some n := ⟨_, List.getElem?_eq_getElem (by rw [HN.out]; exact hlt)⟩
      have hrr : (flRows fs)[k]? = some f.cells := by simp [flRows, hf]
      obtain ⟨g, off, rfl, c1⟩ := (HR.out.kpM hkp (SetK.no HI.out)).get hrr
      have hfw := HW.out _ (List.mem_of_getElem? hf)
      obtain ⟨f0, f1, f2, f3, f4⟩ := f
      obtain ⟨w1', w2', w3', w4', w5'⟩ := hfw
      simp only at w1' w2' w3' w4' w5'
      have HA2 : Hid (A = if freshB f0 al = false then 6 else if tagB f1 t = false then 7 else if (labB f2 && typeB mn en f3 f4) = false then 8 else chkFs mn en (al ++ [f0]) (t ++ [f1]) (fs.drop (k + 1))) := by
        show _ = _
        rw [HAk.out, drop_at hf]; rfl
      have p0 := c1 0 _ rfl
      have p1 := c1 1 _ rfl
      have p2 := c1 2 _ rfl
      have p3 := c1 3 _ rfl
      have p4 := c1 4 _ rfl
      simp only [Nat.add_zero] at p0 p1 p2 p3 p4
      clear c1 hrr hf HAk
      have HTr : Hid (SetT wr bY ny T) := SetK.kp HT.out hkp hne
      go_wp2_with fail
      clear p0 p1 p2 p3 p4
      have hba : Below wr.heap.size wr (wr.alloc (.cells #[.string f0, .int .i64 f1, .int .i64 f2, .int .i64 f3, .string f4] 52)) := (Below.refl _ _).alloc (Nat.le_refl _) _
      have BX := Blk.new wr #[.string f0, .int .i64 f1, .int .i64 f2, .int .i64 f3, .string f4] 52
      refine (newname_any (SetK.below HSn.out hba) w1' (by omega)).mono ?_
      rintro e w1 ⟨rfl, hs1, hk1⟩
      have HS1 : Hid _ := hs1
      clear hs1
      have hkp1 : Kp (fun k => k = bt) w w1 := (hkp.below hba).new hk1 (by rw [HB.out]; omega)
      cases h1 : freshB f0 al
      · go_wp2_with fail
        go_ret
        exact ⟨ret_int (by rw [HA2.out, if_pos h1]), hkp1⟩
      · have BX1 := BX.kp hk1 (by omega)
        have b1 : w1.cell? ⟨wr.heap.size, 1, none⟩ = some (.int .i64 f1) := BX1.cell 1
        go_wp2_with fail
        clear b1
        refine (newtag_any (SetK.kp (SetK.below HSt.out hba) hk1 (by omega)) w3' (by omega)).mono ?_
        rintro e w2 ⟨rfl, hs2, hk2⟩
        have HS2 : Hid _ := hs2
        clear hs2
        have hkp2 : Kp (fun k => k = bt) w w2 := hkp1.trans hk2
        cases h2 : tagB f1 t
        · go_wp2_with fail
          go_ret
          exact ⟨ret_int (by rw [HA2.out, if_neg (by rw [h1]; decide), if_pos h2]), hkp2⟩
        · have BX2 := BX1.kp hk2 (by omega)
          have b2 : w2.cell? ⟨wr.heap.size, 2, none⟩ = some (.int .i64 f2) := BX2.cell 2
          have b3 : w2.cell? ⟨wr.heap.size, 3, none⟩ = some (.int .i64 f3) := BX2.cell 3
          have b4 : w2.cell? ⟨wr.heap.size, 4, none⟩ = some (.string f4) := BX2.cell 4
          go_wp2_with fail
          refine (islabel_any _ _).mono ?_
          rintro e w3 ⟨rfl, rfl⟩
          cases h3 : labB f2
          · go_wp2_with fail
            go_ret
            exact ⟨ret_int (by rw [HA2.out, if_neg (by rw [h1]; decide), if_neg (by rw [h2]; decide), if_pos (by rw [h3]; rfl)]), hkp2⟩
          · go_wp2_with fail
            clear b2 b3 b4
            refine (has_ty (SetK.kp (SetK.kp (SetK.below HTr.out hba) hk1 (by have := SetK.lt HT.out; have := HB.out; omega)) hk2 hne) w5' w2').mono ?_
            rintro e w4 ⟨rfl, hb4⟩
            rw [HTT.out]
            cases h4 : typeB mn en f3 f4
            · go_wp2_with fail
              go_ret
              exact ⟨ret_int (by rw [HA2.out, if_neg (by rw [h1]; decide), if_neg (by rw [h2]; decide), if_pos (by rw [h3, h4]; rfl)]), hkp2.below hb4⟩
            · have HA3 : Hid (A = chkFs mn en (al ++ [f0]) (t ++ [f1]) (fs.drop (k + 1))) := by
                show _ = _
                rw [HA2.out, if_neg (by rw [h1]; decide), if_neg (by rw [h2]; decide), if_neg (by rw [h3, h4]; decide)]
              have HS1' : Hid (SetS w4 bn (k + 1) (al ++ [f0])) := SetK.below (SetK.kp (HS1.out h1) hk2 (by omega)) hb4
              have HS2' : Hid (SetI w4 bt (nt + (k + 1)) (t ++ [f1])) := SetK.below (HS2.out h2) hb4
              have hkp4 := hkp2.below hb4
              clear HS1 HS2 hkp hkp1 hkp2 hba hk1 hk2 hb4 BX BX1 BX2 HA2 HTr
              go_wp2_with fail
              go_roundw
              case rel => exact ⟨k + 1, _, _, by go_num, by omega, HA3, HS1', HS2', hkp4⟩
              case measure => simp [intOf]; omega
    · go_wp2_with fail
      go_ret
      exact ⟨ret_int (by rw [HAk.out, drop_end (by rw [HN.out]; omega)]; rfl), hkp⟩
end Go.Proofs.Ytomeppgmmlaibaa

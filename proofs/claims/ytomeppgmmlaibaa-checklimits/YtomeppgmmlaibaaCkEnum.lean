/- What checkEnum, checkMessage, checkWhole answer. -/
import Derived.Test.YtomeppgmmlaibaaCkVals
import Derived.Test.YtomeppgmmlaibaaCkFields
namespace Go.Proofs.Ytomeppgmmlaibaa
open Go.ChangeShapes Go.WideShapes Go.ChangeAt Go.RowKit Go.Maps
set_option linter.unusedVariables false
set_option linter.unusedSimpArgs false
set_option maxRecDepth 20000

theorem take_at {α : Type} {l : List α} {k : Nat} {x : α} (h : l[k]? = some x) : l.take (k + 1) = l.take k ++ [x] := by
  rw [List.take_add_one, h]; rfl
def zeroV (vs : List NmS) : Bool := vs.any fun v => decide (v.n = 0)
set_option maxHeartbeats 2000000 in
theorem indexf_any {w : World} {v : Value} {vs : List NmS} (hr : RowG w v 2 (nmRows vs)) (hl : vs.length ≤ 24) :
    Calls Try.prog 65 #[v, .func (.func 48) #[] #[]] w fun e w' => (∃ n : Int, e = .returned (.int .i64 n) ∧ decide (0 ≤ n) = zeroV vs) ∧ Below w.heap.size w w' := by
  obtain ⟨a, c, rfl, q1, q2⟩ := hr.form2
  have hN : (nmRows vs).length = vs.length := by simp [nmRows]
  rw [hN] at hr q1 ⊢
  clear hN
  obtain ⟨N, hN⟩ : ∃ N, vs.length = N := ⟨_, rfl⟩
  rw [hN] at hr q1 hl ⊢
  have HN : Hid (vs.length = N) := hN
  have HR : Hid (RowG w (.slice a N c) 2 (nmRows vs)) := hr
  clear hN hr
  obtain ⟨A, hA⟩ : ∃ A, zeroV vs = A := ⟨_, rfl⟩
  rw [hA]
  have HA : Hid (A = zeroV vs) := hA.symm
  clear hA
  go_enter Try.func65, Try.ntmps65
  go_wp2_with fail
  go_loopw [8] (fun iv wr => ∃ k : Nat, iv = .int .i64 (k : Int) ∧ k ≤ N ∧ Hid (A = zeroV (vs.drop k)) ∧ Below w.heap.size w wr) (fun iv _ => N - (intOf iv).toNat)
  case atStart => exact ⟨0, rfl, by omega, HA, Below.refl _ _⟩
  case round =>
    obtain ⟨k, rfl, hk, HAk, hbel⟩ := hrel
    by_cases hlt : k < N
    · obtain ⟨f, hf⟩ : ∃ n, vs[k]? = some n := ⟨_, List.getElem?_eq_getElem (by rw [HN.out]; exact hlt)⟩
      have hrr : (nmRows vs)[k]? = some f.cells := by simp [nmRows, hf]
      obtain ⟨g, off, rfl, c1⟩ := (HR.out.below hbel).get hrr
      obtain ⟨f0, f1⟩ := f
      have HA2 : Hid (A = (decide (f1 = 0) || zeroV (vs.drop (k + 1)))) := by
        show _ = _
        rw [HAk.out, drop_at hf]; rfl
      have p0 := c1 0 _ rfl
      have p1 := c1 1 _ rfl
      simp only [Nat.add_zero] at p0 p1
      clear c1 hrr hf HAk
      go_wp2_with fail
      clear p0 p1
      refine (iszero_any _ _ _).mono ?_
      rintro e w1 ⟨rfl, hb1⟩
      have hb2 : Below w.heap.size w w1 := hbel.trans (hb1.mono hbel.size)
      cases hz : decide (f1 = 0)
      · have HA3 : Hid (A = zeroV (vs.drop (k + 1))) := by show _ = _; rw [HA2.out, hz]; rfl
        clear hbel hb1 HA2
        go_wp2_with fail
        go_roundw
        case rel => exact ⟨k + 1, by go_num, by omega, HA3, hb2⟩
        case measure => simp [intOf]; omega
      · go_wp2_with fail
        go_ret
        exact ⟨⟨(k : Int), rfl, by rw [HA2.out, hz, decide_eq_true (by omega)]; rfl⟩, hb2⟩
    · go_wp2_with fail
      go_ret
      exact ⟨⟨-1, rfl, by rw [HAk.out, drop_end (by rw [HN.out]; omega)]; rfl⟩, hbel⟩
set_option maxHeartbeats 2000000 in
theorem contf_any {w : World} {v : Value} {vs : List NmS} (hr : RowG w v 2 (nmRows vs)) (hl : vs.length ≤ 24) :
    Calls Try.prog 47 #[v, .func (.func 48) #[] #[]] w fun e w' => e = .returned (.bool (zeroV vs)) ∧ Below w.heap.size w w' := by
  have HC := indexf_any hr hl
  clear hr hl
  go_enter Try.func47, Try.ntmps47
  go_wp2_with fail
  refine HC.mono ?_
  rintro e w1 ⟨⟨n, rfl, hn⟩, hb1⟩
  have HN : Hid _ := hn
  clear hn
  go_wp2_with fail
  go_ret
  exact ⟨ret_bool HN.out, hb1⟩
set_option maxHeartbeats 2000000 in
theorem cenum_any {w : World} {vv : Value} {nm : ByteArray} {vs : List NmS} {bn nn : Nat} {L : List ByteArray} (hr : RowG w vv 2 (nmRows vs)) (hl : vs.length ≤ 24) (hS : SetS w bn nn L) (hnn : nn ≤ 100) (hw : EnW ⟨nm, vs⟩) :
    Calls Try.prog 32 #[.agg #[.string nm, vv], .map (some bn)] w fun e w' => e = .returned (.int .i64 (if freshB nm L = false then 6 else chkEb ⟨nm, vs⟩)) ∧ (freshB nm L = true → SetS w' bn (nn + 1) (L ++ [nm])) ∧ Kp (fun k => k = bn) w w' := by
  have HR : Hid (RowG w vv 2 (nmRows vs)) := hr
  obtain ⟨a, c, rfl, q1, q2⟩ := hr.form2
  have hN : (nmRows vs).length = vs.length := by simp [nmRows]
  rw [hN] at q1 HR ⊢
  obtain ⟨N, hN2⟩ : ∃ N, vs.length = N := ⟨_, rfl⟩
  rw [hN2] at q1 HR ⊢
  have HN : Hid (vs.length = N) := hN2
  have HS : Hid (SetS w bn nn L) := hS
  obtain ⟨w1', hwv⟩ := hw
  have HW : Hid (∀ f ∈ vs, NmW f) := hwv
  have HL : Hid (vs.length ≤ 24) := hl
  simp only at w1'
  clear hr hN hN2 hS hwv hl
  obtain ⟨A, hA⟩ : ∃ A, (if freshB nm L = false then 6 else chkEb ⟨nm, vs⟩) = A := ⟨_, rfl⟩
  rw [hA]
  have HA : Hid (A = if freshB nm L = false then 6 else chkEb ⟨nm, vs⟩) := hA.symm
  clear hA
  have hba : Below w.heap.size w (w.alloc (.cells #[.string nm, .slice a N c] 40)) := (Below.refl _ _).alloc (Nat.le_refl _) _
  have BX := Blk.new w #[.string nm, .slice a N c] 40
  have hbw : bn < w.heap.size := SetK.lt HS.out
  go_enter Try.func32, Try.ntmps32
  go_wp2_with fail
  refine (newname_any (SetK.below HS.out hba) w1' (by omega)).mono ?_
  rintro e w1 ⟨rfl, hs1, hk1⟩
  have HS1 : Hid _ := hs1
  clear hs1
  have hkp1 : Kp (fun k => k = bn) w w1 := (Kp.ofBelow hba).trans hk1
  cases h1 : freshB nm L
  · have H1 : Hid (freshB nm L = false) := h1
    clear h1
    go_wp2_with fail
    go_ret
    exact ⟨ret_int (by rw [HA.out, if_pos H1.out]), (fun e => by rw [H1.out] at e; cases e), hkp1⟩
  · have H1 : Hid (freshB nm L = true) := h1
    clear h1
    have HX : Hid (chkEb ⟨nm, vs⟩ = A) := by show _ = _; rw [HA.out, if_neg (by rw [H1.out]; decide)]
    have BX1 := BX.kp hk1 (by omega)
    have b1 : w1.cell? ⟨w.heap.size, 1, none⟩ = some (.slice a N c) := BX1.cell 1
    by_cases hbig : 16 < N
    · have HE : Hid (4 = A) := by show _ = _; rw [← HX.out]; unfold chkEb; simp only; rw [if_pos (by rw [HN.out]; exact hbig)]
      go_wp2_with fail
      go_ret
      exact ⟨ret_int HE.out, (fun _ => HS1.out H1.out), hkp1⟩
    · have HR1 : Hid (RowG w1 (.slice a N c) 2 (nmRows vs)) := (HR.out.kpM hkp1 (SetK.no HS.out))
      go_wp2_with fail
      refine (contf_any HR1.out HL.out).mono ?_
      rintro e w2 ⟨rfl, hb2⟩
      cases h2 : zeroV vs
      · have HE : Hid (12 = A) := by show _ = _; rw [← HX.out]; unfold chkEb; simp only; rw [if_neg (by rw [HN.out]; exact hbig), if_pos (show zeroE ⟨nm, vs⟩ = false from h2)]
        go_wp2_with fail
        go_ret
        exact ⟨ret_int HE.out, (fun _ => SetK.below (HS1.out H1.out) hb2), hkp1.below hb2⟩
      · have HE : Hid (chkVs [] [] vs = A) := by
          show _ = _; rw [← HX.out]; unfold chkEb; simp only
          rw [if_neg (by rw [HN.out]; exact hbig), if_neg (by show ¬ zeroV vs = false; rw [h2]; decide)]
        have b2 : w2.cell? ⟨w.heap.size, 1, none⟩ = some (.slice a N c) := (BX1.below hb2).cell 1
        clear b1
        go_wp2_with fail
        refine (cvalues_any (HR1.out.below hb2) HL.out HW.out).mono ?_
        rintro e w3 ⟨rfl, hb3⟩
        rw [HE.out]
        clear b2
        go_wp2_with fail
        go_ret
        exact ⟨rfl, (fun _ => SetK.below (SetK.below (HS1.out H1.out) hb2) hb3), (hkp1.below hb2).below hb3⟩
set_option maxHeartbeats 4000000 in
theorem cmsg_any {w : World} {vf vr : Value} {nm : ByteArray} {fs : List FlS} {ns : List Int} {mn en : List ByteArray} {bn nn bY ny : Nat} {L : List ByteArray} {T : List (Int × ByteArray)}
    (hf : RowG w vf 5 (flRows fs)) (hr : RowG w vr 1 (inRows ns)) (hlf : fs.length ≤ 20) (hlr : ns.length ≤ 40) (hS : SetS w bn nn L) (hnn : nn ≤ 100) (hT : SetT w bY ny T) (hne : bY ≠ bn) (hTt : ∀ k s, memT (k, s) T = typeB mn en k s) (hw : MsW ⟨nm, fs, ns⟩) :
    Calls Try.prog 31 #[.agg #[.string nm, vf, vr], .map (some bn), .map (some bY)] w fun e w' => e = .returned (.int .i64 (if freshB nm L = false then 6 else chkMb mn en ⟨nm, fs, ns⟩)) ∧ (freshB nm L = true → SetS w' bn (nn + 1) (L ++ [nm])) ∧ Kp (fun k => k = bn) w w' := by
  have HF : Hid (RowG w vf 5 (flRows fs)) := hf
  have HR : Hid (RowG w vr 1 (inRows ns)) := hr
  obtain ⟨a, c, rfl, q1, q2⟩ := hf.form2
  obtain ⟨ar, cr, rfl, q3, q4⟩ := hr.form2
  have e1 : (flRows fs).length = fs.length := by simp [flRows]
  have e2 : (inRows ns).length = ns.length := by simp [inRows]
  rw [e1] at q1 HF ⊢
  rw [e2] at q3 HR ⊢
  obtain ⟨N, hN⟩ : ∃ N, fs.length = N := ⟨_, rfl⟩
  obtain ⟨R, hR⟩ : ∃ N, ns.length = N := ⟨_, rfl⟩
  have HL : Hid (fs.length ≤ 20) := hlf
  rw [hN] at q1 HF hlf ⊢
  rw [hR] at q3 HR hlr ⊢
  have HN : Hid (fs.length = N) := hN
  have HNR : Hid (ns.length = R) := hR
  have HS : Hid (SetS w bn nn L) := hS
  have HT : Hid (SetT w bY ny T) := hT
  have HTT : Hid (∀ k s, memT (k, s) T = typeB mn en k s) := hTt
  obtain ⟨w1', hwf, hwr⟩ := hw
  have HWF : Hid (∀ f ∈ fs, FlW f) := hwf
  have HWR : Hid (∀ f ∈ ns, I64 f) := hwr
  simp only at w1'
  clear hf hr e1 e2 hN hR hS hT hTt hwf hwr
  obtain ⟨B, hB⟩ : ∃ A, (if freshB nm L = false then 6 else chkMb mn en ⟨nm, fs, ns⟩) = A := ⟨_, rfl⟩
  rw [hB]
  have HA : Hid (B = if freshB nm L = false then 6 else chkMb mn en ⟨nm, fs, ns⟩) := hB.symm
  clear hB
  have hba : Below w.heap.size w (w.alloc (.cells #[.string nm, .slice a N c, .slice ar R cr] 35)) := (Below.refl _ _).alloc (Nat.le_refl _) _
  have BX := Blk.new w #[.string nm, .slice a N c, .slice ar R cr] 35
  have hbw : bn < w.heap.size := SetK.lt HS.out
  have hmm := @run_makeMap Try.prog
  go_enter Try.func31, Try.ntmps31
  go_wp2_with fail
  refine (newname_any (SetK.below HS.out hba) w1' (by omega)).mono ?_
  rintro e w1 ⟨rfl, hs1, hk1⟩
  have HS1 : Hid _ := hs1
  clear hs1
  have hkp1 : Kp (fun k => k = bn) w w1 := (Kp.ofBelow hba).trans hk1
  cases h1 : freshB nm L
  · have H1 : Hid (freshB nm L = false) := h1
    clear h1
    go_wp2_with fail
    go_ret
    exact ⟨ret_int (by rw [HA.out, if_pos H1.out]), (fun e => by rw [H1.out] at e; cases e), hkp1⟩
  · have H1 : Hid (freshB nm L = true) := h1
    clear h1
    have HX : Hid (chkMb mn en ⟨nm, fs, ns⟩ = B) := by show _ = _; rw [HA.out, if_neg (by rw [H1.out]; decide)]
    clear HA
    have BX1 := BX.kp hk1 (by omega)
    have b1 : w1.cell? ⟨w.heap.size, 1, none⟩ = some (.slice a N c) := BX1.cell 1
    have b2 : w1.cell? ⟨w.heap.size, 2, none⟩ = some (.slice ar R cr) := BX1.cell 2
    by_cases hbig : 16 < N
    · have HE : Hid (4 = B) := by show _ = _; rw [← HX.out]; unfold chkMb; rw [if_pos (by unfold bigM; simp only; rw [HN.out, decide_eq_true (.inl hbig)])]
      go_wp2_with fail
      go_ret
      exact ⟨ret_int HE.out, (fun _ => HS1.out H1.out), hkp1⟩
    · have hd : decide (16 < N) = false := by simpa using hbig
      by_cases hbigr : 32 < R
      · have HE : Hid (4 = B) := by show _ = _; rw [← HX.out]; unfold chkMb; rw [if_pos (by unfold bigM; simp only; rw [HNR.out, decide_eq_true (.inr hbigr)])]
        go_wp2_with fail
        go_ret
        exact ⟨ret_int HE.out, (fun _ => HS1.out H1.out), hkp1⟩
      · have HE : Hid (B = orE (chkRes [] ns) (chkFs mn en [] ns fs)) := by
          show _ = _; rw [← HX.out]; unfold chkMb
          rw [if_neg (by unfold bigM; simp only; rw [HNR.out, HN.out, decide_eq_false (by omega)]; decide)]
        obtain ⟨A, hA⟩ : ∃ A, chkRes [] ns = A := ⟨_, rfl⟩
        have HA : Hid (A = chkRes (ns.take 0) (ns.drop 0)) := hA.symm
        have HB : Hid (B = orE A (chkFs mn en [] ns fs)) := by show _ = _; rw [HE.out, hA]
        clear hA HE
        have hdr : decide (32 < R) = false := by simpa using hbigr
        have HF1 : Hid (RowG w1 (.slice a N c) 5 (flRows fs)) := HF.out.kpM hkp1 (SetK.no HS.out)
        have HR1 : Hid (RowG w1 (.slice ar R cr) 1 (inRows ns)) := HR.out.kpM hkp1 (SetK.no HS.out)
        have HT1 : Hid (SetT w1 bY ny T) := SetK.kp HT.out hkp1 hne
        have hxw : w.heap.size < w1.heap.size := BX1.lt
        go_wp2_with fail
        clear hmm b1 b2
        have HM0 := SetK.made 3 w1
        have KP0 : Below w1.heap.size w1 (w1.alloc (.map #[] 0)) := (Below.refl _ _).alloc (Nat.le_refl _) _
        have hbw1 : bn < w1.heap.size := by have := hkp1.size; omega
        have hbY1 : bY < w1.heap.size := SetK.lt HT1.out
        obtain ⟨bt, hbt⟩ : ∃ n, w1.heap.size = n := ⟨_, rfl⟩
        rw [hbt] at HM0 KP0 hbw1 hbY1 ⊢
        have HBT : Hid (w1.heap.size = bt) := hbt
        clear hbt
        go_loopw [29] (fun iv wr => ∃ (k : Nat), iv = .int .i64 (k : Int) ∧ k ≤ R ∧ Hid (A = chkRes (ns.take k) (ns.drop k)) ∧ Hid (SetI wr bt k (ns.take k)) ∧ Below bt w1 wr) (fun iv _ => R - (intOf iv).toNat)
        case atStart => exact ⟨0, rfl, by omega, HA, HM0, KP0⟩
        case round =>
          obtain ⟨k, rfl, hk, HAk, HSt, hbel⟩ := hrel
          clear HM0 KP0
          have hbW : Below w1.heap.size w1 wr := by rw [HBT.out]; exact hbel
          have hbtw : bt < wr.heap.size := SetK.lt HSt.out
          by_cases hlt : k < R
          · obtain ⟨n, hn⟩ : ∃ n, ns[k]? = some n := ⟨_, List.getElem?_eq_getElem (by rw [HNR.out]; exact hlt)⟩
            have hrr : (inRows ns)[k]? = some [.int .i64 n] := by simp [inRows, hn]
            obtain ⟨g, off, rfl, c1⟩ := (HR1.out.below hbW).get hrr
            have hn64 := HWR.out _ (List.mem_of_getElem? hn)
            have HA2 : Hid (A = if tagB n (ns.take k) = true then chkRes (ns.take k ++ [n]) (ns.drop (k + 1)) else 7) := by
              show _ = _
              rw [HAk.out, drop_at hn]; rfl
            have HTK : Hid (ns.take (k + 1) = ns.take k ++ [n]) := take_at hn
            have p0 := c1 0 _ rfl
            simp only [Nat.mul_one, Nat.add_zero] at p0
            clear c1 hrr hn HAk hbW
            go_wp2_with fail
            clear p0
            refine (newtag_any HSt.out hn64 (by omega)).mono ?_
            rintro e w2 ⟨rfl, hs2, hk2⟩
            have HS2 : Hid _ := hs2
            clear hs2
            have hb2 : Below bt w1 w2 := hbel.trans (hk2.toBelow (by omega) (fun k e => by omega))
            cases h2 : tagB n (ns.take k)
            · have HB2 : Hid (7 = B) := by show _ = _; rw [HB.out, HA2.out, if_neg (by rw [h2]; decide), orE_ne (by decide)]
              go_wp2_with fail
              go_ret
              have hbW2 : Below w1.heap.size w1 w2 := by rw [HBT.out]; exact hb2
              exact ⟨ret_int HB2.out, (fun _ => SetK.below (HS1.out H1.out) hbW2), hkp1.below hbW2⟩
            · have HA3 : Hid (A = chkRes (ns.take (k + 1)) (ns.drop (k + 1))) := by
                show _ = _
                rw [HA2.out, if_pos h2, HTK.out]
              have HS2' : Hid (SetI w2 bt (k + 1) (ns.take (k + 1))) := by
                show SetI _ _ _ _
                rw [HTK.out]; exact HS2.out h2
              clear HS2 hbel hk2 HA2 HTK
              go_wp2_with fail
              go_roundw
              case rel => exact ⟨k + 1, by go_num, by omega, HA3, HS2', hb2⟩
              case measure => simp [intOf]; omega
          · have HB2 : Hid (chkFs mn en [] ns fs = B) := by show _ = _; rw [HB.out, HAk.out, drop_end (by rw [HNR.out]; omega)]; exact (orE_zero _).symm
            have HS2 : Hid (SetI wr bt k ns) := by
              have := HSt.out
              rw [List.take_of_length_le (by rw [HNR.out]; omega)] at this
              exact this
            have b1 : wr.cell? ⟨w.heap.size, 1, none⟩ = some (.slice a N c) := (BX1.below hbW).cell 1
            go_wp2_with fail
            clear b1
            refine (cfields_any (HF1.out.below hbW) HL.out HS2.out (by omega) (SetK.below HT1.out hbW) (by omega) HTT.out HWF.out).mono ?_
            rintro e w2 ⟨rfl, hk2⟩
            rw [HB2.out]
            go_wp2_with fail
            go_ret
            have hb2 : Below w1.heap.size w1 w2 := hbW.trans (hk2.toBelow hbW.size (fun k e => by have := HBT.out; omega))
            exact ⟨rfl, (fun _ => SetK.below (HS1.out H1.out) hb2), hkp1.below hb2⟩
set_option maxHeartbeats 2000000 in
theorem cwhole_any {w : World} {am ae at' : Option Addr} {cm ce ct : Nat} (s : ScS) (hs : s.name.size ≤ 140737488351232) (h1 : s.msgs.length ≤ 14) (h2 : s.enums.length ≤ 10) (h3 : s.methods.length ≤ 10) :
    Calls Try.prog 29 #[.agg #[.string s.name, .slice am s.msgs.length cm, .slice ae s.enums.length ce, .slice at' s.methods.length ct]] w fun e w' => e = .returned (.int .i64 (wholeA s)) ∧ Below w.heap.size w w' := by
  obtain ⟨nm, ms, es, ts⟩ := s
  simp only at *
  have HE : Hid (wholeA ⟨nm, ms, es, ts⟩ = if nameB nm = false then 6 else if ms.length = 0 then 12 else if (10 < ms.length ∨ 6 < es.length ∨ 6 < ts.length) then 4 else 0) := by
    show _ = _; unfold wholeA bigS; simp only [decide_eq_true_eq]
  generalize wholeA ⟨nm, ms, es, ts⟩ = A at *
  generalize ms.length = M at *
  generalize es.length = E at *
  generalize ts.length = T at *
  have hba : Below w.heap.size w (w.alloc (.cells #[.string nm, .slice am M cm, .slice ae E ce, .slice at' T ct] 26)) := (Below.refl _ _).alloc (Nat.le_refl _) _
  have BX := Blk.new w #[.string nm, .slice am M cm, .slice ae E ce, .slice at' T ct] 26
  have key : ∀ w1, Below (w.alloc (.cells #[.string nm, .slice am M cm, .slice ae E ce, .slice at' T ct] 26)).heap.size (w.alloc (.cells #[.string nm, .slice am M cm, .slice ae E ce, .slice at' T ct] 26)) w1 → Below w.heap.size w w1 := fun w1 h => hba.trans (h.mono hba.size)
  cases hn : nameB nm
  · rw [hn, if_pos rfl] at HE
    go_enter Try.func29, Try.ntmps29
    go_wp2_with fail
    refine (name_any _ _ hs).mono ?_
    rintro e w1 ⟨rfl, hb1⟩
    rw [hn]
    go_wp2_with fail
    go_ret
    exact ⟨ret_int HE.out.symm, key _ hb1⟩
  · rw [hn, if_neg (by decide)] at HE
    by_cases h0 : M = 0
    · rw [if_pos h0] at HE
      subst h0
      go_enter Try.func29, Try.ntmps29
      go_wp2_with fail
      refine (name_any _ _ hs).mono ?_
      rintro e w1 ⟨rfl, hb1⟩
      rw [hn]
      have b1 : w1.cell? ⟨w.heap.size, 1, none⟩ = some (.slice am 0 cm) := (BX.below hb1).cell 1
      go_wp2_with fail
      go_ret
      exact ⟨ret_int HE.out.symm, key _ hb1⟩
    · rw [if_neg h0] at HE
      have h0' : ((M : Int) == 0) = false := by simpa using h0
      have body : ∀ V : Int, (if (10 < M ∨ 6 < E ∨ 6 < T) then (4 : Int) else 0) = V → A = V := fun V h => HE.out.trans h
      clear HE
      have HBd : Hid (∀ V : Int, (if (10 < M ∨ 6 < E ∨ 6 < T) then (4 : Int) else 0) = V → A = V) := body
      clear body
      go_enter Try.func29, Try.ntmps29
      go_wp2_with fail
      refine (name_any _ _ hs).mono ?_
      rintro e w1 ⟨rfl, hb1⟩
      rw [hn]
      have b1 : w1.cell? ⟨w.heap.size, 1, none⟩ = some (.slice am M cm) := (BX.below hb1).cell 1
      have b2 : w1.cell? ⟨w.heap.size, 2, none⟩ = some (.slice ae E ce) := (BX.below hb1).cell 2
      have b3 : w1.cell? ⟨w.heap.size, 3, none⟩ = some (.slice at' T ct) := (BX.below hb1).cell 3
      have HK : Hid (Below w.heap.size w w1) := key _ hb1
      clear key hb1 BX hba
      by_cases g1 : 10 < M
      · go_wp2_with fail
        go_ret
        exact ⟨ret_int (HBd.out 4 (if_pos (.inl g1))).symm, HK.out⟩
      · by_cases g2 : 6 < E
        · go_wp2_with fail
          go_ret
          exact ⟨ret_int (HBd.out 4 (if_pos (.inr (.inl g2)))).symm, HK.out⟩
        · by_cases g3 : 6 < T
          · go_wp2_with fail
            go_ret
            exact ⟨ret_int (HBd.out 4 (if_pos (.inr (.inr g3)))).symm, HK.out⟩
          · go_wp2_with fail
            go_ret
            exact ⟨ret_int (HBd.out 0 (if_neg (by omega))).symm, HK.out⟩
end Go.Proofs.Ytomeppgmmlaibaa

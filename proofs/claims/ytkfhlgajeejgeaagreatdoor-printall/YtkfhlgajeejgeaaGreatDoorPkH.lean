/- What slices' symMerge answers, of two runs in order: A. -/
import Derived.Deep.Cut
import Derived.Deep.CutRange
import Derived.Test.YtkfhlgajeejgeaaGreatDoorPkG
namespace Go.Proofs.YtkfhlgajeejgeaaGreatDoor
open Go.ChangeShapes Go.WideShapes Go.ChangeAt Go.RowKit
set_option linter.unusedVariables false
set_option linter.unusedSimpArgs false
set_option maxRecDepth 20000

set_option maxHeartbeats 16000000 in
theorem symGA {X Y : List NmS} (hx2 : 2 ≤ X.length) (hy2 : 2 ≤ Y.length) (ih : ∀ X' Y' : List NmS, X'.length + Y'.length < X.length + Y.length → SymC X' Y') : SymP (fun a m b => (a + b) / 2 < m) X Y := by
  intro w B q n cap A Z a m b h hl hn ha hm hb _ _ ux uy hc
  have hbn : b ≤ n := by rw [hl]; simp; omega
  have IH : Hid (∀ X' Y' : List NmS, X'.length + Y'.length < X.length + Y.length → SymC X' Y') := ih
  have HLZ : Hid (n = (A ++ X ++ Y ++ Z).length) := hl
  have HA : Hid (a = A.length) := ha
  have HM : Hid (m = a + X.length) := hm
  have HB : Hid (b = m + Y.length) := hb
  have UX : Hid (UpK NmS.n X) := ux
  have UY : Hid (UpK NmS.n Y) := uy
  have ham : a + 2 ≤ m := by omega
  have hmb : m + 2 ≤ b := by omega
  obtain ⟨L, hL⟩ : ∃ L, A ++ X ++ Y ++ Z = L := ⟨_, rfl⟩
  have HLL : Hid (A ++ X ++ Y ++ Z = L) := hL
  have HLn : Hid (L.length = n) := by show _ = _; rw [← hL, ← hl]
  rw [hL] at h
  have HO0 : Hid (w.ownsRow B 49 2 (.slice (some ⟨q, 0, none⟩) n cap) n (nmRows (L)).flatten) := h
  obtain ⟨d, hd⟩ : ∃ d, m - a = d := ⟨_, rfl⟩
  have hma : ((m : Int) - (a : Int)) = (d : Int) := by omega
  have hma' : IntKind.i64.wrap ((m : Int) - (a : Int)) = (d : Int) := by rw [hma]; exact wrapN _ (by omega) (by omega)
  have hd1 : ((d : Int) == 1) = false := by simp; omega
  obtain ⟨f, hf⟩ : ∃ d, b - m = d := ⟨_, rfl⟩
  have hbm : ((b : Int) - (m : Int)) = (f : Int) := by omega
  have hbm' : IntKind.i64.wrap ((b : Int) - (m : Int)) = (f : Int) := by rw [hbm]; exact wrapN _ (by omega) (by omega)
  have hf1 : ((f : Int) == 1) = false := by simp; omega
  obtain ⟨mid, hmid⟩ : ∃ d, (a + b) / 2 = d := ⟨_, rfl⟩
  have hm2 : mid < m := by rw [← hmid]; exact hc
  have hw0 : IntKind.i64.wrap ((a : Int) + (b : Int)) = (a : Int) + (b : Int) := wrapN _ (by omega) (by omega)
  have hmz : ((a : Int) + (b : Int)) / 2 = (mid : Int) := by omega
  obtain ⟨nn, hnn⟩ : ∃ d, mid + m = d := ⟨_, rfl⟩
  have hnz : (mid : Int) + (m : Int) = (nn : Int) := by omega
  have hnw : IntKind.i64.wrap ((mid : Int) + (m : Int)) = (nn : Int) := by rw [hnz]; exact wrapN _ (by omega) (by omega)
  have hnw' : IntKind.i64.wrap (nn : Int) = (nn : Int) := wrapN _ (by omega) (by omega)
  obtain ⟨p1, hp1⟩ : ∃ d, nn - 1 = d := ⟨_, rfl⟩
  have hpz : (nn : Int) - 1 = (p1 : Int) := by omega
  have hpw : IntKind.i64.wrap (p1 : Int) = (p1 : Int) := wrapN _ (by omega) (by omega)
  have mixed : Tryz.prog.follows Departure.mixedOrders = true := by kernel_rfl
  have HG : Hid (m - a = d ∧ b - m = f ∧ (a + b) / 2 = mid ∧ mid + m = nn ∧ nn - 1 = p1) := ⟨hd, hf, hmid, hnn, hp1⟩
  obtain ⟨R, hR⟩ : ∃ R, A ++ srtF NmS.n (X ++ Y) ++ Z = R := ⟨_, rfl⟩
  have HR : Hid (A ++ srtF NmS.n (X ++ Y) ++ Z = R) := hR
  rw [hR]
  clear h hl ha hb hm ux uy hL hR hd hf hx2 hy2 ih hc
  clear hmid hnn hp1
  have hgs : mid + m = nn ∧ nn = p1 + 1 ∧ a + b ≤ 2 * mid + 1 ∧ 2 * mid ≤ a + b := by
    obtain ⟨_, _, q1, q2, q3⟩ := HG.out
    omega
  obtain ⟨gs1, gs2, gs3, gs4⟩ := hgs
  have gs2' : p1 + 1 = nn := gs2.symm
  clear gs2
  have hm2z : (mid : Int) < (m : Int) := by omega
  obtain ⟨s0, hs0d⟩ : ∃ s0, nn - b = s0 := ⟨_, rfl⟩
  have hs0z : (nn : Int) - (b : Int) = (s0 : Int) := by omega
  have hs0w : IntKind.i64.wrap (s0 : Int) = (s0 : Int) := wrapN _ (by omega) (by omega)
  go_enter Tryz.func135, Tryz.ntmps135
  go_wp2_with fail
  go_loopw [20, 21] (fun iv jv wr => ∃ s r : Nat, iv = .int .i64 (s : Int) ∧ jv = .int .i64 (r : Int) ∧ s0 ≤ s ∧ s ≤ r ∧ r ≤ mid ∧ Hid ((s = s0 ∨ kx NmS.n L (s - 1) ≤ kx NmS.n L (nn - s)) ∧ (r = mid ∨ kx NmS.n L (nn - 1 - r) < kx NmS.n L r)) ∧ Hid (wr.ownsRow B 49 2 (.slice (some ⟨q, 0, none⟩) n cap) n (nmRows (L)).flatten) ∧ Hid (Kp (fun x => x = q) w wr)) (fun iv jv _ => (intOf jv).toNat - (intOf iv).toNat)
  case atStart => exact ⟨s0, mid, rfl, rfl, by omega, by omega, by omega, ⟨.inl rfl, .inl rfl⟩, HO0, Kp.refl _ _⟩
  case round =>
    clear HO0
    obtain ⟨s, r, rfl, rfl, hs0, hsr, hr0, HE, HO, HK⟩ := hrel
    by_cases hlt : s < r
    · have hltz : (s : Int) < (r : Int) := by omega
      obtain ⟨c, hc⟩ : ∃ c, (s + r) / 2 = c := ⟨_, rfl⟩
      have hc1 : s ≤ c := by omega
      have hc2 : c < r := by omega
      obtain ⟨t, ht⟩ : ∃ t, p1 - c = t := ⟨_, rfl⟩
      have htz : (p1 : Int) - (c : Int) = (t : Int) := by omega
      have htw : IntKind.i64.wrap (t : Int) = (t : Int) := wrapN _ (by omega) (by omega)
      have HT : Hid (nn - 1 - c = t ∧ nn - (c + 1) = t) := ⟨by omega, by omega⟩
      have htn : (t : Int) < (n : Int) := by omega
      have hcn : (c : Int) < (n : Int) := by omega
      obtain ⟨⟨x0, x1⟩, hx⟩ : ∃ x, L[t]? = some x := ⟨_, List.getElem?_eq_getElem (by rw [HLn.out]; omega)⟩
      obtain ⟨⟨y0, y1⟩, hy⟩ : ∃ x, L[c]? = some x := ⟨_, List.getElem?_eq_getElem (by rw [HLn.out]; omega)⟩
      have KC : Hid (kx NmS.n L t = x1 ∧ kx NmS.n L c = y1) := ⟨kx_at hx, kx_at hy⟩
      have r1 : (nmRows L)[t]? = some [Value.string x0, Value.int .i64 x1] := by simp [nmRows, hx, NmS.cells]
      have r2 : (nmRows L)[c]? = some [Value.string y0, Value.int .i64 y1] := by simp [nmRows, hy, NmS.cells]
      have c0 := own_at (nml_len _) HO.out r1 (j := 0) rfl
      have c1 := own_at (nml_len _) HO.out r1 (j := 1) rfl
      have d0 := own_at (nml_len _) HO.out r2 (j := 0) rfl
      have d1 := own_at (nml_len _) HO.out r2 (j := 1) rfl
      rw [Nat.add_zero] at c0 d0
      have hq : q < wr.heap.size := World.block_lt_of_cell? _ _ c0
      have c0g : ∀ n' os', (Sort.grow (wr.drewN n') os').cell? ⟨q, t * 2, none⟩ = some (.string x0) := fun n' os' => cell_grown hq c0 n' os'
      have c1g : ∀ n' os', (Sort.grow (wr.drewN n') os').cell? ⟨q, t * 2 + 1, none⟩ = some (.int .i64 x1) := fun n' os' => cell_grown hq c1 n' os'
      have d0g : ∀ n' os', (Sort.grow (wr.drewN n') os').cell? ⟨q, c * 2, none⟩ = some (.string y0) := fun n' os' => cell_grown hq d0 n' os'
      have d1g : ∀ n' os', (Sort.grow (wr.drewN n') os').cell? ⟨q, c * 2 + 1, none⟩ = some (.int .i64 y1) := fun n' os' => cell_grown hq d1 n' os'
      have HCG : Hid (∀ n' os', Calls Tryz.prog 52 #[.agg #[.string x0, .int .i64 x1], .agg #[.string y0, .int .i64 y1]] (Sort.grow (wr.drewN n') os') fun e w' => e = .returned (.int .i64 (cmpI x1 y1)) ∧ ∃ q os'', w' = Sort.grow ((Sort.grow (wr.drewN n') os').drewN q) os'') := fun n' os' => byNumber_any ⟨x0, x1⟩ ⟨y0, y1⟩ _
      have hsum : IntKind.i64.wrap ((s : Int) + (r : Int)) = (s : Int) + (r : Int) := wrapN _ (by omega) (by omega)
      have hcz : ((s : Int) + (r : Int)) / 2 = (c : Int) := by omega
      clear r1 r2 hx hy c0 c1 d0 d1 ht hc
      by_cases hlv : x1 < y1
      · have hz : cmpI x1 y1 < 0 := by unfold cmpI; rw [if_pos hlv]; decide
        have HE2 : Hid ((s = s0 ∨ kx NmS.n L (s - 1) ≤ kx NmS.n L (nn - s)) ∧ (c = mid ∨ kx NmS.n L (nn - 1 - c) < kx NmS.n L c)) := ⟨HE.out.1, .inr (by rw [HT.out.1, KC.out.1, KC.out.2]; exact hlv)⟩
        go_wp2_with fail
        go_quiet_grown (first | (go_at_call 52; refine Calls.grown_of (HCG.out _ _)))
        have HO2 : Hid ((Sort.grow (wr.drewN nq) osq).ownsRow B 49 2 (.slice (some ⟨q, 0, none⟩) n cap) n (nmRows (L)).flatten) := own_below HO.out (below_grow wr nq osq)
        have HK2 : Hid (Kp (fun x => x = q) w (Sort.grow (wr.drewN nq) osq)) := HK.out.trans (Kp.ofBelow (below_grow wr nq osq))
        go_wp2_with fail
        go_roundw
        case rel => exact ⟨s, c, rfl, rfl, by omega, by omega, by omega, HE2, HO2, HK2⟩
        case measure => simp [intOf]; omega
      · have hz : decide (cmpI x1 y1 < 0) = false := by unfold cmpI; rw [if_neg hlv]; split <;> decide
        have hz2 : (0 : Int) ≤ cmpI x1 y1 := by simpa using hz
        have HE2 : Hid ((c + 1 = s0 ∨ kx NmS.n L (c + 1 - 1) ≤ kx NmS.n L (nn - (c + 1))) ∧ (r = mid ∨ kx NmS.n L (nn - 1 - r) < kx NmS.n L r)) := ⟨.inr (by rw [Nat.add_sub_cancel, HT.out.2, KC.out.1, KC.out.2]; omega), HE.out.2⟩
        go_wp2_with fail
        go_quiet_grown (first | (go_at_call 52; refine Calls.grown_of (HCG.out _ _)))
        have HO2 : Hid ((Sort.grow (wr.drewN nq) osq).ownsRow B 49 2 (.slice (some ⟨q, 0, none⟩) n cap) n (nmRows (L)).flatten) := own_below HO.out (below_grow wr nq osq)
        have HK2 : Hid (Kp (fun x => x = q) w (Sort.grow (wr.drewN nq) osq)) := HK.out.trans (Kp.ofBelow (below_grow wr nq osq))
        go_wp2_with fail
        go_roundw
        case rel => exact ⟨c + 1, r, by go_num, rfl, by omega, by omega, by omega, HE2, HO2, HK2⟩
        case measure => simp [intOf]; omega
    · obtain rfl : s = r := by omega
      have hltz : ¬ (s : Int) < (s : Int) := by omega
      have hcut : Cut NmS.n (A ++ X ++ Y ++ Z) a m b s := ⟨by rw [HG.out.2.2.1, if_pos hm2]; exact (by have := HG.out.2.2.2.1; omega), by rw [HG.out.2.2.1, if_pos hm2]; exact hr0, by rw [HG.out.2.2.1, HG.out.2.2.2.1, if_pos hm2, HLL.out]; exact (by have := HE.out.1; rw [← hs0d] at this; exact this), by rw [HG.out.2.2.1, HG.out.2.2.2.1, if_pos hm2, HLL.out]; exact HE.out.2⟩
      obtain ⟨k1, k2, k3, k4⟩ := hcut.bd (by omega) (by omega)
      have HSRT := hcut.srt HA.out HM.out HB.out UX.out UY.out
      obtain ⟨_, _, hmid, hnn, _⟩ := HG.out
      rw [hmid] at HSRT k3 k4
      rw [hnn] at k3 k4
      have k5 : s ≤ mid := by omega
      obtain ⟨en, hen⟩ : ∃ d, nn - s = d := ⟨_, rfl⟩
      have henz : (nn : Int) - (s : Int) = (en : Int) := by omega
      have henw : IntKind.i64.wrap (en : Int) = (en : Int) := wrapN _ (by omega) (by omega)
      have hX := HM.out
      have hY := HB.out
      have hAl := HA.out
      have lX1 : (X.take (s - a)).length = s - a := by rw [List.length_take]; omega
      have lX2 : (X.drop (s - a)).length = m - s := by rw [List.length_drop]; omega
      have lY1 : (Y.take (mid - s)).length = mid - s := by rw [List.length_take]; omega
      have lY2 : (Y.drop (mid - s)).length = b - en := by rw [List.length_drop]; omega
      obtain ⟨ux1, ux2, _⟩ := up_split UX.out (s - a)
      obtain ⟨uy1, uy2, _⟩ := up_split UY.out (mid - s)
      have hLL : L = A ++ X.take (s - a) ++ X.drop (s - a) ++ Y.take (mid - s) ++ (Y.drop (mid - s) ++ Z) := by
        have e1 : X = X.take (s - a) ++ X.drop (s - a) := (List.take_append_drop _ _).symm
        have e2 : Y = Y.take (mid - s) ++ Y.drop (mid - s) := (List.take_append_drop _ _).symm
        rw [← HLL.out]
        conv => lhs; rw [e1, e2]
        simp only [List.append_assoc]
      have hlen : n = (A ++ X.take (s - a) ++ X.drop (s - a) ++ Y.take (mid - s) ++ (Y.drop (mid - s) ++ Z)).length := by rw [← hLL]; exact HLn.out.symm
      have HTC : Hid (s < m → m < en → ∀ W : World, W.ownsRow B 49 2 (.slice (some ⟨q, 0, none⟩) n cap) n (nmRows (L)).flatten → Calls Tryz.prog 166 #[.slice (some ⟨q, 0, none⟩) n cap, .int .i64 (s : Int), .int .i64 (m : Int), .int .i64 (en : Int), .func (.func 52) #[] #[]] W fun e w' => e = .returned (.tuple #[]) ∧ w'.ownsRow B 49 2 (.slice (some ⟨q, 0, none⟩) n cap) n (nmRows (A ++ X.take (s - a) ++ Y.take (mid - s) ++ (X.drop (s - a) ++ Y.drop (mid - s) ++ Z))).flatten ∧ Kp (fun x => x = q) W w') := by
        intro g1 g2 W hW
        rw [hLL] at hW
        have := rotR_any (A := A ++ X.take (s - a)) (X := X.drop (s - a)) (Y := Y.take (mid - s)) (Z := Y.drop (mid - s) ++ Z) hW hlen hn s m en (by rw [List.length_append, lX1]; omega) (by rw [List.length_append, lX1, lX2]; omega) (by rw [List.length_append, lX1, lX2, lY1]; omega) (by rw [lX2]; omega) (by rw [lY1]; omega)
        simpa only [List.append_assoc] using this
      have HTN : Hid ((¬ s < m ∨ ¬ m < en) → ∀ W : World, W.ownsRow B 49 2 (.slice (some ⟨q, 0, none⟩) n cap) n (nmRows (L)).flatten → W.ownsRow B 49 2 (.slice (some ⟨q, 0, none⟩) n cap) n (nmRows (A ++ X.take (s - a) ++ Y.take (mid - s) ++ (X.drop (s - a) ++ Y.drop (mid - s) ++ Z))).flatten) := by
        intro g W hW
        rw [hLL] at hW
        rcases g with g | g
        · have e : X.drop (s - a) = [] := List.eq_nil_of_length_eq_zero (by rw [lX2]; omega)
          rw [e] at hW ⊢
          simpa only [List.append_assoc, List.nil_append, List.append_nil] using hW
        · have e : Y.take (mid - s) = [] := List.eq_nil_of_length_eq_zero (by rw [lY1]; omega)
          rw [e] at hW ⊢
          simpa only [List.append_assoc, List.nil_append, List.append_nil] using hW
      have HLC : Hid (a < s → s < mid → ∀ W : World, W.ownsRow B 49 2 (.slice (some ⟨q, 0, none⟩) n cap) n (nmRows (A ++ X.take (s - a) ++ Y.take (mid - s) ++ (X.drop (s - a) ++ Y.drop (mid - s) ++ Z))).flatten → Calls Tryz.prog 135 #[.slice (some ⟨q, 0, none⟩) n cap, .int .i64 (a : Int), .int .i64 (s : Int), .int .i64 (mid : Int), .func (.func 52) #[] #[]] W fun e w' => e = .returned (.tuple #[]) ∧ w'.ownsRow B 49 2 (.slice (some ⟨q, 0, none⟩) n cap) n (nmRows (A ++ srtF NmS.n (X.take (s - a) ++ Y.take (mid - s)) ++ (X.drop (s - a) ++ Y.drop (mid - s) ++ Z))).flatten ∧ Kp (fun x => x = q) W w') := by
        intro g1 g2 W hW
        exact IH.out _ _ (by rw [lX1, lY1]; omega) W B q n cap A _ a s mid hW (by simp only [List.length_append] at hlen ⊢; omega) hn hAl (by rw [lX1]; omega) (by rw [lY1]; omega) (by rw [lX1]; omega) (by rw [lY1]; omega) ux1 uy1
      have HLN : Hid ((¬ a < s ∨ ¬ s < mid) → ∀ W : World, W.ownsRow B 49 2 (.slice (some ⟨q, 0, none⟩) n cap) n (nmRows (A ++ X.take (s - a) ++ Y.take (mid - s) ++ (X.drop (s - a) ++ Y.drop (mid - s) ++ Z))).flatten → W.ownsRow B 49 2 (.slice (some ⟨q, 0, none⟩) n cap) n (nmRows (A ++ srtF NmS.n (X.take (s - a) ++ Y.take (mid - s)) ++ (X.drop (s - a) ++ Y.drop (mid - s) ++ Z))).flatten) := by
        intro g W hW
        rw [srt_one ux1 uy1 (by
          rcases g with g | g
          · exact .inl (List.eq_nil_of_length_eq_zero (by rw [lX1]; omega))
          · exact .inr (List.eq_nil_of_length_eq_zero (by rw [lY1]; omega)))]
        simpa only [List.append_assoc] using hW
      have hS1 : (srtF NmS.n (X.take (s - a) ++ Y.take (mid - s))).length = mid - a := by rw [srtF_len, List.length_append, lX1, lY1]; omega
      have HRC : Hid (mid < en → en < b → ∀ W : World, W.ownsRow B 49 2 (.slice (some ⟨q, 0, none⟩) n cap) n (nmRows (A ++ srtF NmS.n (X.take (s - a) ++ Y.take (mid - s)) ++ (X.drop (s - a) ++ Y.drop (mid - s) ++ Z))).flatten → Calls Tryz.prog 135 #[.slice (some ⟨q, 0, none⟩) n cap, .int .i64 (mid : Int), .int .i64 (en : Int), .int .i64 (b : Int), .func (.func 52) #[] #[]] W fun e w' => e = .returned (.tuple #[]) ∧ w'.ownsRow B 49 2 (.slice (some ⟨q, 0, none⟩) n cap) n (nmRows (R)).flatten ∧ Kp (fun x => x = q) W w') := by
        intro g1 g2 W hW
        have := IH.out (X.drop (s - a)) (Y.drop (mid - s)) (by rw [lX2, lY2]; omega) W B q n cap (A ++ srtF NmS.n (X.take (s - a) ++ Y.take (mid - s))) Z mid en b (by simpa only [List.append_assoc] using hW) (by simp only [List.length_append] at hlen ⊢; omega) hn (by rw [List.length_append, hS1]; omega) (by rw [lX2]; omega) (by rw [lY2]; omega) (by rw [lX2]; omega) (by rw [lY2]; omega) ux2 uy2
        rw [List.append_assoc A, HSRT, HR.out] at this
        exact this
      have HRN : Hid ((¬ mid < en ∨ ¬ en < b) → ∀ W : World, W.ownsRow B 49 2 (.slice (some ⟨q, 0, none⟩) n cap) n (nmRows (A ++ srtF NmS.n (X.take (s - a) ++ Y.take (mid - s)) ++ (X.drop (s - a) ++ Y.drop (mid - s) ++ Z))).flatten → W.ownsRow B 49 2 (.slice (some ⟨q, 0, none⟩) n cap) n (nmRows (R)).flatten) := by
        intro g W hW
        have e := srt_one ux2 uy2 (by
          rcases g with g | g
          · exact .inl (List.eq_nil_of_length_eq_zero (by rw [lX2]; omega))
          · exact .inr (List.eq_nil_of_length_eq_zero (by rw [lY2]; omega)))
        rw [← HR.out, ← HSRT, e]
        simpa only [List.append_assoc] using hW
      have kk : a ≤ s ∧ s ≤ m ∧ m ≤ en ∧ en ≤ b ∧ s ≤ mid ∧ mid ≤ en := by omega
      clear hcut HSRT hX hY hAl lX1 lX2 lY1 lY2 ux1 ux2 uy1 uy2 hLL hlen hS1 k1 k2 k3 k4 k5 hen HE hmid hnn
      go_upto_region 39 with fail
      go_cut [185] from 178 to 219 (fun bv wx => bv = .bool (decide (s < m ∧ m < en)) ∧ wx = wr)
      case first =>
        rcases (show (s < m ∧ m < en) ∨ (¬ s < m) ∨ (s < m ∧ ¬ m < en) by omega) with g5 | g5 | g5
        · have HD : Hid (decide (s < m ∧ m < en) = true) := decide_eq_true g5
          obtain ⟨g5, g6⟩ := g5
          have g5z : (s : Int) < (m : Int) := by omega
          have g6z : (m : Int) < (en : Int) := by omega
          go_wp2_with fail
          go_meet
          exact ⟨by rw [HD.out], rfl⟩
        · have HD : Hid (decide (s < m ∧ m < en) = false) := decide_eq_false (fun h => g5 h.1)
          have g5z : ¬ (s : Int) < (m : Int) := by omega
          go_wp2_with fail
          go_meet
          exact ⟨by rw [HD.out], rfl⟩
        · have HD : Hid (decide (s < m ∧ m < en) = false) := decide_eq_false (fun h => g5.2 h.2)
          obtain ⟨g5, g6⟩ := g5
          have g5z : (s : Int) < (m : Int) := by omega
          have g6z : ¬ (m : Int) < (en : Int) := by omega
          go_wp2_with fail
          go_meet
          exact ⟨by rw [HD.out], rfl⟩
      case rest =>
      obtain ⟨hcb, hcw⟩ := hcut
      rw [hcb, hcw]
      clear hcb hcw
      go_upto_if 185 with fail
      go_cut [18] from 178 to 219 (fun mv wx => mv = .int .i64 (mid : Int) ∧ Hid (wx.ownsRow B 49 2 (.slice (some ⟨q, 0, none⟩) n cap) n (nmRows (A ++ X.take (s - a) ++ Y.take (mid - s) ++ (X.drop (s - a) ++ Y.drop (mid - s) ++ Z))).flatten) ∧ Hid (Kp (fun x => x = q) w wx))
      case first =>
        by_cases g5 : s < m ∧ m < en
        · have hgd : decide (s < m ∧ m < en) = true := decide_eq_true g5
          obtain ⟨g5, g6⟩ := g5
          rw [hgd]
          go_wp2_with fail
          refine (HTC.out g5 g6 wr HO.out).mono ?_
          rintro e wn ⟨rfl, h1, h2⟩
          have HE : Hid (wn.ownsRow B 49 2 (.slice (some ⟨q, 0, none⟩) n cap) n (nmRows (A ++ X.take (s - a) ++ Y.take (mid - s) ++ (X.drop (s - a) ++ Y.drop (mid - s) ++ Z))).flatten) := h1
          have HKE : Hid (Kp (fun x => x = q) w wn) := HK.out.trans h2
          clear h1 h2 hgd
          go_wp2_with fail
          go_meet
          exact ⟨rfl, HE, HKE.out⟩
        · have hgd : decide (s < m ∧ m < en) = false := decide_eq_false g5
          have HE : Hid (wr.ownsRow B 49 2 (.slice (some ⟨q, 0, none⟩) n cap) n (nmRows (A ++ X.take (s - a) ++ Y.take (mid - s) ++ (X.drop (s - a) ++ Y.drop (mid - s) ++ Z))).flatten) := HTN.out (by omega) wr HO.out
          rw [hgd]
          clear hgd
          go_wp2_with fail
          go_meet
          exact ⟨rfl, HE, HK.out⟩
      case rest =>
      obtain ⟨hcv, HO7, HK7⟩ := hcut
      rw [hcv]
      clear hcv
      generalize wc = wrn at *
      go_upto_region 41 with fail
      go_cut [199] from 178 to 219 (fun bv wx => bv = .bool (decide (a < s ∧ s < mid)) ∧ wx = wrn)
      case first =>
        rcases (show (a < s ∧ s < mid) ∨ (¬ a < s) ∨ (a < s ∧ ¬ s < mid) by omega) with g5 | g5 | g5
        · have HD : Hid (decide (a < s ∧ s < mid) = true) := decide_eq_true g5
          obtain ⟨g5, g6⟩ := g5
          have g5z : (a : Int) < (s : Int) := by omega
          have g6z : (s : Int) < (mid : Int) := by omega
          go_wp2_with fail
          go_meet
          exact ⟨by rw [HD.out], rfl⟩
        · have HD : Hid (decide (a < s ∧ s < mid) = false) := decide_eq_false (fun h => g5 h.1)
          have g5z : ¬ (a : Int) < (s : Int) := by omega
          go_wp2_with fail
          go_meet
          exact ⟨by rw [HD.out], rfl⟩
        · have HD : Hid (decide (a < s ∧ s < mid) = false) := decide_eq_false (fun h => g5.2 h.2)
          obtain ⟨g5, g6⟩ := g5
          have g5z : (a : Int) < (s : Int) := by omega
          have g6z : ¬ (s : Int) < (mid : Int) := by omega
          go_wp2_with fail
          go_meet
          exact ⟨by rw [HD.out], rfl⟩
      case rest =>
      obtain ⟨hcb, hcw⟩ := hcut
      rw [hcb, hcw]
      clear hcb hcw
      go_upto_if 199 with fail
      go_cut [18] from 178 to 219 (fun mv wx => mv = .int .i64 (mid : Int) ∧ Hid (wx.ownsRow B 49 2 (.slice (some ⟨q, 0, none⟩) n cap) n (nmRows (A ++ srtF NmS.n (X.take (s - a) ++ Y.take (mid - s)) ++ (X.drop (s - a) ++ Y.drop (mid - s) ++ Z))).flatten) ∧ Hid (Kp (fun x => x = q) w wx))
      case first =>
        by_cases g5 : a < s ∧ s < mid
        · have hgd : decide (a < s ∧ s < mid) = true := decide_eq_true g5
          obtain ⟨g5, g6⟩ := g5
          rw [hgd]
          go_wp2_with fail
          refine (HLC.out g5 g6 wrn HO7.out).mono ?_
          rintro e wn ⟨rfl, h1, h2⟩
          have HE : Hid (wn.ownsRow B 49 2 (.slice (some ⟨q, 0, none⟩) n cap) n (nmRows (A ++ srtF NmS.n (X.take (s - a) ++ Y.take (mid - s)) ++ (X.drop (s - a) ++ Y.drop (mid - s) ++ Z))).flatten) := h1
          have HKE : Hid (Kp (fun x => x = q) w wn) := HK7.out.trans h2
          clear h1 h2 hgd
          go_wp2_with fail
          go_meet
          exact ⟨rfl, HE, HKE.out⟩
        · have hgd : decide (a < s ∧ s < mid) = false := decide_eq_false g5
          have HE : Hid (wrn.ownsRow B 49 2 (.slice (some ⟨q, 0, none⟩) n cap) n (nmRows (A ++ srtF NmS.n (X.take (s - a) ++ Y.take (mid - s)) ++ (X.drop (s - a) ++ Y.drop (mid - s) ++ Z))).flatten) := HLN.out (by omega) wrn HO7.out
          rw [hgd]
          clear hgd
          go_wp2_with fail
          go_meet
          exact ⟨rfl, HE, HK7.out⟩
      case rest =>
      obtain ⟨hcv, HO8, HK8⟩ := hcut
      rw [hcv]
      clear hcv
      generalize wc = wrnn at *
      go_upto_region 43 with fail
      go_cut [213] from 178 to 219 (fun bv wx => bv = .bool (decide (mid < en ∧ en < b)) ∧ wx = wrnn)
      case first =>
        rcases (show (mid < en ∧ en < b) ∨ (¬ mid < en) ∨ (mid < en ∧ ¬ en < b) by omega) with g5 | g5 | g5
        · have HD : Hid (decide (mid < en ∧ en < b) = true) := decide_eq_true g5
          obtain ⟨g5, g6⟩ := g5
          have g5z : (mid : Int) < (en : Int) := by omega
          have g6z : (en : Int) < (b : Int) := by omega
          go_wp2_with fail
          go_meet
          exact ⟨by rw [HD.out], rfl⟩
        · have HD : Hid (decide (mid < en ∧ en < b) = false) := decide_eq_false (fun h => g5 h.1)
          have g5z : ¬ (mid : Int) < (en : Int) := by omega
          go_wp2_with fail
          go_meet
          exact ⟨by rw [HD.out], rfl⟩
        · have HD : Hid (decide (mid < en ∧ en < b) = false) := decide_eq_false (fun h => g5.2 h.2)
          obtain ⟨g5, g6⟩ := g5
          have g5z : (mid : Int) < (en : Int) := by omega
          have g6z : ¬ (en : Int) < (b : Int) := by omega
          go_wp2_with fail
          go_meet
          exact ⟨by rw [HD.out], rfl⟩
      case rest =>
      obtain ⟨hcb, hcw⟩ := hcut
      rw [hcb, hcw]
      clear hcb hcw
      by_cases g5 : mid < en ∧ en < b
      · have hgd : decide (mid < en ∧ en < b) = true := decide_eq_true g5
        obtain ⟨g5, g6⟩ := g5
        rw [hgd]
        go_wp2_with fail
        refine (HRC.out g5 g6 wrnn HO8.out).mono ?_
        rintro e wn ⟨rfl, h1, h2⟩
        have HE : Hid (wn.ownsRow B 49 2 (.slice (some ⟨q, 0, none⟩) n cap) n (nmRows (R)).flatten) := h1
        have HKE : Hid (Kp (fun x => x = q) w wn) := HK8.out.trans h2
        clear h1 h2 hgd
        go_wp2_with fail
        go_end0
        exact ⟨rfl, HE.out, HKE.out⟩
      · have hgd : decide (mid < en ∧ en < b) = false := decide_eq_false g5
        have HE : Hid (wrnn.ownsRow B 49 2 (.slice (some ⟨q, 0, none⟩) n cap) n (nmRows (R)).flatten) := HRN.out (by omega) wrnn HO8.out
        rw [hgd]
        clear hgd
        go_wp2_with fail
        go_end0
        exact ⟨rfl, HE.out, HK8.out⟩
end Go.Proofs.YtkfhlgajeejgeaaGreatDoor

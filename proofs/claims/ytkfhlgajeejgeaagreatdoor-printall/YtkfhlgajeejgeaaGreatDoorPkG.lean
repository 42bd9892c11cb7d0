/- What slices' symMerge answers where one stands behind a run. -/
import Derived.Deep.Cut
import Derived.Deep.CutRange
import Derived.Test.YtkfhlgajeejgeaaGreatDoorPkF
namespace Go.Proofs.YtkfhlgajeejgeaaGreatDoor
open Go.ChangeShapes Go.WideShapes Go.ChangeAt Go.RowKit
set_option linter.unusedVariables false
set_option linter.unusedSimpArgs false
set_option maxRecDepth 20000

theorem oneL_back {A X Z : List NmS} {x y : NmS} {k : Nat} (hx : X[k]? = some x) :
    (oneL A X Z y (k + 1))[A.length + k]? = some x ∧ (oneL A X Z y (k + 1))[A.length + k + 1]? = some y ∧ ((oneL A X Z y (k + 1)).set (A.length + k + 1) x).set (A.length + k) y = oneL A X Z y k := by
  obtain ⟨s1, s2, s3⟩ := oneL_step (A := A) (Z := Z) (x := y) hx
  have hk := (List.getElem?_eq_some_iff.1 hx).1
  have i1 := (List.getElem?_eq_some_iff.1 s1).1
  have i2 := (List.getElem?_eq_some_iff.1 s2).1
  refine ⟨?_, ?_, ?_⟩
  · rw [← s3, List.getElem?_set_ne (by omega), List.getElem?_set_self i1]
  · rw [← s3, List.getElem?_set_self (by rw [List.length_set]; exact i2)]
  · rw [← s3]
    apply List.ext_getElem?
    intro j
    by_cases h1 : j = A.length + k
    · subst h1
      rw [List.getElem?_set_self (by simpa using i1), s1]
    · rw [List.getElem?_set_ne (by omega)]
      by_cases h2 : j = A.length + k + 1
      · subst h2
        rw [List.getElem?_set_self (by simpa using i2), s2]
      · rw [List.getElem?_set_ne (by omega), List.getElem?_set_ne (by omega), List.getElem?_set_ne (by omega)]
set_option maxHeartbeats 4000000 in
theorem symB_any {w : World} {B q n cap : Nat} {A X Z : List NmS} {y : NmS} (h : w.ownsRow B 49 2 (.slice (some ⟨q, 0, none⟩) n cap) n (nmRows (A ++ X ++ [y] ++ Z)).flatten) (hl : n = (A ++ X ++ [y] ++ Z).length) (hn : n ≤ 1000) (a m b : Nat) (ha : a = A.length) (hm : m = a + X.length) (hb : b = m + 1) (hx2 : 2 ≤ X.length) (ux : UpK NmS.n X) :
    Calls Tryz.prog 135 #[.slice (some ⟨q, 0, none⟩) n cap, .int .i64 (a : Int), .int .i64 (m : Int), .int .i64 (b : Int), .func (.func 52) #[] #[]] w fun e w' => e = .returned (.tuple #[]) ∧ w'.ownsRow B 49 2 (.slice (some ⟨q, 0, none⟩) n cap) n (nmRows (A ++ srtF NmS.n (X ++ [y]) ++ Z)).flatten ∧ Kp (fun x => x = q) w w' := by
  have hbn : b ≤ n := by rw [hl]; simp; omega
  have HA : Hid (a = A.length) := ha
  have HM : Hid (m = a + X.length) := hm
  have UX : Hid (UpK NmS.n X) := ux
  have ham : a + 2 ≤ m := by omega
  have hmn : m < n := by omega
  obtain ⟨L, hL⟩ : ∃ L, A ++ X ++ [y] ++ Z = L := ⟨_, rfl⟩
  have HLL : Hid (A ++ X ++ [y] ++ Z = L) := hL
  have HLn : Hid (L.length = n) := by show _ = _; rw [← hL, ← hl]
  rw [hL] at h
  have HO0 : Hid (w.ownsRow B 49 2 (.slice (some ⟨q, 0, none⟩) n cap) n (nmRows L).flatten) := h
  obtain ⟨d, hd⟩ : ∃ d, m - a = d := ⟨_, rfl⟩
  have hma : ((m : Int) - (a : Int)) = (d : Int) := by omega
  have hma' : IntKind.i64.wrap ((m : Int) - (a : Int)) = (d : Int) := by rw [hma]; exact wrapN _ (by omega) (by omega)
  have hd1 : ((d : Int) == 1) = false := by simp; omega
  have hbm : ((b : Int) - (m : Int)) = 1 := by omega
  have hbm' : IntKind.i64.wrap ((b : Int) - (m : Int)) = 1 := by rw [hbm]; decide
  obtain ⟨R, hR⟩ : ∃ R, A ++ srtF NmS.n (X ++ [y]) ++ Z = R := ⟨_, rfl⟩
  have HR : Hid (A ++ srtF NmS.n (X ++ [y]) ++ Z = R) := hR
  rw [hR]
  clear h hl ha hb hm ux hL hR hd hx2
  go_enter Tryz.func135, Tryz.ntmps135
  go_wp2_with fail
  go_loopw [14, 15] (fun iv jv wr => ∃ i j : Nat, iv = .int .i64 (i : Int) ∧ jv = .int .i64 (j : Int) ∧ a ≤ i ∧ i ≤ j ∧ j ≤ m ∧ Hid ((i = a ∨ kx NmS.n L (i - 1) ≤ kx NmS.n L m) ∧ (j = m ∨ kx NmS.n L m < kx NmS.n L j)) ∧ Hid (wr.ownsRow B 49 2 (.slice (some ⟨q, 0, none⟩) n cap) n (nmRows L).flatten) ∧ Hid (Kp (fun x => x = q) w wr)) (fun iv jv _ => (intOf jv).toNat - (intOf iv).toNat)
  case atStart => exact ⟨a, m, rfl, rfl, by omega, by omega, by omega, ⟨.inl rfl, .inl rfl⟩, HO0, Kp.refl _ _⟩
  case round =>
    clear HO0
    obtain ⟨i, j, rfl, rfl, hmi, hij, hjb, HE, HO, HK⟩ := hrel
    by_cases hlt : i < j
    · have hltz : (i : Int) < (j : Int) := by omega
      obtain ⟨c, hc⟩ : ∃ c, (i + j) / 2 = c := ⟨_, rfl⟩
      have hc1 : i ≤ c := by omega
      have hc2 : c < j := by omega
      obtain ⟨⟨x0, x1⟩, hx⟩ : ∃ x, L[c]? = some x := ⟨_, List.getElem?_eq_getElem (by rw [HLn.out]; omega)⟩
      obtain ⟨⟨y0, y1⟩, hy⟩ : ∃ x, L[m]? = some x := ⟨_, List.getElem?_eq_getElem (by rw [HLn.out]; omega)⟩
      have kc : kx NmS.n L c = x1 := kx_at hx
      have ka : kx NmS.n L m = y1 := kx_at hy
      have r1 : (nmRows L)[c]? = some [Value.string x0, Value.int .i64 x1] := by simp [nmRows, hx, NmS.cells]
      have r2 : (nmRows L)[m]? = some [Value.string y0, Value.int .i64 y1] := by simp [nmRows, hy, NmS.cells]
      have c0 := own_at (nml_len _) HO.out r1 (j := 0) rfl
      have c1 := own_at (nml_len _) HO.out r1 (j := 1) rfl
      have d0 := own_at (nml_len _) HO.out r2 (j := 0) rfl
      have d1 := own_at (nml_len _) HO.out r2 (j := 1) rfl
      rw [Nat.add_zero] at c0 d0
      have KC : Hid (kx NmS.n L c = x1 ∧ kx NmS.n L m = y1) := ⟨kc, ka⟩
      have hsum : IntKind.i64.wrap ((i : Int) + (j : Int)) = (i : Int) + (j : Int) := wrapN _ (by omega) (by omega)
      have hq : q < wr.heap.size := World.block_lt_of_cell? _ _ c0
      have c0g : ∀ n' os', (Sort.grow (wr.drewN n') os').cell? ⟨q, c * 2, none⟩ = some (.string x0) := fun n' os' => cell_grown hq c0 n' os'
      have c1g : ∀ n' os', (Sort.grow (wr.drewN n') os').cell? ⟨q, c * 2 + 1, none⟩ = some (.int .i64 x1) := fun n' os' => cell_grown hq c1 n' os'
      have d0g : ∀ n' os', (Sort.grow (wr.drewN n') os').cell? ⟨q, m * 2, none⟩ = some (.string y0) := fun n' os' => cell_grown hq d0 n' os'
      have d1g : ∀ n' os', (Sort.grow (wr.drewN n') os').cell? ⟨q, m * 2 + 1, none⟩ = some (.int .i64 y1) := fun n' os' => cell_grown hq d1 n' os'
      have hcg : ∀ n' os', Calls Tryz.prog 52 #[.agg #[.string y0, .int .i64 y1], .agg #[.string x0, .int .i64 x1]] (Sort.grow (wr.drewN n') os') fun e w' => e = .returned (.int .i64 (cmpI y1 x1)) ∧ ∃ q os'', w' = Sort.grow ((Sort.grow (wr.drewN n') os').drewN q) os'' := fun n' os' => byNumber_any ⟨y0, y1⟩ ⟨x0, x1⟩ _
      have HCG : Hid _ := hcg
      clear r1 r2 hx hy kc ka c0 c1 d0 d1 hcg
      have hcz : ((i : Int) + (j : Int)) / 2 = (c : Int) := by omega
      have hcn : (c : Int) < (n : Int) := by omega
      have han : (m : Int) < (n : Int) := by omega
      have mixed : Tryz.prog.follows Departure.mixedOrders = true := by kernel_rfl
      by_cases hlv : y1 < x1
      · have hz : cmpI y1 x1 < 0 := by unfold cmpI; rw [if_pos hlv]; decide
        have HE2 : Hid ((i = a ∨ kx NmS.n L (i - 1) ≤ kx NmS.n L m) ∧ (c = m ∨ kx NmS.n L m < kx NmS.n L c)) := ⟨HE.out.1, .inr (by rw [KC.out.1, KC.out.2]; exact hlv)⟩
        go_wp2_with fail
        go_quiet_grown (first | (go_at_call 52; refine Calls.grown_of (HCG.out _ _)))
        have HO2 : Hid ((Sort.grow (wr.drewN nq) osq).ownsRow B 49 2 (.slice (some ⟨q, 0, none⟩) n cap) n (nmRows L).flatten) := own_below HO.out (below_grow wr nq osq)
        have HK2 : Hid (Kp (fun x => x = q) w (Sort.grow (wr.drewN nq) osq)) := HK.out.trans (Kp.ofBelow (below_grow wr nq osq))
        go_wp2_with fail
        go_roundw
        case rel => exact ⟨i, c, rfl, rfl, by omega, by omega, by omega, HE2, HO2, HK2⟩
        case measure => simp [intOf]; omega
      · have hz : decide (cmpI y1 x1 < 0) = false := by unfold cmpI; rw [if_neg hlv]; split <;> decide
        have hz2 : (0 : Int) ≤ cmpI y1 x1 := by simpa using hz
        have HE2 : Hid ((c + 1 = a ∨ kx NmS.n L (c + 1 - 1) ≤ kx NmS.n L m) ∧ (j = m ∨ kx NmS.n L m < kx NmS.n L j)) := ⟨.inr (by rw [Nat.add_sub_cancel, KC.out.1, KC.out.2]; omega), HE.out.2⟩
        go_wp2_with fail
        go_quiet_grown (first | (go_at_call 52; refine Calls.grown_of (HCG.out _ _)))
        have HO2 : Hid ((Sort.grow (wr.drewN nq) osq).ownsRow B 49 2 (.slice (some ⟨q, 0, none⟩) n cap) n (nmRows L).flatten) := own_below HO.out (below_grow wr nq osq)
        have HK2 : Hid (Kp (fun x => x = q) w (Sort.grow (wr.drewN nq) osq)) := HK.out.trans (Kp.ofBelow (below_grow wr nq osq))
        go_wp2_with fail
        go_roundw
        case rel => exact ⟨c + 1, j, by go_num, rfl, by omega, by omega, by omega, HE2, HO2, HK2⟩
        case measure => simp [intOf]; omega
    · obtain rfl : i = j := by omega
      have hltz : ¬ (i : Int) < (i : Int) := by omega
      have HRI : Hid (oneL A X Z y (i - a) = R) := by
        show _ = _
        rw [← HR.out]
        have := one_behind (key := NmS.n) (A := A) (X := X) (B := Z) (y := y) (i := i) HA.out HM.out UX.out hmi hjb (by rw [HLL.out]; exact HE.out.1) (by rw [HLL.out]; exact HE.out.2)
        rw [this]
        unfold oneL
        simp only [List.append_assoc]
      have HO0 : Hid (wr.ownsRow B 49 2 (.slice (some ⟨q, 0, none⟩) n cap) n (nmRows (oneL A X Z y (m - a))).flatten) := by
        show World.ownsRow _ _ _ _ _ _ _
        have e : m - a = X.length := by have := HM.out; omega
        rw [e, show oneL A X Z y X.length = L by rw [← HLL.out]; simp [oneL]]
        exact HO.out
      have HXI : Hid (m - a ≤ X.length) := by have := HM.out; show _ ≤ _; omega
      clear HE HO
      go_wp2_with fail
      go_loopw [17] (fun kv wr => ∃ k : Nat, kv = .int .i64 (k : Int) ∧ i ≤ k ∧ k ≤ m ∧ Hid (wr.ownsRow B 49 2 (.slice (some ⟨q, 0, none⟩) n cap) n (nmRows (oneL A X Z y (k - a))).flatten) ∧ Hid (Kp (fun x => x = q) w wr)) (fun kv _ => (intOf kv).toNat)
      case atStart => exact ⟨m, rfl, by omega, by omega, HO0, HK⟩
      case round =>
        clear HO0 HK
        obtain ⟨k, rfl, hik, hkm, HO, HK⟩ := hrel
        by_cases hlt : i < k
        · obtain ⟨p, rfl⟩ : ∃ p, k = p + 1 := ⟨k - 1, by omega⟩
          have hltz2 : (i : Int) < (p : Int) + 1 := by omega
          obtain ⟨⟨x0, x1⟩, hx⟩ : ∃ x, X[p - a]? = some x := ⟨_, List.getElem?_eq_getElem (by have := HXI.out; omega)⟩
          obtain ⟨s1, s2, s3⟩ := oneL_back (A := A) (Z := Z) (y := y) hx
          rw [← HA.out, show a + (p - a) = p by omega, show p - a + 1 = p + 1 - a by omega] at s1 s2 s3
          obtain ⟨y0, y1⟩ := y
          have r1 : (nmRows (oneL A X Z ⟨y0, y1⟩ (p + 1 - a)))[p]? = some [Value.string x0, Value.int .i64 x1] := by simp [nmRows, s1, NmS.cells]
          have r2 : (nmRows (oneL A X Z ⟨y0, y1⟩ (p + 1 - a)))[p + 1]? = some [Value.string y0, Value.int .i64 y1] := by simp [nmRows, s2, NmS.cells]
          have c0 := own_at (nml_len _) HO.out r1 (j := 0) rfl
          have c1 := own_at (nml_len _) HO.out r1 (j := 1) rfl
          have d0 := own_at (nml_len _) HO.out r2 (j := 0) rfl
          have d1 := own_at (nml_len _) HO.out r2 (j := 1) rfl
          rw [Nat.add_zero] at c0 d0
          have f0 : wr.frozen? ⟨q, p * 2, none⟩ = false := own_froz HO.out _
          have f1 : wr.frozen? ⟨q, p * 2 + 1, none⟩ = false := own_froz HO.out _
          have f2 : wr.frozen? ⟨q, (p + 1) * 2, none⟩ = false := own_froz HO.out _
          have f3 : wr.frozen? ⟨q, (p + 1) * 2 + 1, none⟩ = false := own_froz HO.out _
          have i1 := (List.getElem?_eq_some_iff.1 s1).1
          have i2 := (List.getElem?_eq_some_iff.1 s2).1
          have HN : Hid (((((wr.setCell ⟨q, (p + 1) * 2, none⟩ (.string x0)).setCell ⟨q, (p + 1) * 2 + 1, none⟩ (.int .i64 x1)).setCell ⟨q, p * 2, none⟩ (.string y0)).setCell ⟨q, p * 2 + 1, none⟩ (.int .i64 y1)).drew.ownsRow B 49 2 (.slice (some ⟨q, 0, none⟩) n cap) n (nmRows (oneL A X Z ⟨y0, y1⟩ (p - a))).flatten) := by
            have := own_swap HO.out i2 i1 ⟨x0, x1⟩ ⟨y0, y1⟩
            rw [s3] at this
            exact own_below this (below_drewN 1 (Below.refl _ _))
          have HKN : Hid (Kp (fun x => x = q) w ((((wr.setCell ⟨q, (p + 1) * 2, none⟩ (.string x0)).setCell ⟨q, (p + 1) * 2 + 1, none⟩ (.int .i64 x1)).setCell ⟨q, p * 2, none⟩ (.string y0)).setCell ⟨q, p * 2 + 1, none⟩ (.int .i64 y1)).drew) := by
            show Kp _ _ _
            refine Kp.trans ?_ (Kp.ofBelow (below_drewN 1 (Below.refl _ _)))
            refine Kp.setCell ?_ (fun _ => by simp) _
            refine Kp.setCell ?_ (fun _ => by simp) _
            refine Kp.setCell ?_ (fun _ => by simp) _
            refine Kp.setCell ?_ (fun _ => by simp) _
            exact HK.out
          have w1 : IntKind.i64.wrap (p : Int) = (p : Int) := wrapN _ (by omega) (by omega)
          have z1 : (p : Int) < (n : Int) := by omega
          have z2 : (p : Int) + 1 < (n : Int) := by omega
          have z4 : (0 : Int) ≤ (p : Int) + 1 := by omega
          have t2 : ((p : Int) + 1).toNat = p + 1 := by omega
          have mixed : Tryz.prog.follows Departure.mixedOrders = true := by kernel_rfl
          clear s1 s2 s3 r1 r2 hx i1 i2
          go_wp2_with fail
          go_big_region_o
          all_goals go_wp2_with fail
          go_roundw
          case rel => exact ⟨p, by first | rfl | go_num, by omega, by omega, HN, HKN⟩
          case measure => first | (simp [intOf]; done) | (simp [intOf]; omega)
        · obtain rfl : k = i := by omega
          have hltz2 : ¬ (k : Int) < (k : Int) := by omega
          have HE : Hid (wr.ownsRow B 49 2 (.slice (some ⟨q, 0, none⟩) n cap) n (nmRows R).flatten) := by
            show World.ownsRow _ _ _ _ _ _ _
            rw [← HRI.out]
            exact HO.out
          go_wp2_with fail
          refine bodyPost_ret (results_none rfl _ _ _) rfl ?_
          exact ⟨rfl, HE.out, HK.out⟩
end Go.Proofs.YtkfhlgajeejgeaaGreatDoor

/- What slices' symMerge is said to answer, of two runs in order. -/
namespace Go.Proofs.YtkfhlgajeejgeaaGreatDoor
open Go.ChangeShapes Go.WideShapes Go.ChangeAt Go.RowKit
set_option linter.unusedVariables false
set_option linter.unusedSimpArgs false
set_option maxRecDepth 20000

/-- What symMerge answers of two runs. -/
def SymC (X Y : List NmS) : Prop := ∀ (w : World) (B q n cap : Nat) (A Z : List NmS) (a m b : Nat), w.ownsRow B 49 2 (.slice (some ⟨q, 0, none⟩) n cap) n (nmRows (A ++ X ++ Y ++ Z)).flatten → n = (A ++ X ++ Y ++ Z).length → n ≤ 1000 → a = A.length → m = a + X.length → b = m + Y.length → 0 < X.length → 0 < Y.length → UpK NmS.n X → UpK NmS.n Y →
    Calls Tryz.prog 135 #[.slice (some ⟨q, 0, none⟩) n cap, .int .i64 (a : Int), .int .i64 (m : Int), .int .i64 (b : Int), .func (.func 52) #[] #[]] w fun e w' => e = .returned (.tuple #[]) ∧ w'.ownsRow B 49 2 (.slice (some ⟨q, 0, none⟩) n cap) n (nmRows (A ++ srtF NmS.n (X ++ Y) ++ Z)).flatten ∧ Kp (fun x => x = q) w w'
/-- The same, of runs of which more is known. -/
def SymP (c : Nat → Nat → Nat → Prop) (X Y : List NmS) : Prop := ∀ (w : World) (B q n cap : Nat) (A Z : List NmS) (a m b : Nat), w.ownsRow B 49 2 (.slice (some ⟨q, 0, none⟩) n cap) n (nmRows (A ++ X ++ Y ++ Z)).flatten → n = (A ++ X ++ Y ++ Z).length → n ≤ 1000 → a = A.length → m = a + X.length → b = m + Y.length → 0 < X.length → 0 < Y.length → UpK NmS.n X → UpK NmS.n Y → c a m b →
    Calls Tryz.prog 135 #[.slice (some ⟨q, 0, none⟩) n cap, .int .i64 (a : Int), .int .i64 (m : Int), .int .i64 (b : Int), .func (.func 52) #[] #[]] w fun e w' => e = .returned (.tuple #[]) ∧ w'.ownsRow B 49 2 (.slice (some ⟨q, 0, none⟩) n cap) n (nmRows (A ++ srtF NmS.n (X ++ Y) ++ Z)).flatten ∧ Kp (fun x => x = q) w w'
end Go.Proofs.YtkfhlgajeejgeaaGreatDoor

/- WireJoins answers true at any two lists. -/
import Derived.Test.YtfbekeebllcdbabWrUse
import Derived.Test.YtfbekeebllcdbabWrPut
import Derived.Test.YtfbekeebllcdbabRwOpen
namespace Go.Proofs.Ytfbekeebllcdbab
open Go.ChangeShapes Go.WideShapes Go.ChangeAt Go.RowKit
set_option linter.unusedVariables false
set_option linter.unusedSimpArgs false
set_option maxRecDepth 20000

theorem joins_err {xs ys : List Fd} (h : (putL xs).2 ≠ 0 ∨ (putL ys).2 ≠ 0) : (putL (xs ++ ys)).2 ≠ 0 ∧ ((putL (xs ++ ys)).2 = (putL xs).2 ∨ (putL (xs ++ ys)).2 = (putL ys).2 ∨ (putL (xs ++ ys)).2 = 1) := by
  unfold putL at h ⊢
  rw [List.all_append, flatN_app, List.length_append]
  cases ha : xs.all okF <;> cases hb : ys.all okF <;> simp only [ha, hb, Bool.and_true, Bool.and_false, Bool.false_eq_true, if_true, if_false] at h ⊢
  · simp
  · simp
  · simp
  · by_cases h1 : (flatN xs).length ≤ 4096 <;> by_cases h2 : (flatN ys).length ≤ 4096 <;> simp [h1, h2] at h ⊢
    · rw [if_neg (by omega)]; simp
    · rw [if_neg (by omega)]; simp
    · rw [if_neg (by omega)]; simp
theorem joins_ok {xs ys : List Fd} (h1 : (putL xs).2 = 0) (h2 : (putL ys).2 = 0) :
    putL (xs ++ ys) = if 4096 < (putL xs).1.length + (putL ys).1.length then ([], 4) else ((putL xs).1 ++ (putL ys).1, 0) := by
  unfold putL at h1 h2 ⊢
  rw [List.all_append, flatN_app, List.length_append]
  cases ha : xs.all okF <;> cases hb : ys.all okF <;> simp only [ha, hb, Bool.and_true, Bool.and_false, Bool.false_eq_true, if_true, if_false] at h1 h2 ⊢
  · simp at h1
  · simp at h1
  · simp at h2
  · by_cases g1 : (flatN xs).length ≤ 4096 <;> by_cases g2 : (flatN ys).length ≤ 4096 <;> simp [g1, g2] at h1 h2 ⊢
    by_cases g : (flatN xs).length + (flatN ys).length ≤ 4096
    · rw [if_pos g, if_neg (by omega)]
    · rw [if_neg g, if_pos (by omega)]
set_option maxHeartbeats 2000000 in
theorem wireJoins_walk (a : Option Addr) (N c : Nat) (xs : List Fd) (b : Option Addr) (M d : Nat) (ys : List Fd) (w : World) (ha : CameR w a N c xs) (hb : CameR w b M d ys) :
    Calls Try.prog 4 #[.slice a N c, .slice b M d] w fun e w' => e = .returned (.bool true) ∧ Below w.heap.size w w' := by
  have HA : Hid (CameR w a N c xs) := ha
  have HB : Hid (CameR w b M d ys) := hb
  have S1 : Hid (∀ W, Below w.heap.size w W → Calls Try.prog 9 #[.slice a N c] W fun e w' => e = .returned (.bool (smallB xs)) ∧ w' = W) := fun W hW => small_any a xs N c W ha.len ha.adr ha.le ha.max (ha.holds.below hW)
  have S2 : Hid (∀ W, Below w.heap.size w W → Calls Try.prog 9 #[.slice b M d] W fun e w' => e = .returned (.bool (smallB ys)) ∧ w' = W) := fun W hW => small_any b ys M d W hb.len hb.adr hb.le hb.max (hb.holds.below hW)
  clear ha hb
  cases hs1 : smallB xs with
  | false =>
    rw [hs1] at S1
    go_enter Try.func4, Try.ntmps4
    go_wp2_with fail
    refine (S1.out _ (Below.refl _ _)).mono ?_
    rintro e w1 ⟨rfl, rfl⟩
    clear S1 S2
    go_wp2_with fail
    refine (wawake_any _).mono ?_
    rintro e w5 ⟨rfl, hb5⟩
    go_wp2_with fail
    go_ret
    exact ⟨rfl, hb5⟩
  | true =>
  cases hs2 : smallB ys with
  | false =>
    rw [hs1] at S1
    rw [hs2] at S2
    go_enter Try.func4, Try.ntmps4
    go_wp2_with fail
    refine (S1.out _ (Below.refl _ _)).mono ?_
    rintro e w1 ⟨rfl, rfl⟩
    clear S1
    go_wp2_with fail
    refine (S2.out _ (Below.refl _ _)).mono ?_
    rintro e w1 ⟨rfl, rfl⟩
    clear S2
    go_wp2_with fail
    refine (wawake_any _).mono ?_
    rintro e w5 ⟨rfl, hb5⟩
    go_wp2_with fail
    go_ret
    exact ⟨rfl, hb5⟩
  | true =>
  rw [hs1] at S1
  rw [hs2] at S2
  have hN : N ≤ 60 := by rw [← HA.out.len]; exact small_len hs1
  have hM : M ≤ 60 := by rw [← HB.out.len]; exact small_len hs2
  obtain ⟨X, hX⟩ : ∃ X, putL xs = X := ⟨_, rfl⟩
  obtain ⟨Y, hY⟩ : ∃ Y, putL ys = Y := ⟨_, rfl⟩
  obtain ⟨Z, hZ⟩ : ∃ Z, putL (xs ++ ys) = Z := ⟨_, rfl⟩
  have HX : Hid (putL xs = X) := hX
  have HY : Hid (putL ys = Y) := hY
  have HZ : Hid (putL (xs ++ ys) = Z) := hZ
  have hXl : X.1.length ≤ 4096 := by rw [← hX]; exact putL_short
  have hYl : Y.1.length ≤ 4096 := by rw [← hY]; exact putL_short
  have P1 : Hid (∀ B W r n, W.ownsRow B 26 4 r n (rawCells xs) → Calls Try.prog 6 #[r] W fun e w' => ∃ v, e = .returned (.tuple #[v, .int .i64 (X.2 : Int)]) ∧ w'.ownsRow W.heap.size 5 1 v X.1.length (byteCells X.1) ∧ Below W.heap.size W w') := fun B W r n ho => by
    rw [← hX]; exact putall_own ho (by rw [HA.out.len]; omega) HA.out.n64
  have P2 : Hid (∀ B W r n, W.ownsRow B 26 4 r n (rawCells ys) → Calls Try.prog 6 #[r] W fun e w' => ∃ v, e = .returned (.tuple #[v, .int .i64 (Y.2 : Int)]) ∧ w'.ownsRow W.heap.size 5 1 v Y.1.length (byteCells Y.1) ∧ Below W.heap.size W w') := fun B W r n ho => by
    rw [← hY]; exact putall_own ho (by rw [HB.out.len]; omega) HB.out.n64
  have P3 : Hid (∀ B W r n, W.ownsRow B 26 4 r n (rawCells (xs ++ ys)) → Calls Try.prog 6 #[r] W fun e w' => ∃ v, e = .returned (.tuple #[v, .int .i64 (Z.2 : Int)]) ∧ w'.ownsRow W.heap.size 5 1 v Z.1.length (byteCells Z.1) ∧ Below W.heap.size W w') := fun B W r n ho => by
    rw [← hZ]; exact putall_own ho (by rw [List.length_append, HA.out.len, HB.out.len]; omega) (fun r hr => (List.mem_append.1 hr).elim (HA.out.n64 r) (HB.out.n64 r))
  clear hX hY hZ hs1 hs2
  go_enter Try.func4, Try.ntmps4
  go_wp2_with fail
  refine (S1.out _ (Below.refl _ _)).mono ?_
  rintro e w1 ⟨rfl, rfl⟩
  clear S1
  go_wp2_with fail
  refine (S2.out _ (Below.refl _ _)).mono ?_
  rintro e w ⟨rfl, rfl⟩
  clear S2
  go_wp2_with (first
    | (at_builtin; refine wpList_joinR rfl _ _ rfl w.heap.size (.slice none 0 0) 0 [] rfl (World.ownsRow_nil _ _ _ _) a xs _ _ rfl HA.out.len.symm HA.out.nil HA.out.holds ?c1 ?c2 ?_)
    | fail)
  case c1 => rw [HA.out.len]; simp; omega
  case c2 => exact Nat.le_refl _
  intro r1 w1 ho1 hg1
  have hb1 : Below w.heap.size w w1 := (Below.refl _ _).grown hg1 (Nat.le_refl _) (fun k hk => by cases hk)
  have C1 : Hid (Calls Try.prog 6 #[r1] w1 fun e w' => ∃ v, e = .returned (.tuple #[v, .int .i64 (X.2 : Int)]) ∧ w'.ownsRow w1.heap.size 5 1 v X.1.length (byteCells X.1) ∧ Below w1.heap.size w1 w') := P1.out _ _ _ _ ho1
  clear ho1 hg1 P1
  go_wp2_with fail
  refine C1.out.mono ?_
  rintro e w2 ⟨x, rfl, ho2, hb2⟩
  have hbb2 : Below w.heap.size w w2 := hb1.trans (hb2.mono hb1.size)
  have HO2 : Hid (w2.ownsRow w.heap.size 5 1 x X.1.length (byteCells X.1)) := own_mono ho2 hb1.size
  clear C1 ho2 hb2 hb1
  have hsz2 := hbb2.size
  have HB2 : Hid (CameR w2 b M d ys) := HB.out.below hbb2
  go_wp2_with (first
    | (at_builtin; refine wpList_joinR rfl _ _ rfl w2.heap.size (.slice none 0 0) 0 [] rfl (World.ownsRow_nil _ _ _ _) b ys _ _ rfl HB2.out.len.symm HB2.out.nil HB2.out.holds ?c1 ?c2 ?_)
    | fail)
  case c1 => rw [HB.out.len]; simp; omega
  case c2 => exact Nat.le_refl _
  intro r3 w3 ho3 hg3
  have hb3 : Below w2.heap.size w2 w3 := (Below.refl _ _).grown hg3 (Nat.le_refl _) (fun k hk => by cases hk)
  have C2 : Hid (Calls Try.prog 6 #[r3] w3 fun e w' => ∃ v, e = .returned (.tuple #[v, .int .i64 (Y.2 : Int)]) ∧ w'.ownsRow w3.heap.size 5 1 v Y.1.length (byteCells Y.1) ∧ Below w3.heap.size w3 w') := P2.out _ _ _ _ ho3
  have HO3 := own_belowH HO2 hb3
  have hbb3 : Below w.heap.size w w3 := hbb2.trans (hb3.mono hsz2)
  clear ho3 hg3 P2 HO2 HB2 hbb2 hb3
  go_wp2_with fail
  refine C2.out.mono ?_
  rintro e w4 ⟨y, rfl, ho4, hb4⟩
  have hbb4 : Below w.heap.size w w4 := hbb3.trans (hb4.mono hbb3.size)
  have HO4 := own_belowH HO3 hb4
  have HY4 : Hid (w4.ownsRow w.heap.size 5 1 y Y.1.length (byteCells Y.1)) := own_mono ho4 hbb3.size
  clear C2 ho4 hb4 HO3 hbb3
  have hsz4 := hbb4.size
  have HA4 : Hid (CameR w4 a N c xs) := HA.out.below hbb4
  go_wp2_with (first
    | (at_builtin; refine wpList_joinR rfl _ _ rfl w4.heap.size (.slice none 0 0) 0 [] rfl (World.ownsRow_nil _ _ _ _) a xs _ _ rfl HA4.out.len.symm HA4.out.nil HA4.out.holds ?c1 ?c2 ?_)
    | fail)
  case c1 => rw [HA.out.len]; simp; omega
  case c2 => exact Nat.le_refl _
  intro r5 w5 ho5 hg5
  have hb5 : Below w4.heap.size w4 w5 := (Below.refl _ _).grown hg5 (Nat.le_refl _) (fun k hk => by cases hk)
  have hbb5 : Below w.heap.size w w5 := hbb4.trans (hb5.mono hsz4)
  have HR5 : Hid (w5.ownsRow w4.heap.size 26 4 r5 xs.length (rawCells xs)) := by
    show World.ownsRow _ _ _ _ _ _ _
    simpa using ho5
  have hsz5 := hb5.size
  have HB45 : Hid (Below w4.heap.size w4 w5) := hb5
  clear ho5 hg5 hb5 HA4
  have HB5 : Hid (CameR w5 b M d ys) := HB.out.below hbb5
  go_wp2_with (first
    | (at_builtin; refine wpList_joinR rfl _ _ rfl w4.heap.size r5 _ xs rfl HR5.out b ys _ _ rfl HB5.out.len.symm HB5.out.nil HB5.out.holds ?c1 ?c2 ?_)
    | fail)
  case c1 => rw [HA.out.len, HB.out.len]; omega
  case c2 => exact hsz5
  intro r6 w6 ho6 hg6
  have hb46 : Below w4.heap.size w4 w6 := HB45.out.grown hg6 hsz5 (fun k hk => (HR5.out.lt k hk).1)
  have hbb6 : Below w.heap.size w w6 := hbb4.trans (hb46.mono hsz4)
  have C3 : Hid (Calls Try.prog 6 #[r6] w6 fun e w' => ∃ v, e = .returned (.tuple #[v, .int .i64 (Z.2 : Int)]) ∧ w'.ownsRow w6.heap.size 5 1 v Z.1.length (byteCells Z.1) ∧ Below w6.heap.size w6 w') := P3.out _ _ _ _ ho6
  have HO6 := own_belowH HO4 hb46
  have HY6 := own_belowH HY4 hb46
  clear ho6 hg6 P3 HO4 HY4 HB45 HR5 HB5 hb46 hbb5 hbb4
  go_wp2_with fail
  refine C3.out.mono ?_
  rintro e w7 ⟨z, rfl, ho7, hb7⟩
  have hbb7 : Below w.heap.size w w7 := hbb6.trans (hb7.mono hbb6.size)
  have HO7 := own_belowH HO6 hb7
  have HY7 := own_belowH HY6 hb7
  have HZ7 : Hid (w7.ownsRow w.heap.size 5 1 z Z.1.length (byteCells Z.1)) := own_mono ho7 hbb6.size
  clear C3 HO6 HY6 ho7 hb7 hbb6
  by_cases hef : X.2 ≠ 0 ∨ Y.2 ≠ 0
  · have hj := joins_err (xs := xs) (ys := ys) (by rw [HX.out, HY.out]; exact hef)
    have g1 := putL_err xs
    have g2 := putL_err ys
    have g3 := putL_err (xs ++ ys)
    rw [HX.out, HY.out, HZ.out] at hj
    rw [HX.out] at g1
    rw [HY.out] at g2
    rw [HZ.out] at g3
    generalize X.2 = e1 at *
    generalize Y.2 = e2 at *
    generalize Z.2 = e3 at *
    clear HX HY HZ HO7 HY7 HZ7
    rcases g1 with rfl | rfl | rfl <;> rcases g2 with rfl | rfl | rfl <;> rcases g3 with rfl | rfl | rfl <;> first | (exfalso; omega) | skip
    all_goals
      clear hef hj
      go_wp2_with fail
      refine (wawake_any _).mono ?_
      rintro e w8 ⟨rfl, hb8⟩
      have hbb8 : Below w.heap.size w w8 := hbb7.trans (hb8.mono hbb7.size)
      clear hb8
      go_wp2_with fail
      go_ret
      exact ⟨rfl, hbb8⟩
  · obtain ⟨h1, h2⟩ : X.2 = 0 ∧ Y.2 = 0 := by omega
    have hj := joins_ok (xs := xs) (ys := ys) (by rw [HX.out]; exact h1) (by rw [HY.out]; exact h2)
    rw [HX.out, HY.out, HZ.out] at hj
    obtain ⟨X, e1⟩ := X
    obtain ⟨Y, e2⟩ := Y
    simp only at h1 h2 hj HO7 HY7 hXl hYl
    subst h1 h2
    clear hef HX HY HZ
    obtain ⟨ax, cx, rfl, -, h11, h12, h13, h14⟩ := own_open HO7.out
    obtain ⟨ay, cy, rfl, -, h21, h22, h23, h24⟩ := own_open HY7.out
    by_cases hbig : 4096 < X.length + Y.length
    · rw [if_pos hbig] at hj
      subst hj
      clear HO7 HY7 HZ7 h11 h12 h13 h14 h21 h22 h23 h24
      generalize X.length = LX at *
      generalize Y.length = LY at *
      go_wp2_with fail
      refine (wawake_any _).mono ?_
      rintro e w8 ⟨rfl, hb8⟩
      have hbb8 : Below w.heap.size w w8 := hbb7.trans (hb8.mono hbb7.size)
      clear hb8
      go_wp2_with fail
      go_ret
      exact ⟨rfl, hbb8⟩
    · rw [if_neg hbig] at hj
      subst hj
      obtain ⟨az, cz, rfl, -, h31, h32, h33, h34⟩ := own_open HZ7.out
      have K1 := conv_holds w7 ax X cx (fun h => by rcases h11 with h' | ⟨g, h', _⟩; exact h'.2.1; rw [h'] at h; cases h) h14
      have K2 := conv_holds w7 ay Y cy (fun h => by rcases h21 with h' | ⟨g, h', _⟩; exact h'.2.1; rw [h'] at h; cases h) h24
      have K3 := conv_holds w7 az (X ++ Y) cz (fun h => by rcases h31 with h' | ⟨g, h', _⟩; exact h'.2.1; rw [h'] at h; cases h) h34
      rw [strN_append] at K3
      simp only at K3 ⊢
      clear HO7 HY7 HZ7 h11 h12 h13 h14 h21 h22 h23 h24 h31 h32 h33 h34
      have z1 := strN_size X
      have z2 := strN_size Y
      generalize (X ++ Y).length = LZ at *
      generalize X.length = LX at *
      generalize Y.length = LY at *
      generalize strN X = sx at *
      generalize strN Y = sy at *
      have hsx : sx.size ≤ 4096 := by omega
      have hsy : sy.size ≤ 4096 := by omega
      clear z1 z2
      go_wp2_with fail
      refine (wawake_any _).mono ?_
      rintro e w8 ⟨rfl, hb8⟩
      have hbb8 : Below w.heap.size w w8 := hbb7.trans (hb8.mono hbb7.size)
      clear hb8
      go_wp2_with fail
      go_ret
      exact ⟨rfl, hbb8⟩
end Go.Proofs.Ytfbekeebllcdbab

/- A number's digits; a place by a number; names and words by numbers. -/
import Derived.Test.YtfffjfccochccaaDoorIdAwake
import Derived.Test.YtfffjfccochccaaDoorIdMsg
import Derived.Test.YtfffjfccochccaaDoorRg
import Derived.Test.YtfffjfccochccaaDoorLwPlace
namespace Go.Proofs.YtfffjfccochccaaDoor
open Go.ChangeShapes Go.WideShapes Go.ChangeAt Go.RowKit
set_option linter.unusedVariables false
set_option linter.unusedSimpArgs false
set_option maxRecDepth 20000

def placeZ (v n : Int) : Int := if v.tmod n < 0 then v.tmod n + n else v.tmod n
theorem placeZ_bd (v n : Int) (hn : 1 ≤ n) : 0 ≤ placeZ v n ∧ placeZ v n < n := by
  have t1 := Int.tmod_lt_of_pos v (b := n) (by omega)
  have t2 := Int.lt_tmod_of_pos v (b := n) (by omega)
  unfold placeZ
  split <;> omega
set_option maxHeartbeats 1000000 in
theorem place_val (v n : Int) (w : World) (hv1 : -9223372036854775808 ≤ v) (hv2 : v ≤ 9223372036854775807) (hn1 : 1 ≤ n) (hn2 : n ≤ 4611686018427387904) :
    Calls Tryd.prog 13 #[.int .i64 v, .int .i64 n] w fun e w' => e = .returned (.int .i64 (placeZ v n)) ∧ w' = w := by
  have t1 := Int.tmod_lt_of_pos v (b := n) (by omega)
  have t2 := Int.lt_tmod_of_pos v (b := n) (by omega)
  have hz : (n == 0) = false := by rw [beq_eq_false_iff_ne]; omega
  unfold placeZ
  by_cases hneg : v.tmod n < 0
  · rw [if_pos hneg]
    go_enter Tryd.func13, Tryd.ntmps13
    go_wp2_with fail
    go_ret
    exact ⟨rfl, rfl⟩
  · rw [if_neg hneg]
    go_enter Tryd.func13, Tryd.ntmps13
    go_wp2_with fail
    go_ret
    exact ⟨rfl, rfl⟩
def dg (v : Nat) : UInt8 := UInt8.ofNat (48 + v)
def dec1 (v : Nat) : List UInt8 := [dg v]
def dec2 (v : Nat) : List UInt8 := if v < 10 then dec1 v else dec1 (v / 10) ++ [dg (v % 10)]
def dec3 (v : Nat) : List UInt8 := if v < 10 then dec1 v else dec2 (v / 10) ++ [dg (v % 10)]
theorem dec3_ok : ∀ v, v < 501 → numA (dec3 v) = (v, true) ∧ (dec3 v).all digU = true ∧ (dec3 v) ≠ [] ∧ (dec3 v).length ≤ 3 := by decide +kernel
def digsB : ByteArray := ⟨#[48, 49, 50, 51, 52, 53, 54, 55, 56, 57]⟩
theorem dig_cut (v : Nat) (h : v < 10) : digsB.extract v (v + 1) = ⟨#[dg v]⟩ := by
  match v, h with
  | 0, _ | 1, _ | 2, _ | 3, _ | 4, _ | 5, _ | 6, _ | 7, _ | 8, _ | 9, _ => decide +kernel
theorem dig_slice (W : World) (v : Nat) (h : v < 10) : (Instr.slice 9 (.string ⟨#[48, 49, 50, 51, 52, 53, 54, 55, 56, 57]⟩) (some (.int .i64 (v : Int))) (some (.int .i64 ((v : Int) + 1))) none).run Tryd.prog W = .ok (.string ⟨#[dg v]⟩) W := by
  have := slice_text W digsB v (v + 1) (by omega) (by show v + 1 ≤ 10; omega)
  rw [dig_cut v h] at this
  exact this
set_option maxHeartbeats 1000000 in
theorem dec_one (v : Nat) (w : World) (h : v < 10) : Calls Tryd.prog 14 #[.int .i64 (v : Int)] w fun e w' => e = .returned (.string ⟨(dec1 v).toArray⟩) ∧ Below w.heap.size w w' := by
  have hsl := dig_slice w v h
  go_enter Tryd.func14, Tryd.ntmps14
  go_wp2_with fail
  go_ret
  exact ⟨rfl, Below.refl _ _⟩
theorem wrapZ (x : Int) (h1 : -9223372036854775808 ≤ x) (h2 : x ≤ 9223372036854775807) : IntKind.i64.wrap x = x := by
  rw [IntKind.wrap_i64]; omega
theorem ba_app (x y : List UInt8) : (⟨x.toArray⟩ : ByteArray) ++ ⟨y.toArray⟩ = ⟨(x ++ y).toArray⟩ := by
  apply ByteArray.ext
  rw [ByteArray.data_append]
  simp
set_option maxHeartbeats 1000000 in
theorem dec_step (v : Nat) (w : World) (h : 10 ≤ v) (hv : v < 100000) (X : List UInt8) (hX : ∀ W, Calls Tryd.prog 14 #[.int .i64 ((v / 10 : Nat) : Int)] W fun e w' => e = .returned (.string ⟨X.toArray⟩) ∧ Below W.heap.size W w') (hl : X.length ≤ 100) :
    Calls Tryd.prog 14 #[.int .i64 (v : Int)] w fun e w' => e = .returned (.string ⟨(X ++ [dg (v % 10)]).toArray⟩) ∧ Below w.heap.size w w' := by
  obtain ⟨q, hq⟩ : ∃ q, v / 10 = q := ⟨_, rfl⟩
  obtain ⟨r, hr⟩ : ∃ r, v % 10 = r := ⟨_, rfl⟩
  have hr10 : r < 10 := by omega
  rw [hq] at hX
  rw [hr, ← ba_app]
  have hqz : (v : Int).tdiv 10 = (q : Int) := by rw [← hq]; exact (Int.ofNat_tdiv v 10).symm
  have hrz : (v : Int).tmod 10 = (r : Int) := by rw [← hr]; exact (Int.ofNat_tmod v 10).symm
  have HD : Hid (∀ W, Below w.heap.size w W → Calls Tryd.prog 14 #[.int .i64 (q : Int)] W fun e W' => e = .returned (.string ⟨X.toArray⟩) ∧ Below w.heap.size w W') := fun W hW => by
    refine (hX W).mono ?_
    rintro e W' ⟨rfl, hb⟩
    exact ⟨rfl, hW.trans (hb.mono hW.size)⟩
  have HSL : Hid (∀ W, (Instr.slice 9 (.string ⟨#[48, 49, 50, 51, 52, 53, 54, 55, 56, 57]⟩) (some (.int .i64 (r : Int))) (some (.int .i64 ((r : Int) + 1))) none).run Tryd.prog W = .ok (.string ⟨#[dg r]⟩) W) := fun W => dig_slice W r hr10
  have hxs : (⟨X.toArray⟩ : ByteArray).size ≤ 100 := by simpa [ByteArray.size] using hl
  generalize (⟨X.toArray⟩ : ByteArray) = XB at *
  have wq : IntKind.i64.wrap (q : Int) = (q : Int) := wrapZ _ (by omega) (by omega)
  have wr1 : IntKind.i64.wrap ((r : Int) + 1) = (r : Int) + 1 := wrapZ _ (by omega) (by omega)
  clear hX hq hr hl
  go_enter Tryd.func14, Tryd.ntmps14
  go_wp2_with fail
  have hS : Below w.heap.size w w.drew := (Below.refl _ _).drew
  refine wp_region_held_drew (S := fun w' => Below w.heap.size w w') (by kernel_rfl) hS (fun hS => ?_)
  refine rg_take 0 9 (.int .i64 (v : Int)) _ rfl rfl (by kernel_rfl) (by kernel_rfl) (by kernel_rfl) (fun _ _ _ h => h) (by rfl) (fun w' hw' => ?_) hS (listed' := #[true, false, false, false, false, false, false, false, false, false, false]) (by kernel_rfl) rfl ?_
  · go_simp
  simp only [List.setIfInBounds_toArray, List.set_cons_zero, List.set_cons_succ]
  refine rg_take 1 10 (.int .i64 (q : Int)) _ rfl rfl (by kernel_rfl) (by kernel_rfl) (by kernel_rfl) (fun _ _ _ h => h) (by rfl) (fun w' hw' => ?_) hS (listed' := #[true, true, false, false, false, false, false, false, false, false, false]) (by kernel_rfl) rfl ?_
  · go_simp
  simp only [List.setIfInBounds_toArray, List.set_cons_zero, List.set_cons_succ]
  refine rg_take 3 12 (.int .i64 (v : Int)) _ rfl rfl (by kernel_rfl) (by kernel_rfl) (by kernel_rfl) (fun _ _ _ h => h) (by rfl) (fun w' hw' => ?_) hS (listed' := #[true, true, false, true, false, false, false, false, false, false, false]) (by kernel_rfl) rfl ?_
  · go_simp
  simp only [List.setIfInBounds_toArray, List.set_cons_zero, List.set_cons_succ]
  refine rg_take 4 13 (.int .i64 (r : Int)) _ rfl rfl (by kernel_rfl) (by kernel_rfl) (by kernel_rfl) (fun _ _ _ h => h) (by rfl) (fun w' hw' => ?_) hS (listed' := #[true, true, false, true, true, false, false, false, false, false, false]) (by kernel_rfl) rfl ?_
  · go_simp
  simp only [List.setIfInBounds_toArray, List.set_cons_zero, List.set_cons_succ]
  refine rg_take 5 14 (.int .i64 (v : Int)) _ rfl rfl (by kernel_rfl) (by kernel_rfl) (by kernel_rfl) (fun _ _ _ h => h) (by rfl) (fun w' hw' => ?_) hS (listed' := #[true, true, false, true, true, true, false, false, false, false, false]) (by kernel_rfl) rfl ?_
  · go_simp
  simp only [List.setIfInBounds_toArray, List.set_cons_zero, List.set_cons_succ]
  refine rg_take 6 15 (.int .i64 (r : Int)) _ rfl rfl (by kernel_rfl) (by kernel_rfl) (by kernel_rfl) (fun _ _ _ h => h) (by rfl) (fun w' hw' => ?_) hS (listed' := #[true, true, false, true, true, true, true, false, false, false, false]) (by kernel_rfl) rfl ?_
  · go_simp
  simp only [List.setIfInBounds_toArray, List.set_cons_zero, List.set_cons_succ]
  refine rg_take 7 16 (.int .i64 ((r : Int) + 1)) _ rfl rfl (by kernel_rfl) (by kernel_rfl) (by kernel_rfl) (fun _ _ _ h => h) (by rfl) (fun w' hw' => ?_) hS (listed' := #[true, true, false, true, true, true, true, true, false, false, false]) (by kernel_rfl) rfl ?_
  · go_simp
  simp only [List.setIfInBounds_toArray, List.set_cons_zero, List.set_cons_succ]
  refine rg_take 8 17 (.string ⟨#[dg r]⟩) _ rfl rfl (by kernel_rfl) (by kernel_rfl) (by kernel_rfl) (fun _ _ _ h => h) (by rfl) (fun w' hw' => ?_) hS (listed' := #[true, true, false, true, true, true, true, true, true, false, false]) (by kernel_rfl) rfl ?_
  · have hsl := HSL.out w'; go_simp
  simp only [List.setIfInBounds_toArray, List.set_cons_zero, List.set_cons_succ]
  refine rg_call 2 11 14 #[.int .i64 (q : Int)] rfl rfl (by kernel_rfl) (by rfl) (listed' := #[true, true, true, true, true, true, true, true, true, false, false]) (by kernel_rfl) (fun w' => ?_) ?_
  · go_simp
  refine (HD.out _ hS).mono ?_
  rintro e w1 ⟨rfl, hS⟩
  refine ⟨_, rfl, hS, ?_⟩
  simp only [List.setIfInBounds_toArray, List.set_cons_zero, List.set_cons_succ]
  refine rg_take 9 18 (.string (XB ++ ⟨#[dg r]⟩)) _ rfl rfl (by kernel_rfl) (by kernel_rfl) (by kernel_rfl) (fun _ _ _ h => h) (by rfl) (fun w' hw' => ?_) hS (listed' := #[true, true, true, true, true, true, true, true, true, true, false]) (by kernel_rfl) rfl ?_
  · go_simp; omega
  simp only [List.setIfInBounds_toArray, List.set_cons_zero, List.set_cons_succ]
  refine rg_take 10 2 (.string (XB ++ ⟨#[dg r]⟩)) _ rfl rfl (by kernel_rfl) (by kernel_rfl) (by kernel_rfl) (fun _ _ _ h => h) (by rfl) (fun w' hw' => ?_) hS (listed' := #[true, true, true, true, true, true, true, true, true, true, true]) (by kernel_rfl) rfl ?_
  · go_simp
  simp only [List.setIfInBounds_toArray, List.set_cons_zero, List.set_cons_succ]
  refine wpAnyH_done (by kernel_rfl) ?_ _
  go_wp2_with fail
  go_ret
  exact ⟨rfl, hS⟩
theorem dec2_any (v : Nat) (w : World) (h : v < 100) : Calls Tryd.prog 14 #[.int .i64 (v : Int)] w fun e w' => e = .returned (.string ⟨(dec2 v).toArray⟩) ∧ Below w.heap.size w w' := by
  unfold dec2
  split
  · rename_i h1; exact dec_one v w h1
  · exact dec_step v w (by omega) (by omega) (dec1 (v / 10)) (fun W => dec_one _ W (by omega)) (by simp [dec1])
theorem dec3_any (v : Nat) (w : World) (h : v < 1000) : Calls Tryd.prog 14 #[.int .i64 (v : Int)] w fun e w' => e = .returned (.string ⟨(dec3 v).toArray⟩) ∧ Below w.heap.size w w' := by
  unfold dec3
  split
  · rename_i h1; exact dec_one v w h1
  · exact dec_step v w (by omega) (by omega) (dec2 (v / 10)) (fun W => dec2_any _ W (by omega)) (by unfold dec2 dec1; split <;> simp)
end Go.Proofs.YtfffjfccochccaaDoor

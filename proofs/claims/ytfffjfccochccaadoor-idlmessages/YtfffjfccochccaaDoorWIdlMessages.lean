/- IdlMessages answers true at every list. -/
import Derived.Test.YtfffjfccochccaaDoorIdAwake
import Derived.Test.YtfffjfccochccaaDoorIdMsg
import Derived.Test.YtfffjfccochccaaDoorIdOwn
import Derived.Test.YtfffjfccochccaaDoorLwPlace
import Derived.Test.YtfffjfccochccaaDoorRg
import Derived.Test.YtfffjfccochccaaDoorScSame
namespace Go.Proofs.YtfffjfccochccaaDoor
open Go.ChangeShapes Go.WideShapes Go.ChangeAt Go.RowKit
set_option linter.unusedVariables false
set_option linter.unusedSimpArgs false
set_option maxRecDepth 20000

def placeZ (v n : Int) : Int := if v.tmod n < 0 then v.tmod n + n else v.tmod n
theorem placeZ_bd (v n : Int) (hn : 1 ≤ n) : 0 ≤ placeZ v n ∧ placeZ v n < n := by
  have t1 := Int.tmod_lt_of_pos v (b := n) (by omega)
  have t2 := Int.lt_tmod_of_pos v (b := n) (by omega)
  unfold placeZ
  split <;> omega
set_option maxHeartbeats 1000000 in
theorem place_val (v n : Int) (w : World) (hv1 : -9223372036854775808 ≤ v) (hv2 : v ≤ 9223372036854775807) (hn1 : 1 ≤ n) (hn2 : n ≤ 4611686018427387904) :
    Calls Tryd.prog 13 #[.int .i64 v, .int .i64 n] w fun e w' => e = .returned (.int .i64 (placeZ v n)) ∧ w' = w := by
  have t1 := Int.tmod_lt_of_pos v (b := n) (by omega)
  have t2 := Int.lt_tmod_of_pos v (b := n) (by omega)
  have hz : (n == 0) = false := by rw [beq_eq_false_iff_ne]; omega
  unfold placeZ
  by_cases hneg : v.tmod n < 0
  · rw [if_pos hneg]
    go_enter Tryd.func13, Tryd.ntmps13
    go_wp2_with fail
    go_ret
    exact ⟨rfl, rfl⟩
  · rw [if_neg hneg]
    go_enter Tryd.func13, Tryd.ntmps13
    go_wp2_with fail
    go_ret
    exact ⟨rfl, rfl⟩
def dg (v : Nat) : UInt8 := UInt8.ofNat (48 + v)
def dec1 (v : Nat) : List UInt8 := [dg v]
def dec2 (v : Nat) : List UInt8 := if v < 10 then dec1 v else dec1 (v / 10) ++ [dg (v % 10)]
def dec3 (v : Nat) : List UInt8 := if v < 10 then dec1 v else dec2 (v / 10) ++ [dg (v % 10)]
theorem dec3_ok : ∀ v, v < 501 → numA (dec3 v) = (v, true) ∧ (dec3 v).all digU = true ∧ (dec3 v) ≠ [] ∧ (dec3 v).length ≤ 3 := by decide +kernel
def digsB : ByteArray := ⟨#[48, 49, 50, 51, 52, 53, 54, 55, 56, 57]⟩
theorem dig_cut (v : Nat) (h : v < 10) : digsB.extract v (v + 1) = ⟨#[dg v]⟩ := by
  match v, h with
  | 0, _ | 1, _ | 2, _ | 3, _ | 4, _ | 5, _ | 6, _ | 7, _ | 8, _ | 9, _ => decide +kernel
theorem dig_slice (W : World) (v : Nat) (h : v < 10) : (Instr.slice 9 (.string ⟨#[48, 49, 50, 51, 52, 53, 54, 55, 56, 57]⟩) (some (.int .i64 (v : Int))) (some (.int .i64 ((v : Int) + 1))) none).run Tryd.prog W = .ok (.string ⟨#[dg v]⟩) W := by
  have := slice_text W digsB v (v + 1) (by omega) (by show v + 1 ≤ 10; omega)
  rw [dig_cut v h] at this
  exact this
set_option maxHeartbeats 1000000 in
theorem dec_one (v : Nat) (w : World) (h : v < 10) : Calls Tryd.prog 14 #[.int .i64 (v : Int)] w fun e w' => e = .returned (.string ⟨(dec1 v).toArray⟩) ∧ Below w.heap.size w w' := by
  have hsl := dig_slice w v h
  go_enter Tryd.func14, Tryd.ntmps14
  go_wp2_with fail
  go_ret
  exact ⟨rfl, Below.refl _ _⟩
theorem wrapZ (x : Int) (h1 : -9223372036854775808 ≤ x) (h2 : x ≤ 9223372036854775807) : IntKind.i64.wrap x = x := by
  rw [IntKind.wrap_i64]; omega
theorem ba_app (x y : List UInt8) : (⟨x.toArray⟩ : ByteArray) ++ ⟨y.toArray⟩ = ⟨(x ++ y).toArray⟩ := by
  apply ByteArray.ext
  rw [ByteArray.data_append]
  simp
set_option maxHeartbeats 1000000 in
theorem dec_step (v : Nat) (w : World) (h : 10 ≤ v) (hv : v < 100000) (X : List UInt8) (hX : ∀ W, Calls Tryd.prog 14 #[.int .i64 ((v / 10 : Nat) : Int)] W fun e w' => e = .returned (.string ⟨X.toArray⟩) ∧ Below W.heap.size W w') (hl : X.length ≤ 100) :
    Calls Tryd.prog 14 #[.int .i64 (v : Int)] w fun e w' => e = .returned (.string ⟨(X ++ [dg (v % 10)]).toArray⟩) ∧ Below w.heap.size w w' := by
  obtain ⟨q, hq⟩ : ∃ q, v / 10 = q := ⟨_, rfl⟩
  obtain ⟨r, hr⟩ : ∃ r, v % 10 = r := ⟨_, rfl⟩
  have hr10 : r < 10 := by omega
  rw [hq] at hX
  rw [hr, ← ba_app]
  have hqz : (v : Int).tdiv 10 = (q : Int) := by rw [← hq]; exact (Int.ofNat_tdiv v 10).symm
  have hrz : (v : Int).tmod 10 = (r : Int) := by rw [← hr]; exact (Int.ofNat_tmod v 10).symm
  have HD : Hid (∀ W, Below w.heap.size w W → Calls Tryd.prog 14 #[.int .i64 (q : Int)] W fun e W' => e = .returned (.string ⟨X.toArray⟩) ∧ Below w.heap.size w W') := fun W hW => by
    refine (hX W).mono ?_
    rintro e W' ⟨rfl, hb⟩
    exact ⟨rfl, hW.trans (hb.mono hW.size)⟩
  have HSL : Hid (∀ W, (Instr.slice 9 (.string ⟨#[48, 49, 50, 51, 52, 53, 54, 55, 56, 57]⟩) (some (.int .i64 (r : Int))) (some (.int .i64 ((r : Int) + 1))) none).run Tryd.prog W = .ok (.string ⟨#[dg r]⟩) W) := fun W => dig_slice W r hr10
  have hxs : (⟨X.toArray⟩ : ByteArray).size ≤ 100 := by simpa [ByteArray.size] using hl
  generalize (⟨X.toArray⟩ : ByteArray) = XB at *
  have wq : IntKind.i64.wrap (q : Int) = (q : Int) := wrapZ _ (by omega) (by omega)
  have wr1 : IntKind.i64.wrap ((r : Int) + 1) = (r : Int) + 1 := wrapZ _ (by omega) (by omega)
  clear hX hq hr hl
  go_enter Tryd.func14, Tryd.ntmps14
  go_wp2_with fail
  have hS : Below w.heap.size w w.drew := (Below.refl _ _).drew
  refine wp_region_held_drew (S := fun w' => Below w.heap.size w w') (by kernel_rfl) hS (fun hS => ?_)
  refine rg_take 0 9 (.int .i64 (v : Int)) _ rfl rfl (by kernel_rfl) (by kernel_rfl) (by kernel_rfl) (fun _ _ _ h => h) (by rfl) (fun w' hw' => ?_) hS (listed' := #[true, false, false, false, false, false, false, false, false, false, false]) (by kernel_rfl) rfl ?_
  · go_simp
  simp only [List.setIfInBounds_toArray, List.set_cons_zero, List.set_cons_succ]
  refine rg_take 1 10 (.int .i64 (q : Int)) _ rfl rfl (by kernel_rfl) (by kernel_rfl) (by kernel_rfl) (fun _ _ _ h => h) (by rfl) (fun w' hw' => ?_) hS (listed' := #[true, true, false, false, false, false, false, false, false, false, false]) (by kernel_rfl) rfl ?_
  · go_simp
  simp only [List.setIfInBounds_toArray, List.set_cons_zero, List.set_cons_succ]
  refine rg_take 3 12 (.int .i64 (v : Int)) _ rfl rfl (by kernel_rfl) (by kernel_rfl) (by kernel_rfl) (fun _ _ _ h => h) (by rfl) (fun w' hw' => ?_) hS (listed' := #[true, true, false, true, false, false, false, false, false, false, false]) (by kernel_rfl) rfl ?_
  · go_simp
  simp only [List.setIfInBounds_toArray, List.set_cons_zero, List.set_cons_succ]
  refine rg_take 4 13 (.int .i64 (r : Int)) _ rfl rfl (by kernel_rfl) (by kernel_rfl) (by kernel_rfl) (fun _ _ _ h => h) (by rfl) (fun w' hw' => ?_) hS (listed' := #[true, true, false, true, true, false, false, false, false, false, false]) (by kernel_rfl) rfl ?_
  · go_simp
  simp only [List.setIfInBounds_toArray, List.set_cons_zero, List.set_cons_succ]
  refine rg_take 5 14 (.int .i64 (v : Int)) _ rfl rfl (by kernel_rfl) (by kernel_rfl) (by kernel_rfl) (fun _ _ _ h => h) (by rfl) (fun w' hw' => ?_) hS (listed' := #[true, true, false, true, true, true, false, false, false, false, false]) (by kernel_rfl) rfl ?_
  · go_simp
  simp only [List.setIfInBounds_toArray, List.set_cons_zero, List.set_cons_succ]
  refine rg_take 6 15 (.int .i64 (r : Int)) _ rfl rfl (by kernel_rfl) (by kernel_rfl) (by kernel_rfl) (fun _ _ _ h => h) (by rfl) (fun w' hw' => ?_) hS (listed' := #[true, true, false, true, true, true, true, false, false, false, false]) (by kernel_rfl) rfl ?_
  · go_simp
  simp only [List.setIfInBounds_toArray, List.set_cons_zero, List.set_cons_succ]
  refine rg_take 7 16 (.int .i64 ((r : Int) + 1)) _ rfl rfl (by kernel_rfl) (by kernel_rfl) (by kernel_rfl) (fun _ _ _ h => h) (by rfl) (fun w' hw' => ?_) hS (listed' := #[true, true, false, true, true, true, true, true, false, false, false]) (by kernel_rfl) rfl ?_
  · go_simp
  simp only [List.setIfInBounds_toArray, List.set_cons_zero, List.set_cons_succ]
  refine rg_take 8 17 (.string ⟨#[dg r]⟩) _ rfl rfl (by kernel_rfl) (by kernel_rfl) (by kernel_rfl) (fun _ _ _ h => h) (by rfl) (fun w' hw' => ?_) hS (listed' := #[true, true, false, true, true, true, true, true, true, false, false]) (by kernel_rfl) rfl ?_
  · have hsl := HSL.out w'; go_simp
  simp only [List.setIfInBounds_toArray, List.set_cons_zero, List.set_cons_succ]
  refine rg_call 2 11 14 #[.int .i64 (q : Int)] rfl rfl (by kernel_rfl) (by rfl) (listed' := #[true, true, true, true, true, true, true, true, true, false, false]) (by kernel_rfl) (fun w' => ?_) ?_
  · go_simp
  refine (HD.out _ hS).mono ?_
  rintro e w1 ⟨rfl, hS⟩
  refine ⟨_, rfl, hS, ?_⟩
  simp only [List.setIfInBounds_toArray, List.set_cons_zero, List.set_cons_succ]
  refine rg_take 9 18 (.string (XB ++ ⟨#[dg r]⟩)) _ rfl rfl (by kernel_rfl) (by kernel_rfl) (by kernel_rfl) (fun _ _ _ h => h) (by rfl) (fun w' hw' => ?_) hS (listed' := #[true, true, true, true, true, true, true, true, true, true, false]) (by kernel_rfl) rfl ?_
  · go_simp; omega
  simp only [List.setIfInBounds_toArray, List.set_cons_zero, List.set_cons_succ]
  refine rg_take 10 2 (.string (XB ++ ⟨#[dg r]⟩)) _ rfl rfl (by kernel_rfl) (by kernel_rfl) (by kernel_rfl) (fun _ _ _ h => h) (by rfl) (fun w' hw' => ?_) hS (listed' := #[true, true, true, true, true, true, true, true, true, true, true]) (by kernel_rfl) rfl ?_
  · go_simp
  simp only [List.setIfInBounds_toArray, List.set_cons_zero, List.set_cons_succ]
  refine wpAnyH_done (by kernel_rfl) ?_ _
  go_wp2_with fail
  go_ret
  exact ⟨rfl, hS⟩
theorem dec2_any (v : Nat) (w : World) (h : v < 100) : Calls Tryd.prog 14 #[.int .i64 (v : Int)] w fun e w' => e = .returned (.string ⟨(dec2 v).toArray⟩) ∧ Below w.heap.size w w' := by
  unfold dec2
  split
  · rename_i h1; exact dec_one v w h1
  · exact dec_step v w (by omega) (by omega) (dec1 (v / 10)) (fun W => dec_one _ W (by omega)) (by simp [dec1])
theorem dec3_any (v : Nat) (w : World) (h : v < 1000) : Calls Tryd.prog 14 #[.int .i64 (v : Int)] w fun e w' => e = .returned (.string ⟨(dec3 v).toArray⟩) ∧ Below w.heap.size w w' := by
  unfold dec3
  split
  · rename_i h1; exact dec_one v w h1
  · exact dec_step v w (by omega) (by omega) (dec2 (v / 10)) (fun W => dec2_any _ W (by omega)) (by unfold dec2 dec1; split <;> simp)
end Go.Proofs.YtfffjfccochccaaDoor
namespace Go.Proofs.YtfffjfccochccaaDoor
open Go.ChangeShapes Go.WideShapes Go.ChangeAt Go.RowKit
set_option linter.unusedVariables false
set_option linter.unusedSimpArgs false
set_option maxRecDepth 20000

/-- What the walk is told of a slice of integers that came in. -/
def IsRow (k : IntKind) (w : World) (a : Option Addr) (len cap : Nat) (zs : List Int) : Prop :=
  (a = none ∧ len = 0 ∧ cap = 0 ∧ zs = []) ∨
  ∃ x, a = some x ∧ len ≤ cap ∧ cap ≤ maxLen ∧ zs.length = cap ∧ (∀ i, i < zs.length → w.cell? (x.add i) = some (.int k (zs.getD i 0))) ∧ ∀ n ∈ zs, (Lit.int k n).wf = true
theorem row_get {w : World} {a : Option Addr} {len cap : Nat} {zs : List Int} (h : IsRow .i64 w a len cap zs) {i : Nat} (hi : i < len) : ∃ b off z, a = some ⟨b, off, none⟩ ∧ w.cell? ⟨b, off + i, none⟩ = some (.int .i64 z) ∧ -9223372036854775808 ≤ z ∧ z ≤ 9223372036854775807 := by
  rcases h with ⟨_, h, _⟩ | ⟨x, rfl, hl, hm, hz, hc, hw⟩
  · omega
  · obtain ⟨b, off, rfl, hcell⟩ := ints_at hc (by omega)
    have hiz : i < zs.length := by omega
    have := bounds_i64 (hw (zs[i]) (List.getElem_mem hiz))
    refine ⟨b, off, zs[i], rfl, ?_, this.1, this.2⟩
    rw [hcell i hiz]
    simp [List.getD_eq_getElem?_getD, hiz]
theorem row_cap {w : World} {a : Option Addr} {len cap : Nat} {zs : List Int} (h : IsRow .i64 w a len cap zs) : len ≤ cap ∧ cap ≤ 9223372036854775807 := by
  rcases h with ⟨_, h1, h2, _⟩ | ⟨x, rfl, hl, hm, _⟩
  · omega
  · unfold maxLen at hm; omega
theorem tdiv_bd (z n : Int) (hn : 2 ≤ n) (h1 : -9223372036854775808 ≤ z) (h2 : z ≤ 9223372036854775807) : -9223372036854775808 ≤ z.tdiv n ∧ z.tdiv n ≤ 9223372036854775807 := by
  have h := Int.natAbs_tdiv z n
  have h3 : z.natAbs / n.natAbs ≤ z.natAbs / 2 := Nat.div_le_div_left (by omega) (by omega)
  have h4 : (z.tdiv n).natAbs ≤ z.natAbs / 2 := by rw [h]; exact h3
  omega
def labS : Nat → ByteArray
  | 0 => ⟨#[]⟩
  | 1 => ⟨#[111, 112, 116, 105, 111, 110, 97, 108, 32]⟩
  | _ => ⟨#[114, 101, 112, 101, 97, 116, 101, 100, 32]⟩
theorem nm_cut (W : World) (i : Nat) (h : i < 20) : (Instr.slice 9 (.string ⟨#[97, 98, 99, 100, 101, 102, 103, 104, 105, 106, 107, 108, 109, 110, 111, 112, 113, 114, 115, 116]⟩) (some (.int .i64 (i : Int))) (some (.int .i64 ((i : Int) + 1))) none).run Tryd.prog W = .ok (.string ⟨#[UInt8.ofNat (97 + i)]⟩) W := by
  have := slice_text W ⟨#[97, 98, 99, 100, 101, 102, 103, 104, 105, 106, 107, 108, 109, 110, 111, 112, 113, 114, 115, 116]⟩ i (i + 1) (by omega) (by show i + 1 ≤ 20; omega)
  have e : (⟨#[97, 98, 99, 100, 101, 102, 103, 104, 105, 106, 107, 108, 109, 110, 111, 112, 113, 114, 115, 116]⟩ : ByteArray).extract i (i + 1) = ⟨#[UInt8.ofNat (97 + i)]⟩ := by
    match i, h with
    | 0, _ | 1, _ | 2, _ | 3, _ | 4, _ | 5, _ | 6, _ | 7, _ | 8, _ | 9, _ | 10, _ | 11, _ | 12, _ | 13, _ | 14, _ | 15, _ | 16, _ | 17, _ | 18, _ | 19, _ => decide +kernel
    | n + 20, h => exact absurd h (by omega)
  rw [e] at this
  exact this
/-- The text with one field more. -/
theorem more_text (T : ByteArray) (lb k i : Nat) (D : List UInt8) (h1 : lb < 3) (h2 : k < 5) :
    (T ++ ⟨#[32]⟩ ++ labS lb ++ kindT k ++ ⟨#[32]⟩ ++ nmT i ++ ⟨#[32, 61, 32]⟩ ++ ⟨D.toArray⟩ ++ ⟨#[59]⟩).data.toList = T.data.toList ++ chunkL lb k i D := by
  simp only [ByteArray.data_append, Array.toList_append, chunkL, kindL, nmL]
  match lb, h1 with
  | 0, _ => simp [labS, labL]
  | 1, _ => simp [labS, labL]
  | 2, _ => simp [labS, labL]
theorem lab_size (lb : Nat) : (labS lb).size ≤ 9 := by
  match lb with
  | 0 => decide
  | 1 => decide
  | n + 2 => show (9 : Nat) ≤ 9; omega
theorem kind_size (k : Nat) : (kindT k).size ≤ 5 := by
  match k with
  | 0 => decide
  | 1 => decide
  | 2 => decide
  | 3 => decide
  | n + 4 => show (5 : Nat) ≤ 5; omega
theorem kind_at (k : Nat) (h : k < 5) : (#[.string ⟨#[105, 110, 116, 51, 50]⟩, .string ⟨#[105, 110, 116, 54, 52]⟩, .string ⟨#[98, 111, 111, 108]⟩, .string ⟨#[116, 101, 120, 116]⟩, .string ⟨#[98, 121, 116, 101, 115]⟩] : Array Value)[k]? = some (.string (kindT k)) := by
  match k, h with
  | 0, _ | 1, _ | 2, _ | 3, _ | 4, _ => rfl
theorem lab_at (k : Nat) (h : k < 3) : (#[.string ⟨#[]⟩, .string ⟨#[111, 112, 116, 105, 111, 110, 97, 108, 32]⟩, .string ⟨#[114, 101, 112, 101, 97, 116, 101, 100, 32]⟩] : Array Value)[k]? = some (.string (labS k)) := by
  match k, h with
  | 0, _ | 1, _ | 2, _ => rfl
theorem ch_snoc (cs : List Ch) (c : Ch) : (flRows ((cs ++ [c]).map Ch.f)).flatten = (flRows (cs.map Ch.f)).flatten ++ [.string (nmT c.i), .int .i64 (c.v : Int), .int .i64 (1 + (c.lb : Int)), .int .i64 (1 + (c.k : Int)), .string ⟨#[]⟩] := by simp [flRows, FlS.cells, Ch.f]

set_option maxHeartbeats 8000000 in
theorem idlMessages_walk (a : Option Addr) (len cap : Nat) (zs : List Int) (w : World) (h : IsRow .i64 w a len cap zs) (hcap : cap * Tryd.prog.bytesOf 3 ≤ 140737488351232) (hG : Glob w) :
    Calls Tryd.prog 6 #[.slice a len cap] w fun e w' => e = .returned (.bool true) ∧ Below w.heap.size w w' := by
  obtain ⟨i0, hi, hz0, hz1, hz2⟩ := info_parts infoF
  obtain ⟨hl1, hl2⟩ := row_cap h
  have HL : Hid (∀ i, i < len → ∃ b off z, a = some ⟨b, off, none⟩ ∧ w.cell? ⟨b, off + i, none⟩ = some (.int .i64 z) ∧ -9223372036854775808 ≤ z ∧ z ≤ 9223372036854775807) := fun i hi => row_get h hi
  clear h hcap
  have BK := (Blk.new w #[.string ⟨#[105, 110, 116, 51, 50]⟩, .string ⟨#[105, 110, 116, 54, 52]⟩, .string ⟨#[98, 111, 111, 108]⟩, .string ⟨#[116, 101, 120, 116]⟩, .string ⟨#[98, 121, 116, 101, 115]⟩] 36).below ((Below.refl _ _).alloc (Nat.le_refl _) (.cells #[.string ⟨#[]⟩, .string ⟨#[111, 112, 116, 105, 111, 110, 97, 108, 32]⟩, .string ⟨#[114, 101, 112, 101, 97, 116, 101, 100, 32]⟩] 37))
  have BL := Blk.new (w.alloc (.cells #[.string ⟨#[105, 110, 116, 51, 50]⟩, .string ⟨#[105, 110, 116, 54, 52]⟩, .string ⟨#[98, 111, 111, 108]⟩, .string ⟨#[116, 101, 120, 116]⟩, .string ⟨#[98, 121, 116, 101, 115]⟩] 36)) #[.string ⟨#[]⟩, .string ⟨#[111, 112, 116, 105, 111, 110, 97, 108, 32]⟩, .string ⟨#[114, 101, 112, 101, 97, 116, 101, 100, 32]⟩] 37
  have hb0 : Below w.heap.size w ((w.alloc (.cells #[.string ⟨#[105, 110, 116, 51, 50]⟩, .string ⟨#[105, 110, 116, 54, 52]⟩, .string ⟨#[98, 111, 111, 108]⟩, .string ⟨#[116, 101, 120, 116]⟩, .string ⟨#[98, 121, 116, 101, 115]⟩] 36)).alloc (.cells #[.string ⟨#[]⟩, .string ⟨#[111, 112, 116, 105, 111, 110, 97, 108, 32]⟩, .string ⟨#[114, 101, 112, 101, 97, 116, 101, 100, 32]⟩] 37)) := ((Below.refl _ _).alloc (Nat.le_refl _) _).alloc (by simp) _
  rw [show (w.alloc (.cells #[.string ⟨#[105, 110, 116, 51, 50]⟩, .string ⟨#[105, 110, 116, 54, 52]⟩, .string ⟨#[98, 111, 111, 108]⟩, .string ⟨#[116, 101, 120, 116]⟩, .string ⟨#[98, 121, 116, 101, 115]⟩] 36)).heap.size = w.heap.size + 1 by simp] at BL
  obtain ⟨R, hR⟩ : ∃ R, w.heap.size = R := ⟨_, rfl⟩
  have HR : Hid (w.heap.size = R) := hR
  rw [hR] at BK BL hb0
  go_enter Tryd.func6, Tryd.ntmps6
  go_wp2_with fail
  clear hR
  go_loopw [5, 6, 7] (fun tv wv iv wr => ∃ (cs : List Ch) (T : ByteArray) (i : Nat), tv = .string T ∧ iv = .int .i64 (i : Int) ∧ Hid (cs.length = i) ∧ i ≤ 20 ∧ i ≤ len ∧ Hid (∀ c ∈ cs, c.Ok) ∧ Hid (Whole T.data.toList (headT ++ cs.flatMap Ch.t)) ∧ T.size ≤ 100 + 60 * i ∧ Hid (wr.ownsRow (R + 2) 43 5 wv i (flRows (cs.map Ch.f)).flatten) ∧ Below R w wr ∧ Blk wr R #[.string ⟨#[105, 110, 116, 51, 50]⟩, .string ⟨#[105, 110, 116, 54, 52]⟩, .string ⟨#[98, 111, 111, 108]⟩, .string ⟨#[116, 101, 120, 116]⟩, .string ⟨#[98, 121, 116, 101, 115]⟩] 36 ∧ Blk wr (R + 1) #[.string ⟨#[]⟩, .string ⟨#[111, 112, 116, 105, 111, 110, 97, 108, 32]⟩, .string ⟨#[114, 101, 112, 101, 97, 116, 101, 100, 32]⟩] 37) (fun _ _ iv _ => 20 - (intOf iv).toNat)
  case atStart => exact ⟨[], ⟨#[115, 99, 104, 101, 109, 97, 32, 97, 59, 32, 109, 101, 115, 115, 97, 103, 101, 32, 109, 32, 123]⟩, 0, rfl, rfl, rfl, by omega, by omega, fun c hc => by simp at hc, whole_head, by decide, World.ownsRow_nil _ _ _ _, hb0, BK, BL⟩
  case round =>
    obtain ⟨cs, T, i, rfl, rfl, HCs, hi20, hil, HOk, HWh, hTs, HO, hbel, BK, BL⟩ := hrel
    clear hb0
    have hRw : R + 2 ≤ wr.heap.size := BL.lt
    have hbw : Below w.heap.size w wr := by rw [HR.out]; exact hbel
    by_cases hgo : i < len ∧ i < 20
    · obtain ⟨hlt, h20⟩ := hgo
      obtain ⟨b, off, z, rfl, hcz, hz1', hz2'⟩ := HL.out i hlt
      have hcz2 : wr.cell? ⟨b, off + i, none⟩ = some (.int .i64 z) := by rw [hbw.cell (World.block_lt_of_cell? _ _ hcz)]; exact hcz
      have HCZ : Hid (∀ W, Below wr.heap.size wr W → W.cell? ⟨b, off + i, none⟩ = some (.int .i64 z)) := fun W hW => by rw [hW.cell (World.block_lt_of_cell? _ _ hcz2)]; exact hcz2
      obtain ⟨q5, hq5⟩ : ∃ q, z.tdiv 5 = q := ⟨_, rfl⟩
      obtain ⟨q15, hq15⟩ : ∃ q, z.tdiv 15 = q := ⟨_, rfl⟩
      have b5 := tdiv_bd z 5 (by omega) hz1' hz2'
      have b15 := tdiv_bd z 15 (by omega) hz1' hz2'
      rw [hq5] at b5
      rw [hq15] at b15
      have w5 : IntKind.i64.wrap q5 = q5 := wrapZ _ (by omega) (by omega)
      have w15 : IntKind.i64.wrap q15 = q15 := wrapZ _ (by omega) (by omega)
      obtain ⟨k, hk⟩ := Int.eq_ofNat_of_zero_le (placeZ_bd z 5 (by omega)).1
      obtain ⟨lb, hlb⟩ := Int.eq_ofNat_of_zero_le (placeZ_bd q5 3 (by omega)).1
      obtain ⟨tg, htg⟩ := Int.eq_ofNat_of_zero_le (placeZ_bd q15 500 (by omega)).1
      have hk5 : k < 5 := by have := (placeZ_bd z 5 (by omega)).2; omega
      have hlb3 : lb < 3 := by have := (placeZ_bd q5 3 (by omega)).2; omega
      have htg500 : tg < 500 := by have := (placeZ_bd q15 500 (by omega)).2; omega
      have P1 : Hid (∀ W, Calls Tryd.prog 13 #[.int .i64 z, .int .i64 5] W fun e W' => e = .returned (.int .i64 (k : Int)) ∧ W' = W) := fun W => by rw [← hk]; exact place_val z 5 W hz1' hz2' (by omega) (by omega)
      have P2 : Hid (∀ W, Calls Tryd.prog 13 #[.int .i64 q5, .int .i64 3] W fun e W' => e = .returned (.int .i64 (lb : Int)) ∧ W' = W) := fun W => by rw [← hlb]; exact place_val q5 3 W (by omega) (by omega) (by omega) (by omega)
      have P3 : Hid (∀ W, Calls Tryd.prog 13 #[.int .i64 q15, .int .i64 500] W fun e W' => e = .returned (.int .i64 (tg : Int)) ∧ W' = W) := fun W => by rw [← htg]; exact place_val q15 500 W (by omega) (by omega) (by omega) (by omega)
      obtain ⟨v, hv⟩ : ∃ v, 1 + tg = v := ⟨_, rfl⟩
      have hvz : 1 + (tg : Int) = (v : Int) := by omega
      have hv500 : v < 501 := by omega
      have wv : IntKind.i64.wrap (v : Int) = (v : Int) := wrapZ _ (by omega) (by omega)
      obtain ⟨dk1, dk2, dk3, dk4⟩ := dec3_ok v hv500
      have HDec : Hid (∀ W, Below wr.heap.size wr W → Calls Tryd.prog 14 #[.int .i64 (v : Int)] W fun e W' => e = .returned (.string ⟨(dec3 v).toArray⟩) ∧ Below wr.heap.size wr W') := fun W hW => by
        refine (dec3_any v W (by omega)).mono ?_
        rintro e W' ⟨rfl, hb⟩
        exact ⟨rfl, hW.trans (hb.mono hW.size)⟩
      obtain ⟨DS, hDS⟩ : ∃ DS : ByteArray, DS = ⟨(dec3 v).toArray⟩ := ⟨_, rfl⟩
      have hDSs : DS.size ≤ 3 := by rw [hDS]; simpa [ByteArray.size] using dk4
      obtain ⟨LS, hLS⟩ : ∃ LS, labS lb = LS := ⟨_, rfl⟩
      obtain ⟨KS, hKS⟩ : ∃ KS, kindT k = KS := ⟨_, rfl⟩
      obtain ⟨NM, hNM⟩ : ∃ NM, nmT i = NM := ⟨_, rfl⟩
      have hLSs : LS.size ≤ 9 := by rw [← hLS]; exact lab_size lb
      have hKSs : KS.size ≤ 5 := by rw [← hKS]; exact kind_size k
      have hNMs : NM.size = 2 := by rw [← hNM]; rfl
      have hnm : (⟨#[102]⟩ : ByteArray) ++ ⟨#[UInt8.ofNat (97 + i)]⟩ = NM := by rw [← hNM]; exact ba_app [102] [UInt8.ofNat (97 + i)]
      have hcut := fun W => nm_cut W i h20
      obtain ⟨bb, hbb⟩ : ∃ bb, UInt8.ofNat (97 + i) = bb := ⟨_, rfl⟩
      rw [hbb] at hnm hcut
      clear hbb
      have HKC : Hid (∀ W, Below wr.heap.size wr W → W.cell? ⟨R, k, none⟩ = some (.string KS)) := fun W hW => by rw [(BK.below hW).cell k, kind_at k hk5, hKS]
      have HLC : Hid (∀ W, Below wr.heap.size wr W → W.cell? ⟨R + 1, lb, none⟩ = some (.string LS)) := fun W hW => by rw [(BL.below hW).cell lb, lab_at lb hlb3, hLS]
      have HT2 : Hid ((T ++ ⟨#[32]⟩ ++ LS ++ KS ++ ⟨#[32]⟩ ++ NM ++ ⟨#[32, 61, 32]⟩ ++ DS ++ ⟨#[59]⟩).data.toList = T.data.toList ++ chunkL lb k i (dec3 v)) := by
        rw [← hLS, ← hKS, ← hNM, hDS]; exact more_text T lb k i (dec3 v) hlb3 hk5
      have HOkc : Hid ((⟨lb, k, i, v, dec3 v⟩ : Ch).Ok) := ⟨hlb3, hk5, h20, dk1, dk2, dk3⟩
      have HNMi : Hid (nmT i = NM) := hNM
      rw [← hDS] at HDec
      clear hk hlb htg dk1 dk2 dk3 dk4 hDS hLS hKS hNM hv hcz hcz2
      go_wp2_with fail
      have hS : Below wr.heap.size wr wr.drew := (Below.refl _ _).drew
      refine wp_region_held_drew (S := fun w' => Below wr.heap.size wr w') (by kernel_rfl) hS (fun hS => ?_)
      refine rg_take 0 28 (.slice (some ⟨b, off, none⟩) len cap) _ rfl rfl (by kernel_rfl) (by kernel_rfl) (by kernel_rfl) (fun _ _ _ h => h) (by rfl) (fun w' hw' => ?_) hS (listed' := #[true, false, false, false, false, false, false, false, false, false, false, false, false, false, false, false, false, false, false, false, false]) (by kernel_rfl) rfl ?_
      · go_simp
      simp only [List.setIfInBounds_toArray, List.set_cons_zero, List.set_cons_succ]
      refine rg_take 1 29 (.int .i64 (i : Int)) _ rfl rfl (by kernel_rfl) (by kernel_rfl) (by kernel_rfl) (fun _ _ _ h => h) (by rfl) (fun w' hw' => ?_) hS (listed' := #[true, true, false, false, false, false, false, false, false, false, false, false, false, false, false, false, false, false, false, false, false]) (by kernel_rfl) rfl ?_
      · go_simp
      simp only [List.setIfInBounds_toArray, List.set_cons_zero, List.set_cons_succ]
      refine rg_take 2 30 (.pointer (some ⟨b, off + i, none⟩)) _ rfl rfl (by kernel_rfl) (by kernel_rfl) (by kernel_rfl) (fun _ _ _ h => h) (by rfl) (fun w' hw' => ?_) hS (listed' := #[true, true, true, false, false, false, false, false, false, false, false, false, false, false, false, false, false, false, false, false, false]) (by kernel_rfl) rfl ?_
      · go_simp
      simp only [List.setIfInBounds_toArray, List.set_cons_zero, List.set_cons_succ]
      refine rg_take 3 31 (.int .i64 z) _ rfl rfl (by kernel_rfl) (by kernel_rfl) (by kernel_rfl) (fun _ _ _ h => h) (by rfl) (fun w' hw' => ?_) hS (listed' := #[true, true, true, true, false, false, false, false, false, false, false, false, false, false, false, false, false, false, false, false, false]) (by kernel_rfl) rfl ?_
      · have hcv := HCZ.out w' hw'; go_simp
      simp only [List.setIfInBounds_toArray, List.set_cons_zero, List.set_cons_succ]
      refine rg_take 5 33 (.slice (some ⟨b, off, none⟩) len cap) _ rfl rfl (by kernel_rfl) (by kernel_rfl) (by kernel_rfl) (fun _ _ _ h => h) (by rfl) (fun w' hw' => ?_) hS (listed' := #[true, true, true, true, false, true, false, false, false, false, false, false, false, false, false, false, false, false, false, false, false]) (by kernel_rfl) rfl ?_
      · go_simp
      simp only [List.setIfInBounds_toArray, List.set_cons_zero, List.set_cons_succ]
      refine rg_take 6 34 (.int .i64 (i : Int)) _ rfl rfl (by kernel_rfl) (by kernel_rfl) (by kernel_rfl) (fun _ _ _ h => h) (by rfl) (fun w' hw' => ?_) hS (listed' := #[true, true, true, true, false, true, true, false, false, false, false, false, false, false, false, false, false, false, false, false, false]) (by kernel_rfl) rfl ?_
      · go_simp
      simp only [List.setIfInBounds_toArray, List.set_cons_zero, List.set_cons_succ]
      refine rg_take 7 35 (.pointer (some ⟨b, off + i, none⟩)) _ rfl rfl (by kernel_rfl) (by kernel_rfl) (by kernel_rfl) (fun _ _ _ h => h) (by rfl) (fun w' hw' => ?_) hS (listed' := #[true, true, true, true, false, true, true, true, false, false, false, false, false, false, false, false, false, false, false, false, false]) (by kernel_rfl) rfl ?_
      · go_simp
      simp only [List.setIfInBounds_toArray, List.set_cons_zero, List.set_cons_succ]
      refine rg_take 8 36 (.int .i64 z) _ rfl rfl (by kernel_rfl) (by kernel_rfl) (by kernel_rfl) (fun _ _ _ h => h) (by rfl) (fun w' hw' => ?_) hS (listed' := #[true, true, true, true, false, true, true, true, true, false, false, false, false, false, false, false, false, false, false, false, false]) (by kernel_rfl) rfl ?_
      · have hcv := HCZ.out w' hw'; go_simp
      simp only [List.setIfInBounds_toArray, List.set_cons_zero, List.set_cons_succ]
      refine rg_take 11 39 (.slice (some ⟨b, off, none⟩) len cap) _ rfl rfl (by kernel_rfl) (by kernel_rfl) (by kernel_rfl) (fun _ _ _ h => h) (by rfl) (fun w' hw' => ?_) hS (listed' := #[true, true, true, true, false, true, true, true, true, false, false, true, false, false, false, false, false, false, false, false, false]) (by kernel_rfl) rfl ?_
      · go_simp
      simp only [List.setIfInBounds_toArray, List.set_cons_zero, List.set_cons_succ]
      refine rg_take 12 40 (.int .i64 (i : Int)) _ rfl rfl (by kernel_rfl) (by kernel_rfl) (by kernel_rfl) (fun _ _ _ h => h) (by rfl) (fun w' hw' => ?_) hS (listed' := #[true, true, true, true, false, true, true, true, true, false, false, true, true, false, false, false, false, false, false, false, false]) (by kernel_rfl) rfl ?_
      · go_simp
      simp only [List.setIfInBounds_toArray, List.set_cons_zero, List.set_cons_succ]
      refine rg_take 13 41 (.pointer (some ⟨b, off + i, none⟩)) _ rfl rfl (by kernel_rfl) (by kernel_rfl) (by kernel_rfl) (fun _ _ _ h => h) (by rfl) (fun w' hw' => ?_) hS (listed' := #[true, true, true, true, false, true, true, true, true, false, false, true, true, true, false, false, false, false, false, false, false]) (by kernel_rfl) rfl ?_
      · go_simp
      simp only [List.setIfInBounds_toArray, List.set_cons_zero, List.set_cons_succ]
      refine rg_take 14 42 (.int .i64 z) _ rfl rfl (by kernel_rfl) (by kernel_rfl) (by kernel_rfl) (fun _ _ _ h => h) (by rfl) (fun w' hw' => ?_) hS (listed' := #[true, true, true, true, false, true, true, true, true, false, false, true, true, true, true, false, false, false, false, false, false]) (by kernel_rfl) rfl ?_
      · have hcv := HCZ.out w' hw'; go_simp
      simp only [List.setIfInBounds_toArray, List.set_cons_zero, List.set_cons_succ]
      refine rg_take 9 37 (.int .i64 q5) _ rfl rfl (by kernel_rfl) (by kernel_rfl) (by kernel_rfl) (fun _ _ _ h => h) (by rfl) (fun w' hw' => ?_) hS (listed' := #[true, true, true, true, false, true, true, true, true, true, false, true, true, true, true, false, false, false, false, false, false]) (by kernel_rfl) rfl ?_
      · go_simp
      simp only [List.setIfInBounds_toArray, List.set_cons_zero, List.set_cons_succ]
      refine rg_take 15 43 (.int .i64 q15) _ rfl rfl (by kernel_rfl) (by kernel_rfl) (by kernel_rfl) (fun _ _ _ h => h) (by rfl) (fun w' hw' => ?_) hS (listed' := #[true, true, true, true, false, true, true, true, true, true, false, true, true, true, true, true, false, false, false, false, false]) (by kernel_rfl) rfl ?_
      · go_simp
      simp only [List.setIfInBounds_toArray, List.set_cons_zero, List.set_cons_succ]
      refine rg_call 4 32 13 #[.int .i64 z, .int .i64 5] rfl rfl (by kernel_rfl) (by rfl) (listed' := #[true, true, true, true, true, true, true, true, true, true, false, true, true, true, true, true, false, false, false, false, false]) (by kernel_rfl) (fun w' => ?_) ?_
      · go_simp
      refine (P1.out _).mono ?_
      rintro e W1 ⟨rfl, rfl⟩
      refine ⟨_, rfl, hS, ?_⟩
      simp only [List.setIfInBounds_toArray, List.set_cons_zero, List.set_cons_succ]
      refine rg_call 10 38 13 #[.int .i64 q5, .int .i64 3] rfl rfl (by kernel_rfl) (by rfl) (listed' := #[true, true, true, true, true, true, true, true, true, true, true, true, true, true, true, true, false, false, false, false, false]) (by kernel_rfl) (fun w' => ?_) ?_
      · go_simp
      refine (P2.out _).mono ?_
      rintro e W1 ⟨rfl, rfl⟩
      refine ⟨_, rfl, hS, ?_⟩
      simp only [List.setIfInBounds_toArray, List.set_cons_zero, List.set_cons_succ]
      refine rg_call 16 44 13 #[.int .i64 q15, .int .i64 500] rfl rfl (by kernel_rfl) (by rfl) (listed' := #[true, true, true, true, true, true, true, true, true, true, true, true, true, true, true, true, true, false, false, false, false]) (by kernel_rfl) (fun w' => ?_) ?_
      · go_simp
      refine (P3.out _).mono ?_
      rintro e W1 ⟨rfl, rfl⟩
      refine ⟨_, rfl, hS, ?_⟩
      simp only [List.setIfInBounds_toArray, List.set_cons_zero, List.set_cons_succ]
      refine rg_take 17 45 (.int .i64 (v : Int)) _ rfl rfl (by kernel_rfl) (by kernel_rfl) (by kernel_rfl) (fun _ _ _ h => h) (by rfl) (fun w' hw' => ?_) hS (listed' := #[true, true, true, true, true, true, true, true, true, true, true, true, true, true, true, true, true, true, false, false, false]) (by kernel_rfl) rfl ?_
      · go_simp
      simp only [List.setIfInBounds_toArray, List.set_cons_zero, List.set_cons_succ]
      refine rg_take 18 8 (.int .i64 (k : Int)) _ rfl rfl (by kernel_rfl) (by kernel_rfl) (by kernel_rfl) (fun _ _ _ h => h) (by rfl) (fun w' hw' => ?_) hS (listed' := #[true, true, true, true, true, true, true, true, true, true, true, true, true, true, true, true, true, true, true, false, false]) (by kernel_rfl) rfl ?_
      · go_simp
      simp only [List.setIfInBounds_toArray, List.set_cons_zero, List.set_cons_succ]
      refine rg_take 19 9 (.int .i64 (lb : Int)) _ rfl rfl (by kernel_rfl) (by kernel_rfl) (by kernel_rfl) (fun _ _ _ h => h) (by rfl) (fun w' hw' => ?_) hS (listed' := #[true, true, true, true, true, true, true, true, true, true, true, true, true, true, true, true, true, true, true, true, false]) (by kernel_rfl) rfl ?_
      · go_simp
      simp only [List.setIfInBounds_toArray, List.set_cons_zero, List.set_cons_succ]
      refine rg_take 20 10 (.int .i64 (v : Int)) _ rfl rfl (by kernel_rfl) (by kernel_rfl) (by kernel_rfl) (fun _ _ _ h => h) (by rfl) (fun w' hw' => ?_) hS (listed' := #[true, true, true, true, true, true, true, true, true, true, true, true, true, true, true, true, true, true, true, true, true]) (by kernel_rfl) rfl ?_
      · go_simp
      simp only [List.setIfInBounds_toArray, List.set_cons_zero, List.set_cons_succ]
      refine wpAnyH_done (by kernel_rfl) ?_ _
      clear P1 P2 P3 HCZ
      go_wp2_with fail
      have hS : Below wr.heap.size wr wr.drew.drew := hS.drew
      refine wp_region_held_drew (S := fun w' => Below wr.heap.size wr w') (by kernel_rfl) hS (fun hS => ?_)
      refine rg_take 0 51 (.string T) _ rfl rfl (by kernel_rfl) (by kernel_rfl) (by kernel_rfl) (fun _ _ _ h => h) (by rfl) (fun w' hw' => ?_) hS (listed' := #[true, false, false, false, false, false, false, false, false, false, false, false, false, false, false, false, false, false, false]) (by kernel_rfl) rfl ?_
      · go_simp
      simp only [List.setIfInBounds_toArray, List.set_cons_zero, List.set_cons_succ]
      refine rg_take 1 52 (.string (T ++ ⟨#[32]⟩)) _ rfl rfl (by kernel_rfl) (by kernel_rfl) (by kernel_rfl) (fun _ _ _ h => h) (by rfl) (fun w' hw' => ?_) hS (listed' := #[true, true, false, false, false, false, false, false, false, false, false, false, false, false, false, false, false, false, false]) (by kernel_rfl) rfl ?_
      · go_simp; omega
      simp only [List.setIfInBounds_toArray, List.set_cons_zero, List.set_cons_succ]
      refine rg_take 2 53 (.int .i64 (lb : Int)) _ rfl rfl (by kernel_rfl) (by kernel_rfl) (by kernel_rfl) (fun _ _ _ h => h) (by rfl) (fun w' hw' => ?_) hS (listed' := #[true, true, true, false, false, false, false, false, false, false, false, false, false, false, false, false, false, false, false]) (by kernel_rfl) rfl ?_
      · go_simp
      simp only [List.setIfInBounds_toArray, List.set_cons_zero, List.set_cons_succ]
      refine rg_take 3 54 (.pointer (some ⟨R + 1, lb, none⟩)) _ rfl rfl (by kernel_rfl) (by kernel_rfl) (by kernel_rfl) (fun _ _ _ h => h) (by rfl) (fun w' hw' => ?_) hS (listed' := #[true, true, true, true, false, false, false, false, false, false, false, false, false, false, false, false, false, false, false]) (by kernel_rfl) rfl ?_
      · go_simp; intro hx; omega
      simp only [List.setIfInBounds_toArray, List.set_cons_zero, List.set_cons_succ]
      refine rg_take 4 55 (.string LS) _ rfl rfl (by kernel_rfl) (by kernel_rfl) (by kernel_rfl) (fun _ _ _ h => h) (by rfl) (fun w' hw' => ?_) hS (listed' := #[true, true, true, true, true, false, false, false, false, false, false, false, false, false, false, false, false, false, false]) (by kernel_rfl) rfl ?_
      · have hcv := HLC.out w' hw'; go_simp
      simp only [List.setIfInBounds_toArray, List.set_cons_zero, List.set_cons_succ]
      refine rg_take 5 56 (.string (T ++ ⟨#[32]⟩ ++ LS)) _ rfl rfl (by kernel_rfl) (by kernel_rfl) (by kernel_rfl) (fun _ _ _ h => h) (by rfl) (fun w' hw' => ?_) hS (listed' := #[true, true, true, true, true, true, false, false, false, false, false, false, false, false, false, false, false, false, false]) (by kernel_rfl) rfl ?_
      · go_simp; omega
      simp only [List.setIfInBounds_toArray, List.set_cons_zero, List.set_cons_succ]
      refine rg_take 6 57 (.int .i64 (k : Int)) _ rfl rfl (by kernel_rfl) (by kernel_rfl) (by kernel_rfl) (fun _ _ _ h => h) (by rfl) (fun w' hw' => ?_) hS (listed' := #[true, true, true, true, true, true, true, false, false, false, false, false, false, false, false, false, false, false, false]) (by kernel_rfl) rfl ?_
      · go_simp
      simp only [List.setIfInBounds_toArray, List.set_cons_zero, List.set_cons_succ]
      refine rg_take 7 58 (.pointer (some ⟨R, k, none⟩)) _ rfl rfl (by kernel_rfl) (by kernel_rfl) (by kernel_rfl) (fun _ _ _ h => h) (by rfl) (fun w' hw' => ?_) hS (listed' := #[true, true, true, true, true, true, true, true, false, false, false, false, false, false, false, false, false, false, false]) (by kernel_rfl) rfl ?_
      · go_simp; intro hx; omega
      simp only [List.setIfInBounds_toArray, List.set_cons_zero, List.set_cons_succ]
      refine rg_take 8 59 (.string KS) _ rfl rfl (by kernel_rfl) (by kernel_rfl) (by kernel_rfl) (fun _ _ _ h => h) (by rfl) (fun w' hw' => ?_) hS (listed' := #[true, true, true, true, true, true, true, true, true, false, false, false, false, false, false, false, false, false, false]) (by kernel_rfl) rfl ?_
      · have hcv := HKC.out w' hw'; go_simp
      simp only [List.setIfInBounds_toArray, List.set_cons_zero, List.set_cons_succ]
      refine rg_take 9 60 (.string (T ++ ⟨#[32]⟩ ++ LS ++ KS)) _ rfl rfl (by kernel_rfl) (by kernel_rfl) (by kernel_rfl) (fun _ _ _ h => h) (by rfl) (fun w' hw' => ?_) hS (listed' := #[true, true, true, true, true, true, true, true, true, true, false, false, false, false, false, false, false, false, false]) (by kernel_rfl) rfl ?_
      · go_simp; omega
      simp only [List.setIfInBounds_toArray, List.set_cons_zero, List.set_cons_succ]
      refine rg_take 10 61 (.string (T ++ ⟨#[32]⟩ ++ LS ++ KS ++ ⟨#[32]⟩)) _ rfl rfl (by kernel_rfl) (by kernel_rfl) (by kernel_rfl) (fun _ _ _ h => h) (by rfl) (fun w' hw' => ?_) hS (listed' := #[true, true, true, true, true, true, true, true, true, true, true, false, false, false, false, false, false, false, false]) (by kernel_rfl) rfl ?_
      · go_simp; omega
      simp only [List.setIfInBounds_toArray, List.set_cons_zero, List.set_cons_succ]
      refine rg_take 11 62 (.string NM) _ rfl rfl (by kernel_rfl) (by kernel_rfl) (by kernel_rfl) (fun _ _ _ h => h) (by rfl) (fun w' hw' => ?_) hS (listed' := #[true, true, true, true, true, true, true, true, true, true, true, true, false, false, false, false, false, false, false]) (by kernel_rfl) rfl ?_
      · go_simp
      simp only [List.setIfInBounds_toArray, List.set_cons_zero, List.set_cons_succ]
      refine rg_take 12 63 (.string (T ++ ⟨#[32]⟩ ++ LS ++ KS ++ ⟨#[32]⟩ ++ NM)) _ rfl rfl (by kernel_rfl) (by kernel_rfl) (by kernel_rfl) (fun _ _ _ h => h) (by rfl) (fun w' hw' => ?_) hS (listed' := #[true, true, true, true, true, true, true, true, true, true, true, true, true, false, false, false, false, false, false]) (by kernel_rfl) rfl ?_
      · go_simp; omega
      simp only [List.setIfInBounds_toArray, List.set_cons_zero, List.set_cons_succ]
      refine rg_take 13 64 (.string (T ++ ⟨#[32]⟩ ++ LS ++ KS ++ ⟨#[32]⟩ ++ NM ++ ⟨#[32, 61, 32]⟩)) _ rfl rfl (by kernel_rfl) (by kernel_rfl) (by kernel_rfl) (fun _ _ _ h => h) (by rfl) (fun w' hw' => ?_) hS (listed' := #[true, true, true, true, true, true, true, true, true, true, true, true, true, true, false, false, false, false, false]) (by kernel_rfl) rfl ?_
      · go_simp; omega
      simp only [List.setIfInBounds_toArray, List.set_cons_zero, List.set_cons_succ]
      refine rg_take 14 65 (.int .i64 (v : Int)) _ rfl rfl (by kernel_rfl) (by kernel_rfl) (by kernel_rfl) (fun _ _ _ h => h) (by rfl) (fun w' hw' => ?_) hS (listed' := #[true, true, true, true, true, true, true, true, true, true, true, true, true, true, true, false, false, false, false]) (by kernel_rfl) rfl ?_
      · go_simp
      simp only [List.setIfInBounds_toArray, List.set_cons_zero, List.set_cons_succ]
      refine rg_call 15 66 14 #[.int .i64 (v : Int)] rfl rfl (by kernel_rfl) (by rfl) (listed' := #[true, true, true, true, true, true, true, true, true, true, true, true, true, true, true, true, false, false, false]) (by kernel_rfl) (fun w' => ?_) ?_
      · go_simp
      refine (HDec.out _ hS).mono ?_
      rintro e W2 ⟨rfl, hS⟩
      refine ⟨_, rfl, hS, ?_⟩
      simp only [List.setIfInBounds_toArray, List.set_cons_zero, List.set_cons_succ]
      refine rg_take 16 67 (.string (T ++ ⟨#[32]⟩ ++ LS ++ KS ++ ⟨#[32]⟩ ++ NM ++ ⟨#[32, 61, 32]⟩ ++ DS)) _ rfl rfl (by kernel_rfl) (by kernel_rfl) (by kernel_rfl) (fun _ _ _ h => h) (by rfl) (fun w' hw' => ?_) hS (listed' := #[true, true, true, true, true, true, true, true, true, true, true, true, true, true, true, true, true, false, false]) (by kernel_rfl) rfl ?_
      · go_simp; omega
      simp only [List.setIfInBounds_toArray, List.set_cons_zero, List.set_cons_succ]
      refine rg_take 17 68 (.string (T ++ ⟨#[32]⟩ ++ LS ++ KS ++ ⟨#[32]⟩ ++ NM ++ ⟨#[32, 61, 32]⟩ ++ DS ++ ⟨#[59]⟩)) _ rfl rfl (by kernel_rfl) (by kernel_rfl) (by kernel_rfl) (fun _ _ _ h => h) (by rfl) (fun w' hw' => ?_) hS (listed' := #[true, true, true, true, true, true, true, true, true, true, true, true, true, true, true, true, true, true, false]) (by kernel_rfl) rfl ?_
      · go_simp; omega
      simp only [List.setIfInBounds_toArray, List.set_cons_zero, List.set_cons_succ]
      refine rg_take 18 5 (.string (T ++ ⟨#[32]⟩ ++ LS ++ KS ++ ⟨#[32]⟩ ++ NM ++ ⟨#[32, 61, 32]⟩ ++ DS ++ ⟨#[59]⟩)) _ rfl rfl (by kernel_rfl) (by kernel_rfl) (by kernel_rfl) (fun _ _ _ h => h) (by rfl) (fun w' hw' => ?_) hS (listed' := #[true, true, true, true, true, true, true, true, true, true, true, true, true, true, true, true, true, true, true]) (by kernel_rfl) rfl ?_
      · go_simp
      simp only [List.setIfInBounds_toArray, List.set_cons_zero, List.set_cons_succ]
      refine wpAnyH_done (by kernel_rfl) ?_ _
      obtain ⟨T2, hT2⟩ : ∃ T2, T ++ ⟨#[32]⟩ ++ LS ++ KS ++ ⟨#[32]⟩ ++ NM ++ ⟨#[32, 61, 32]⟩ ++ DS ++ ⟨#[59]⟩ = T2 := ⟨_, rfl⟩
      have hT2s : T2.size ≤ 100 + 60 * (i + 1) := by
        rw [← hT2]
        simp only [ByteArray.size_append]
        have z1 : (⟨#[32]⟩ : ByteArray).size = 1 := rfl
        have z3 : (⟨#[32, 61, 32]⟩ : ByteArray).size = 3 := rfl
        have z4 : (⟨#[59]⟩ : ByteArray).size = 1 := rfl
        omega
      rw [hT2] at HT2 ⊢
      clear hT2
      have hbel2 : Below R w W2 := hbel.trans (hS.mono (by omega))
      have HO2 : Hid (W2.ownsRow (R + 2) 43 5 _ i (flRows (cs.map Ch.f)).flatten) := own_below HO.out hS
      have BK2 := BK.below hS
      have BL2 := BL.below hS
      have hRw2 : R + 2 ≤ W2.heap.size := BL2.lt
      clear HO BK BL hbel hbw HKC HLC HDec hcut hS
      go_wp2_with (first
        | (at_builtin; refine wpList_append_own_at _ rfl _ _ 38 rfl (R + 2) 43 i0 _ 5 56 Tryd.underlying38 hi hz0 hz1 hz2 rfl (by decide) _ _ _ rfl (HO2.out.alloc _) ⟨W2.heap.size, 0, none⟩ 1 1 [.string NM, .int .i64 (v : Int), .int .i64 (1 + (lb : Int)), .int .i64 (1 + (k : Int)), .string ⟨#[]⟩] rfl rfl (cells_new _ #[.string NM, .int .i64 (v : Int), .int .i64 (1 + (lb : Int)), .int .i64 (1 + (k : Int)), .string ⟨#[]⟩] _) ?c2 ?c3 ?c4 ?c5 ?_)
        | fail)
      case c2 => intro u hu; simp at hu; rcases hu with rfl | rfl | rfl | rfl | rfl <;> rfl
      case c3 => unfold maxLen; omega
      case c4 => omega
      case c5 => simp; omega
      intro v3 W3 ho3 hg3 _ hat3
      have k23 : Kp (fun k => R + 2 ≤ k) W2 W3 := ((Kp.refl _ _).alloc _).grown hg3 (fun k hk _ => (HO2.out.lt k hk).1)
      have hb3 : Below R w W3 := hbel2.trans (k23.toBelow (by omega) (fun k hk => by omega))
      have BK3 := BK2.kp k23 (by omega)
      have BL3 := BL2.kp k23 (by omega)
      have HO3 : Hid (W3.ownsRow (R + 2) 43 5 v3 (i + 1) (flRows ((cs ++ [(⟨lb, k, i, v, dec3 v⟩ : Ch)]).map Ch.f)).flatten) := by
        show World.ownsRow _ _ _ _ _ _ _
        rw [ch_snoc, show nmT (⟨lb, k, i, v, dec3 v⟩ : Ch).i = NM from HNMi.out]
        exact ho3
      have HW3 : Hid (Whole T2.data.toList (headT ++ (cs ++ [(⟨lb, k, i, v, dec3 v⟩ : Ch)]).flatMap Ch.t)) := by
        show Whole _ _
        rw [HT2.out, List.flatMap_append, ← List.append_assoc]
        have := whole_more HWh.out ⟨lb, k, i, v, dec3 v⟩ HOkc.out
        simpa [Ch.l] using this
      have HOk3 : Hid (∀ c ∈ cs ++ [(⟨lb, k, i, v, dec3 v⟩ : Ch)], c.Ok) := by
        intro c hc
        simp only [List.mem_append, List.mem_singleton] at hc
        rcases hc with hc | rfl
        · exact HOk.out c hc
        · exact HOkc.out
      have HL3 : Hid ((cs ++ [(⟨lb, k, i, v, dec3 v⟩ : Ch)]).length = i + 1) := by show _ = _; rw [List.length_append, HCs.out]; rfl
      clear ho3 hg3 hat3 k23 HO2 BK2 BL2 hbel2 HWh HOk HOkc HT2 HNMi
      generalize cs ++ [(⟨lb, k, i, v, dec3 v⟩ : Ch)] = cs3 at *
      go_wp2_with fail
      go_roundw
      case rel => exact ⟨cs3, T2, i + 1, rfl, by go_num, HL3, by omega, by omega, HOk3, HW3, hT2s, HO3, hb3, BK3, BL3⟩
      case measure => simp [intOf]; omega
    · have hPt : parseA (T ++ ⟨#[32, 125]⟩) = (⟨⟨#[97]⟩, [⟨⟨#[109]⟩, cs.map Ch.f, []⟩], [], []⟩, 0, 0) := by
        refine parse_chunks _ cs HOk.out (by rw [ByteArray.size_append, show (⟨#[32, 125]⟩ : ByteArray).size = 2 from rfl]; omega) ?_
        rw [ByteArray.data_append, Array.toList_append, ← List.append_assoc]
        exact whole_shut HWh.out
      have hTs2 : (T ++ ⟨#[32, 125]⟩ : ByteArray).size ≤ 140737488351232 := by rw [ByteArray.size_append, show (⟨#[32, 125]⟩ : ByteArray).size = 2 from rfl]; omega
      have hGr := hG.below hbw
      have HP : Hid (Calls Tryd.prog 10 #[.string (T ++ ⟨#[32, 125]⟩)] wr fun x w' => ∃ vm ve vt, x = .returned (.tuple #[.agg #[.string ⟨#[97]⟩, vm, ve, vt], .int .i64 ((0 : Nat) : Int), .int .i64 ((0 : Nat) : Int)]) ∧ MsIn w' vm [⟨⟨#[109]⟩, cs.map Ch.f, []⟩] ∧ EnIn w' ve [] ∧ RowG w' vt 3 (mtRows []) ∧ Below wr.heap.size wr w') := parse_row _ wr hTs2 hGr _ _ _ hPt
      clear hPt hTs2
      by_cases hx : i < len
      · have hd : decide (i < len) = true := by simp; omega
        have hd2 : decide ((i : Int) < 20) = false := by simp; omega
        go_wp2_with fail
        refine HP.out.mono ?_
        rintro x w1 ⟨vm, ve, vt, rfl, h1, h2, h3, hb⟩
        obtain ⟨am, cm, rfl, g1, g2, g3, g4⟩ := h1.open
        obtain ⟨g, off, rfl⟩ := g3 (by simp)
        obtain ⟨vf, vr, c0, c1, c2, hf, hr⟩ := g4 g off rfl 0 _ rfl
        obtain ⟨fa, fcap, rfl, q1, q2, q3, q4⟩ := row_fields hf
        obtain ⟨ea, ec, rfl⟩ := en_form h2
        obtain ⟨ta, tc, rfl⟩ := row_form h3
        obtain ⟨wa, wc, hwv⟩ := own_form HO.out
        subst hwv
        have hlenI : (cs.map Ch.f).length = i := by rw [List.length_map, HCs.out]
        simp only [hlenI] at hf c1 q1
        have HF : Hid (RowG w1 (.slice fa i fcap) 5 (flRows (cs.map Ch.f))) := hf
        have hwn := (RowG.own (fl_len _) (by decide) HO.out).1
        have HWn : Hid (RowG wr (.slice wa i wc) 5 (flRows (cs.map Ch.f))) := hwn
        obtain ⟨_, _, hwe, hw1, hw2⟩ := hwn.form2
        simp only [Value.slice.injEq] at hwe
        obtain ⟨hwx, hwe1, rfl⟩ := hwe
        clear hwx
        simp only [List.length_cons, List.length_nil, Nat.zero_mul, Nat.add_zero, mtRows, List.map_nil] at c0 c1 g1 ⊢
        have l1 := World.block_lt_of_cell? _ _ c0
        simp only at l1
        unfold maxLen at g2 q2
        have hwlen : i ≤ wc := by rw [← hwe1] at hw1; exact hw1
        clear hwe1 hw1 g3 g4 q3 q4 hf hr h1 h2 h3 hwn HP hlenI c2
        have BX := Blk.new w1 #[.string ⟨#[97]⟩, .slice (some ⟨g, off, none⟩) 1 cm, .slice ea 0 ec, .slice ta 0 tc] 27
        have hbB : Below w1.heap.size w1 (w1.alloc (.cells #[.string ⟨#[97]⟩, .slice (some ⟨g, off, none⟩) 1 cm, .slice ea 0 ec, .slice ta 0 tc] 27)) := (Below.refl _ _).alloc (Nat.le_refl _) _
        go_wp2_with fail
        have c1' : (w1.alloc (.cells #[.string ⟨#[97]⟩, .slice (some ⟨g, off, none⟩) 1 cm, .slice ea 0 ec, .slice ta 0 tc] 27)).cell? ⟨g, off + 1, none⟩ = some (.slice fa i fcap) := by rw [World.cell?_alloc_past _ _ _ l1]; exact c1
        have HF2 : Hid (RowG (w1.alloc (.cells #[.string ⟨#[97]⟩, .slice (some ⟨g, off, none⟩) 1 cm, .slice ea 0 ec, .slice ta 0 tc] 27)) (.slice fa i fcap) 5 (flRows (cs.map Ch.f))) := HF.out.below hbB
        have HW2 : Hid (RowG (w1.alloc (.cells #[.string ⟨#[97]⟩, .slice (some ⟨g, off, none⟩) 1 cm, .slice ea 0 ec, .slice ta 0 tc] 27)) (.slice wa i wc) 5 (flRows (cs.map Ch.f))) := (HWn.out.below hb).below hbB
        have hb2 : Below w.heap.size w (w1.alloc (.cells #[.string ⟨#[97]⟩, .slice (some ⟨g, off, none⟩) 1 cm, .slice ea 0 ec, .slice ta 0 tc] 27)) := (hbw.trans (hb.mono hbw.size)).trans (hbB.mono (Nat.le_trans hbw.size hb.size))
        generalize w1.alloc (.cells #[.string ⟨#[97]⟩, .slice (some ⟨g, off, none⟩) 1 cm, .slice ea 0 ec, .slice ta 0 tc] 27) = w2 at *
        generalize w1.heap.size = Xb at *
        clear hbB c0 c1 HF HWn l1 hb
        go_loopw [15] (fun jv wr2 => ∃ j : Nat, jv = .int .i64 (j : Int) ∧ j ≤ i ∧ Below w2.heap.size w2 wr2) (fun jv _ => i - (intOf jv).toNat)
        case atStart => exact ⟨0, rfl, by omega, Below.refl _ _⟩
        case round =>
          obtain ⟨j, rfl, hj, hbj⟩ := hrel
          have x1 := (BX.below hbj).cell 1
          simp only [List.getElem?_toArray, List.getElem?_cons_succ, List.getElem?_cons_zero] at x1
          have x2 : wr.cell? ⟨g, off + 1, none⟩ = some (.slice fa i fcap) := by rw [hbj.cell (World.block_lt_of_cell? _ _ c1')]; exact c1'
          by_cases hjlt : j < i
          · obtain ⟨f, hfj⟩ : ∃ f, (cs.map Ch.f)[j]? = some f := ⟨_, List.getElem?_eq_getElem (by rw [List.length_map, HCs.out]; exact hjlt)⟩
            have hrow : (flRows (cs.map Ch.f))[j]? = some f.cells := by simp only [flRows, List.getElem?_map, hfj, Option.map_some]
            obtain ⟨gf, of, rfl, cf⟩ := (HF2.out.below hbj).get hrow
            obtain ⟨gw, ow, rfl, cw⟩ := (HW2.out.below hbj).get hrow
            obtain ⟨n0, n1, n2, n3, n4⟩ := f
            have p0 := cf 0 _ rfl
            have p1 := cf 1 _ rfl
            have p2 := cf 2 _ rfl
            have p3 := cf 3 _ rfl
            have p4 := cf 4 _ rfl
            have r0 := cw 0 _ rfl
            have r1 := cw 1 _ rfl
            have r2 := cw 2 _ rfl
            have r3 := cw 3 _ rfl
            have r4 := cw 4 _ rfl
            simp only [Nat.add_zero] at p0 p1 p2 p3 p4 r0 r1 r2 r3 r4
            clear cf cw hrow hfj
            go_wp2_with fail
            go_quiet (fail)
            have hbn := below_drewN nq hbj
            clear p0 p1 p2 p3 p4 r0 r1 r2 r3 r4 hbj x1 x2
            go_wp2_with fail
            go_roundw
            case rel => exact ⟨j + 1, by go_num, by omega, hbn⟩
            case measure => simp [intOf]; omega
          · have hb3 : Below w.heap.size w wr := hb2.trans (hbj.mono hb2.size)
            go_wp2_with fail
            refine (iawake_any _ (hG.below hb3)).mono ?_
            rintro e w5 ⟨rfl, hb5⟩
            go_wp2_with fail
            go_ret
            exact ⟨rfl, hb3.trans (hb5.mono hb3.size)⟩
      · have hd : decide (i < len) = false := by simp; omega
        go_wp2_with fail
        refine HP.out.mono ?_
        rintro x w1 ⟨vm, ve, vt, rfl, h1, h2, h3, hb⟩
        obtain ⟨am, cm, rfl, g1, g2, g3, g4⟩ := h1.open
        obtain ⟨g, off, rfl⟩ := g3 (by simp)
        obtain ⟨vf, vr, c0, c1, c2, hf, hr⟩ := g4 g off rfl 0 _ rfl
        obtain ⟨fa, fcap, rfl, q1, q2, q3, q4⟩ := row_fields hf
        obtain ⟨ea, ec, rfl⟩ := en_form h2
        obtain ⟨ta, tc, rfl⟩ := row_form h3
        obtain ⟨wa, wc, hwv⟩ := own_form HO.out
        subst hwv
        have hlenI : (cs.map Ch.f).length = i := by rw [List.length_map, HCs.out]
        simp only [hlenI] at hf c1 q1
        have HF : Hid (RowG w1 (.slice fa i fcap) 5 (flRows (cs.map Ch.f))) := hf
        have hwn := (RowG.own (fl_len _) (by decide) HO.out).1
        have HWn : Hid (RowG wr (.slice wa i wc) 5 (flRows (cs.map Ch.f))) := hwn
        obtain ⟨_, _, hwe, hw1, hw2⟩ := hwn.form2
        simp only [Value.slice.injEq] at hwe
        obtain ⟨hwx, hwe1, rfl⟩ := hwe
        clear hwx
        simp only [List.length_cons, List.length_nil, Nat.zero_mul, Nat.add_zero, mtRows, List.map_nil] at c0 c1 g1 ⊢
        have l1 := World.block_lt_of_cell? _ _ c0
        simp only at l1
        unfold maxLen at g2 q2
        have hwlen : i ≤ wc := by rw [← hwe1] at hw1; exact hw1
        clear hwe1 hw1 g3 g4 q3 q4 hf hr h1 h2 h3 hwn HP hlenI c2
        have BX := Blk.new w1 #[.string ⟨#[97]⟩, .slice (some ⟨g, off, none⟩) 1 cm, .slice ea 0 ec, .slice ta 0 tc] 27
        have hbB : Below w1.heap.size w1 (w1.alloc (.cells #[.string ⟨#[97]⟩, .slice (some ⟨g, off, none⟩) 1 cm, .slice ea 0 ec, .slice ta 0 tc] 27)) := (Below.refl _ _).alloc (Nat.le_refl _) _
        go_wp2_with fail
        have c1' : (w1.alloc (.cells #[.string ⟨#[97]⟩, .slice (some ⟨g, off, none⟩) 1 cm, .slice ea 0 ec, .slice ta 0 tc] 27)).cell? ⟨g, off + 1, none⟩ = some (.slice fa i fcap) := by rw [World.cell?_alloc_past _ _ _ l1]; exact c1
        have HF2 : Hid (RowG (w1.alloc (.cells #[.string ⟨#[97]⟩, .slice (some ⟨g, off, none⟩) 1 cm, .slice ea 0 ec, .slice ta 0 tc] 27)) (.slice fa i fcap) 5 (flRows (cs.map Ch.f))) := HF.out.below hbB
        have HW2 : Hid (RowG (w1.alloc (.cells #[.string ⟨#[97]⟩, .slice (some ⟨g, off, none⟩) 1 cm, .slice ea 0 ec, .slice ta 0 tc] 27)) (.slice wa i wc) 5 (flRows (cs.map Ch.f))) := (HWn.out.below hb).below hbB
        have hb2 : Below w.heap.size w (w1.alloc (.cells #[.string ⟨#[97]⟩, .slice (some ⟨g, off, none⟩) 1 cm, .slice ea 0 ec, .slice ta 0 tc] 27)) := (hbw.trans (hb.mono hbw.size)).trans (hbB.mono (Nat.le_trans hbw.size hb.size))
        generalize w1.alloc (.cells #[.string ⟨#[97]⟩, .slice (some ⟨g, off, none⟩) 1 cm, .slice ea 0 ec, .slice ta 0 tc] 27) = w2 at *
        generalize w1.heap.size = Xb at *
        clear hbB c0 c1 HF HWn l1 hb
        go_loopw [15] (fun jv wr2 => ∃ j : Nat, jv = .int .i64 (j : Int) ∧ j ≤ i ∧ Below w2.heap.size w2 wr2) (fun jv _ => i - (intOf jv).toNat)
        case atStart => exact ⟨0, rfl, by omega, Below.refl _ _⟩
        case round =>
          obtain ⟨j, rfl, hj, hbj⟩ := hrel
          have x1 := (BX.below hbj).cell 1
          simp only [List.getElem?_toArray, List.getElem?_cons_succ, List.getElem?_cons_zero] at x1
          have x2 : wr.cell? ⟨g, off + 1, none⟩ = some (.slice fa i fcap) := by rw [hbj.cell (World.block_lt_of_cell? _ _ c1')]; exact c1'
          by_cases hjlt : j < i
          · obtain ⟨f, hfj⟩ : ∃ f, (cs.map Ch.f)[j]? = some f := ⟨_, List.getElem?_eq_getElem (by rw [List.length_map, HCs.out]; exact hjlt)⟩
            have hrow : (flRows (cs.map Ch.f))[j]? = some f.cells := by simp only [flRows, List.getElem?_map, hfj, Option.map_some]
            obtain ⟨gf, of, rfl, cf⟩ := (HF2.out.below hbj).get hrow
            obtain ⟨gw, ow, rfl, cw⟩ := (HW2.out.below hbj).get hrow
            obtain ⟨n0, n1, n2, n3, n4⟩ := f
            have p0 := cf 0 _ rfl
            have p1 := cf 1 _ rfl
            have p2 := cf 2 _ rfl
            have p3 := cf 3 _ rfl
            have p4 := cf 4 _ rfl
            have r0 := cw 0 _ rfl
            have r1 := cw 1 _ rfl
            have r2 := cw 2 _ rfl
            have r3 := cw 3 _ rfl
            have r4 := cw 4 _ rfl
            simp only [Nat.add_zero] at p0 p1 p2 p3 p4 r0 r1 r2 r3 r4
            clear cf cw hrow hfj
            go_wp2_with fail
            go_quiet (fail)
            have hbn := below_drewN nq hbj
            clear p0 p1 p2 p3 p4 r0 r1 r2 r3 r4 hbj x1 x2
            go_wp2_with fail
            go_roundw
            case rel => exact ⟨j + 1, by go_num, by omega, hbn⟩
            case measure => simp [intOf]; omega
          · have hb3 : Below w.heap.size w wr := hb2.trans (hbj.mono hb2.size)
            go_wp2_with fail
            refine (iawake_any _ (hG.below hb3)).mono ?_
            rintro e w5 ⟨rfl, hb5⟩
            go_wp2_with fail
            go_ret
            exact ⟨rfl, hb3.trans (hb5.mono hb3.size)⟩
end Go.Proofs.YtfffjfccochccaaDoor

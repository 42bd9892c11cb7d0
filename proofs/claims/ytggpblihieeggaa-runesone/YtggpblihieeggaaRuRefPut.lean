/- What the reference's Put answers, at every rune. -/
import Derived.Test.YtggpblihieeggaaRuAwake
import Derived.Laws.BytesArg
namespace Go.Proofs.Ytggpblihieeggaa
open Go.ChangeShapes Go.WideShapes Go.ChangeAt Go.RowKit
set_option linter.unusedVariables false
set_option linter.unusedSimpArgs false
set_option maxRecDepth 20000

theorem put_1 (r : Int) (h0 : 0 ≤ r) (h1 : r < 128) : strOfNums [r] = putS r := by
  obtain ⟨n, rfl⟩ := Int.eq_ofNat_of_zero_le h0
  have hv : Utf8.valid (n : Int) = true := (valid_iff _).2 (by omega)
  have g1 : n < 128 := by omega
  simp [putS, hv, Utf8.encode, g1, strOfNums]
theorem put_2 (r : Int) (h0 : 128 ≤ r) (h1 : r < 2048) : strOfNums [192 + r / 64, 128 + r % 64] = putS r := by
  obtain ⟨n, rfl⟩ := Int.eq_ofNat_of_zero_le (a := r) (by omega)
  have hv : Utf8.valid (n : Int) = true := (valid_iff _).2 (by omega)
  have g1 : ¬ n < 128 := by omega
  have g2 : n < 2048 := by omega
  have e1 : (192 + (n : Int) / 64).toNat = 192 + n / 64 := by omega
  have e2 : (128 + (n : Int) % 64).toNat = 128 + n % 64 := by omega
  simp only [putS, hv, if_true, Utf8.encode, Int.toNat_natCast, if_neg g1, if_pos g2, strOfNums, List.map_cons, List.map_nil, e1, e2]
theorem put_3 (r : Int) (h0 : 2048 ≤ r) (h1 : r < 65536) (hs : ¬ (55296 ≤ r ∧ r ≤ 57343)) : strOfNums [224 + r / 4096, 128 + r / 64 % 64, 128 + r % 64] = putS r := by
  obtain ⟨n, rfl⟩ := Int.eq_ofNat_of_zero_le (a := r) (by omega)
  have hv : Utf8.valid (n : Int) = true := (valid_iff _).2 (by omega)
  have g1 : ¬ n < 128 := by omega
  have g2 : ¬ n < 2048 := by omega
  have g3 : n < 65536 := by omega
  have e1 : (224 + (n : Int) / 4096).toNat = 224 + n / 4096 := by omega
  have e2 : (128 + (n : Int) / 64 % 64).toNat = 128 + n / 64 % 64 := by omega
  have e3 : (128 + (n : Int) % 64).toNat = 128 + n % 64 := by omega
  simp only [putS, hv, if_true, Utf8.encode, Int.toNat_natCast, if_neg g1, if_neg g2, if_pos g3, strOfNums, List.map_cons, List.map_nil, e1, e2, e3]
theorem put_4 (r : Int) (h0 : 65536 ≤ r) (h1 : r ≤ 1114111) : strOfNums [240 + r / 262144, 128 + r / 4096 % 64, 128 + r / 64 % 64, 128 + r % 64] = putS r := by
  obtain ⟨n, rfl⟩ := Int.eq_ofNat_of_zero_le (a := r) (by omega)
  have hv : Utf8.valid (n : Int) = true := (valid_iff _).2 (by omega)
  have g1 : ¬ n < 128 := by omega
  have g2 : ¬ n < 2048 := by omega
  have g3 : ¬ n < 65536 := by omega
  have e1 : (240 + (n : Int) / 262144).toNat = 240 + n / 262144 := by omega
  have e2 : (128 + (n : Int) / 4096 % 64).toNat = 128 + n / 4096 % 64 := by omega
  have e3 : (128 + (n : Int) / 64 % 64).toNat = 128 + n / 64 % 64 := by omega
  have e4 : (128 + (n : Int) % 64).toNat = 128 + n % 64 := by omega
  simp only [putS, hv, if_true, Utf8.encode, Int.toNat_natCast, if_neg g1, if_neg g2, if_neg g3, strOfNums, List.map_cons, List.map_nil, e1, e2, e3, e4]

theorem conv_made (w : World) (xs : List Int) (n : Nat) (hn : xs.length = n) :
    (convert 38 9 (.slice (some ⟨w.heap.size, 0, none⟩) n n)).run Try.prog (w.alloc (.cells (xs.map (Value.int .u8)).toArray 5)) = .ok (.string (strOfNums xs)) (w.alloc (.cells (xs.map (Value.int .u8)).toArray 5)) := by
  refine run_convert_bytes_arg (P := Try.prog) _ 38 5 Try.underlying38 Try.underlying5 w.heap.size 0 n n xs hn ?_ 9 Try.underlying9
  intro i hi
  rw [World.cell?_alloc_at _ _ _ _ rfl, Nat.zero_add]
  have : i < xs.length := by omega
  simp [List.getD_eq_getElem?_getD, this]

theorem below_one (w : World) (o : Obj) : Below w.heap.size w (w.alloc o) := (Below.refl _ _).alloc (Nat.le_refl _) _

set_option maxHeartbeats 1000000 in
theorem rput_0 (r : Int) (w : World) (hr : -2147483648 ≤ r ∧ r ≤ 2147483647) (h : ¬ (0 ≤ r ∧ r ≤ 1114111 ∧ ¬ (55296 ≤ r ∧ r ≤ 57343))) :
    Calls Try.prog 21 #[.int .i32 r] w fun e w' => e = .returned (.string (putS r)) ∧ Below w.heap.size w w' := by
  have HP : Hid (⟨#[]⟩ = putS r) := putS_no ((valid_not r).2 h)
  obtain h | h | h : r < 0 ∨ 1114111 < r ∨ (55296 ≤ r ∧ r ≤ 57343) := by omega
  all_goals
    go_enter Try.func21, Try.ntmps21
    go_wp2
    go_ret
    exact ⟨ret_str HP.out, Below.refl _ _⟩
set_option maxHeartbeats 1000000 in
theorem rput_1 (r : Int) (w : World) (h0 : 0 ≤ r) (h1 : r < 128) :
    Calls Try.prog 21 #[.int .i32 r] w fun e w' => e = .returned (.string (putS r)) ∧ Below w.heap.size w w' := by
  have hcv := conv_made w [r] 1 rfl
  have HP : Hid (strOfNums [r] = putS r) := put_1 r h0 h1
  simp only [List.map_cons, List.map_nil] at hcv
  go_enter Try.func21, Try.ntmps21
  go_wp2
  go_ret
  exact ⟨ret_str HP.out, below_one _ _⟩
set_option maxHeartbeats 1000000 in
theorem rput_2 (r : Int) (w : World) (h0 : 128 ≤ r) (h1 : r < 2048) :
    Calls Try.prog 21 #[.int .i32 r] w fun e w' => e = .returned (.string (putS r)) ∧ Below w.heap.size w w' := by
  have hcv := conv_made w [192 + r / 64, 128 + r % 64] 2 rfl
  have HP : Hid (strOfNums [192 + r / 64, 128 + r % 64] = putS r) := put_2 r h0 h1
  simp only [List.map_cons, List.map_nil] at hcv
  go_enter Try.func21, Try.ntmps21
  go_wp2
  go_ret
  exact ⟨ret_str HP.out, below_one _ _⟩
set_option maxHeartbeats 1000000 in
theorem rput_3 (r : Int) (w : World) (h0 : 2048 ≤ r) (h1 : r < 65536) (hs : r < 55296 ∨ 57343 < r) :
    Calls Try.prog 21 #[.int .i32 r] w fun e w' => e = .returned (.string (putS r)) ∧ Below w.heap.size w w' := by
  have hcv := conv_made w [224 + r / 4096, 128 + r / 64 % 64, 128 + r % 64] 3 rfl
  have HP : Hid (strOfNums [224 + r / 4096, 128 + r / 64 % 64, 128 + r % 64] = putS r) := put_3 r h0 h1 (by omega)
  simp only [List.map_cons, List.map_nil] at hcv
  rcases hs with hs | hs
  all_goals
    go_enter Try.func21, Try.ntmps21
    go_wp2
    go_ret
    exact ⟨ret_str HP.out, below_one _ _⟩
set_option maxHeartbeats 1000000 in
theorem rput_4 (r : Int) (w : World) (h0 : 65536 ≤ r) (h1 : r ≤ 1114111) :
    Calls Try.prog 21 #[.int .i32 r] w fun e w' => e = .returned (.string (putS r)) ∧ Below w.heap.size w w' := by
  have hcv := conv_made w [240 + r / 262144, 128 + r / 4096 % 64, 128 + r / 64 % 64, 128 + r % 64] 4 rfl
  have HP : Hid (strOfNums [240 + r / 262144, 128 + r / 4096 % 64, 128 + r / 64 % 64, 128 + r % 64] = putS r) := put_4 r h0 h1
  simp only [List.map_cons, List.map_nil] at hcv
  go_enter Try.func21, Try.ntmps21
  go_wp2
  go_ret
  exact ⟨ret_str HP.out, below_one _ _⟩

theorem rput_any (r : Int) (w : World) (hr : -2147483648 ≤ r ∧ r ≤ 2147483647) :
    Calls Try.prog 21 #[.int .i32 r] w fun e w' => e = .returned (.string (putS r)) ∧ Below w.heap.size w w' := by
  by_cases h : ¬ (0 ≤ r ∧ r ≤ 1114111 ∧ ¬ (55296 ≤ r ∧ r ≤ 57343))
  · exact rput_0 r w hr h
  · by_cases h1 : r < 128
    · exact rput_1 r w (by omega) h1
    · by_cases h2 : r < 2048
      · exact rput_2 r w (by omega) h2
      · by_cases h3 : r < 65536
        · exact rput_3 r w (by omega) h3 (by omega)
        · exact rput_4 r w (by omega) (by omega)
end Go.Proofs.Ytggpblihieeggaa

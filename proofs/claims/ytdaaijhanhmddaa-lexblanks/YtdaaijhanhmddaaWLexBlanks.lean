/- LexBlanks answers true at every text, place and kind. -/
import Derived.Test.YtdaaijhanhmddaaLxBlank
import Derived.Test.YtdaaijhanhmddaaLwPlace
import Derived.Test.YtdaaijhanhmddaaRg
namespace Go.Proofs.Ytdaaijhanhmddaa
open Go.ChangeShapes Go.WideShapes Go.ChangeAt Go.RowKit
set_option linter.unusedVariables false
set_option linter.unusedSimpArgs false
set_option maxRecDepth 20000

theorem index_blank (j : Nat) (h : j < 4) : ∃ B : ByteArray, Blanks B.data.toList ∧ B.size ≤ 11 ∧ ∀ W : World, (Instr.index 33 (.agg #[.string ⟨#[32]⟩, .string ⟨#[10]⟩, .string ⟨#[9, 13]⟩, .string ⟨#[47, 47, 32, 104, 111, 112, 32, 59, 32, 123, 10]⟩]) (.int .i64 (j : Int))).run Try.prog W = .ok (.string B) W := by
  match j, h with
  | 0, _ => exact ⟨⟨#[32]⟩, blanks_0, by decide, fun W => by simp [Instr.index, run_underlying Try.underlying33, asIntOf, go_sem]⟩
  | 1, _ => exact ⟨⟨#[10]⟩, blanks_1, by decide, fun W => by simp [Instr.index, run_underlying Try.underlying33, asIntOf, go_sem]⟩
  | 2, _ => exact ⟨⟨#[9, 13]⟩, blanks_2, by decide, fun W => by simp [Instr.index, run_underlying Try.underlying33, asIntOf, go_sem]⟩
  | 3, _ => exact ⟨⟨#[47, 47, 32, 104, 111, 112, 32, 59, 32, 123, 10]⟩, blanks_3, by decide, fun W => by simp [Instr.index, run_underlying Try.underlying33, asIntOf, go_sem]⟩

set_option maxHeartbeats 8000000 in
theorem blanks_ok (s : ByteArray) (p q : Int) (w : World) (hp1 : -9223372036854775808 ≤ p) (hp2 : p ≤ 9223372036854775807) (hq1 : -9223372036854775808 ≤ q) (hq2 : q ≤ 9223372036854775807) (hs : s.size ≤ 3000) (ts : List Tk) (hne : ts ≠ []) (hT : lexO s.data.toList 0 = .inr ts) :
    Calls Try.prog 5 #[.string s, .int .i64 p, .int .i64 q] w fun e w' => e = .returned (.bool true) ∧ Below w.heap.size w w' := by
  have HC1 : Hid (∀ W : World, Calls Try.prog 9 #[.string s] W fun x w' => ∃ v, x = .returned (.tuple #[v, .int .i64 ((0 : Nat) : Int), .int .i64 ((0 : Nat) : Int)]) ∧ RowT w' v ts ∧ Below W.heap.size W w') := fun W => tokens_row s W (by omega) ts 0 0 (tokA_ok (by omega) hT)
  have hd : decide (3000 < (s.size : Int)) = false := by simp; omega
  have hl := lex_len hT
  rw [len_data] at hl
  have HT : Hid (lexO s.data.toList 0 = .inr ts) := hT
  have hpos : 1 ≤ ts.length := by
    cases ts with
    | nil => exact absurd rfl hne
    | cons a r => simp
  have HNE : Hid (ts ≠ []) := hne
  clear hT hne
  go_enter Try.func5, Try.ntmps5
  go_wp2_with fail
  refine (HC1.out _).mono ?_
  rintro x w1 ⟨v1, rfl, hr1, hb1⟩
  obtain ⟨a1, c1, rfl, h12, h13, h14, h15⟩ := hr1.form
  obtain ⟨g1, rfl⟩ := h14 HNE.out
  have HH1 : Hid (HoldsT w1 (some ⟨g1, 0, none⟩) ts) := h15
  unfold maxLen at h13
  obtain ⟨N, hN⟩ : ∃ N, ts.length = N := ⟨_, rfl⟩
  rw [hN] at h12 hl hpos ⊢
  have HN : Hid (ts.length = N) := hN
  have hN0 : ((N : Int) == 0) = false := by rw [beq_eq_false_iff_ne]; omega
  clear hN h14 h15 hr1 HC1
  go_wp2_with fail
  refine (place_any p N _ hp1 hp2 (by omega) (by omega)).mono ?_
  rintro x w2 ⟨k, rfl, hk, rfl⟩
  have hk' : k < N := by omega
  clear hk hp1 hp2
  go_wp2_with fail
  refine (place_any q 4 _ hq1 hq2 (by omega) (by omega)).mono ?_
  rintro x w3 ⟨j, rfl, hj, rfl⟩
  have hj' : j < 4 := by omega
  clear hj hq1 hq2
  obtain ⟨B, hBl, hBs, hidx⟩ := index_blank j hj'
  have hr : ts[k]? = some (ts[k]'(by rw [HN.out]; exact hk')) := List.getElem?_eq_getElem _
  generalize ts[k]'(by rw [HN.out]; exact hk') = r at hr
  have f := piece_at HT.out hr
  have hlb := lex_blank hBl HT.out hr
  obtain ⟨ms, hms⟩ : ∃ ms, ts.take k ++ (ts.drop k).map (shiftT B.data.toList.length) = ms := ⟨_, rfl⟩
  rw [hms] at hlb
  have HM : Hid (ms.length = N) := by show _ = _; rw [← hms, List.length_append, List.length_map, List.length_take, List.length_drop, HN.out]; omega
  have HME : Hid (ms ≠ []) := by intro e; have := HM.out; rw [e] at this; simp at this; omega
  have HG : Hid (∀ (i : Nat) (u r : Tk), ms[i]? = some u → ts[i]? = some r → u.kind = r.kind ∧ u.bytes = r.bytes ∧ u.pos = if k ≤ i then r.pos + B.size else r.pos) := fun i u r hu hr => by
    rw [← hms, len_data] at hu
    exact blank_get (by rw [HN.out]; omega) hu hr
  have hpk : r.pos < s.size := by have := f.2.1; have := f.2.2.1; rw [len_data] at *; omega
  have HCP : Hid (∀ W, Below w3.heap.size w3 W → W.cell? ⟨g1, k * 3 + 2, none⟩ = some (.int .i64 (r.pos : Int))) := fun W hW => ((HH1.out.below hW).at0 hr).2.2
  clear f
  generalize r.pos = P at *
  obtain ⟨S1, hS1⟩ : ∃ S1, s.extract 0 P = S1 := ⟨_, rfl⟩
  obtain ⟨S2, hS2⟩ : ∃ S2, s.extract P s.size = S2 := ⟨_, rfl⟩
  have hs1 : S1.size = P := by rw [← hS1, ByteArray.size_extract]; omega
  have hs2 : S2.size = s.size - P := by rw [← hS2, ByteArray.size_extract]; omega
  have HS1 : Hid (∀ W : World, (Instr.slice 9 (.string s) none (some (.int .i64 (P : Int))) none).run Try.prog W = .ok (.string S1) W) := fun W => by
    rw [run_slice_string_to_if (P := Try.prog) W 9 _ .i64 _ Try.underlying9, if_pos ⟨by omega, by omega⟩, Int.toNat_natCast, hS1]
  have HS2 : Hid (∀ W : World, (Instr.slice 9 (.string s) (some (.int .i64 (P : Int))) none none).run Try.prog W = .ok (.string S2) W) := fun W => by
    rw [run_slice_string_from_if (P := Try.prog) W 9 _ .i64 _ Try.underlying9, if_pos ⟨by omega, by omega⟩, Int.toNat_natCast, hS2]
  have hl1 : S1.data.toList = s.data.toList.take P := by have := extract_list s 0 P; rw [Nat.zero_add, List.drop_zero, hS1] at this; exact this
  have hl2 : S2.data.toList = s.data.toList.drop P := by have := extract_drop s P; rw [hS2] at this; exact this
  have HC2 : Hid (∀ W : World, Calls Try.prog 9 #[.string (S1 ++ B ++ S2)] W fun x w' => ∃ v, x = .returned (.tuple #[v, .int .i64 0, .int .i64 0]) ∧ RowT w' v ms ∧ Below W.heap.size W w') := fun W => by
    have hz : (S1 ++ B ++ S2).size ≤ 16384 := by rw [ByteArray.size_append, ByteArray.size_append]; omega
    refine tokens_row _ W (by omega) ms 0 0 (tokA_ok hz ?_)
    rw [ByteArray.data_append, ByteArray.data_append, Array.toList_append, Array.toList_append, hl1, hl2]
    exact hlb
  have hb1s : S1.size ≤ 3000 := by omega
  have hb2s : S2.size ≤ 3000 := by omega
  clear hS1 hS2 hs1 hs2 hl1 hl2 hlb hms hr hBl
  go_wp2_with fail
  have hS : Below w3.heap.size w3 w3.drew := (Below.refl _ _).drew
  refine wp_region_held_drew (S := fun w' => Below w3.heap.size w3 w') (by kernel_rfl) hS (fun hS => ?_)
  refine rg_take 0 44 (.string s) _ rfl rfl (by kernel_rfl) (by kernel_rfl) (by kernel_rfl) (fun _ _ _ h => h) (by rfl) (fun w' hw' => ?_) hS (listed' := #[true, false, false, false, false, false, false, false, false, false, false, false, false, false, false, false, false, false, false, false, false, false, false, false, false]) (by kernel_rfl) rfl ?_
  · go_simp
  simp only [List.setIfInBounds_toArray, List.set_cons_zero, List.set_cons_succ]
  refine rg_take 1 45 (.slice (some ⟨g1, 0, none⟩) N c1) _ rfl rfl (by kernel_rfl) (by kernel_rfl) (by kernel_rfl) (fun _ _ _ h => h) (by rfl) (fun w' hw' => ?_) hS (listed' := #[true, true, false, false, false, false, false, false, false, false, false, false, false, false, false, false, false, false, false, false, false, false, false, false, false]) (by kernel_rfl) rfl ?_
  · go_simp
  simp only [List.setIfInBounds_toArray, List.set_cons_zero, List.set_cons_succ]
  refine rg_take 2 46 (.int .i64 (k : Int)) _ rfl rfl (by kernel_rfl) (by kernel_rfl) (by kernel_rfl) (fun _ _ _ h => h) (by rfl) (fun w' hw' => ?_) hS (listed' := #[true, true, true, false, false, false, false, false, false, false, false, false, false, false, false, false, false, false, false, false, false, false, false, false, false]) (by kernel_rfl) rfl ?_
  · go_simp
  simp only [List.setIfInBounds_toArray, List.set_cons_zero, List.set_cons_succ]
  refine rg_take 3 47 (.pointer (some ⟨g1, k * 3, none⟩)) _ rfl rfl (by kernel_rfl) (by kernel_rfl) (by kernel_rfl) (fun _ _ _ h => h) (by rfl) (fun w' hw' => ?_) hS (listed' := #[true, true, true, true, false, false, false, false, false, false, false, false, false, false, false, false, false, false, false, false, false, false, false, false, false]) (by kernel_rfl) rfl ?_
  · go_simp
  simp only [List.setIfInBounds_toArray, List.set_cons_zero, List.set_cons_succ]
  refine rg_take 4 48 (.pointer (some ⟨g1, k * 3 + 2, none⟩)) _ rfl rfl (by kernel_rfl) (by kernel_rfl) (by kernel_rfl) (fun _ _ _ h => h) (by rfl) (fun w' hw' => ?_) hS (listed' := #[true, true, true, true, true, false, false, false, false, false, false, false, false, false, false, false, false, false, false, false, false, false, false, false, false]) (by kernel_rfl) rfl ?_
  · go_simp
  simp only [List.setIfInBounds_toArray, List.set_cons_zero, List.set_cons_succ]
  refine rg_take 5 49 (.int .i64 (P : Int)) _ rfl rfl (by kernel_rfl) (by kernel_rfl) (by kernel_rfl) (fun _ _ _ h => h) (by rfl) (fun w' hw' => ?_) hS (listed' := #[true, true, true, true, true, true, false, false, false, false, false, false, false, false, false, false, false, false, false, false, false, false, false, false, false]) (by kernel_rfl) rfl ?_
  · have hcl := HCP.out w' hw'; go_simp
  simp only [List.setIfInBounds_toArray, List.set_cons_zero, List.set_cons_succ]
  refine rg_take 6 50 (.string S1) _ rfl rfl (by kernel_rfl) (by kernel_rfl) (by kernel_rfl) (fun _ _ _ h => h) (by rfl) (fun w' hw' => ?_) hS (listed' := #[true, true, true, true, true, true, true, false, false, false, false, false, false, false, false, false, false, false, false, false, false, false, false, false, false]) (by kernel_rfl) rfl ?_
  · have hsl := HS1.out w'; go_simp
  simp only [List.setIfInBounds_toArray, List.set_cons_zero, List.set_cons_succ]
  refine rg_take 7 51 (.string B) _ rfl rfl (by kernel_rfl) (by kernel_rfl) (by kernel_rfl) (fun _ _ _ h => h) (by rfl) (fun w' hw' => ?_) hS (listed' := #[true, true, true, true, true, true, true, true, false, false, false, false, false, false, false, false, false, false, false, false, false, false, false, false, false]) (by kernel_rfl) rfl ?_
  · go_simp
  simp only [List.setIfInBounds_toArray, List.set_cons_zero, List.set_cons_succ]
  refine rg_take 8 52 (.string (S1 ++ B)) _ rfl rfl (by kernel_rfl) (by kernel_rfl) (by kernel_rfl) (fun _ _ _ h => h) (by rfl) (fun w' hw' => ?_) hS (listed' := #[true, true, true, true, true, true, true, true, true, false, false, false, false, false, false, false, false, false, false, false, false, false, false, false, false]) (by kernel_rfl) rfl ?_
  · go_simp; omega
  simp only [List.setIfInBounds_toArray, List.set_cons_zero, List.set_cons_succ]
  refine rg_take 9 53 (.string s) _ rfl rfl (by kernel_rfl) (by kernel_rfl) (by kernel_rfl) (fun _ _ _ h => h) (by rfl) (fun w' hw' => ?_) hS (listed' := #[true, true, true, true, true, true, true, true, true, true, false, false, false, false, false, false, false, false, false, false, false, false, false, false, false]) (by kernel_rfl) rfl ?_
  · go_simp
  simp only [List.setIfInBounds_toArray, List.set_cons_zero, List.set_cons_succ]
  refine rg_take 10 54 (.slice (some ⟨g1, 0, none⟩) N c1) _ rfl rfl (by kernel_rfl) (by kernel_rfl) (by kernel_rfl) (fun _ _ _ h => h) (by rfl) (fun w' hw' => ?_) hS (listed' := #[true, true, true, true, true, true, true, true, true, true, true, false, false, false, false, false, false, false, false, false, false, false, false, false, false]) (by kernel_rfl) rfl ?_
  · go_simp
  simp only [List.setIfInBounds_toArray, List.set_cons_zero, List.set_cons_succ]
  refine rg_take 11 55 (.int .i64 (k : Int)) _ rfl rfl (by kernel_rfl) (by kernel_rfl) (by kernel_rfl) (fun _ _ _ h => h) (by rfl) (fun w' hw' => ?_) hS (listed' := #[true, true, true, true, true, true, true, true, true, true, true, true, false, false, false, false, false, false, false, false, false, false, false, false, false]) (by kernel_rfl) rfl ?_
  · go_simp
  simp only [List.setIfInBounds_toArray, List.set_cons_zero, List.set_cons_succ]
  refine rg_take 12 56 (.pointer (some ⟨g1, k * 3, none⟩)) _ rfl rfl (by kernel_rfl) (by kernel_rfl) (by kernel_rfl) (fun _ _ _ h => h) (by rfl) (fun w' hw' => ?_) hS (listed' := #[true, true, true, true, true, true, true, true, true, true, true, true, true, false, false, false, false, false, false, false, false, false, false, false, false]) (by kernel_rfl) rfl ?_
  · go_simp
  simp only [List.setIfInBounds_toArray, List.set_cons_zero, List.set_cons_succ]
  refine rg_take 13 57 (.pointer (some ⟨g1, k * 3 + 2, none⟩)) _ rfl rfl (by kernel_rfl) (by kernel_rfl) (by kernel_rfl) (fun _ _ _ h => h) (by rfl) (fun w' hw' => ?_) hS (listed' := #[true, true, true, true, true, true, true, true, true, true, true, true, true, true, false, false, false, false, false, false, false, false, false, false, false]) (by kernel_rfl) rfl ?_
  · go_simp
  simp only [List.setIfInBounds_toArray, List.set_cons_zero, List.set_cons_succ]
  refine rg_take 14 58 (.int .i64 (P : Int)) _ rfl rfl (by kernel_rfl) (by kernel_rfl) (by kernel_rfl) (fun _ _ _ h => h) (by rfl) (fun w' hw' => ?_) hS (listed' := #[true, true, true, true, true, true, true, true, true, true, true, true, true, true, true, false, false, false, false, false, false, false, false, false, false]) (by kernel_rfl) rfl ?_
  · have hcl := HCP.out w' hw'; go_simp
  simp only [List.setIfInBounds_toArray, List.set_cons_zero, List.set_cons_succ]
  refine rg_take 15 59 (.string S2) _ rfl rfl (by kernel_rfl) (by kernel_rfl) (by kernel_rfl) (fun _ _ _ h => h) (by rfl) (fun w' hw' => ?_) hS (listed' := #[true, true, true, true, true, true, true, true, true, true, true, true, true, true, true, true, false, false, false, false, false, false, false, false, false]) (by kernel_rfl) rfl ?_
  · have hsl := HS2.out w'; go_simp
  simp only [List.setIfInBounds_toArray, List.set_cons_zero, List.set_cons_succ]
  refine rg_take 16 60 (.string (S1 ++ B ++ S2)) _ rfl rfl (by kernel_rfl) (by kernel_rfl) (by kernel_rfl) (fun _ _ _ h => h) (by rfl) (fun w' hw' => ?_) hS (listed' := #[true, true, true, true, true, true, true, true, true, true, true, true, true, true, true, true, true, false, false, false, false, false, false, false, false]) (by kernel_rfl) rfl ?_
  · go_simp; omega
  simp only [List.setIfInBounds_toArray, List.set_cons_zero, List.set_cons_succ]
  refine rg_call 17 61 9 #[.string (S1 ++ B ++ S2)] rfl rfl (by kernel_rfl) (by rfl) (listed' := #[true, true, true, true, true, true, true, true, true, true, true, true, true, true, true, true, true, true, false, false, false, false, false, false, false]) (by kernel_rfl) (fun w' => ?_) ?_
  · go_simp
  refine (HC2.out _).mono ?_
  rintro x w4 ⟨v4, rfl, hr4, hb4⟩
  have hS4 : Below w3.heap.size w3 w4 := hS.trans (hb4.mono hS.size)
  refine ⟨_, rfl, hS4, ?_⟩
  obtain ⟨a4, c4, rfl, h42, h43, h44, h45⟩ := hr4.form
  unfold maxLen at h43
  rw [HM.out] at h42 ⊢
  obtain ⟨g4, rfl⟩ := h44 HME.out
  have HH4 : Hid (HoldsT w4 (some ⟨g4, 0, none⟩) ms) := h45
  clear h44 h45 hr4 hb4 HC2
  simp only [List.setIfInBounds_toArray, List.set_cons_zero, List.set_cons_succ]
  refine rg_take 18 43 (.tuple #[.slice (some ⟨g4, 0, none⟩) N c4, .int .i64 0, .int .i64 0]) _ rfl rfl (by kernel_rfl) (by kernel_rfl) (by kernel_rfl) (fun _ _ _ h => h) (by rfl) (fun w' hw' => ?_) hS4 (listed' := #[true, true, true, true, true, true, true, true, true, true, true, true, true, true, true, true, true, true, true, false, false, false, false, false, false]) (by kernel_rfl) rfl ?_
  · go_simp
  simp only [List.setIfInBounds_toArray, List.set_cons_zero, List.set_cons_succ]
  refine rg_take 19 62 (.slice (some ⟨g4, 0, none⟩) N c4) _ rfl rfl (by kernel_rfl) (by kernel_rfl) (by kernel_rfl) (fun _ _ _ h => h) (by rfl) (fun w' hw' => ?_) hS4 (listed' := #[true, true, true, true, true, true, true, true, true, true, true, true, true, true, true, true, true, true, true, true, false, false, false, false, false]) (by kernel_rfl) rfl ?_
  · go_simp
  simp only [List.setIfInBounds_toArray, List.set_cons_zero, List.set_cons_succ]
  refine rg_take 20 63 (.int .i64 0) _ rfl rfl (by kernel_rfl) (by kernel_rfl) (by kernel_rfl) (fun _ _ _ h => h) (by rfl) (fun w' hw' => ?_) hS4 (listed' := #[true, true, true, true, true, true, true, true, true, true, true, true, true, true, true, true, true, true, true, true, true, false, false, false, false]) (by kernel_rfl) rfl ?_
  · go_simp
  simp only [List.setIfInBounds_toArray, List.set_cons_zero, List.set_cons_succ]
  refine rg_take 21 64 (.int .i64 0) _ rfl rfl (by kernel_rfl) (by kernel_rfl) (by kernel_rfl) (fun _ _ _ h => h) (by rfl) (fun w' hw' => ?_) hS4 (listed' := #[true, true, true, true, true, true, true, true, true, true, true, true, true, true, true, true, true, true, true, true, true, true, false, false, false]) (by kernel_rfl) rfl ?_
  · go_simp
  simp only [List.setIfInBounds_toArray, List.set_cons_zero, List.set_cons_succ]
  refine rg_take 22 12 (.slice (some ⟨g4, 0, none⟩) N c4) _ rfl rfl (by kernel_rfl) (by kernel_rfl) (by kernel_rfl) (fun _ _ _ h => h) (by rfl) (fun w' hw' => ?_) hS4 (listed' := #[true, true, true, true, true, true, true, true, true, true, true, true, true, true, true, true, true, true, true, true, true, true, true, false, false]) (by kernel_rfl) rfl ?_
  · go_simp
  simp only [List.setIfInBounds_toArray, List.set_cons_zero, List.set_cons_succ]
  refine rg_take 23 13 (.int .i64 0) _ rfl rfl (by kernel_rfl) (by kernel_rfl) (by kernel_rfl) (fun _ _ _ h => h) (by rfl) (fun w' hw' => ?_) hS4 (listed' := #[true, true, true, true, true, true, true, true, true, true, true, true, true, true, true, true, true, true, true, true, true, true, true, true, false]) (by kernel_rfl) rfl ?_
  · go_simp
  simp only [List.setIfInBounds_toArray, List.set_cons_zero, List.set_cons_succ]
  refine rg_take 24 14 (.int .i64 0) _ rfl rfl (by kernel_rfl) (by kernel_rfl) (by kernel_rfl) (fun _ _ _ h => h) (by rfl) (fun w' hw' => ?_) hS4 (listed' := #[true, true, true, true, true, true, true, true, true, true, true, true, true, true, true, true, true, true, true, true, true, true, true, true, true]) (by kernel_rfl) rfl ?_
  · go_simp
  simp only [List.setIfInBounds_toArray, List.set_cons_zero, List.set_cons_succ]
  refine wpAnyH_done (by kernel_rfl) ?_ _
  have hbb4 : Below w.heap.size w w4 := hb1.trans (hS4.mono hb1.size)
  have HH1' : Hid (HoldsT w4 (some ⟨g1, 0, none⟩) ts) := HH1.out.below hS4
  clear HH1 HCP HS1 HS2 hS hS4 hb1
  go_wp2_with fail
  go_loopw [15] (fun iv wr => ∃ i : Nat, iv = .int .i64 (i : Int) ∧ i ≤ N ∧ Below w4.heap.size w4 wr) (fun iv _ => N - (intOf iv).toNat)
  case atStart => exact ⟨0, rfl, by omega, Below.refl _ _⟩
  case round =>
    obtain ⟨i, rfl, hi, hbel⟩ := hrel
    by_cases hlt : i < N
    · have hr : ts[i]? = some (ts[i]'(by rw [HN.out]; exact hlt)) := List.getElem?_eq_getElem _
      generalize ts[i]'(by rw [HN.out]; exact hlt) = r at hr
      have hm : ms[i]? = some (ms[i]'(by rw [HM.out]; exact hlt)) := List.getElem?_eq_getElem _
      generalize ms[i]'(by rw [HM.out]; exact hlt) = u at hm
      obtain ⟨e1, e2, e3⟩ := HG.out i u r hm hr
      obtain ⟨p0, p1, p2⟩ := (HH1'.out.below hbel).at0 hr
      obtain ⟨q0, q1, q2⟩ := (HH4.out.below hbel).at0 hm
      rw [e1] at q0
      rw [e2] at q1
      rw [e3] at q2
      have hrp : r.pos ≤ 3000 := by
        have := (piece_at HT.out hr).2.1
        rw [len_data] at this
        omega
      generalize r.bytes = X at *
      generalize r.kind = K at *
      generalize r.pos = Y at *
      clear hr hm e1 e2 e3
      by_cases hki : k ≤ i
      · have hdk : decide (k ≤ i) = true := by simp; omega
        rw [if_pos hki] at q2
        have hz : ((Y + B.size : Nat) : Int) = (Y : Int) + (B.size : Int) := by omega
        rw [hz] at q2
        clear hz
        go_wp2_with fail
        go_quiet (fail)
        have hbn := below_drewN nq hbel
        clear p0 p1 p2 q0 q1 q2 hbel
        go_wp2_with fail
        go_roundw
        case rel => exact ⟨i + 1, by go_num, by omega, hbn⟩
        case measure => simp [intOf]; omega
      · have hdk : decide (k ≤ i) = false := by simp; omega
        rw [if_neg hki] at q2
        go_wp2_with fail
        go_quiet (fail)
        have hbn := below_drewN nq hbel
        clear p0 p1 p2 q0 q1 q2 hbel
        go_wp2_with fail
        go_roundw
        case rel => exact ⟨i + 1, by go_num, by omega, hbn⟩
        case measure => simp [intOf]; omega
    · have hbb5 : Below w.heap.size w wr := hbb4.trans (hbel.mono hbb4.size)
      clear hbel hbb4
      go_wp2_with fail
      refine (lawake_any _).mono ?_
      rintro x w5 ⟨rfl, hb5⟩
      go_wp2_with fail
      go_ret
      exact ⟨rfl, hbb5.trans (hb5.mono hbb5.size)⟩

set_option maxHeartbeats 4000000 in
theorem blanks_no (s : ByteArray) (p q : Int) (w : World) (hs : s.size ≤ 3000) (pp e : Nat) (hT : tokA s = ([], pp, e)) :
    Calls Try.prog 5 #[.string s, .int .i64 p, .int .i64 q] w fun e w' => e = .returned (.bool true) ∧ Below w.heap.size w w' := by
  have HC1 : Hid (∀ W : World, Calls Try.prog 9 #[.string s] W fun x w' => ∃ v, x = .returned (.tuple #[v, .int .i64 (pp : Int), .int .i64 (e : Int)]) ∧ RowT w' v [] ∧ Below W.heap.size W w') := fun W => tokens_row s W (by omega) [] pp e hT
  have hd : decide (3000 < (s.size : Int)) = false := by simp; omega
  have hgo : ((e : Int) != 0) = true ∨ ((e : Int) != 0) = false := by cases h : ((e : Int) != 0) <;> simp
  clear hT
  rcases hgo with h0 | h0
  all_goals
    go_enter Try.func5, Try.ntmps5
    go_wp2_with fail
    refine (HC1.out _).mono ?_
    rintro x w1 ⟨v1, rfl, hr1, hb1⟩
    obtain ⟨a1, c1, rfl, h12, h13, h14, h15⟩ := hr1.form
    clear h14 h15 hr1 h12 h13
    go_wp2_with fail
    refine (lawake_any _).mono ?_
    rintro x w2 ⟨rfl, hb2⟩
    go_wp2_with fail
    go_ret
    exact ⟨rfl, hb1.trans (hb2.mono hb1.size)⟩

set_option maxHeartbeats 1000000 in
theorem lexBlanks_walk (s : ByteArray) (p q : Int) (hs : s.size ≤ 140737488351232) (hp : (Lit.int .i64 p).wf = true) (hq : (Lit.int .i64 q).wf = true) (w : World) :
    Calls Try.prog 5 #[.string s, .int .i64 p, .int .i64 q] w fun e w' => e = .returned (.bool true) ∧ Below w.heap.size w w' := by
  obtain ⟨p1, p2⟩ := bounds_i64 hp
  obtain ⟨q1, q2⟩ := bounds_i64 hq
  by_cases hbig : 3000 < s.size
  · have hd : decide (3000 < (s.size : Int)) = true := by simp; omega
    clear hp hq
    go_enter Try.func5, Try.ntmps5
    go_wp2_with fail
    refine (lawake_any _).mono ?_
    rintro x w1 ⟨rfl, hb1⟩
    go_wp2_with fail
    go_ret
    exact ⟨rfl, hb1⟩
  · cases e : lexO s.data.toList 0 with
    | inl x =>
      obtain ⟨pp, er⟩ := x
      exact blanks_no s p q w (by omega) pp er (tokA_no (by omega) e)
    | inr ts =>
      by_cases hne : ts = []
      · subst hne
        exact blanks_no s p q w (by omega) 0 0 (tokA_ok (by omega) e)
      · exact blanks_ok s p q w p1 p2 q1 q2 (by omega) ts hne e
end Go.Proofs.Ytdaaijhanhmddaa

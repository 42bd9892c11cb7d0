/- What Check answers of a field, and field of one that may be. -/
import Derived.Test.YtfbekeebllcdbaaWrMath
import Derived.Test.YtfbekeebllcdbaaRg
namespace Go.Proofs.Ytfbekeebllcdbaa
open Go.ChangeShapes Go.WideShapes Go.ChangeAt Go.RowKit
set_option linter.unusedVariables false
set_option linter.unusedSimpArgs false
set_option maxRecDepth 20000

theorem ret_bool {a b : Bool} (h : a = b) : Ending.returned (.bool a) = .returned (.bool b) := by rw [h]

set_option maxHeartbeats 1000000 in
theorem checkV_any (t k n : Int) (b : ByteArray) (w : World) :
    Calls Try.prog 17 #[.agg #[.int .i64 t, .int .i64 k, .int .i64 n, .string b]] w fun e w' => e = .returned (.bool (okV t k n b)) ∧ Below w.heap.size w w' := by
  by_cases h1 : 1 ≤ t
  · by_cases h2 : t ≤ 500
    · by_cases hk : k = 0
      · subst hk
        go_enter Try.func17, Try.ntmps17
        go_wp2_with fail
        all_goals
          go_ret
          exact ⟨ret_bool (by simp [okV, h1, h2]), below_one _ _⟩
      · by_cases hk1 : k = 1
        · subst hk1
          by_cases hn : n = 0
          · subst hn
            go_enter Try.func17, Try.ntmps17
            go_wp2_with fail
            all_goals
              go_ret
              exact ⟨ret_bool (by simp [okV, h1, h2]), below_one _ _⟩
          · go_enter Try.func17, Try.ntmps17
            go_wp2_with fail
            all_goals
              go_ret
              exact ⟨ret_bool (by simp [okV, hn]), below_one _ _⟩
        · have e0 : (k == 0) = false := by simp [hk]
          have e1 : (k == 1) = false := by simp [hk1]
          go_enter Try.func17, Try.ntmps17
          go_wp2_with fail
          all_goals
            go_ret
            exact ⟨ret_bool (by simp [okV, hk, hk1]), below_one _ _⟩
    · have hok : okV t k n b = false := by simp [okV]; omega
      rw [hok]
      clear hok
      have hd : decide (t < 1) = false := by simp; omega
      have hd5 : decide (500 < t) = true := by simp; omega
      go_enter Try.func17, Try.ntmps17
      go_wp2_with fail
      all_goals
        go_ret
        exact ⟨rfl, below_one _ _⟩
  · have hok : okV t k n b = false := by simp [okV]; omega
    rw [hok]
    clear hok
    have hd : decide (t < 1) = true := by simp; omega
    go_enter Try.func17, Try.ntmps17
    go_wp2_with fail
    all_goals
      go_ret
      exact ⟨rfl, below_one _ _⟩
theorem check_any (r : Fd) (w : World) : Calls Try.prog 17 #[r.val] w fun e w' => e = .returned (.bool (okF r)) ∧ Below w.heap.size w w' := checkV_any _ _ _ _ w

set_option maxHeartbeats 2000000 in
theorem field_num (t : Nat) (n : Int) (b : ByteArray) (w : World) (h1 : 1 ≤ t) (h2 : t ≤ 500) (h3 : -9223372036854775808 ≤ n) (h4 : n ≤ 9223372036854775807) :
    Calls Try.prog 27 #[.agg #[.int .i64 (t : Int), .int .i64 0, .int .i64 n, .string b]] w fun e w' => ∃ v, e = .returned v ∧
      w'.ownsRow w.heap.size 5 1 v (digs (2 * t) ++ digs (zigN n).toNat).length (byteCells (digs (2 * t) ++ digs (zigN n).toNat)) ∧ Below w.heap.size w w' := by
  have hz := zigN_bd n h3 h4
  have l1 := digs_len64 (2 * t) (by omega)
  obtain ⟨R, hR⟩ : ∃ R, digs (2 * t) ++ digs (zigN n).toNat = R := ⟨_, rfl⟩
  rw [hR]
  have HR : Hid (digs (2 * t) ++ digs (zigN n).toNat = R) := hR
  clear hR
  go_enter Try.func27, Try.ntmps27
  go_wp2_with fail
  refine (put_nil (2 * t) _ (by omega) _ (by omega)).mono ?_
  rintro e w1 ⟨g, cap, rfl, hg1, hg2, hc, hm, hh, hb⟩
  have hb0 : Below w.heap.size w w1 := (below_one w _).trans (hb.mono (by simp))
  generalize digs (2 * t) = ds at *
  have hcell : w1.cell? ⟨w.heap.size, 1, none⟩ = some (.int .i64 0) := by rw [hb.cell (by simp)]; simp
  have hcell2 : w1.cell? ⟨w.heap.size, 2, none⟩ = some (.int .i64 n) := by rw [hb.cell (by simp)]; simp
  have HH : Hid (Holds w1 (some ⟨g, 0, none⟩) ds) := hh
  have HB : Hid (Below w.heap.size w w1) := hb0
  obtain ⟨N, hN⟩ : ∃ N, ds.length = N := ⟨_, rfl⟩
  rw [hN] at hc l1 ⊢
  have HN : Hid (ds.length = N) := hN
  clear hh hb hb0 hN
  go_wp2_with fail
  refine (zig_any n _ h3 h4).mono ?_
  rintro e w2 ⟨rfl, rfl⟩
  obtain ⟨z, hzz⟩ := Int.eq_ofNat_of_zero_le hz.1
  have HR2 : Hid (ds ++ digs z = R) := by show _ = _; rw [← HR.out, hzz, Int.toNat_natCast]
  rw [hzz] at hz ⊢
  clear hzz HR
  go_wp2_with fail
  have hp := put_any (some ⟨g, 0, none⟩) ds cap z w2 (fun h => by cases h) (by rw [HN.out]; exact hc) hm (by rw [HN.out]; omega) HH.out (by omega)
  rw [HN.out] at hp
  refine hp.mono ?_
  rintro e w3 ⟨r, rfl, ho, hb3⟩
  have hws := HB.out.size
  have HO : Hid (w3.ownsRow w.heap.size 5 1 r R.length (byteCells R)) := by rw [← HR2.out]; exact own_mono ho hws
  have HB3 : Hid (Below w.heap.size w w3) := HB.out.trans (hb3.mono hws)
  clear hp ho hb3 HB
  go_wp2_with fail
  go_ret
  exact ⟨_, rfl, HO.out, HB3.out⟩

set_option maxHeartbeats 4000000 in
theorem field_text (t : Nat) (n : Int) (b : ByteArray) (w : World) (h1 : 1 ≤ t) (h2 : t ≤ 500) (h3 : b.size ≤ 4096) :
    Calls Try.prog 27 #[.agg #[.int .i64 (t : Int), .int .i64 1, .int .i64 n, .string b]] w fun e w' => ∃ v, e = .returned v ∧
      w'.ownsRow w.heap.size 5 1 v (digs (2 * t + 1) ++ (digs b.size ++ bytesN b)).length (byteCells (digs (2 * t + 1) ++ (digs b.size ++ bytesN b))) ∧ Below w.heap.size w w' := by
  obtain ⟨i0, hi, hz0, hz1, hz2⟩ := info_parts infoByte
  have l1 := digs_len64 (2 * t + 1) (by omega)
  have HL2 : Hid ((digs b.size).length ≤ 10) := (digs_len64 b.size (by omega)).2
  have HW : Hid (IntKind.u64.wrap (b.size : Int) = (b.size : Int)) := by show _ = _; rw [IntKind.wrap_u64]; omega
  obtain ⟨R, hR⟩ : ∃ R, digs (2 * t + 1) ++ (digs b.size ++ bytesN b) = R := ⟨_, rfl⟩
  rw [hR]
  have HR : Hid (digs (2 * t + 1) ++ (digs b.size ++ bytesN b) = R) := hR
  clear hR
  go_enter Try.func27, Try.ntmps27
  go_wp2_with fail
  refine (put_nil (2 * t + 1) _ (by omega) _ (by omega)).mono ?_
  rintro e w1 ⟨g, cap, rfl, hg1, hg2, hc, hm, hh, hb⟩
  have hb0 : Below w.heap.size w w1 := (below_one w _).trans (hb.mono (by simp))
  generalize digs (2 * t + 1) = ds at *
  have hcell : w1.cell? ⟨w.heap.size, 1, none⟩ = some (.int .i64 1) := by rw [hb.cell (by simp)]; simp
  have HC3 : Hid (w1.cell? ⟨w.heap.size, 3, none⟩ = some (.string b)) := by show _ = _; rw [hb.cell (by simp)]; simp
  have HH : Hid (Holds w1 (some ⟨g, 0, none⟩) ds) := hh
  have HB : Hid (Below w.heap.size w w1) := hb0
  have hlt : w.heap.size < w1.heap.size := by have := hb.size; simp at this; omega
  obtain ⟨N, hN⟩ : ∃ N, ds.length = N := ⟨_, rfl⟩
  rw [hN] at hc l1 ⊢
  have HN : Hid (ds.length = N) := hN
  clear hh hb hb0 hN
  go_wp2_with fail
  have hS : Below w1.heap.size w1 w1.drew := (Below.refl _ _).drew
  have HCC : Hid (∀ W, Below w1.heap.size w1 W → W.cell? ⟨w.heap.size, 3, none⟩ = some (.string b)) := fun W hW => by rw [hW.cell hlt]; exact HC3.out
  refine wp_region_held_drew (S := fun w' => Below w1.heap.size w1 w') (by kernel_rfl) hS (fun hS => ?_)
  refine rg_take 0 20 (.slice (some ⟨g, 0, none⟩) N cap) _ rfl rfl (by kernel_rfl) (by kernel_rfl) (by kernel_rfl) (fun _ _ _ h => h) (by rfl) (fun w' hw' => ?_) hS (listed' := #[true, false, false, false, false, false, false, false, false, false]) (by kernel_rfl) rfl ?_
  · go_simp
  simp only [List.setIfInBounds_toArray, List.set_cons_zero, List.set_cons_succ]
  refine rg_take 1 21 (.pointer (some ⟨w.heap.size, 3, none⟩)) _ rfl rfl (by kernel_rfl) (by kernel_rfl) (by kernel_rfl) (fun _ _ _ h => h) (by rfl) (fun w' hw' => ?_) hS (listed' := #[true, true, false, false, false, false, false, false, false, false]) (by kernel_rfl) rfl ?_
  · go_simp
  simp only [List.setIfInBounds_toArray, List.set_cons_zero, List.set_cons_succ]
  refine rg_take 2 22 (.string b) _ rfl rfl (by kernel_rfl) (by kernel_rfl) (by kernel_rfl) (fun _ _ _ h => h) (by rfl) (fun w' hw' => ?_) hS (listed' := #[true, true, true, false, false, false, false, false, false, false]) (by kernel_rfl) rfl ?_
  · have hcv := HCC.out w' hw'; go_simp
  simp only [List.setIfInBounds_toArray, List.set_cons_zero, List.set_cons_succ]
  refine rg_take 3 23 (.int .i64 (b.size : Int)) _ rfl rfl (by kernel_rfl) (by kernel_rfl) (by kernel_rfl) (fun _ _ _ h => h) (by rfl) (fun w' hw' => ?_) hS (listed' := #[true, true, true, true, false, false, false, false, false, false]) (by kernel_rfl) rfl ?_
  · go_simp
  simp only [List.setIfInBounds_toArray, List.set_cons_zero, List.set_cons_succ]
  refine rg_take 4 24 (.int .u64 (b.size : Int)) _ rfl rfl (by kernel_rfl) (by kernel_rfl) (by kernel_rfl) (fun _ _ _ h => h) (by rfl) (fun w' hw' => ?_) hS (listed' := #[true, true, true, true, true, false, false, false, false, false]) (by kernel_rfl) rfl ?_
  · have hwr := HW.out; go_simp
  simp only [List.setIfInBounds_toArray, List.set_cons_zero, List.set_cons_succ]
  refine rg_take 6 26 (.pointer (some ⟨w.heap.size, 3, none⟩)) _ rfl rfl (by kernel_rfl) (by kernel_rfl) (by kernel_rfl) (fun _ _ _ h => h) (by rfl) (fun w' hw' => ?_) hS (listed' := #[true, true, true, true, true, false, true, false, false, false]) (by kernel_rfl) rfl ?_
  · go_simp
  simp only [List.setIfInBounds_toArray, List.set_cons_zero, List.set_cons_succ]
  refine rg_take 7 27 (.string b) _ rfl rfl (by kernel_rfl) (by kernel_rfl) (by kernel_rfl) (fun _ _ _ h => h) (by rfl) (fun w' hw' => ?_) hS (listed' := #[true, true, true, true, true, false, true, true, false, false]) (by kernel_rfl) rfl ?_
  · have hcv := HCC.out w' hw'; go_simp
  simp only [List.setIfInBounds_toArray, List.set_cons_zero, List.set_cons_succ]
  refine rg_call 5 25 34 #[.slice (some ⟨g, 0, none⟩) N cap, .int .u64 (b.size : Int)] rfl rfl (by kernel_rfl) (by rfl) (listed' := #[true, true, true, true, true, true, true, true, false, false]) (by kernel_rfl) (fun w' => ?_) ?_
  · go_simp
  have hp := put_any (some ⟨g, 0, none⟩) ds cap b.size w1.drew (fun h => by cases h) (by rw [HN.out]; exact hc) hm (by rw [HN.out]; omega) (HH.out.below hS) (by omega)
  rw [HN.out] at hp
  refine hp.mono ?_
  rintro e w3 ⟨r, rfl, ho, hb3⟩
  have hS3 : Below w1.heap.size w1 w3 := hS.trans (hb3.mono hS.size)
  refine ⟨_, rfl, hS3, ?_⟩
  have ho3 := own_mono ho (Nat.le_trans HB.out.size hS.size)
  obtain ⟨v', w4, hr, h24, h34, _⟩ := Lib.run_append_own_string (P := Try.prog) w3 w.heap.size 22 9 22 5 i0 Try.underlying22 Try.underlying9 hi hz0 hz1 hz2 r _ _ ho3 b (by have := HL2.out; have := HN.out; unfold maxLen; simp; omega) (by have := HL2.out; have := HN.out; simp; omega) (Nat.le_trans HB.out.size hS3.size)
  have hS4 : Below w1.heap.size w1 w4 := hS3.grown h34 hS3.size (fun k hk => Nat.le_trans hS.size (ho.lt k hk).1)
  have HO4 : Hid (w4.ownsRow w.heap.size 5 1 v' R.length (byteCells R)) := by
    show World.ownsRow _ _ _ _ _ _ _
    have e : (ds ++ digs b.size).length + b.size = R.length := by rw [← HR.out]; simp [bytesN_len]; omega
    rw [strCells_bytes, ← byteCells_app, List.append_assoc, HR.out, e] at h24
    exact h24
  have HB4 : Hid (Below w.heap.size w w4) := HB.out.trans (hS4.mono HB.out.size)
  clear ho ho3 hb3 hp h24 h34
  simp only [List.setIfInBounds_toArray, List.set_cons_zero, List.set_cons_succ]
  refine rg_run 8 28 v' w4 rfl rfl (by kernel_rfl) (by rfl) (listed' := #[true, true, true, true, true, true, true, true, true, false]) (by kernel_rfl) ?_ hS4 ?_
  · exact append_run rfl rfl rfl hr
  simp only [List.setIfInBounds_toArray, List.set_cons_zero, List.set_cons_succ]
  have hS := hS4
  refine rg_take 9 2 v' _ rfl rfl (by kernel_rfl) (by kernel_rfl) (by kernel_rfl) (fun _ _ _ h => h) (by rfl) (fun w' hw' => ?_) hS (listed' := #[true, true, true, true, true, true, true, true, true, true]) (by kernel_rfl) rfl ?_
  · go_simp
  simp only [List.setIfInBounds_toArray, List.set_cons_zero, List.set_cons_succ]
  refine wpAnyH_done (by kernel_rfl) ?_ _
  clear hr
  go_wp2_with fail
  go_ret
  exact ⟨_, rfl, HO4.out, HB4.out⟩

/-- The bytes of a field that may be. -/
theorem field_any (r : Fd) (w : World) (h : okF r = true) (hn : Is64 r.n) :
    Calls Try.prog 27 #[r.val] w fun e w' => ∃ v, e = .returned v ∧ w'.ownsRow w.heap.size 5 1 v (fieldN r).length (byteCells (fieldN r)) ∧ Below w.heap.size w w' := by
  rcases ok_cases h hn with ⟨t, n, rfl, h1, h2, h3⟩ | ⟨t, b, rfl, h1, h2, h3⟩
  · rw [fieldN_num]; exact field_num t n _ w h1 h2 h3.1 h3.2
  · rw [fieldN_text]; exact field_text t 0 b w h1 h2 h3
end Go.Proofs.Ytfbekeebllcdbaa

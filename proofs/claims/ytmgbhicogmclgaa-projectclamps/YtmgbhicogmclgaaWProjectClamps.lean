/- ProjectClamps answers true at every two numbers. -/
import Derived.Test.YtmgbhicogmclgaaPjAwake
namespace Go.Proofs.Ytmgbhicogmclgaa
open Go.ChangeShapes Go.WideShapes Go.ChangeAt Go.RowKit
set_option linter.unusedVariables false
set_option linter.unusedSimpArgs false

theorem clampI_mono {a b : Int} (h : a ≤ b) : clampI a ≤ clampI b := by
  unfold clampI
  repeat (first | omega | split)
theorem clampI_lo {a : Int} (h : a < -2147483648) : clampI a = -2147483648 := by
  unfold clampI
  rw [if_pos h]
theorem clampI_hi {a : Int} (h : 2147483647 < a) : clampI a = 2147483647 := by
  unfold clampI
  rw [if_neg (by omega), if_pos h]
set_option maxHeartbeats 4000000 in
theorem projectClamps_walk (a b : Int) (g1 : (Lit.int .i64 a).wf = true) (g2 : (Lit.int .i64 b).wf = true) (w : World) :
    Calls Try.prog 6 #[.int .i64 a, .int .i64 b] w fun e w' => e = .returned (.bool true) ∧ Below w.heap.size w w' := by
  clear g1 g2
  have hxb := clampI_in a
  have hxx : clampI (clampI a) = clampI a := clampI_of hxb
  have hmo : ¬ (b < a) → clampI a ≤ clampI b := fun h => clampI_mono (by omega)
  obtain ⟨Y, hY⟩ : ∃ y, clampI b = y := ⟨_, rfl⟩
  have HC2 : Hid (∀ W, Calls Try.prog 19 #[.int .i64 b] W fun e w' => e = .returned (.int .i64 Y) ∧ Below W.heap.size W w') := fun W => by
    have h1 := clamp_any b W
    rw [hY] at h1
    exact h1
  rw [hY] at hmo
  clear hY
  obtain ⟨X, hX⟩ : ∃ y, clampI a = y := ⟨_, rfl⟩
  have HX : Hid (clampI a = X) := hX
  have HC1 : Hid (∀ W, Calls Try.prog 19 #[.int .i64 a] W fun e w' => e = .returned (.int .i64 X) ∧ Below W.heap.size W w') := fun W => by
    have h1 := clamp_any a W
    rw [hX] at h1
    exact h1
  rw [hX] at hxb hxx hmo
  have HC3 : Hid (∀ W, Calls Try.prog 19 #[.int .i64 X] W fun e w' => e = .returned (.int .i64 X) ∧ Below W.heap.size W w') := fun W => by
    have h1 := clamp_any X W
    rw [hxx] at h1
    exact h1
  clear hX hxx
  obtain ⟨x1, x2⟩ := hxb
  have e0 : (X == X) = true := by simp
  have e1 : decide (X ≥ -2147483648) = true := by simpa using x1
  have e1' : decide (-2147483648 ≤ X) = true := by simpa using x1
  have e2 : decide (X < 2147483648) = true := by simp; omega
  go_enter Try.func6, Try.ntmps6
  go_wp2_with fail
  refine (HC1.out _).mono ?_
  rintro e w1 ⟨rfl, h1⟩
  go_wp2_with fail
  refine (HC2.out _).mono ?_
  rintro e w2 ⟨rfl, h2⟩
  have hb2 := h1.trans (h2.mono h1.size)
  clear h1 h2 HC1 HC2
  by_cases hlo : a < -2147483648
  · skip
    have hxa : X = -2147483648 := by rw [← HX.out]; exact clampI_lo hlo
    have e3 : (X == a) = false := by simp; omega
    have e4 : decide (a ≥ -2147483648) = false := by simp; omega
    have e4' : decide (-2147483648 ≤ a) = false := by simp; omega
    have e5 : decide (a < 2147483648) = true := by simp; omega
    have HE : Hid (X = -2147483648) := hxa
    clear hxa hlo
    go_wp2_with fail
    refine (HC3.out _).mono ?_
    rintro e w3 ⟨rfl, h3⟩
    have hb3 := hb2.trans (h3.mono hb2.size)
    clear h3 hb2 HC3
    by_cases hab : b < a
    · have e6 : decide (a > b) = true := by simp; omega
      have e6' : decide (b < a) = true := by simp; omega
      clear hab hmo
      go_wp2_with fail
      refine (pjawake_any _).mono ?_
      rintro e wz ⟨rfl, hbz⟩
      have hbwz := hb3.trans (hbz.mono hb3.size)
      clear hbz
      go_wp2_with fail
      go_ret
      exact ⟨rfl, hbwz⟩
    · have e6 : decide (a > b) = false := by simp; omega
      have e6' : decide (b < a) = false := by simp; omega
      have e7 : decide (X ≤ Y) = true := by simpa using hmo (by omega)
      clear hab hmo
      go_wp2_with fail
      refine (pjawake_any _).mono ?_
      rintro e wz ⟨rfl, hbz⟩
      have hbwz := hb3.trans (hbz.mono hb3.size)
      clear hbz
      go_wp2_with fail
      go_ret
      exact ⟨rfl, hbwz⟩
  by_cases hhi : 2147483647 < a
  · skip
    have hxa : X = 2147483647 := by rw [← HX.out]; exact clampI_hi hhi
    have e3 : (X == a) = false := by simp; omega
    have e4 : decide (a ≥ -2147483648) = true := by simp; omega
    have e4' : decide (-2147483648 ≤ a) = true := by simp; omega
    have e5 : decide (a < 2147483648) = false := by simp; omega
    have HE : Hid (X = 2147483647) := hxa
    clear hxa hlo hhi
    go_wp2_with fail
    refine (HC3.out _).mono ?_
    rintro e w3 ⟨rfl, h3⟩
    have hb3 := hb2.trans (h3.mono hb2.size)
    clear h3 hb2 HC3
    by_cases hab : b < a
    · have e6 : decide (a > b) = true := by simp; omega
      have e6' : decide (b < a) = true := by simp; omega
      clear hab hmo
      go_wp2_with fail
      refine (pjawake_any _).mono ?_
      rintro e wz ⟨rfl, hbz⟩
      have hbwz := hb3.trans (hbz.mono hb3.size)
      clear hbz
      go_wp2_with fail
      go_ret
      exact ⟨rfl, hbwz⟩
    · have e6 : decide (a > b) = false := by simp; omega
      have e6' : decide (b < a) = false := by simp; omega
      have e7 : decide (X ≤ Y) = true := by simpa using hmo (by omega)
      clear hab hmo
      go_wp2_with fail
      refine (pjawake_any _).mono ?_
      rintro e wz ⟨rfl, hbz⟩
      have hbwz := hb3.trans (hbz.mono hb3.size)
      clear hbz
      go_wp2_with fail
      go_ret
      exact ⟨rfl, hbwz⟩
  have hxa : X = a := by rw [← HX.out]; exact clampI_of (by omega)
  have e3 : (X == a) = true := by rw [hxa]; simp
  have e4 : decide (a ≥ -2147483648) = true := by simp; omega
  have e4' : decide (-2147483648 ≤ a) = true := by simp; omega
  have e5 : decide (a < 2147483648) = true := by simp; omega
  have HE : Hid (X = a) := hxa
  clear hxa hlo hhi
  go_wp2_with fail
  refine (HC3.out _).mono ?_
  rintro e w3 ⟨rfl, h3⟩
  have hb3 := hb2.trans (h3.mono hb2.size)
  clear h3 hb2 HC3
  by_cases hab : b < a
  · have e6 : decide (a > b) = true := by simp; omega
    have e6' : decide (b < a) = true := by simp; omega
    clear hab hmo
    go_wp2_with fail
    refine (pjawake_any _).mono ?_
    rintro e wz ⟨rfl, hbz⟩
    have hbwz := hb3.trans (hbz.mono hb3.size)
    clear hbz
    go_wp2_with fail
    go_ret
    exact ⟨rfl, hbwz⟩
  · have e6 : decide (a > b) = false := by simp; omega
    have e6' : decide (b < a) = false := by simp; omega
    have e7 : decide (X ≤ Y) = true := by simpa using hmo (by omega)
    clear hab hmo
    go_wp2_with fail
    refine (pjawake_any _).mono ?_
    rintro e wz ⟨rfl, hbz⟩
    have hbwz := hb3.trans (hbz.mono hb3.size)
    clear hbz
    go_wp2_with fail
    go_ret
    exact ⟨rfl, hbwz⟩
end Go.Proofs.Ytmgbhicogmclgaa

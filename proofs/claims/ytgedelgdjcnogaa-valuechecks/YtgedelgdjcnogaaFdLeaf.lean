/- What wire Check answers of a field. -/
import Derived.Test.YtgedelgdjcnogaaFdMath
import Derived.OwnWalk
namespace Go.Proofs.Ytgedelgdjcnogaa
open Go.ChangeShapes Go.WideShapes Go.ChangeAt Go.RowKit
set_option linter.unusedVariables false
set_option linter.unusedSimpArgs false
set_option maxRecDepth 20000

theorem ret_boolF {a b : Bool} (h : a = b) : Ending.returned (.bool a) = .returned (.bool b) := by rw [h]

set_option maxHeartbeats 1000000 in
theorem checkV_any (t k n : Int) (b : ByteArray) (w : World) :
    Calls Try.prog 60 #[.agg #[.int .i64 t, .int .i64 k, .int .i64 n, .string b]] w fun e w' => e = .returned (.bool (okV t k n b)) ∧ Below w.heap.size w w' := by
  by_cases h1 : 1 ≤ t
  · by_cases h2 : t ≤ 500
    · by_cases hk : k = 0
      · subst hk
        go_enter Try.func60, Try.ntmps60
        go_wp2_with fail
        all_goals
          go_ret
          exact ⟨ret_boolF (by simp [okV, h1, h2]), (Below.refl _ _).alloc (Nat.le_refl _) _⟩
      · by_cases hk1 : k = 1
        · subst hk1
          by_cases hn : n = 0
          · subst hn
            go_enter Try.func60, Try.ntmps60
            go_wp2_with fail
            all_goals
              go_ret
              exact ⟨ret_boolF (by simp [okV, h1, h2]), (Below.refl _ _).alloc (Nat.le_refl _) _⟩
          · go_enter Try.func60, Try.ntmps60
            go_wp2_with fail
            all_goals
              go_ret
              exact ⟨ret_boolF (by simp [okV, hn]), (Below.refl _ _).alloc (Nat.le_refl _) _⟩
        · have e0 : (k == 0) = false := by simp [hk]
          have e1 : (k == 1) = false := by simp [hk1]
          go_enter Try.func60, Try.ntmps60
          go_wp2_with fail
          all_goals
            go_ret
            exact ⟨ret_boolF (by simp [okV, hk, hk1]), (Below.refl _ _).alloc (Nat.le_refl _) _⟩
    · have hok : okV t k n b = false := by simp [okV]; omega
      rw [hok]
      clear hok
      have hd : decide (t < 1) = false := by simp; omega
      have hd5 : decide (500 < t) = true := by simp; omega
      go_enter Try.func60, Try.ntmps60
      go_wp2_with fail
      all_goals
        go_ret
        exact ⟨rfl, (Below.refl _ _).alloc (Nat.le_refl _) _⟩
  · have hok : okV t k n b = false := by simp [okV]; omega
    rw [hok]
    clear hok
    have hd : decide (t < 1) = true := by simp; omega
    go_enter Try.func60, Try.ntmps60
    go_wp2_with fail
    all_goals
      go_ret
      exact ⟨rfl, (Below.refl _ _).alloc (Nat.le_refl _) _⟩
end Go.Proofs.Ytgedelgdjcnogaa

/- Split from TvMsgs. -/
import Derived.Test.YtgedelgdjcnogabTvPl
import Derived.Test.YtgedelgdjcnogabTvPush
import Derived.Test.YtgedelgdjcnogabJoinR
import Derived.Test.YtgedelgdjcnogabRg
import Derived.Maps.AppendAt
namespace Go.Proofs.Ytgedelgdjcnogab
open Go.ChangeShapes Go.WideShapes Go.ChangeAt Go.RowKit
set_option linter.unusedVariables false
set_option linter.unusedSimpArgs false
set_option maxRecDepth 20000

theorem zeroEp (w : World) : (zeroValue 67).run Try.prog w = .ok (.agg #[]) w := by kernel_rfl
set_option maxHeartbeats 1000000 in
theorem place_any (a : Option Addr) (N cap : Nat) (w : World) (h1 : N ≤ cap) (h2 : cap ≤ maxLen) (h3 : N = 0 ∨ ∃ g off, a = some ⟨g, off, none⟩) :
    Calls Try.prog 23 #[.slice a N cap] w fun e w' => e = .returned (plV (plOf (.slice a N cap))) ∧ Below w.heap.size w w' := by
  unfold maxLen at h2
  by_cases hN : N = 0
  · subst hN
    go_enter Try.func23, Try.ntmps23
    go_wp2_with fail
    refine bodyPost_ret (results_cell rfl _ _ _ ⟨w.heap.size, 0, none⟩ (.agg #[.pointer none, .int .i64 0]) (by go_simp) (by go_simp)) rfl ⟨by simp [plV, plOf], (Below.refl _ _).alloc (Nat.le_refl _) _⟩
  · obtain ⟨g, off, rfl⟩ : ∃ g off, a = some ⟨g, off, none⟩ := by
      rcases h3 with h | h
      · exact absurd h hN
      · exact h
    have hd : ((N : Int) == 0) = false := by simp; omega
    have hp : 0 < N := by omega
    go_enter Try.func23, Try.ntmps23
    go_wp2_with fail
    refine bodyPost_ret (results_cell rfl _ _ _ ⟨w.heap.size, 0, none⟩ (.agg #[.pointer (some ⟨g, off, none⟩), .int .i64 (N : Int)]) (by go_simp) (by go_simp)) rfl ⟨by simp [plV, plOf, hN], (Below.refl _ _).alloc (Nat.le_refl _) _⟩
end Go.Proofs.Ytgedelgdjcnogab

/- The document's example; a place; bytes in new memory. -/
import Derived.Test.YtojdpemldiigcaaCrSum
import Derived.Lib.SlBytesConst
namespace Go.Proofs.Ytojdpemldiigcaa
open Go.ChangeShapes Go.WideShapes Go.ChangeAt Go.RowKit
set_option linter.unusedVariables false
set_option maxRecDepth 20000

theorem more_example : more 0 [49, 50, 51, 52, 53, 54, 55, 56, 57] = 3421780262 := by decide +kernel

/-- A text's bytes that were just laid. -/
theorem holds_text (w : World) (ns : List Nat) (m : Nat × Nat) : Holds (w.alloc (.cells (byteCells ns).toArray 5 m)) (some ⟨w.heap.size, 0, none⟩) ns := by
  refine Holds.of fun j hj => ?_
  rw [Nat.zero_add, World.cell?_alloc_mark]
  have := byteCells_get ns j hj
  simpa using this

set_option maxHeartbeats 1000000 in
theorem awake_any (w : World) :
    Calls Try.prog 12 #[] w fun e w' => e = .returned (.bool true) ∧ Below w.heap.size w w' := by
  have C : Hid (∀ (W : World) (xs : Array Value), xs = (byteCells [49, 50, 51, 52, 53, 54, 55, 56, 57]).toArray → Calls Try.prog 11 #[.slice (some ⟨W.heap.size, 0, none⟩) 9 9] (W.alloc (.cells xs 5 (9, 10))) fun e w' => e = .returned (.int .u32 3421780262) ∧ w' = W.alloc (.cells xs 5 (9, 10))) := by
    intro W xs hx
    subst hx
    refine (of_any _ [49, 50, 51, 52, 53, 54, 55, 56, 57] 9 9 _ rfl (by decide) (.inr ⟨_, _, rfl⟩) (holds_text W _ _) (by simp)).mono ?_
    rintro e w' ⟨rfl, rfl⟩
    exact ⟨by rw [more_example]; rfl, rfl⟩
  have D : Hid (∀ (W : World), Calls Try.prog 11 #[.slice none 0 0] W fun e w' => e = .returned (.int .u32 0) ∧ w' = W) := by
    intro W
    refine (of_any none [] 0 0 _ rfl (by decide) (.inl rfl) Holds.nil (by simp)).mono ?_
    rintro e w' ⟨rfl, rfl⟩
    exact ⟨by rw [more_nil]; rfl, rfl⟩
  have kc := fun (w : World) (C : Array Value) (n c : Nat) => Lib.run_convert_bytes_const (P := Try.prog) w 23 5 C n c Try.underlying23 Try.underlying5
  go_enter Try.func12, Try.ntmps12
  go_wp2_with fail
  refine (C.out w _ rfl).mono ?_
  rintro e w1 ⟨rfl, rfl⟩
  go_wp2_with fail
  refine (D.out _).mono ?_
  rintro e w1 ⟨rfl, rfl⟩
  go_wp2_with fail
  go_ret
  exact ⟨rfl, below_one _ _⟩
end Go.Proofs.Ytojdpemldiigcaa

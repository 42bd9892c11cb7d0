/- RunesLengths answers true. -/
import Derived.Test.YtggpblihieeggabRuNameK
import Derived.Deep.QuietTactic
import Derived.BigQuiet
namespace Go.Proofs.Ytggpblihieeggab
open Go.ChangeShapes Go.WideShapes Go.ChangeAt Go.RowKit
set_option linter.unusedVariables false
set_option maxRecDepth 20000

def lenR : List Int := [0, 127, 128, 2047, 2048, 65535, 65536, 1114111]
def lenN : List Int := [1, 1, 2, 2, 3, 3, 4, 4]
def lensW (w : World) : World := (w.alloc (.cells (lenR.map (Value.int .i32)).toArray 25)).alloc (.cells (lenN.map (Value.int .i64)).toArray 26)

theorem lens_all : ∀ k, k < 8 → ((putS (lenR.getD k 0)).size : Int) = lenN.getD k 0 ∧ (putS (lenR.getD k 0)).size ≤ 4 := by decide +kernel
theorem put_e1 : putS 55296 = ⟨#[]⟩ := by decide +kernel
theorem put_e2 : putS 57343 = ⟨#[]⟩ := by decide +kernel
theorem put_e3 : putS 1114112 = ⟨#[]⟩ := by decide +kernel
theorem put_e4 : putS (-1) = ⟨#[]⟩ := by decide +kernel
theorem put_e5 : ∃ a b c, putS 55295 = ⟨#[a, b, c]⟩ := ⟨_, _, _, rfl⟩
theorem put_e6 : ∃ a b c, putS 57344 = ⟨#[a, b, c]⟩ := ⟨_, _, _, rfl⟩

theorem lens_r (w : World) (k : Nat) (h : k < 8) : (lensW w).cell? ⟨w.heap.size, k, none⟩ = some (.int .i32 (lenR.getD k 0)) := by
  unfold lensW
  rw [two_first]
  match k, h with
  | 0, _ => rfl
  | 1, _ => rfl
  | 2, _ => rfl
  | 3, _ => rfl
  | 4, _ => rfl
  | 5, _ => rfl
  | 6, _ => rfl
  | 7, _ => rfl
theorem lens_n (w : World) (k : Nat) (h : k < 8) : (lensW w).cell? ⟨w.heap.size + 1, k, none⟩ = some (.int .i64 (lenN.getD k 0)) := by
  unfold lensW
  rw [two_second]
  match k, h with
  | 0, _ => rfl
  | 1, _ => rfl
  | 2, _ => rfl
  | 3, _ => rfl
  | 4, _ => rfl
  | 5, _ => rfl
  | 6, _ => rfl
  | 7, _ => rfl
theorem lens_size (w : World) : (lensW w).heap.size = w.heap.size + 2 := by unfold lensW; simp
theorem lens_below (w : World) : Below w.heap.size w (lensW w) := below_two _ _ _

theorem below_drewN {B : Nat} {a w : World} (h : Below B a w) : ∀ n, Below B a (w.drewN n) := fun n => ⟨h.os, h.tape, h.output, h.size, h.block⟩

set_option maxHeartbeats 2000000 in
theorem runesLengths_walk (w : World) :
    Calls Try.prog 4 #[] w fun e w' => e = .returned (.bool true) ∧ Below w.heap.size w w' := by
  have hsz := lens_size w
  go_enter Try.func4, Try.ntmps4
  go_wp2_with fail
  go_loopw [3] (fun i wr => ∃ k : Nat, k ≤ 8 ∧ i = .int .i64 k ∧ Below (w.heap.size + 2) (lensW w) wr) (fun i _ => 8 - (intOf i).toNat)
  case atStart => exact ⟨0, by omega, rfl, Below.refl _ _⟩
  case round =>
    obtain ⟨k, hk, rfl, hb⟩ := hrel
    by_cases hlt : k < 8
    · obtain ⟨q1, q2⟩ := lens_all k hlt
      have hc1 : wr.cell? ⟨w.heap.size, k, none⟩ = some (.int .i32 (lenR.getD k 0)) := by rw [hb.cell (by show w.heap.size < _; omega)]; exact lens_r w k hlt
      have hc2 : wr.cell? ⟨w.heap.size + 1, k, none⟩ = some (.int .i64 (lenN.getD k 0)) := by rw [hb.cell (by show w.heap.size + 1 < _; omega)]; exact lens_n w k hlt
      have hne : (((putS (lenR.getD k 0)).size : Int) != lenN.getD k 0) = false := by rw [q1]; simp
      clear q1
      generalize lenR.getD k 0 = r at *
      generalize lenN.getD k 0 = n at *
      have hlt' : (k : Int) < 8 := by omega
      go_wp2_with fail
      go_quiet ((go_at_call 8; exact Calls.quiet_of_same (put_any _ _)))
      go_wp2_with fail
      go_roundw
      case rel => exact ⟨k + 1, by omega, by go_num, below_drewN hb _⟩
      case measure => simp [intOf]; omega
    · go_wp2_with fail
      refine (put_any _ _).mono ?_
      rintro e w1 ⟨rfl, rfl⟩
      rw [put_e1]
      go_wp2_with fail
      refine (put_any _ _).mono ?_
      rintro e w1 ⟨rfl, rfl⟩
      rw [put_e2]
      go_wp2_with fail
      refine (put_any _ _).mono ?_
      rintro e w1 ⟨rfl, rfl⟩
      rw [put_e3]
      go_wp2_with fail
      refine (put_any _ _).mono ?_
      rintro e w1 ⟨rfl, rfl⟩
      rw [put_e4]
      go_wp2_with fail
      refine (put_any _ _).mono ?_
      rintro e w1 ⟨rfl, rfl⟩
      obtain ⟨a5, b5, c5, h5⟩ := put_e5
      rw [h5]
      go_wp2_with fail
      refine (put_any _ _).mono ?_
      rintro e w1 ⟨rfl, rfl⟩
      obtain ⟨a6, b6, c6, h6⟩ := put_e6
      rw [h6]
      go_wp2_with fail
      refine (awake_any _).mono ?_
      rintro e w1 ⟨rfl, h1⟩
      go_wp2_with fail
      go_ret
      exact ⟨rfl, (lens_below w).trans ((hb.mono (by omega)).trans (h1.mono (by have := hb.size; omega)))⟩
end Go.Proofs.Ytggpblihieeggab

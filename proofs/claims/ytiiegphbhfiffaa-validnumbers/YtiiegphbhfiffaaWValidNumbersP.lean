/- ValidNumbers answers true. -/
import Derived.Test.YtiiegphbhfiffaaVlPackB
namespace Go.Proofs.Ytiiegphbhfiffaa
open Go.ChangeShapes Go.WideShapes Go.ChangeAt Go.RowKit
set_option linter.unusedVariables false
set_option linter.unusedSimpArgs false
set_option maxRecDepth 20000

theorem typ_any (k : Int) (w : World) : Calls Try.prog 13 #[.int .i64 k] w fun e w' => e = .returned (.agg #[.int .i64 k, .string ⟨#[]⟩]) ∧ Below w.heap.size w w' := by
  go_enter Try.func13, Try.ntmps13
  go_wp2_with fail
  refine bodyPost_ret (results_cell rfl _ _ _ ⟨w.heap.size, 0, none⟩ (.agg #[.int .i64 k, .string ⟨#[]⟩]) (by go_simp) (by go_simp)) rfl ⟨rfl, ?_⟩
  repeat' first | exact Below.refl _ _ | refine Below.setCell ?_ (by simp) _ | refine Below.alloc ?_ (by simp) _
theorem numT (k n : Int) (w : World) (b : Bool) (h : nmrB k n = b) : Calls Try.prog 14 #[.agg #[.int .i64 k, .string ⟨#[]⟩], .int .i64 n] w fun e w' => e = .returned (.bool b) ∧ Below w.heap.size w w' := by
  have h1 := number_any k n ⟨#[]⟩ w
  rw [h] at h1
  exact h1
set_option maxHeartbeats 4000000 in
theorem validNumbers_walk (w : World) : Calls Try.prog 4 #[] w fun e w' => e = .returned (.bool true) ∧ Below w.heap.size w w' := by
  have h0 : Below w.heap.size w w := Below.refl _ _
  go_enter Try.func4, Try.ntmps4
  go_wp2_with fail
  refine (typ_any 1 _).mono ?_
  rintro e w1 ⟨rfl, hb⟩
  have h0 : Below w.heap.size w w1 := h0.trans (hb.mono h0.size)
  clear hb
  go_wp2_with fail
  refine (numT 1 2147483647 _ true (by decide)).mono ?_
  rintro e w2 ⟨rfl, hb⟩
  have h0 : Below w.heap.size w w2 := h0.trans (hb.mono h0.size)
  clear hb
  go_wp2_with fail
  refine (typ_any 1 _).mono ?_
  rintro e w3 ⟨rfl, hb⟩
  have h0 : Below w.heap.size w w3 := h0.trans (hb.mono h0.size)
  clear hb
  go_wp2_with fail
  refine (numT 1 2147483648 _ false (by decide)).mono ?_
  rintro e w4 ⟨rfl, hb⟩
  have h0 : Below w.heap.size w w4 := h0.trans (hb.mono h0.size)
  clear hb
  go_wp2_with fail
  refine (typ_any 1 _).mono ?_
  rintro e w5 ⟨rfl, hb⟩
  have h0 : Below w.heap.size w w5 := h0.trans (hb.mono h0.size)
  clear hb
  go_wp2_with fail
  refine (numT 1 (-2147483648) _ true (by decide)).mono ?_
  rintro e w6 ⟨rfl, hb⟩
  have h0 : Below w.heap.size w w6 := h0.trans (hb.mono h0.size)
  clear hb
  go_wp2_with fail
  refine (typ_any 1 _).mono ?_
  rintro e w7 ⟨rfl, hb⟩
  have h0 : Below w.heap.size w w7 := h0.trans (hb.mono h0.size)
  clear hb
  go_wp2_with fail
  refine (numT 1 (-2147483649) _ false (by decide)).mono ?_
  rintro e w8 ⟨rfl, hb⟩
  have h0 : Below w.heap.size w w8 := h0.trans (hb.mono h0.size)
  clear hb
  go_wp2_with fail
  refine (typ_any 2 _).mono ?_
  rintro e w9 ⟨rfl, hb⟩
  have h0 : Below w.heap.size w w9 := h0.trans (hb.mono h0.size)
  clear hb
  go_wp2_with fail
  refine (numT 2 9223372036854775807 _ true (by decide)).mono ?_
  rintro e w10 ⟨rfl, hb⟩
  have h0 : Below w.heap.size w w10 := h0.trans (hb.mono h0.size)
  clear hb
  go_wp2_with fail
  refine (typ_any 2 _).mono ?_
  rintro e w11 ⟨rfl, hb⟩
  have h0 : Below w.heap.size w w11 := h0.trans (hb.mono h0.size)
  clear hb
  go_wp2_with fail
  refine (numT 2 (-9223372036854775808) _ true (by decide)).mono ?_
  rintro e w12 ⟨rfl, hb⟩
  have h0 : Below w.heap.size w w12 := h0.trans (hb.mono h0.size)
  clear hb
  go_wp2_with fail
  refine (typ_any 3 _).mono ?_
  rintro e w13 ⟨rfl, hb⟩
  have h0 : Below w.heap.size w w13 := h0.trans (hb.mono h0.size)
  clear hb
  go_wp2_with fail
  refine (numT 3 1 _ true (by decide)).mono ?_
  rintro e w14 ⟨rfl, hb⟩
  have h0 : Below w.heap.size w w14 := h0.trans (hb.mono h0.size)
  clear hb
  go_wp2_with fail
  refine (typ_any 3 _).mono ?_
  rintro e w15 ⟨rfl, hb⟩
  have h0 : Below w.heap.size w w15 := h0.trans (hb.mono h0.size)
  clear hb
  go_wp2_with fail
  refine (numT 3 2 _ false (by decide)).mono ?_
  rintro e w16 ⟨rfl, hb⟩
  have h0 : Below w.heap.size w w16 := h0.trans (hb.mono h0.size)
  clear hb
  go_wp2_with fail
  refine (typ_any 3 _).mono ?_
  rintro e w17 ⟨rfl, hb⟩
  have h0 : Below w.heap.size w w17 := h0.trans (hb.mono h0.size)
  clear hb
  go_wp2_with fail
  refine (numT 3 (-1) _ false (by decide)).mono ?_
  rintro e w18 ⟨rfl, hb⟩
  have h0 : Below w.heap.size w w18 := h0.trans (hb.mono h0.size)
  clear hb
  go_wp2_with fail
  refine (typ_any 6 _).mono ?_
  rintro e w19 ⟨rfl, hb⟩
  have h0 : Below w.heap.size w w19 := h0.trans (hb.mono h0.size)
  clear hb
  go_wp2_with fail
  refine (numT 6 2147483647 _ true (by decide)).mono ?_
  rintro e w20 ⟨rfl, hb⟩
  have h0 : Below w.heap.size w w20 := h0.trans (hb.mono h0.size)
  clear hb
  go_wp2_with fail
  refine (typ_any 6 _).mono ?_
  rintro e w21 ⟨rfl, hb⟩
  have h0 : Below w.heap.size w w21 := h0.trans (hb.mono h0.size)
  clear hb
  go_wp2_with fail
  refine (numT 6 2147483648 _ false (by decide)).mono ?_
  rintro e w22 ⟨rfl, hb⟩
  have h0 : Below w.heap.size w w22 := h0.trans (hb.mono h0.size)
  clear hb
  go_wp2_with fail
  refine (typ_any 6 _).mono ?_
  rintro e w23 ⟨rfl, hb⟩
  have h0 : Below w.heap.size w w23 := h0.trans (hb.mono h0.size)
  clear hb
  go_wp2_with fail
  refine (numT 6 (-1) _ false (by decide)).mono ?_
  rintro e w24 ⟨rfl, hb⟩
  have h0 : Below w.heap.size w w24 := h0.trans (hb.mono h0.size)
  clear hb
  go_wp2_with fail
  refine (typ_any 4 _).mono ?_
  rintro e w25 ⟨rfl, hb⟩
  have h0 : Below w.heap.size w w25 := h0.trans (hb.mono h0.size)
  clear hb
  go_wp2_with fail
  refine (numT 4 0 _ false (by decide)).mono ?_
  rintro e w26 ⟨rfl, hb⟩
  have h0 : Below w.heap.size w w26 := h0.trans (hb.mono h0.size)
  clear hb
  go_wp2_with fail
  refine (typ_any 0 _).mono ?_
  rintro e w27 ⟨rfl, hb⟩
  have h0 : Below w.heap.size w w27 := h0.trans (hb.mono h0.size)
  clear hb
  go_wp2_with fail
  refine (numT 0 0 _ false (by decide)).mono ?_
  rintro e w28 ⟨rfl, hb⟩
  have h0 : Below w.heap.size w w28 := h0.trans (hb.mono h0.size)
  clear hb
  go_wp2_with fail
  refine (awake_any _).mono ?_
  rintro e wz ⟨rfl, hb⟩
  have h0 : Below w.heap.size w wz := h0.trans (hb.mono h0.size)
  go_wp2_with fail
  go_ret
  exact ⟨rfl, h0⟩
end Go.Proofs.Ytiiegphbhfiffaa

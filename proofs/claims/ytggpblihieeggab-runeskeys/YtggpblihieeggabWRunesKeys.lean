/- RunesKeys answers true. -/
import Derived.Test.YtggpblihieeggabRuNameK
namespace Go.Proofs.Ytggpblihieeggab
open Go.ChangeShapes Go.WideShapes Go.ChangeAt Go.RowKit
set_option linter.unusedVariables false
set_option maxRecDepth 20000

def keysL : List ByteArray := [⟨#[115, 99, 104, 101, 109, 97]⟩, ⟨#[109, 101, 115, 115, 97, 103, 101]⟩, ⟨#[101, 110, 117, 109]⟩, ⟨#[99, 97, 108, 108]⟩, ⟨#[114, 101, 116, 117, 114, 110, 115]⟩, ⟨#[114, 101, 115, 101, 114, 118, 101, 100]⟩,
  ⟨#[111, 112, 116, 105, 111, 110, 97, 108]⟩, ⟨#[114, 101, 112, 101, 97, 116, 101, 100]⟩, ⟨#[105, 110, 116, 51, 50]⟩, ⟨#[105, 110, 116, 54, 52]⟩, ⟨#[98, 111, 111, 108]⟩, ⟨#[116, 101, 120, 116]⟩, ⟨#[98, 121, 116, 101, 115]⟩]
def keysW (w : World) : World := w.alloc (.cells (keysL.map Value.string).toArray 22)

theorem keys_all : ∀ k, k < 13 → keyK (keysL.getD k ⟨#[]⟩).data.toList = true ∧ nameK (keysL.getD k ⟨#[]⟩).data.toList = false ∧ keyK (keysL.getD k ⟨#[]⟩ ++ ⟨#[115]⟩).data.toList = false ∧ nameK (keysL.getD k ⟨#[]⟩ ++ ⟨#[115]⟩).data.toList = true ∧
    keyK ((keysL.getD k ⟨#[]⟩).extract 1 (keysL.getD k ⟨#[]⟩).size).data.toList = false ∧ (keysL.getD k ⟨#[]⟩).size ≤ 1000 ∧ 1 ≤ (keysL.getD k ⟨#[]⟩).size ∧ (keysL.getD k ⟨#[]⟩ ++ ⟨#[115]⟩).size ≤ 1000 := by decide +kernel
theorem key_empty : keyB ⟨#[]⟩ = false := by rw [keyB_eq]; decide +kernel

theorem keys_cell (w : World) (k : Nat) (h : k < 13) : (keysW w).cell? ⟨w.heap.size, k, none⟩ = some (.string (keysL.getD k ⟨#[]⟩)) := by
  unfold keysW
  rw [World.cell?_alloc_at _ _ _ _ rfl]
  match k, h with
  | 0, _ => rfl
  | 1, _ => rfl
  | 2, _ => rfl
  | 3, _ => rfl
  | 4, _ => rfl
  | 5, _ => rfl
  | 6, _ => rfl
  | 7, _ => rfl
  | 8, _ => rfl
  | 9, _ => rfl
  | 10, _ => rfl
  | 11, _ => rfl
  | 12, _ => rfl
theorem keys_size (w : World) : (keysW w).heap.size = w.heap.size + 1 := by unfold keysW; simp
theorem keys_below (w : World) : Below w.heap.size w (keysW w) := (Below.refl _ _).alloc (Nat.le_refl _) _

set_option maxHeartbeats 2000000 in
theorem runesKeys_walk (w : World) :
    Calls Try.prog 3 #[] w fun e w' => e = .returned (.bool true) ∧ Below w.heap.size w w' := by
  have hsz := keys_size w
  go_enter Try.func3, Try.ntmps3
  go_wp2_with fail
  go_loopw [2] (fun i wr => ∃ k : Nat, k ≤ 13 ∧ i = .int .i64 k ∧ Below (w.heap.size + 1) (keysW w) wr) (fun i _ => 13 - (intOf i).toNat)
  case atStart => exact ⟨0, by omega, rfl, Below.refl _ _⟩
  case round =>
    obtain ⟨k, hk, rfl, hb⟩ := hrel
    by_cases hlt : k < 13
    · obtain ⟨q1, q2, q3, q4, q5, hz, hz1, hz2⟩ := keys_all k hlt
      have H1 : Hid (keyB (keysL.getD k ⟨#[]⟩) = true) := by rw [keyB_eq]; exact q1
      have H2 : Hid (nameB (keysL.getD k ⟨#[]⟩) = false) := by rw [nameB_eq]; exact q2
      have H3 : Hid (keyB (keysL.getD k ⟨#[]⟩ ++ ⟨#[115]⟩) = false) := by rw [keyB_eq]; exact q3
      have H4 : Hid (nameB (keysL.getD k ⟨#[]⟩ ++ ⟨#[115]⟩) = true) := by rw [nameB_eq]; exact q4
      have H5 : Hid (keyB ((keysL.getD k ⟨#[]⟩).extract 1 (keysL.getD k ⟨#[]⟩).size) = false) := by rw [keyB_eq]; exact q5
      have hc : wr.cell? ⟨w.heap.size, k, none⟩ = some (.string (keysL.getD k ⟨#[]⟩)) := by rw [hb.cell (by show w.heap.size < _; omega)]; exact keys_cell w k hlt
      clear q1 q2 q3 q4 q5
      generalize keysL.getD k ⟨#[]⟩ = s at *
      have hws : w.heap.size + 1 ≤ wr.heap.size := by have := hb.size; omega
      go_wp2_with fail
      refine (key_any _ _).mono ?_
      rintro e w1 ⟨rfl, rfl⟩
      rw [H1.out]
      go_wp2_with fail
      refine (name_any _ _ (by omega)).mono ?_
      rintro e w2 ⟨rfl, h2⟩
      rw [H2.out]
      have hb2 : Below (w.heap.size + 1) (keysW w) w2 := hb.trans (h2.mono hws)
      have hws2 : w.heap.size + 1 ≤ w2.heap.size := by have := hb2.size; omega
      have hc2 : w2.cell? ⟨w.heap.size, k, none⟩ = some (.string s) := by rw [h2.cell (by show w.heap.size < _; omega)]; exact hc
      clear hc hb h2 hws
      go_wp2_with fail
      refine (key_any _ _).mono ?_
      rintro e w3 ⟨rfl, rfl⟩
      rw [H3.out]
      go_wp2_with fail
      refine (name_any _ _ (by omega)).mono ?_
      rintro e w4 ⟨rfl, h4⟩
      rw [H4.out]
      have hb4 : Below (w.heap.size + 1) (keysW w) w4 := hb2.trans (h4.mono hws2)
      have hc4 : w4.cell? ⟨w.heap.size, k, none⟩ = some (.string s) := by rw [h4.cell (by show w.heap.size < _; omega)]; exact hc2
      clear hc2 hb2 h4 hws2
      go_wp2_with fail
      refine (key_any _ _).mono ?_
      rintro e w5 ⟨rfl, rfl⟩
      rw [H5.out]
      go_wp2_with fail
      go_roundw
      case rel => exact ⟨k + 1, by omega, by go_num, hb4⟩
      case measure => simp [intOf]; omega
    · go_wp2_with fail
      refine (key_any _ _).mono ?_
      rintro e w1 ⟨rfl, rfl⟩
      rw [key_empty]
      go_wp2_with fail
      refine (awake_any _).mono ?_
      rintro e w1 ⟨rfl, h1⟩
      go_wp2_with fail
      go_ret
      exact ⟨rfl, (keys_below w).trans ((hb.mono (by omega)).trans (h1.mono (by have := hb.size; omega)))⟩
end Go.Proofs.Ytggpblihieeggab

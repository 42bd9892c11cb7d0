/- RunesNames answers true. -/
import Derived.Test.YtggpblihieeggaaRuNameK
namespace Go.Proofs.Ytggpblihieeggaa
open Go.ChangeShapes Go.WideShapes Go.ChangeAt Go.RowKit
set_option linter.unusedVariables false
set_option maxRecDepth 20000

def yesL : List ByteArray := [⟨#[97, 98, 99, 100, 101, 102, 103, 104, 105, 106, 107, 108, 109, 110, 111, 112, 113, 114, 115, 116]⟩, ⟨#[95]⟩, (ByteArray.mk #[206, 187, 207, 140, 206, 179, 206, 191, 207, 130]).extract 0 2, ⟨#[195, 191, 49]⟩,
  ⟨#[103, 114, 195, 182, 195, 159, 101]⟩, ⟨#[90, 57, 95]⟩]
def noL : List ByteArray := [⟨#[]⟩, (ByteArray.mk #[97, 98, 99, 100, 101, 102, 103, 104, 105, 106, 107, 108, 109, 110, 111, 112, 113, 114, 115, 116]) ++ ⟨#[117]⟩, ⟨#[57]⟩, ⟨#[97, 32, 98]⟩, ⟨#[97, 45, 98]⟩,
  ⟨#[195, 151]⟩, ⟨#[195, 183]⟩, ⟨#[206, 162]⟩, ⟨#[97, 255]⟩, ⟨#[114, 101, 115, 101, 114, 118, 101, 100]⟩]
def namesW (w : World) : World := (w.alloc (.cells (yesL.map Value.string).toArray 32)).alloc (.cells (noL.map Value.string).toArray 33)

theorem yes_all : ∀ k, k < 6 → nameK (yesL.getD k ⟨#[]⟩).data.toList = true ∧ (yesL.getD k ⟨#[]⟩).size ≤ 1000 := by decide +kernel
theorem no_all : ∀ k, k < 10 → nameK (noL.getD k ⟨#[]⟩).data.toList = false ∧ (noL.getD k ⟨#[]⟩).size ≤ 1000 := by decide +kernel

theorem names_yes (w : World) (k : Nat) (h : k < 6) : (namesW w).cell? ⟨w.heap.size, k, none⟩ = some (.string (yesL.getD k ⟨#[]⟩)) := by
  unfold namesW
  rw [two_first]
  match k, h with
  | 0, _ => rfl
  | 1, _ => rfl
  | 2, _ => rfl
  | 3, _ => rfl
  | 4, _ => rfl
  | 5, _ => rfl
theorem names_no (w : World) (k : Nat) (h : k < 10) : (namesW w).cell? ⟨w.heap.size + 1, k, none⟩ = some (.string (noL.getD k ⟨#[]⟩)) := by
  unfold namesW
  rw [two_second]
  match k, h with
  | 0, _ => rfl
  | 1, _ => rfl
  | 2, _ => rfl
  | 3, _ => rfl
  | 4, _ => rfl
  | 5, _ => rfl
  | 6, _ => rfl
  | 7, _ => rfl
  | 8, _ => rfl
  | 9, _ => rfl
theorem names_size (w : World) : (namesW w).heap.size = w.heap.size + 2 := by unfold namesW; simp
theorem names_below (w : World) : Below w.heap.size w (namesW w) := below_two _ _ _

set_option maxHeartbeats 1000000 in
theorem runesNames_walk (w : World) :
    Calls Try.prog 8 #[] w fun e w' => e = .returned (.bool true) ∧ Below w.heap.size w w' := by
  have hsz := names_size w
  go_enter Try.func8, Try.ntmps8
  go_wp2_with fail
  go_loopw [4] (fun i wr => ∃ k : Nat, k ≤ 6 ∧ i = .int .i64 k ∧ Below (w.heap.size + 2) (namesW w) wr) (fun i _ => 6 - (intOf i).toNat)
  case atStart => exact ⟨0, by omega, rfl, Below.refl _ _⟩
  case round =>
    obtain ⟨k, hk, rfl, hb⟩ := hrel
    by_cases hlt : k < 6
    · obtain ⟨hy, hz⟩ := yes_all k hlt
      have HY : Hid (nameB (yesL.getD k ⟨#[]⟩) = true) := by rw [nameB_eq]; exact hy
      have hc : wr.cell? ⟨w.heap.size, k, none⟩ = some (.string (yesL.getD k ⟨#[]⟩)) := by rw [hb.cell (by show w.heap.size < _; omega)]; exact names_yes w k hlt
      clear hy
      generalize yesL.getD k ⟨#[]⟩ = s at *
      have hws : w.heap.size + 2 ≤ wr.heap.size := by have := hb.size; omega
      go_wp2_with fail
      refine (name_any _ _ (by omega)).mono ?_
      rintro e w1 ⟨rfl, h1⟩
      rw [HY.out]
      have hb2 : Below (w.heap.size + 2) (namesW w) w1 := hb.trans (h1.mono hws)
      clear hc hb h1
      go_wp2_with fail
      go_roundw
      case rel => exact ⟨k + 1, by omega, by go_num, hb2⟩
      case measure => simp [intOf]; omega
    · have hk6 : k = 6 := by omega
      go_wp2_with fail
      go_loopw [5] (fun i wr => ∃ k : Nat, k ≤ 10 ∧ i = .int .i64 k ∧ Below (w.heap.size + 2) (namesW w) wr) (fun i _ => 10 - (intOf i).toNat)
      case atStart => exact ⟨0, by omega, rfl, hb⟩
      case round =>
        clear hb hk6 hlt
        obtain ⟨m, hm, rfl, hb⟩ := hrel
        by_cases hlt : m < 10
        · obtain ⟨hy, hz⟩ := no_all m hlt
          have HY : Hid (nameB (noL.getD m ⟨#[]⟩) = false) := by rw [nameB_eq]; exact hy
          have hc : wr.cell? ⟨w.heap.size + 1, m, none⟩ = some (.string (noL.getD m ⟨#[]⟩)) := by rw [hb.cell (by show w.heap.size + 1 < _; omega)]; exact names_no w m hlt
          clear hy
          generalize noL.getD m ⟨#[]⟩ = s at *
          have hws : w.heap.size + 2 ≤ wr.heap.size := by have := hb.size; omega
          go_wp2_with fail
          refine (name_any _ _ (by omega)).mono ?_
          rintro e w1 ⟨rfl, h1⟩
          rw [HY.out]
          have hb2 : Below (w.heap.size + 2) (namesW w) w1 := hb.trans (h1.mono hws)
          clear hc hb h1
          go_wp2_with fail
          go_roundw
          case rel => exact ⟨m + 1, by omega, by go_num, hb2⟩
          case measure => simp [intOf]; omega
        · go_wp2_with fail
          refine (awake_any _).mono ?_
          rintro e w1 ⟨rfl, h1⟩
          go_wp2_with fail
          go_ret
          exact ⟨rfl, (names_below w).trans ((hb.mono (by omega)).trans (h1.mono (by have := hb.size; omega)))⟩
end Go.Proofs.Ytggpblihieeggaa

/- What the program's Valid answers, at every text. -/
import Derived.Test.YtiiegphbhfiffaaRuText
namespace Go.Proofs.Ytiiegphbhfiffaa
open Go.ChangeShapes Go.WideShapes Go.ChangeAt Go.RowKit
set_option linter.unusedVariables false
set_option maxRecDepth 20000

set_option maxHeartbeats 1000000 in
theorem valid_any (s : ByteArray) (w : World) (hs : s.size ≤ 140737488351232) :
    Calls Try.prog 79 #[.string s] w fun e w' => e = .returned (.bool (validB s.data.toList)) ∧ Below w.heap.size w w' := by
  go_enter Try.func79, Try.ntmps79
  go_wp2
  go_loopw [] (fun wr => ∃ (pos : Nat) (acc : List Nat), wr = w.iter s pos ∧ Hid (Gone s.data.toList pos acc)) (fun wr => s.size - wr.iterPos w.heap.size)
  case atStart => exact ⟨0, [], rfl, Gone.start _⟩
  case round =>
    obtain ⟨pos, acc, rfl, H⟩ := hrel
    by_cases hp : pos < s.size
    · obtain ⟨c, k, hd, h1, h2⟩ := dec_at s pos hp
      have hnx : ∀ ty, (Instr.next (.pointer (some ⟨w.heap.size, 0, none⟩)) true ty).run Try.prog (w.iter s pos) = .ok (.tuple #[.bool true, .int .i64 (pos : Int), .int .i32 (c : Int)]) (w.iter s (pos + k)) := by
        intro ty
        have := run_next_any (P := Try.prog) w s pos ty hp
        rw [hd] at this
        exact this
      have H1 : Hid (standsB (s.data.toList.drop pos) c = true → nxL (s.data.toList.drop pos) = some (c, k)) := h1
      have H2 : Hid (standsB (s.data.toList.drop pos) c = false → nxL (s.data.toList.drop pos) = none) := h2
      clear hd h1 h2
      go_wp2_with fail
      refine (stands_any s _ _ _ hs (by omega) (by omega)).mono ?_
      rintro e w' ⟨rfl, rfl⟩
      rw [Int.toNat_natCast]
      cases hst : standsB (s.data.toList.drop pos) c with
      | false =>
        go_wp2
        go_ret
        exact ⟨ret_bool (by unfold validB; rw [H.out.bad (by rw [len_data]; exact hp) (H2.out hst)]; rfl), below_iter _ _ _⟩
      | true =>
        have HN := H1.out hst
        have hk : 1 ≤ k := (nxL_some _ _ _ HN).2.2.2.1
        have HG : Hid (Gone s.data.toList (pos + k) (acc ++ [c])) := H.out.step HN
        clear HN
        go_wp2
        go_roundw
        case rel => exact ⟨pos + k, acc ++ [c], rfl, HG⟩
        case measure => simp; omega
    · have hnx : ∀ ty, (Instr.next (.pointer (some ⟨w.heap.size, 0, none⟩)) true ty).run Try.prog (w.iter s pos) = _ := fun ty => run_next_end w s pos ty hp
      go_wp2
      go_ret
      exact ⟨ret_bool (by unfold validB; rw [H.out.done (by rw [len_data]; omega)]; rfl), below_iter _ _ _⟩

end Go.Proofs.Ytiiegphbhfiffaa

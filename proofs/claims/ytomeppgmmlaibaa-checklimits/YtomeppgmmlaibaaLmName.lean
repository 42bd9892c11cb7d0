/- What the literal name of CheckLimits answers. -/
import Derived.Test.YtomeppgmmlaibaaLmMath
import Derived.Test.YtomeppgmmlaibaaBlkT
import Derived.Laws.BytesArg
namespace Go.Proofs.Ytomeppgmmlaibaa
open Go.ChangeShapes Go.WideShapes Go.ChangeAt Go.RowKit
set_option linter.unusedVariables false
set_option linter.unusedSimpArgs false
set_option maxRecDepth 20000

theorem nmB_of (i : Nat) : (⟨#[110]⟩ : ByteArray) ++ strOfNums [97 + (i : Int) / 26, 97 + (i : Int) % 26] = nmB i := by
  have h1 : (97 + (i : Int) / 26).toNat = 97 + i / 26 := by omega
  have h2 : (97 + (i : Int) % 26).toNat = 97 + i % 26 := by omega
  unfold strOfNums nmB
  rw [List.map_cons, List.map_cons, List.map_nil, h1, h2]
  rw [ByteArray.ext_iff, ByteArray.data_append]
  rfl
set_option maxHeartbeats 1000000 in
theorem lname_any (i : Nat) (hi : i ≤ 600) (w : World) :
    Calls Try.prog 26 #[.int .i64 (i : Int)] w fun e w' => e = .returned (.string (nmB i)) ∧ Below w.heap.size w w' := by
  have hcv : (convert 62 9 (.slice (some ⟨w.heap.size, 0, none⟩) 2 2)).run Try.prog (w.alloc (.cells #[.int .u8 (97 + (i : Int) / 26), .int .u8 (97 + (i : Int) % 26)] 5)) = .ok (.string (strOfNums [97 + (i : Int) / 26, 97 + (i : Int) % 26])) (w.alloc (.cells #[.int .u8 (97 + (i : Int) / 26), .int .u8 (97 + (i : Int) % 26)] 5)) := by
    refine run_convert_bytes_arg _ 62 5 Try.underlying62 Try.underlying5 _ 0 2 2 [97 + (i : Int) / 26, 97 + (i : Int) % 26] rfl ?_ 9 Try.underlying9
    intro j hj
    have B := Blk.new w #[.int .u8 (97 + (i : Int) / 26), .int .u8 (97 + (i : Int) % 26)] 5
    match j, hj with
    | 0, _ => exact (B.cell 0).trans rfl
    | 1, _ => exact (B.cell 1).trans rfl
  have HE : Hid ((⟨#[110]⟩ : ByteArray) ++ strOfNums [97 + (i : Int) / 26, 97 + (i : Int) % 26] = nmB i) := nmB_of i
  have HB : Hid (Below w.heap.size w (w.alloc (.cells #[.int .u8 (97 + (i : Int) / 26), .int .u8 (97 + (i : Int) % 26)] 5))) := (Below.refl _ _).alloc (Nat.le_refl _) _
  have hst : (strOfNums [97 + (i : Int) / 26, 97 + (i : Int) % 26]).size ≤ 2 := by rw [strOfNums_size]; exact Nat.le_refl _
  generalize strOfNums [97 + (i : Int) / 26, 97 + (i : Int) % 26] = st at *
  go_enter Try.func26, Try.ntmps26
  go_wp2_with fail
  go_ret
  exact ⟨by rw [← HE.out]; rfl, HB.out⟩
end Go.Proofs.Ytomeppgmmlaibaa

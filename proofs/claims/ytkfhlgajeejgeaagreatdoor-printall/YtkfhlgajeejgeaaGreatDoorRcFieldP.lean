/- What the reference's kind and field answer: a type's word, a field's line. -/
import Derived.Test.YtkfhlgajeejgeaaGreatDoorRcNumP
import Derived.Test.YtkfhlgajeejgeaaGreatDoorPkE
import Derived.Test.YtkfhlgajeejgeaaGreatDoorPkB
import Derived.Test.YtkfhlgajeejgeaaGreatDoorScSameP
import Derived.Test.YtkfhlgajeejgeaaGreatDoorQbP
import Derived.Lib.ItoaLen
namespace Go.Proofs.YtkfhlgajeejgeaaGreatDoor
open Go.ChangeShapes Go.WideShapes Go.ChangeAt Go.RowKit
set_option linter.unusedVariables false
set_option linter.unusedSimpArgs false
set_option maxRecDepth 20000

def wordB (k : Int) (t : ByteArray) : ByteArray := ⟨(wordL k t).toArray⟩
set_option maxHeartbeats 2000000 in
theorem rkindw_any (k : Int) (t : ByteArray) (w : World) : Calls Tryz.prog 59 #[.agg #[.int .i64 k, .string t]] w fun e w' => e = .returned (.string (wordB k t)) ∧ Below w.heap.size w w' := by
  by_cases h1 : k = 1 ∨ k = 2 ∨ k = 3 ∨ k = 4 ∨ k = 5
  · rcases h1 with rfl | rfl | rfl | rfl | rfl
    all_goals
      go_enter Tryz.func59, Tryz.ntmps59
      go_wp2_with fail
      go_ret
      exact ⟨rfl, ((Below.refl _ _).alloc (Nat.le_refl _) _).alloc (by simp) _⟩
  · have HR : Hid (wordB k t = t) := by
      show _ = _
      unfold wordB wordL
      rw [if_neg (by omega), if_neg (by omega), if_neg (by omega), if_neg (by omega), if_neg (by omega)]
    by_cases h2 : 1 ≤ k
    · have h3 : ¬ k ≤ 5 := by omega
      clear h1
      go_enter Tryz.func59, Tryz.ntmps59
      go_wp2_with fail
      go_ret
      exact ⟨by rw [HR.out]; rfl, ((Below.refl _ _).alloc (Nat.le_refl _) _).alloc (by simp) _⟩
    · clear h1
      go_enter Tryz.func59, Tryz.ntmps59
      go_wp2_with fail
      go_ret
      exact ⟨by rw [HR.out]; rfl, ((Below.refl _ _).alloc (Nat.le_refl _) _).alloc (by simp) _⟩
def fieldB (f : FlS) : ByteArray := ⟨(fieldL f).toArray⟩
theorem field_parts (lab : ByteArray) (f : FlS) (h : lab.data.toList = plabL f.label) : ((((((((⟨#[32, 32]⟩ : ByteArray) ++ lab) ++ wordB f.kind f.tname) ++ ⟨#[32]⟩) ++ f.name) ++ ⟨#[32, 61, 32]⟩) ++ ⟨(Lib.itoa f.tag).toArray⟩) ++ ⟨#[59, 10]⟩) = fieldB f := by
  refine bytes_list ?_
  simp only [bytes_more, h, fieldL, wordB]
set_option maxHeartbeats 4000000 in
theorem field_walk (lab : ByteArray) (f : FlS) (hl : lab.data.toList = plabL f.label) (hs : lab.size ≤ 9) (h1 : f.name.size ≤ 200) (h2 : f.tname.size ≤ 200) (h3 : I64 f.tag) (hlab : (f.label = 2 ∧ lab = ⟨#[111, 112, 116, 105, 111, 110, 97, 108, 32]⟩) ∨ (f.label = 3 ∧ lab = ⟨#[114, 101, 112, 101, 97, 116, 101, 100, 32]⟩) ∨ (f.label ≠ 2 ∧ f.label ≠ 3 ∧ lab = ⟨#[]⟩)) (w : World) :
    Calls Tryz.prog 34 #[.agg #[.string f.name, .int .i64 f.tag, .int .i64 f.label, .int .i64 f.kind, .string f.tname]] w fun e w' => e = .returned (.string (fieldB f)) ∧ Below w.heap.size w w' := by
  have HP : Hid (((((((((⟨#[32, 32]⟩ : ByteArray) ++ lab) ++ wordB f.kind f.tname) ++ ⟨#[32]⟩) ++ f.name) ++ ⟨#[32, 61, 32]⟩) ++ ⟨(Lib.itoa f.tag).toArray⟩) ++ ⟨#[59, 10]⟩) = fieldB f) := field_parts lab f hl
  obtain ⟨f0, f1, f2, f3, f4⟩ := f
  simp only at *
  have hws : (wordB f3 f4).size ≤ 200 := by
    show (wordL f3 f4).toArray.size ≤ 200
    rw [List.size_toArray]
    unfold wordL
    repeat' split
    all_goals first | (exact Nat.le_trans (by decide) (show 5 ≤ 200 by decide)) | exact h2
  have hds : (⟨(Lib.itoa f1).toArray⟩ : ByteArray).size ≤ 21 := by
    show (Lib.itoa f1).toArray.size ≤ 21
    rw [List.size_toArray]
    exact Lib.itoa_length_le f1 h3.1 h3.2
  obtain ⟨R, hR⟩ : ∃ R, fieldB ⟨f0, f1, f2, f3, f4⟩ = R := ⟨_, rfl⟩
  rw [hR] at HP ⊢
  have KC : Hid (∀ W, Calls Tryz.prog 59 #[.agg #[.int .i64 f3, .string f4]] W fun e w' => e = .returned (.string (wordB f3 f4)) ∧ Below W.heap.size W w') := fun W => rkindw_any f3 f4 W
  have DC : Hid (∀ W, Calls Tryz.prog 35 #[.int .i64 f1] W fun e w' => e = .returned (.string ⟨(Lib.itoa f1).toArray⟩) ∧ w' = W) := fun W => dec_any f1 h3 W
  generalize wordB f3 f4 = wd at *
  generalize (⟨(Lib.itoa f1).toArray⟩ : ByteArray) = dg at *
  clear hR h2 h3 hl
  have hba : Below w.heap.size w (w.alloc (.cells #[.string f0, .int .i64 f1, .int .i64 f2, .int .i64 f3, .string f4] 44)) := (Below.refl _ _).alloc (Nat.le_refl _) _
  have BX := Blk.new w #[.string f0, .int .i64 f1, .int .i64 f2, .int .i64 f3, .string f4] 44
  have K1 : Hid (∀ W, Below (w.alloc (.cells #[.string f0, .int .i64 f1, .int .i64 f2, .int .i64 f3, .string f4] 44)).heap.size (w.alloc (.cells #[.string f0, .int .i64 f1, .int .i64 f2, .int .i64 f3, .string f4] 44)) W → Calls Tryz.prog 59 #[.agg #[.int .i64 f3, .string f4]] W fun e W' => e = .returned (.string wd) ∧ Below (w.alloc (.cells #[.string f0, .int .i64 f1, .int .i64 f2, .int .i64 f3, .string f4] 44)).heap.size (w.alloc (.cells #[.string f0, .int .i64 f1, .int .i64 f2, .int .i64 f3, .string f4] 44)) W') := fun W hW => by
    refine (KC.out W).mono ?_
    rintro e W' ⟨rfl, h⟩
    exact ⟨rfl, hW.trans (h.mono hW.size)⟩
  have D1 : Hid (∀ W, Below (w.alloc (.cells #[.string f0, .int .i64 f1, .int .i64 f2, .int .i64 f3, .string f4] 44)).heap.size (w.alloc (.cells #[.string f0, .int .i64 f1, .int .i64 f2, .int .i64 f3, .string f4] 44)) W → Calls Tryz.prog 35 #[.int .i64 f1] W fun e W' => e = .returned (.string dg) ∧ Below (w.alloc (.cells #[.string f0, .int .i64 f1, .int .i64 f2, .int .i64 f3, .string f4] 44)).heap.size (w.alloc (.cells #[.string f0, .int .i64 f1, .int .i64 f2, .int .i64 f3, .string f4] 44)) W') := fun W hW => by
    refine (DC.out W).mono ?_
    rintro e W' ⟨rfl, rfl⟩
    exact ⟨rfl, hW⟩
  have HF : Hid (∀ W, Below (w.alloc (.cells #[.string f0, .int .i64 f1, .int .i64 f2, .int .i64 f3, .string f4] 44)).heap.size (w.alloc (.cells #[.string f0, .int .i64 f1, .int .i64 f2, .int .i64 f3, .string f4] 44)) W → Below w.heap.size w W) := fun W hW => hba.trans (hW.mono hba.size)
  have s1 : ((⟨#[32, 32]⟩ : ByteArray) ++ lab).size ≤ 11 := by rw [ByteArray.size_append]; show 2 + lab.size ≤ 11; omega
  rcases hlab with ⟨rfl, rfl⟩ | ⟨rfl, rfl⟩ | ⟨g1, g2, rfl⟩
  all_goals
    try have g1b : (f2 == 2) = false := by simpa using g1
    try have g2b : (f2 == 3) = false := by simpa using g2
    go_enter Tryz.func34, Tryz.ntmps34
    go_upto_region 7 with fail
    generalize (w.alloc (.cells #[.string f0, .int .i64 f1, .int .i64 _, .int .i64 f3, .string f4] 44)) = wx at *
    have c0 := (BX.cell 0).trans rfl
    have c1 := (BX.cell 1).trans rfl
    have c3 := (BX.cell 3).trans rfl
    have c4 := (BX.cell 4).trans rfl
    have kk0 := kept_cell c0
    have kk1 := kept_cell c1
    have kk3 := kept_cell c3
    have kk4 := kept_cell c4
    haveI := nonempty_qb (Below.refl wx.heap.size wx)
    refine wp_region_qb (Below.refl wx.heap.size wx) (by kernel_rfl) (by kernel_rfl) ?_
    repeat (go_big_quiet_step (first | (go_at_call 59; exact qb_call K1.out) | (go_at_call 35; exact qb_call D1.out)))
    refine wpQuiet_nil ?_
    rintro W ⟨⟨_, hW⟩, rfl⟩
    go_wp2_with fail
    go_ret
    exact ⟨by rw [← HP.out]; rfl, HF.out _ hW⟩
theorem rline_any (f : FlS) (h1 : f.name.size ≤ 200) (h2 : f.tname.size ≤ 200) (h3 : I64 f.tag) (w : World) :
    Calls Tryz.prog 34 #[.agg #[.string f.name, .int .i64 f.tag, .int .i64 f.label, .int .i64 f.kind, .string f.tname]] w fun e w' => e = .returned (.string (fieldB f)) ∧ Below w.heap.size w w' := by
  by_cases g2 : f.label = 2
  · exact field_walk ⟨#[111, 112, 116, 105, 111, 110, 97, 108, 32]⟩ f (by unfold plabL; rw [if_pos g2]) (by decide) h1 h2 h3 (.inl ⟨g2, rfl⟩) w
  · by_cases g3 : f.label = 3
    · exact field_walk ⟨#[114, 101, 112, 101, 97, 116, 101, 100, 32]⟩ f (by unfold plabL; rw [if_neg g2, if_pos g3]) (by decide) h1 h2 h3 (.inr (.inl ⟨g3, rfl⟩)) w
    · exact field_walk ⟨#[]⟩ f (by unfold plabL; rw [if_neg g2, if_neg g3]) (by decide) h1 h2 h3 (.inr (.inr ⟨g2, g3, rfl⟩)) w
end Go.Proofs.YtkfhlgajeejgeaaGreatDoor

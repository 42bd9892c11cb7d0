/- IdlWrong answers true. -/
import Derived.Test.YtfffjfccochccaaDoorIdAwake
namespace Go.Proofs.YtfffjfccochccaaDoor
open Go.ChangeShapes Go.WideShapes Go.ChangeAt Go.RowKit
set_option linter.unusedVariables false
set_option linter.unusedSimpArgs false
set_option maxRecDepth 20000

set_option maxHeartbeats 4000000 in
theorem idlWrong_walk (w : World) (hG : Glob w) :
    Calls Tryd.prog 8 #[] w fun e w' => e = .returned (.bool true) ∧ Below w.heap.size w w' := by
  have BL := (Blk.new w #[.string ⟨#[]⟩, .string ⟨#[115, 99, 104, 101, 109, 97]⟩, .string ⟨#[115, 99, 104, 101, 109, 97, 32, 97]⟩, .string ⟨#[115, 99, 104, 101, 109, 97, 32, 97, 59, 59]⟩, .string ⟨#[115, 99, 104, 101, 109, 97, 32, 97, 59, 32, 109, 101, 115, 115, 97, 103, 101, 32, 109, 32, 123, 32, 105, 110, 116, 51, 50, 32, 61, 32, 49, 59, 32, 125]⟩, .string ⟨#[115, 99, 104, 101, 109, 97, 32, 97, 59, 32, 109, 101, 115, 115, 97, 103, 101, 32, 109, 32, 123, 32, 114, 101, 115, 101, 114, 118, 101, 100, 32, 59, 32, 125]⟩, .string ⟨#[115, 99, 104, 101, 109, 97, 32, 97, 59, 32, 99, 97, 108, 108, 32, 99, 40, 109, 41, 32, 40, 109, 41, 59]⟩, .string ⟨#[115, 99, 104, 101, 109, 97, 32, 97, 59, 32, 109, 101, 115, 115, 97, 103, 101, 32, 109, 32, 123, 32, 105, 110, 116, 51, 50, 32, 120, 32, 61, 32, 48, 49, 59, 32, 125]⟩] 47).below ((Below.refl _ _).alloc (Nat.le_refl _) (.cells #[.int .i64 0, .int .i64 6, .int .i64 8, .int .i64 9, .int .i64 28, .int .i64 31, .int .i64 20, .int .i64 32] 48))
  have BA := Blk.new (w.alloc (.cells #[.string ⟨#[]⟩, .string ⟨#[115, 99, 104, 101, 109, 97]⟩, .string ⟨#[115, 99, 104, 101, 109, 97, 32, 97]⟩, .string ⟨#[115, 99, 104, 101, 109, 97, 32, 97, 59, 59]⟩, .string ⟨#[115, 99, 104, 101, 109, 97, 32, 97, 59, 32, 109, 101, 115, 115, 97, 103, 101, 32, 109, 32, 123, 32, 105, 110, 116, 51, 50, 32, 61, 32, 49, 59, 32, 125]⟩, .string ⟨#[115, 99, 104, 101, 109, 97, 32, 97, 59, 32, 109, 101, 115, 115, 97, 103, 101, 32, 109, 32, 123, 32, 114, 101, 115, 101, 114, 118, 101, 100, 32, 59, 32, 125]⟩, .string ⟨#[115, 99, 104, 101, 109, 97, 32, 97, 59, 32, 99, 97, 108, 108, 32, 99, 40, 109, 41, 32, 40, 109, 41, 59]⟩, .string ⟨#[115, 99, 104, 101, 109, 97, 32, 97, 59, 32, 109, 101, 115, 115, 97, 103, 101, 32, 109, 32, 123, 32, 105, 110, 116, 51, 50, 32, 120, 32, 61, 32, 48, 49, 59, 32, 125]⟩] 47)) #[.int .i64 0, .int .i64 6, .int .i64 8, .int .i64 9, .int .i64 28, .int .i64 31, .int .i64 20, .int .i64 32] 48
  have hb0 : Below w.heap.size w ((w.alloc (.cells #[.string ⟨#[]⟩, .string ⟨#[115, 99, 104, 101, 109, 97]⟩, .string ⟨#[115, 99, 104, 101, 109, 97, 32, 97]⟩, .string ⟨#[115, 99, 104, 101, 109, 97, 32, 97, 59, 59]⟩, .string ⟨#[115, 99, 104, 101, 109, 97, 32, 97, 59, 32, 109, 101, 115, 115, 97, 103, 101, 32, 109, 32, 123, 32, 105, 110, 116, 51, 50, 32, 61, 32, 49, 59, 32, 125]⟩, .string ⟨#[115, 99, 104, 101, 109, 97, 32, 97, 59, 32, 109, 101, 115, 115, 97, 103, 101, 32, 109, 32, 123, 32, 114, 101, 115, 101, 114, 118, 101, 100, 32, 59, 32, 125]⟩, .string ⟨#[115, 99, 104, 101, 109, 97, 32, 97, 59, 32, 99, 97, 108, 108, 32, 99, 40, 109, 41, 32, 40, 109, 41, 59]⟩, .string ⟨#[115, 99, 104, 101, 109, 97, 32, 97, 59, 32, 109, 101, 115, 115, 97, 103, 101, 32, 109, 32, 123, 32, 105, 110, 116, 51, 50, 32, 120, 32, 61, 32, 48, 49, 59, 32, 125]⟩] 47)).alloc (.cells #[.int .i64 0, .int .i64 6, .int .i64 8, .int .i64 9, .int .i64 28, .int .i64 31, .int .i64 20, .int .i64 32] 48)) := ((Below.refl _ _).alloc (Nat.le_refl _) _).alloc (by simp) _
  rw [show (w.alloc (.cells #[.string ⟨#[]⟩, .string ⟨#[115, 99, 104, 101, 109, 97]⟩, .string ⟨#[115, 99, 104, 101, 109, 97, 32, 97]⟩, .string ⟨#[115, 99, 104, 101, 109, 97, 32, 97, 59, 59]⟩, .string ⟨#[115, 99, 104, 101, 109, 97, 32, 97, 59, 32, 109, 101, 115, 115, 97, 103, 101, 32, 109, 32, 123, 32, 105, 110, 116, 51, 50, 32, 61, 32, 49, 59, 32, 125]⟩, .string ⟨#[115, 99, 104, 101, 109, 97, 32, 97, 59, 32, 109, 101, 115, 115, 97, 103, 101, 32, 109, 32, 123, 32, 114, 101, 115, 101, 114, 118, 101, 100, 32, 59, 32, 125]⟩, .string ⟨#[115, 99, 104, 101, 109, 97, 32, 97, 59, 32, 99, 97, 108, 108, 32, 99, 40, 109, 41, 32, 40, 109, 41, 59]⟩, .string ⟨#[115, 99, 104, 101, 109, 97, 32, 97, 59, 32, 109, 101, 115, 115, 97, 103, 101, 32, 109, 32, 123, 32, 105, 110, 116, 51, 50, 32, 120, 32, 61, 32, 48, 49, 59, 32, 125]⟩] 47)).heap.size = w.heap.size + 1 by simp] at BA
  obtain ⟨R, hR⟩ : ∃ R, w.heap.size = R := ⟨_, rfl⟩
  have HR : Hid (w.heap.size = R) := hR
  rw [hR] at BL BA hb0
  go_enter Tryd.func8, Tryd.ntmps8
  go_wp2_with fail
  clear hR
  go_loopw [3] (fun iv wr => ∃ k : Nat, iv = .int .i64 (k : Int) ∧ k ≤ 8 ∧ Below R w wr ∧ Blk wr R #[.string ⟨#[]⟩, .string ⟨#[115, 99, 104, 101, 109, 97]⟩, .string ⟨#[115, 99, 104, 101, 109, 97, 32, 97]⟩, .string ⟨#[115, 99, 104, 101, 109, 97, 32, 97, 59, 59]⟩, .string ⟨#[115, 99, 104, 101, 109, 97, 32, 97, 59, 32, 109, 101, 115, 115, 97, 103, 101, 32, 109, 32, 123, 32, 105, 110, 116, 51, 50, 32, 61, 32, 49, 59, 32, 125]⟩, .string ⟨#[115, 99, 104, 101, 109, 97, 32, 97, 59, 32, 109, 101, 115, 115, 97, 103, 101, 32, 109, 32, 123, 32, 114, 101, 115, 101, 114, 118, 101, 100, 32, 59, 32, 125]⟩, .string ⟨#[115, 99, 104, 101, 109, 97, 32, 97, 59, 32, 99, 97, 108, 108, 32, 99, 40, 109, 41, 32, 40, 109, 41, 59]⟩, .string ⟨#[115, 99, 104, 101, 109, 97, 32, 97, 59, 32, 109, 101, 115, 115, 97, 103, 101, 32, 109, 32, 123, 32, 105, 110, 116, 51, 50, 32, 120, 32, 61, 32, 48, 49, 59, 32, 125]⟩] 47 ∧ Blk wr (R + 1) #[.int .i64 0, .int .i64 6, .int .i64 8, .int .i64 9, .int .i64 28, .int .i64 31, .int .i64 20, .int .i64 32] 48) (fun iv _ => 8 - (intOf iv).toNat)
  case atStart => exact ⟨0, rfl, by omega, hb0, BL, BA⟩
  case round =>
    obtain ⟨k, rfl, hk, hb, BL, BA⟩ := hrel
    clear hb0
    have hGr : Glob wr := hG.below (by rw [HR.out]; exact hb)
    match k, hk with
    | 0, _ =>
      have cl := BL.cell 0
      have ca := BA.cell 0
      simp only [List.getElem?_toArray, List.getElem?_cons_succ, List.getElem?_cons_zero] at cl ca
      go_wp2_with fail
      refine (parse_row _ _ (by decide) hGr _ _ _ parse_wrong0).mono ?_
      rintro e w1 ⟨vm, ve, vt, rfl, h1, h2, h3, hb1⟩
      obtain ⟨a1, c1, rfl⟩ := ms_form h1
      obtain ⟨a2, c2, rfl⟩ := en_form h2
      obtain ⟨a3, c3, rfl⟩ := row_form h3
      have hbw : Below R w w1 := hb.trans (hb1.mono (by have := BL.lt; omega))
      have BL1 := BL.below hb1
      have BA1 := BA.below hb1
      simp only [zeroS, List.length_nil, mtRows, List.map_nil] at h1 h2 h3 ⊢
      clear h1 h2 h3 cl ca hb1 BL BA
      have hbA : Below w1.heap.size w1 (w1.alloc (.cells #[.string ⟨#[]⟩, .slice a1 0 c1, .slice a2 0 c2, .slice a3 0 c3] 27)) := (Below.refl _ _).alloc (Nat.le_refl _) _
      have BL2 := BL1.below hbA
      have BA2 := BA1.below hbA
      have hb2 := hbw.trans (hbA.mono (by have := BL1.lt; omega))
      have ca := BA2.cell 0
      simp only [List.getElem?_toArray, List.getElem?_cons_succ, List.getElem?_cons_zero] at ca
      clear BL1 BA1 hbw hbA
      go_wp2_with fail
      clear ca
      go_roundw
      case rel => exact ⟨1, rfl, by omega, hb2, BL2, BA2⟩
      case measure => simp [intOf]
    | 1, _ =>
      have cl := BL.cell 1
      have ca := BA.cell 1
      simp only [List.getElem?_toArray, List.getElem?_cons_succ, List.getElem?_cons_zero] at cl ca
      go_wp2_with fail
      refine (parse_row _ _ (by decide) hGr _ _ _ parse_wrong1).mono ?_
      rintro e w1 ⟨vm, ve, vt, rfl, h1, h2, h3, hb1⟩
      obtain ⟨a1, c1, rfl⟩ := ms_form h1
      obtain ⟨a2, c2, rfl⟩ := en_form h2
      obtain ⟨a3, c3, rfl⟩ := row_form h3
      have hbw : Below R w w1 := hb.trans (hb1.mono (by have := BL.lt; omega))
      have BL1 := BL.below hb1
      have BA1 := BA.below hb1
      simp only [zeroS, List.length_nil, mtRows, List.map_nil] at h1 h2 h3 ⊢
      clear h1 h2 h3 cl ca hb1 BL BA
      have hbA : Below w1.heap.size w1 (w1.alloc (.cells #[.string ⟨#[]⟩, .slice a1 0 c1, .slice a2 0 c2, .slice a3 0 c3] 27)) := (Below.refl _ _).alloc (Nat.le_refl _) _
      have BL2 := BL1.below hbA
      have BA2 := BA1.below hbA
      have hb2 := hbw.trans (hbA.mono (by have := BL1.lt; omega))
      have ca := BA2.cell 1
      simp only [List.getElem?_toArray, List.getElem?_cons_succ, List.getElem?_cons_zero] at ca
      clear BL1 BA1 hbw hbA
      go_wp2_with fail
      clear ca
      go_roundw
      case rel => exact ⟨2, rfl, by omega, hb2, BL2, BA2⟩
      case measure => simp [intOf]
    | 2, _ =>
      have cl := BL.cell 2
      have ca := BA.cell 2
      simp only [List.getElem?_toArray, List.getElem?_cons_succ, List.getElem?_cons_zero] at cl ca
      go_wp2_with fail
      refine (parse_row _ _ (by decide) hGr _ _ _ parse_wrong2).mono ?_
      rintro e w1 ⟨vm, ve, vt, rfl, h1, h2, h3, hb1⟩
      obtain ⟨a1, c1, rfl⟩ := ms_form h1
      obtain ⟨a2, c2, rfl⟩ := en_form h2
      obtain ⟨a3, c3, rfl⟩ := row_form h3
      have hbw : Below R w w1 := hb.trans (hb1.mono (by have := BL.lt; omega))
      have BL1 := BL.below hb1
      have BA1 := BA.below hb1
      simp only [zeroS, List.length_nil, mtRows, List.map_nil] at h1 h2 h3 ⊢
      clear h1 h2 h3 cl ca hb1 BL BA
      have hbA : Below w1.heap.size w1 (w1.alloc (.cells #[.string ⟨#[]⟩, .slice a1 0 c1, .slice a2 0 c2, .slice a3 0 c3] 27)) := (Below.refl _ _).alloc (Nat.le_refl _) _
      have BL2 := BL1.below hbA
      have BA2 := BA1.below hbA
      have hb2 := hbw.trans (hbA.mono (by have := BL1.lt; omega))
      have ca := BA2.cell 2
      simp only [List.getElem?_toArray, List.getElem?_cons_succ, List.getElem?_cons_zero] at ca
      clear BL1 BA1 hbw hbA
      go_wp2_with fail
      clear ca
      go_roundw
      case rel => exact ⟨3, rfl, by omega, hb2, BL2, BA2⟩
      case measure => simp [intOf]
    | 3, _ =>
      have cl := BL.cell 3
      have ca := BA.cell 3
      simp only [List.getElem?_toArray, List.getElem?_cons_succ, List.getElem?_cons_zero] at cl ca
      go_wp2_with fail
      refine (parse_row _ _ (by decide) hGr _ _ _ parse_wrong3).mono ?_
      rintro e w1 ⟨vm, ve, vt, rfl, h1, h2, h3, hb1⟩
      obtain ⟨a1, c1, rfl⟩ := ms_form h1
      obtain ⟨a2, c2, rfl⟩ := en_form h2
      obtain ⟨a3, c3, rfl⟩ := row_form h3
      have hbw : Below R w w1 := hb.trans (hb1.mono (by have := BL.lt; omega))
      have BL1 := BL.below hb1
      have BA1 := BA.below hb1
      simp only [zeroS, List.length_nil, mtRows, List.map_nil] at h1 h2 h3 ⊢
      clear h1 h2 h3 cl ca hb1 BL BA
      have hbA : Below w1.heap.size w1 (w1.alloc (.cells #[.string ⟨#[]⟩, .slice a1 0 c1, .slice a2 0 c2, .slice a3 0 c3] 27)) := (Below.refl _ _).alloc (Nat.le_refl _) _
      have BL2 := BL1.below hbA
      have BA2 := BA1.below hbA
      have hb2 := hbw.trans (hbA.mono (by have := BL1.lt; omega))
      have ca := BA2.cell 3
      simp only [List.getElem?_toArray, List.getElem?_cons_succ, List.getElem?_cons_zero] at ca
      clear BL1 BA1 hbw hbA
      go_wp2_with fail
      clear ca
      go_roundw
      case rel => exact ⟨4, rfl, by omega, hb2, BL2, BA2⟩
      case measure => simp [intOf]
    | 4, _ =>
      have cl := BL.cell 4
      have ca := BA.cell 4
      simp only [List.getElem?_toArray, List.getElem?_cons_succ, List.getElem?_cons_zero] at cl ca
      go_wp2_with fail
      refine (parse_row _ _ (by decide) hGr _ _ _ parse_wrong4).mono ?_
      rintro e w1 ⟨vm, ve, vt, rfl, h1, h2, h3, hb1⟩
      obtain ⟨a1, c1, rfl⟩ := ms_form h1
      obtain ⟨a2, c2, rfl⟩ := en_form h2
      obtain ⟨a3, c3, rfl⟩ := row_form h3
      have hbw : Below R w w1 := hb.trans (hb1.mono (by have := BL.lt; omega))
      have BL1 := BL.below hb1
      have BA1 := BA.below hb1
      simp only [zeroS, List.length_nil, mtRows, List.map_nil] at h1 h2 h3 ⊢
      clear h1 h2 h3 cl ca hb1 BL BA
      have hbA : Below w1.heap.size w1 (w1.alloc (.cells #[.string ⟨#[]⟩, .slice a1 0 c1, .slice a2 0 c2, .slice a3 0 c3] 27)) := (Below.refl _ _).alloc (Nat.le_refl _) _
      have BL2 := BL1.below hbA
      have BA2 := BA1.below hbA
      have hb2 := hbw.trans (hbA.mono (by have := BL1.lt; omega))
      have ca := BA2.cell 4
      simp only [List.getElem?_toArray, List.getElem?_cons_succ, List.getElem?_cons_zero] at ca
      clear BL1 BA1 hbw hbA
      go_wp2_with fail
      clear ca
      go_roundw
      case rel => exact ⟨5, rfl, by omega, hb2, BL2, BA2⟩
      case measure => simp [intOf]
    | 5, _ =>
      have cl := BL.cell 5
      have ca := BA.cell 5
      simp only [List.getElem?_toArray, List.getElem?_cons_succ, List.getElem?_cons_zero] at cl ca
      go_wp2_with fail
      refine (parse_row _ _ (by decide) hGr _ _ _ parse_wrong5).mono ?_
      rintro e w1 ⟨vm, ve, vt, rfl, h1, h2, h3, hb1⟩
      obtain ⟨a1, c1, rfl⟩ := ms_form h1
      obtain ⟨a2, c2, rfl⟩ := en_form h2
      obtain ⟨a3, c3, rfl⟩ := row_form h3
      have hbw : Below R w w1 := hb.trans (hb1.mono (by have := BL.lt; omega))
      have BL1 := BL.below hb1
      have BA1 := BA.below hb1
      simp only [zeroS, List.length_nil, mtRows, List.map_nil] at h1 h2 h3 ⊢
      clear h1 h2 h3 cl ca hb1 BL BA
      have hbA : Below w1.heap.size w1 (w1.alloc (.cells #[.string ⟨#[]⟩, .slice a1 0 c1, .slice a2 0 c2, .slice a3 0 c3] 27)) := (Below.refl _ _).alloc (Nat.le_refl _) _
      have BL2 := BL1.below hbA
      have BA2 := BA1.below hbA
      have hb2 := hbw.trans (hbA.mono (by have := BL1.lt; omega))
      have ca := BA2.cell 5
      simp only [List.getElem?_toArray, List.getElem?_cons_succ, List.getElem?_cons_zero] at ca
      clear BL1 BA1 hbw hbA
      go_wp2_with fail
      clear ca
      go_roundw
      case rel => exact ⟨6, rfl, by omega, hb2, BL2, BA2⟩
      case measure => simp [intOf]
    | 6, _ =>
      have cl := BL.cell 6
      have ca := BA.cell 6
      simp only [List.getElem?_toArray, List.getElem?_cons_succ, List.getElem?_cons_zero] at cl ca
      go_wp2_with fail
      refine (parse_row _ _ (by decide) hGr _ _ _ parse_wrong6).mono ?_
      rintro e w1 ⟨vm, ve, vt, rfl, h1, h2, h3, hb1⟩
      obtain ⟨a1, c1, rfl⟩ := ms_form h1
      obtain ⟨a2, c2, rfl⟩ := en_form h2
      obtain ⟨a3, c3, rfl⟩ := row_form h3
      have hbw : Below R w w1 := hb.trans (hb1.mono (by have := BL.lt; omega))
      have BL1 := BL.below hb1
      have BA1 := BA.below hb1
      simp only [zeroS, List.length_nil, mtRows, List.map_nil] at h1 h2 h3 ⊢
      clear h1 h2 h3 cl ca hb1 BL BA
      have hbA : Below w1.heap.size w1 (w1.alloc (.cells #[.string ⟨#[]⟩, .slice a1 0 c1, .slice a2 0 c2, .slice a3 0 c3] 27)) := (Below.refl _ _).alloc (Nat.le_refl _) _
      have BL2 := BL1.below hbA
      have BA2 := BA1.below hbA
      have hb2 := hbw.trans (hbA.mono (by have := BL1.lt; omega))
      have ca := BA2.cell 6
      simp only [List.getElem?_toArray, List.getElem?_cons_succ, List.getElem?_cons_zero] at ca
      clear BL1 BA1 hbw hbA
      go_wp2_with fail
      clear ca
      go_roundw
      case rel => exact ⟨7, rfl, by omega, hb2, BL2, BA2⟩
      case measure => simp [intOf]
    | 7, _ =>
      have cl := BL.cell 7
      have ca := BA.cell 7
      simp only [List.getElem?_toArray, List.getElem?_cons_succ, List.getElem?_cons_zero] at cl ca
      go_wp2_with fail
      refine (parse_row _ _ (by decide) hGr _ _ _ parse_wrong7).mono ?_
      rintro e w1 ⟨vm, ve, vt, rfl, h1, h2, h3, hb1⟩
      obtain ⟨a1, c1, rfl⟩ := ms_form h1
      obtain ⟨a2, c2, rfl⟩ := en_form h2
      obtain ⟨a3, c3, rfl⟩ := row_form h3
      have hbw : Below R w w1 := hb.trans (hb1.mono (by have := BL.lt; omega))
      have BL1 := BL.below hb1
      have BA1 := BA.below hb1
      simp only [zeroS, List.length_nil, mtRows, List.map_nil] at h1 h2 h3 ⊢
      clear h1 h2 h3 cl ca hb1 BL BA
      have hbA : Below w1.heap.size w1 (w1.alloc (.cells #[.string ⟨#[]⟩, .slice a1 0 c1, .slice a2 0 c2, .slice a3 0 c3] 27)) := (Below.refl _ _).alloc (Nat.le_refl _) _
      have BL2 := BL1.below hbA
      have BA2 := BA1.below hbA
      have hb2 := hbw.trans (hbA.mono (by have := BL1.lt; omega))
      have ca := BA2.cell 7
      simp only [List.getElem?_toArray, List.getElem?_cons_succ, List.getElem?_cons_zero] at ca
      clear BL1 BA1 hbw hbA
      go_wp2_with fail
      clear ca
      go_roundw
      case rel => exact ⟨8, rfl, by omega, hb2, BL2, BA2⟩
      case measure => simp [intOf]
    | 8, _ =>
      go_wp2_with fail
      refine (iawake_any _ hGr).mono ?_
      rintro e w1 ⟨rfl, hb1⟩
      go_wp2_with fail
      go_ret
      refine ⟨rfl, ?_⟩
      rw [HR.out]
      exact hb.trans (hb1.mono (by have := BL.lt; omega))
end Go.Proofs.YtfffjfccochccaaDoor

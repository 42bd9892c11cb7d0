/- What the statements' own awake answers: true. -/
import Derived.Test.YtomeppgmmlaibaaCkCheck
import Derived.Test.YtomeppgmmlaibaaJoinG
namespace Go.Proofs.Ytomeppgmmlaibaa
open Go.ChangeShapes Go.WideShapes Go.ChangeAt Go.RowKit
set_option linter.unusedVariables false
set_option linter.unusedSimpArgs false
set_option maxRecDepth 20000

/-- A block of cells is a row. -/
theorem RowG.blk {w : World} {b : Nat} {cs : Array Value} {t : TypeId} {size n : Nat} {rs : List (List Value)} (h : Blk w b cs t) (hc : cs.toList = rs.flatten) (hl : ∀ r ∈ rs, r.length = size) (hn : rs.length = n) (hm : n ≤ 1000000) : RowG w (.slice (some ⟨b, 0, none⟩) n n) size rs := by
  subst hn
  refine ⟨some ⟨b, 0, none⟩, rs.length, rfl, Nat.le_refl _, by unfold maxLen; omega, (fun e => by cases e), fun _ => ⟨b, 0, rfl, fun i c u j hi hj => ?_⟩⟩
  rw [h.cell, ← Array.getElem?_toList, hc, Nat.zero_add]
  exact flat_get rs hl i c hi j u hj
theorem Blk.newAt {w : World} {b : Nat} {cs : Array Value} {t : TypeId} (h : w.heap.size = b) : Blk (w.alloc (.cells cs t)) b cs t := by subst h; exact Blk.new w cs t
theorem Blk.up {w : World} {b : Nat} {cs : Array Value} {t : TypeId} (h : Blk w b cs t) (o : Obj) : Blk (w.alloc o) b cs t := h.below ((Below.refl _ _).alloc (Nat.le_refl _) _)
def awA : ScS := ⟨⟨#[97]⟩, [⟨⟨#[109]⟩, [⟨⟨#[120]⟩, 1, 1, 1, ⟨#[]⟩⟩], []⟩], [], []⟩
def awB : ScS := ⟨⟨#[97]⟩, [⟨⟨#[109]⟩, [⟨⟨#[120]⟩, 1, 1, 1, ⟨#[]⟩⟩, ⟨⟨#[121]⟩, 1, 1, 1, ⟨#[]⟩⟩], []⟩], [], []⟩
theorem awA_ok : checkA awA = 0 := by decide +kernel
theorem awB_ok : checkA awB = 7 := by decide +kernel
theorem flW_aw (n : ByteArray) (h : n.size ≤ 140737488351232) : FlW ⟨n, 1, 1, 1, ⟨#[]⟩⟩ := by
  have h1 : I64 1 := ⟨by decide, by decide⟩
  exact ⟨h, Nat.zero_le _, h1, h1, h1⟩
theorem awA_w : ScW awA := ⟨by decide, fun m hm => by simp [awA] at hm; subst hm; exact ⟨by decide, fun f hf => by simp at hf; subst hf; exact flW_aw _ (by decide), fun n hn => by simp at hn⟩, fun m hm => by simp [awA] at hm, fun m hm => by simp [awA] at hm⟩
theorem awB_w : ScW awB := ⟨by decide, fun m hm => by simp [awB] at hm; subst hm; exact ⟨by decide, fun f hf => by simp at hf; rcases hf with rfl | rfl <;> exact flW_aw _ (by decide), fun n hn => by simp at hn⟩, fun m hm => by simp [awB] at hm, fun m hm => by simp [awB] at hm⟩
theorem awA_f : FewL awA := ⟨by decide, by decide, by decide, fun m hm => by simp [awA] at hm; subst hm; exact ⟨by decide, by decide⟩, fun m hm => by simp [awA] at hm⟩
theorem awB_f : FewL awB := ⟨by decide, by decide, by decide, fun m hm => by simp [awB] at hm; subst hm; exact ⟨by decide, by decide⟩, fun m hm => by simp [awB] at hm⟩
set_option maxHeartbeats 2000000 in
theorem awake_any (w : World) : Calls Try.prog 9 #[] w fun e w' => e = .returned (.bool true) ∧ Below w.heap.size w w' := by
  go_enter Try.func9, Try.ntmps9
  go_wp2_with fail
  have B2 : Blk ((((((((w.alloc (.cells #[.string ⟨#[120]⟩, .int .i64 1, .int .i64 1, .int .i64 1, .string ⟨#[]⟩] 52)).alloc (.cells #[.string ⟨#[121]⟩, .int .i64 1, .int .i64 1, .int .i64 1, .string ⟨#[]⟩] 52)).alloc (.cells #[.string ⟨#[120]⟩, .int .i64 1, .int .i64 1, .int .i64 1, .string ⟨#[]⟩] 52)).alloc (.cells #[.string ⟨#[109]⟩, .slice (some ⟨w.heap.size + 1 + 1, 0, none⟩) 1 1, .slice none 0 0] 35)).alloc (.cells #[.string ⟨#[97]⟩, .slice (some ⟨w.heap.size + 1 + 1 + 1, 0, none⟩) 1 1, .slice none 0 0, .slice none 0 0] 26)).alloc (.cells #[.string ⟨#[120]⟩, .int .i64 1, .int .i64 1, .int .i64 1, .string ⟨#[]⟩, .string ⟨#[121]⟩, .int .i64 1, .int .i64 1, .int .i64 1, .string ⟨#[]⟩] 52)).alloc (.cells #[.string ⟨#[109]⟩, .slice (some ⟨w.heap.size + 1 + 1 + 1 + 1 + 1, 0, none⟩) 2 2, .slice none 0 0] 35)).alloc (.cells #[.string ⟨#[97]⟩, .slice (some ⟨w.heap.size + 1 + 1 + 1 + 1 + 1 + 1, 0, none⟩) 1 1, .slice none 0 0, .slice none 0 0] 26)) (w.heap.size + 1 + 1) #[.string ⟨#[120]⟩, .int .i64 1, .int .i64 1, .int .i64 1, .string ⟨#[]⟩] 52 := ((((((Blk.newAt (by simp)).up _).up _).up _).up _).up _)
  have B3 : Blk ((((((((w.alloc (.cells #[.string ⟨#[120]⟩, .int .i64 1, .int .i64 1, .int .i64 1, .string ⟨#[]⟩] 52)).alloc (.cells #[.string ⟨#[121]⟩, .int .i64 1, .int .i64 1, .int .i64 1, .string ⟨#[]⟩] 52)).alloc (.cells #[.string ⟨#[120]⟩, .int .i64 1, .int .i64 1, .int .i64 1, .string ⟨#[]⟩] 52)).alloc (.cells #[.string ⟨#[109]⟩, .slice (some ⟨w.heap.size + 1 + 1, 0, none⟩) 1 1, .slice none 0 0] 35)).alloc (.cells #[.string ⟨#[97]⟩, .slice (some ⟨w.heap.size + 1 + 1 + 1, 0, none⟩) 1 1, .slice none 0 0, .slice none 0 0] 26)).alloc (.cells #[.string ⟨#[120]⟩, .int .i64 1, .int .i64 1, .int .i64 1, .string ⟨#[]⟩, .string ⟨#[121]⟩, .int .i64 1, .int .i64 1, .int .i64 1, .string ⟨#[]⟩] 52)).alloc (.cells #[.string ⟨#[109]⟩, .slice (some ⟨w.heap.size + 1 + 1 + 1 + 1 + 1, 0, none⟩) 2 2, .slice none 0 0] 35)).alloc (.cells #[.string ⟨#[97]⟩, .slice (some ⟨w.heap.size + 1 + 1 + 1 + 1 + 1 + 1, 0, none⟩) 1 1, .slice none 0 0, .slice none 0 0] 26)) (w.heap.size + 1 + 1 + 1) #[.string ⟨#[109]⟩, .slice (some ⟨w.heap.size + 1 + 1, 0, none⟩) 1 1, .slice none 0 0] 35 := (((((Blk.newAt (by simp)).up _).up _).up _).up _)
  have B5 : Blk ((((((((w.alloc (.cells #[.string ⟨#[120]⟩, .int .i64 1, .int .i64 1, .int .i64 1, .string ⟨#[]⟩] 52)).alloc (.cells #[.string ⟨#[121]⟩, .int .i64 1, .int .i64 1, .int .i64 1, .string ⟨#[]⟩] 52)).alloc (.cells #[.string ⟨#[120]⟩, .int .i64 1, .int .i64 1, .int .i64 1, .string ⟨#[]⟩] 52)).alloc (.cells #[.string ⟨#[109]⟩, .slice (some ⟨w.heap.size + 1 + 1, 0, none⟩) 1 1, .slice none 0 0] 35)).alloc (.cells #[.string ⟨#[97]⟩, .slice (some ⟨w.heap.size + 1 + 1 + 1, 0, none⟩) 1 1, .slice none 0 0, .slice none 0 0] 26)).alloc (.cells #[.string ⟨#[120]⟩, .int .i64 1, .int .i64 1, .int .i64 1, .string ⟨#[]⟩, .string ⟨#[121]⟩, .int .i64 1, .int .i64 1, .int .i64 1, .string ⟨#[]⟩] 52)).alloc (.cells #[.string ⟨#[109]⟩, .slice (some ⟨w.heap.size + 1 + 1 + 1 + 1 + 1, 0, none⟩) 2 2, .slice none 0 0] 35)).alloc (.cells #[.string ⟨#[97]⟩, .slice (some ⟨w.heap.size + 1 + 1 + 1 + 1 + 1 + 1, 0, none⟩) 1 1, .slice none 0 0, .slice none 0 0] 26)) (w.heap.size + 1 + 1 + 1 + 1 + 1) #[.string ⟨#[120]⟩, .int .i64 1, .int .i64 1, .int .i64 1, .string ⟨#[]⟩, .string ⟨#[121]⟩, .int .i64 1, .int .i64 1, .int .i64 1, .string ⟨#[]⟩] 52 := (((Blk.newAt (by simp)).up _).up _)
  have B6 : Blk ((((((((w.alloc (.cells #[.string ⟨#[120]⟩, .int .i64 1, .int .i64 1, .int .i64 1, .string ⟨#[]⟩] 52)).alloc (.cells #[.string ⟨#[121]⟩, .int .i64 1, .int .i64 1, .int .i64 1, .string ⟨#[]⟩] 52)).alloc (.cells #[.string ⟨#[120]⟩, .int .i64 1, .int .i64 1, .int .i64 1, .string ⟨#[]⟩] 52)).alloc (.cells #[.string ⟨#[109]⟩, .slice (some ⟨w.heap.size + 1 + 1, 0, none⟩) 1 1, .slice none 0 0] 35)).alloc (.cells #[.string ⟨#[97]⟩, .slice (some ⟨w.heap.size + 1 + 1 + 1, 0, none⟩) 1 1, .slice none 0 0, .slice none 0 0] 26)).alloc (.cells #[.string ⟨#[120]⟩, .int .i64 1, .int .i64 1, .int .i64 1, .string ⟨#[]⟩, .string ⟨#[121]⟩, .int .i64 1, .int .i64 1, .int .i64 1, .string ⟨#[]⟩] 52)).alloc (.cells #[.string ⟨#[109]⟩, .slice (some ⟨w.heap.size + 1 + 1 + 1 + 1 + 1, 0, none⟩) 2 2, .slice none 0 0] 35)).alloc (.cells #[.string ⟨#[97]⟩, .slice (some ⟨w.heap.size + 1 + 1 + 1 + 1 + 1 + 1, 0, none⟩) 1 1, .slice none 0 0, .slice none 0 0] 26)) (w.heap.size + 1 + 1 + 1 + 1 + 1 + 1) #[.string ⟨#[109]⟩, .slice (some ⟨w.heap.size + 1 + 1 + 1 + 1 + 1, 0, none⟩) 2 2, .slice none 0 0] 35 := ((Blk.newAt (by simp)).up _)
  have B7 : Blk ((((((((w.alloc (.cells #[.string ⟨#[120]⟩, .int .i64 1, .int .i64 1, .int .i64 1, .string ⟨#[]⟩] 52)).alloc (.cells #[.string ⟨#[121]⟩, .int .i64 1, .int .i64 1, .int .i64 1, .string ⟨#[]⟩] 52)).alloc (.cells #[.string ⟨#[120]⟩, .int .i64 1, .int .i64 1, .int .i64 1, .string ⟨#[]⟩] 52)).alloc (.cells #[.string ⟨#[109]⟩, .slice (some ⟨w.heap.size + 1 + 1, 0, none⟩) 1 1, .slice none 0 0] 35)).alloc (.cells #[.string ⟨#[97]⟩, .slice (some ⟨w.heap.size + 1 + 1 + 1, 0, none⟩) 1 1, .slice none 0 0, .slice none 0 0] 26)).alloc (.cells #[.string ⟨#[120]⟩, .int .i64 1, .int .i64 1, .int .i64 1, .string ⟨#[]⟩, .string ⟨#[121]⟩, .int .i64 1, .int .i64 1, .int .i64 1, .string ⟨#[]⟩] 52)).alloc (.cells #[.string ⟨#[109]⟩, .slice (some ⟨w.heap.size + 1 + 1 + 1 + 1 + 1, 0, none⟩) 2 2, .slice none 0 0] 35)).alloc (.cells #[.string ⟨#[97]⟩, .slice (some ⟨w.heap.size + 1 + 1 + 1 + 1 + 1 + 1, 0, none⟩) 1 1, .slice none 0 0, .slice none 0 0] 26)) (w.heap.size + 1 + 1 + 1 + 1 + 1 + 1 + 1) #[.string ⟨#[97]⟩, .slice (some ⟨w.heap.size + 1 + 1 + 1 + 1 + 1 + 1, 0, none⟩) 1 1, .slice none 0 0, .slice none 0 0] 26 := (Blk.newAt (by simp))
  have hb0 : Below w.heap.size w ((((((((w.alloc (.cells #[.string ⟨#[120]⟩, .int .i64 1, .int .i64 1, .int .i64 1, .string ⟨#[]⟩] 52)).alloc (.cells #[.string ⟨#[121]⟩, .int .i64 1, .int .i64 1, .int .i64 1, .string ⟨#[]⟩] 52)).alloc (.cells #[.string ⟨#[120]⟩, .int .i64 1, .int .i64 1, .int .i64 1, .string ⟨#[]⟩] 52)).alloc (.cells #[.string ⟨#[109]⟩, .slice (some ⟨w.heap.size + 1 + 1, 0, none⟩) 1 1, .slice none 0 0] 35)).alloc (.cells #[.string ⟨#[97]⟩, .slice (some ⟨w.heap.size + 1 + 1 + 1, 0, none⟩) 1 1, .slice none 0 0, .slice none 0 0] 26)).alloc (.cells #[.string ⟨#[120]⟩, .int .i64 1, .int .i64 1, .int .i64 1, .string ⟨#[]⟩, .string ⟨#[121]⟩, .int .i64 1, .int .i64 1, .int .i64 1, .string ⟨#[]⟩] 52)).alloc (.cells #[.string ⟨#[109]⟩, .slice (some ⟨w.heap.size + 1 + 1 + 1 + 1 + 1, 0, none⟩) 2 2, .slice none 0 0] 35)).alloc (.cells #[.string ⟨#[97]⟩, .slice (some ⟨w.heap.size + 1 + 1 + 1 + 1 + 1 + 1, 0, none⟩) 1 1, .slice none 0 0, .slice none 0 0] 26)) := by
    repeat' first | exact Below.refl _ _ | refine Below.alloc ?_ (by simp <;> omega) _
  generalize ((((((((w.alloc (.cells #[.string ⟨#[120]⟩, .int .i64 1, .int .i64 1, .int .i64 1, .string ⟨#[]⟩] 52)).alloc (.cells #[.string ⟨#[121]⟩, .int .i64 1, .int .i64 1, .int .i64 1, .string ⟨#[]⟩] 52)).alloc (.cells #[.string ⟨#[120]⟩, .int .i64 1, .int .i64 1, .int .i64 1, .string ⟨#[]⟩] 52)).alloc (.cells #[.string ⟨#[109]⟩, .slice (some ⟨w.heap.size + 1 + 1, 0, none⟩) 1 1, .slice none 0 0] 35)).alloc (.cells #[.string ⟨#[97]⟩, .slice (some ⟨w.heap.size + 1 + 1 + 1, 0, none⟩) 1 1, .slice none 0 0, .slice none 0 0] 26)).alloc (.cells #[.string ⟨#[120]⟩, .int .i64 1, .int .i64 1, .int .i64 1, .string ⟨#[]⟩, .string ⟨#[121]⟩, .int .i64 1, .int .i64 1, .int .i64 1, .string ⟨#[]⟩] 52)).alloc (.cells #[.string ⟨#[109]⟩, .slice (some ⟨w.heap.size + 1 + 1 + 1 + 1 + 1, 0, none⟩) 2 2, .slice none 0 0] 35)).alloc (.cells #[.string ⟨#[97]⟩, .slice (some ⟨w.heap.size + 1 + 1 + 1 + 1 + 1 + 1, 0, none⟩) 1 1, .slice none 0 0, .slice none 0 0] 26)) = W at *
  have FA : RowG W (.slice (some ⟨w.heap.size + 1 + 1, 0, none⟩) 1 1) 5 (flRows [⟨⟨#[120]⟩, 1, 1, 1, ⟨#[]⟩⟩]) := RowG.blk B2 rfl (flr_len _) rfl (by decide)
  have FB : RowG W (.slice (some ⟨w.heap.size + 1 + 1 + 1 + 1 + 1, 0, none⟩) 2 2) 5 (flRows [⟨⟨#[120]⟩, 1, 1, 1, ⟨#[]⟩⟩, ⟨⟨#[121]⟩, 1, 1, 1, ⟨#[]⟩⟩]) := RowG.blk B5 rfl (flr_len _) rfl (by decide)
  have SA : ScIn W (.agg #[.string ⟨#[97]⟩, .slice (some ⟨w.heap.size + 1 + 1 + 1, 0, none⟩) 1 1, .slice none 0 0, .slice none 0 0]) awA :=
    ⟨_, _, _, rfl, ⟨[[.string ⟨#[109]⟩, .slice (some ⟨w.heap.size + 1 + 1, 0, none⟩) 1 1, .slice none 0 0]], RowG.blk B3 rfl (fun r hr => by simp at hr; subst hr; rfl) rfl (by decide), rfl, fun i m hm => by
      match i, hm with
      | 0, hm => simp [awA] at hm; subst hm; exact ⟨_, _, rfl, FA, RowG.nil _ _⟩
      | i + 1, hm => simp [awA] at hm⟩, ⟨[], RowG.nil _ _, rfl, fun i m hm => by simp [awA] at hm⟩, RowG.nil _ _⟩
  have SB : ScIn W (.agg #[.string ⟨#[97]⟩, .slice (some ⟨w.heap.size + 1 + 1 + 1 + 1 + 1 + 1, 0, none⟩) 1 1, .slice none 0 0, .slice none 0 0]) awB :=
    ⟨_, _, _, rfl, ⟨[[.string ⟨#[109]⟩, .slice (some ⟨w.heap.size + 1 + 1 + 1 + 1 + 1, 0, none⟩) 2 2, .slice none 0 0]], RowG.blk B6 rfl (fun r hr => by simp at hr; subst hr; rfl) rfl (by decide), rfl, fun i m hm => by
      match i, hm with
      | 0, hm => simp [awB] at hm; subst hm; exact ⟨_, _, rfl, FB, RowG.nil _ _⟩
      | i + 1, hm => simp [awB] at hm⟩, ⟨[], RowG.nil _ _, rfl, fun i m hm => by simp [awB] at hm⟩, RowG.nil _ _⟩
  have HA : Hid (ScIn W (.agg #[.string ⟨#[97]⟩, .slice (some ⟨w.heap.size + 1 + 1 + 1, 0, none⟩) 1 1, .slice none 0 0, .slice none 0 0]) awA) := SA
  have HB : Hid (∀ W1, Below W.heap.size W W1 → Calls Try.prog 11 #[.agg #[.string ⟨#[97]⟩, .slice (some ⟨w.heap.size + 1 + 1 + 1 + 1 + 1 + 1, 0, none⟩) 1 1, .slice none 0 0, .slice none 0 0]] W1 fun e w' => e = .returned (.int .i64 (checkA awB)) ∧ Below W1.heap.size W1 w') := fun W1 h => check_any (SB.below h) awB_w awB_f
  have HX : Hid (Blk W (w.heap.size + 1 + 1 + 1 + 1 + 1 + 1 + 1) #[.string ⟨#[97]⟩, .slice (some ⟨w.heap.size + 1 + 1 + 1 + 1 + 1 + 1, 0, none⟩) 1 1, .slice none 0 0, .slice none 0 0] 26) := B7
  clear B2 B3 B5 B6 B7 FA FB SA SB
  refine (check_any HA.out awA_w awA_f).mono ?_
  rintro e w1 ⟨rfl, hb1⟩
  rw [awA_ok]
  have B7 := HX.out.below hb1
  have c0 := (B7.cell 0).trans rfl
  have c1 := (B7.cell 1).trans rfl
  have c2 := (B7.cell 2).trans rfl
  have c3 := (B7.cell 3).trans rfl
  clear B7
  go_wp2_with fail
  clear c0 c1 c2 c3
  refine (HB.out w1 hb1).mono ?_
  rintro e w2 ⟨rfl, hb2⟩
  rw [awB_ok]
  go_wp2_with fail
  go_ret
  exact ⟨rfl, hb0.trans ((hb1.trans (hb2.mono hb1.size)).mono hb0.size)⟩
end Go.Proofs.Ytomeppgmmlaibaa

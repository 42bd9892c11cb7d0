/- A message in a message, so many. -/
import Derived.Test.YtkombjmookplpaaTvPush
import Derived.Test.YtkombjmookplpaaTvSmall
namespace Go.Proofs.Ytkombjmookplpaa
open Go.ChangeShapes Go.WideShapes Go.ChangeAt Go.RowKit
set_option linter.unusedVariables false
set_option linter.unusedSimpArgs false
set_option maxRecDepth 20000

def chT : Nat → Tr
  | 0 => ⟨1, 5, ByteArray.empty, [], []⟩
  | i + 1 => ⟨3, 0, ByteArray.empty, [(1 + (i : Int) % 9, [chT i])], []⟩
theorem ch_dp : ∀ k : Nat, dpN (k + 1) (chT k) = k
  | 0 => rfl
  | k + 1 => by
    have := ch_dp k
    show (if (3 : Int) = 3 then 1 + ((subs (chT (k + 1)).es).map (dpN (k + 1))).foldr max 0 else 0) = k + 1
    rw [if_pos rfl]
    simp only [chT, subs, List.flatMap_cons, List.flatMap_nil, List.append_nil, List.map_cons, List.map_nil, List.foldr_cons, List.foldr_nil]
    rw [this]
    omega
theorem ch_cnt : ∀ k : Nat, cntN (k + 1) (chT k) = k + 1
  | 0 => rfl
  | k + 1 => by
    have := ch_cnt k
    show 1 + ((subs (chT (k + 1)).es).map (cntN (k + 1))).sum = k + 1 + 1
    simp only [chT, subs, List.flatMap_cons, List.flatMap_nil, List.append_nil, List.map_cons, List.map_nil, List.sum_cons, List.sum_nil]
    omega
theorem ch_ok : ∀ k : Nat, okN (k + 1) (chT k) = true
  | 0 => rfl
  | k + 1 => by
    have := ch_ok k
    show (lvB (chT (k + 1)) && (if (chT (k + 1)).kind = 3 then (subs (chT (k + 1)).es).all (okN (k + 1)) else true)) = true
    have h1 : lvB (chT (k + 1)) = true := by
      have h2 : (0 : Int) < 1 + (k : Int) % 9 := by omega
      have h3 : 1 + (k : Int) % 9 ≤ 500 := by omega
      simp [lvB, chT, entsB, restB, h2, h3, risesB]
    rw [h1]
    simp [chT, subs, this]
theorem ch_sm : ∀ k : Nat, SmN (k + 1) (chT k)
  | 0 => ⟨by decide, by decide, by decide, by simp [chT], by simp [chT]⟩
  | k + 1 => by
    refine ⟨(by decide : ByteArray.empty.size ≤ 5000), (by decide : 0 ≤ 40), by simp [chT], by simp [chT], fun e he => ?_⟩
    obtain rfl : e = (1 + (k : Int) % 9, [chT k]) := by simpa [chT] using he
    exact ⟨by simp, fun x hx => by obtain rfl : x = chT k := by simpa using hx
                                   exact ch_sm k⟩
/-- A row of one element. -/
theorem own_one {w : World} {B g size : Nat} {e : TypeId} {cs : List Value} (h : Blk w g cs.toArray e) (hl : cs.length = size) (hB : B ≤ g) : w.ownsRow B e size (.slice (some ⟨g, 0, none⟩) 1 1) 1 cs :=
  ⟨by rw [hl, Nat.one_mul], .inr ⟨g, 1, cs.toArray, rfl, hB, h, Nat.le_refl _, by unfold maxLen; omega, by simp [hl], by rw [Nat.one_mul, ← hl]; simp⟩⟩
theorem row_one {α : Type} {P : World → List Value → α → List Nat → Prop} {w : World} {B g size : Nat} {e : TypeId} {r : List Value} {x : α} {b : List Nat} (h : Blk w g r.toArray e) (hl : r.length = size) (hB : B ≤ g) (hP : P w r x b) : RowO P B e size w (.slice (some ⟨g, 0, none⟩) 1 1) [x] [r] [b] :=
  ⟨by simpa using own_one h hl hB, rfl, rfl, by simpa using hl, fun i y hy => by
    cases i with
    | zero => obtain rfl : x = y := by simpa using hy
              exact ⟨r, b, rfl, rfl, hP⟩
    | succ i => simp at hy⟩
/-- One level more. -/
theorem ch_up {w : World} {B ga gb i : Nat} {r : List Value} {bs : List Nat} (h : TrO (i + 1) B w r (chT i) bs) (hA : Blk w ga r.toArray 25) (hB : Blk w gb #[.int .i64 (1 + (i : Int) % 9), .slice (some ⟨ga, 0, none⟩) 1 1] 50) (h1 : B ≤ ga) (h2 : B ≤ gb) (hr : r.length = 5) :
    TrO (i + 2) B w [.int .i64 3, .int .i64 0, .string ByteArray.empty, .slice (some ⟨gb, 0, none⟩) 1 1, .slice none 0 0] (chT (i + 1)) ([gb] ++ ([ga] ++ bs)) := by
  refine ⟨_, _, [[.int .i64 (1 + (i : Int) % 9), .slice (some ⟨ga, 0, none⟩) 1 1]], [[ga] ++ bs], rfl, (⟨by decide, by decide⟩ : Is64 3), (⟨by decide, by decide⟩ : Is64 0), (by decide : ByteArray.empty.size ≤ 140737488351232), by simp [Fd64, chT], World.ownsRow_nil _ _ _ _, ?_, ?_⟩
  · refine row_one hB rfl h2 ⟨_, [r], [bs], rfl, ⟨by simp only; omega, by simp only; omega⟩, row_one hA hr h1 h, ?_⟩
    simp [allB, blkOf, Value.ownBlock]
  · simp [allB, blkOf, Value.ownBlock]
end Go.Proofs.Ytkombjmookplpaa

/- A block of cells is a row. -/
import Derived.Test.YtiiegphbhfiffaaJoinG
import Derived.Test.YtiiegphbhfiffaaBlkT
namespace Go.Proofs.Ytiiegphbhfiffaa
open Go.ChangeShapes Go.WideShapes Go.ChangeAt Go.RowKit
set_option linter.unusedVariables false
set_option linter.unusedSimpArgs false
set_option maxRecDepth 20000

/-- A block of cells is a row. -/
theorem RowG.blk {w : World} {b : Nat} {cs : Array Value} {t : TypeId} {size n : Nat} {rs : List (List Value)} (h : Blk w b cs t) (hc : cs.toList = rs.flatten) (hl : ∀ r ∈ rs, r.length = size) (hn : rs.length = n) (hm : n ≤ 1000000) : RowG w (.slice (some ⟨b, 0, none⟩) n n) size rs := by
  subst hn
  refine ⟨some ⟨b, 0, none⟩, rs.length, rfl, Nat.le_refl _, by unfold maxLen; omega, (fun e => by cases e), fun _ => ⟨b, 0, rfl, fun i c u j hi hj => ?_⟩⟩
  rw [h.cell, ← Array.getElem?_toList, hc, Nat.zero_add]
  exact flat_get rs hl i c hi j u hj
theorem Blk.newAt {w : World} {b : Nat} {cs : Array Value} {t : TypeId} (h : w.heap.size = b) : Blk (w.alloc (.cells cs t)) b cs t := by subst h; exact Blk.new w cs t
theorem Blk.up {w : World} {b : Nat} {cs : Array Value} {t : TypeId} (h : Blk w b cs t) (o : Obj) : Blk (w.alloc o) b cs t := h.below ((Below.refl _ _).alloc (Nat.le_refl _) _)
end Go.Proofs.Ytiiegphbhfiffaa

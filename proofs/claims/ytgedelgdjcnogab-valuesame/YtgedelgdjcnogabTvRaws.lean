/- What the statements' own Raws answers of a row. -/
import Derived.Test.YtgedelgdjcnogabTvPush
import Derived.Test.YtgedelgdjcnogabJoinR
namespace Go.Proofs.Ytgedelgdjcnogab
open Go.ChangeShapes Go.WideShapes Go.ChangeAt Go.RowKit
set_option linter.unusedVariables false
set_option linter.unusedSimpArgs false
set_option maxRecDepth 20000

theorem fdr_one (fs : List Fd) : ∀ u ∈ (fdRows fs).flatten, u.oneCell' = true := by
  rw [← rawCells_flat]; exact rawCells_one fs
set_option maxHeartbeats 1000000 in
theorem traws_any {w : World} {v : Value} {l : List Fd} (hr : RowG w v 4 (fdRows l)) (hl : l.length ≤ 900000) :
    Calls Try.prog 21 #[v] w fun e w' => ∃ r, e = .returned r ∧ w'.ownsRow w.heap.size 36 4 r l.length (rawCells l) ∧ Below w.heap.size w w' := by
  have hN : (fdRows l).length = l.length := by simp [fdRows]
  have HN : Hid ((fdRows l).length = l.length) := hN
  have HR : Hid (RowG w v 4 (fdRows l)) := hr
  have HL : Hid (l.length ≤ 900000) := hl
  clear hr hN hl
  go_enter Try.func21, Try.ntmps21
  go_wp2_with (first
    | (at_builtin; refine wpList_joinG rfl _ _ 23 36 4 40 _ rfl Try.underlying23 infoRaw rfl (by decide) w.heap.size (.slice none 0 0) 0 [] rfl (World.ownsRow_nil _ _ _ _) v (fdRows l) rfl HR.out (fdr_len l) (fdr_one l) ?c1 (by decide) (Nat.le_refl _) ?_)
    | fail)
  case c1 => have h1 := HN.out; have h2 := HL.out; omega
  intro r w1 ho hg
  have hb : Below w.heap.size w w1 := (Below.refl _ _).grown hg (Nat.le_refl _) (fun k hk => by cases hk)
  have HO : Hid (w1.ownsRow w.heap.size 36 4 r l.length (rawCells l)) := by
    show World.ownsRow _ _ _ _ _ _ _
    rw [rawCells_flat]
    rw [HN.out] at ho
    simpa using ho
  clear hg ho
  go_wp2_with fail
  go_ret
  exact ⟨_, rfl, HO.out, hb⟩
end Go.Proofs.Ytgedelgdjcnogab

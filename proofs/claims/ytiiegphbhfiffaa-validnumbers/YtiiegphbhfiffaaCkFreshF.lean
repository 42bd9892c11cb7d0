/- What check.fresh answers of fields and numbers: rows in new memory. -/
import Derived.Test.YtiiegphbhfiffaaJoinG
namespace Go.Proofs.Ytiiegphbhfiffaa
open Go.ChangeShapes Go.WideShapes Go.ChangeAt Go.RowKit
set_option linter.unusedVariables false
set_option linter.unusedSimpArgs false
set_option maxRecDepth 20000

set_option maxHeartbeats 1000000 in
theorem freshF_any {w : World} {v : Value} {fs : List FlS} (hr : RowG w v 5 (flRows fs)) (hl : fs.length ≤ 100) :
    Calls Try.prog 36 #[v] w fun e w' => ∃ r, e = .returned r ∧ w'.ownsRow w.heap.size 49 5 r fs.length (flRows fs).flatten ∧ Below w.heap.size w w' := by
  have hN : (flRows fs).length = fs.length := by simp [flRows]
  have HN : Hid ((flRows fs).length = fs.length) := hN
  have HR : Hid (RowG w v 5 (flRows fs)) := hr
  have HL : Hid (fs.length ≤ 100) := hl
  clear hr hN hl
  go_enter Try.func36, Try.ntmps36
  go_wp2_with (first
    | (at_builtin; refine wpList_joinG rfl _ _ 44 49 5 56 _ rfl Try.underlying44 infoFl rfl (by decide) w.heap.size (.slice none 0 0) 0 [] rfl (World.ownsRow_nil _ _ _ _) v (flRows fs) rfl HR.out (flr_len fs) (flr_one fs) ?c1 (by decide) (Nat.le_refl _) ?_)
    | fail)
  case c1 => have h1 := HN.out; have h2 := HL.out; omega
  intro r w1 ho hg
  have hb : Below w.heap.size w w1 := (Below.refl _ _).grown hg (Nat.le_refl _) (fun k hk => by cases hk)
  have HO : Hid (w1.ownsRow w.heap.size 49 5 r fs.length (flRows fs).flatten) := by
    show World.ownsRow _ _ _ _ _ _ _
    rw [HN.out] at ho
    exact ho
  clear hg ho
  go_wp2_with fail
  go_ret
  exact ⟨_, rfl, HO.out, hb⟩
set_option maxHeartbeats 1000000 in
theorem freshI_any {w : World} {v : Value} {fs : List Int} (hr : RowG w v 1 (inRows fs)) (hl : fs.length ≤ 100) :
    Calls Try.prog 37 #[v] w fun e w' => ∃ r, e = .returned r ∧ w'.ownsRow w.heap.size 3 1 r fs.length (inRows fs).flatten ∧ Below w.heap.size w w' := by
  have hN : (inRows fs).length = fs.length := by simp [inRows]
  have HN : Hid ((inRows fs).length = fs.length) := hN
  have HR : Hid (RowG w v 1 (inRows fs)) := hr
  have HL : Hid (fs.length ≤ 100) := hl
  clear hr hN hl
  go_enter Try.func37, Try.ntmps37
  go_wp2_with (first
    | (at_builtin; refine wpList_joinG rfl _ _ 45 3 1 8 _ rfl Try.underlying45 infoIn rfl (by decide) w.heap.size (.slice none 0 0) 0 [] rfl (World.ownsRow_nil _ _ _ _) v (inRows fs) rfl HR.out (inr_len fs) (inr_one fs) ?c1 (by decide) (Nat.le_refl _) ?_)
    | fail)
  case c1 => have h1 := HN.out; have h2 := HL.out; omega
  intro r w1 ho hg
  have hb : Below w.heap.size w w1 := (Below.refl _ _).grown hg (Nat.le_refl _) (fun k hk => by cases hk)
  have HO : Hid (w1.ownsRow w.heap.size 3 1 r fs.length (inRows fs).flatten) := by
    show World.ownsRow _ _ _ _ _ _ _
    rw [HN.out] at ho
    exact ho
  clear hg ho
  go_wp2_with fail
  go_ret
  exact ⟨_, rfl, HO.out, hb⟩
end Go.Proofs.Ytiiegphbhfiffaa

/- What the statements' own Bytes answers: the bytes in new memory. -/
import Derived.Test.YtfbekeebllcdbaaByRow
namespace Go.Proofs.Ytfbekeebllcdbaa
open Go.ChangeShapes Go.WideShapes Go.ChangeAt Go.RowKit
set_option linter.unusedVariables false
set_option maxRecDepth 20000

set_option maxHeartbeats 1000000 in
theorem bytes_any (a : Option Addr) (ns : List Nat) (cap N : Nat) (w : World) (hN : ns.length = N) (hl : N ≤ 140737488355328) (ha : a = none → ns = [] ∧ cap = 0) (hh : Holds w a ns) :
    Calls Try.prog 19 #[.slice a N cap] w fun e w' => ∃ r, e = .returned r ∧ w'.ownsRow w.heap.size 5 1 r N (byteCells ns) ∧ Below w.heap.size w w' := by
  have HH : Hid (Holds w a ns) := hh
  have HA : Hid (a = none → ns = [] ∧ cap = 0) := ha
  have HN : Hid (ns.length = N) := hN
  clear hh ha hN
  go_enter Try.func19, Try.ntmps19
  go_wp2_with (first
    | (at_builtin; refine wpList_join rfl _ _ rfl w.heap.size (.slice none 0 0) 0 [] rfl (World.ownsRow_nil _ _ _ _) a ns _ _ rfl HN.out.symm HA.out HH.out ?c1 ?c2 ?_)
    | fail)
  case c1 => have := HN.out; simp; omega
  case c2 => exact Nat.le_refl _
  intro r w1 ho hg
  have hb : Below w.heap.size w w1 := (Below.refl _ _).grown hg (Nat.le_refl _) (fun k hk => by cases hk)
  have HO : Hid (w1.ownsRow w.heap.size 5 1 r N (byteCells ns)) := by
    show World.ownsRow _ _ _ _ _ _ _
    try rw [List.nil_append] at ho
    rw [HN.out] at ho
    exact ho
  clear hg ho
  go_wp2_with fail
  go_ret
  exact ⟨_, rfl, HO.out, hb⟩
end Go.Proofs.Ytfbekeebllcdbaa

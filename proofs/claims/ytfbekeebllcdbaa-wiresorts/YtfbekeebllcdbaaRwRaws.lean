/- What the statements' own Raws answers: the fields in new memory. -/
import Derived.Test.YtfbekeebllcdbaaRwLaw
namespace Go.Proofs.Ytfbekeebllcdbaa
open Go.ChangeShapes Go.WideShapes Go.ChangeAt Go.RowKit
set_option linter.unusedVariables false
set_option linter.unusedSimpArgs false
set_option maxRecDepth 20000

set_option maxHeartbeats 1000000 in
theorem raws_any (a : Option Addr) (rs : List Fd) (N cap : Nat) (w : World) (hN : rs.length = N) (hl : N ≤ 1000000) (ha : a = none → rs = [] ∧ cap = 0) (hh : HoldsR w a rs) :
    Calls Try.prog 15 #[.slice a N cap] w fun e w' => ∃ r, e = .returned r ∧ w'.ownsRow w.heap.size 24 4 r N (rawCells rs) ∧ Below w.heap.size w w' := by
  have HH : Hid (HoldsR w a rs) := hh
  have HA : Hid (a = none → rs = [] ∧ cap = 0) := ha
  have HN : Hid (rs.length = N) := hN
  clear hh ha hN
  go_enter Try.func15, Try.ntmps15
  go_wp2_with (first
    | (at_builtin; refine wpList_joinR rfl _ _ rfl w.heap.size (.slice none 0 0) 0 [] rfl (World.ownsRow_nil _ _ _ _) a rs _ _ rfl HN.out.symm HA.out HH.out ?c1 ?c2 ?_)
    | fail)
  case c1 => have := HN.out; simp; omega
  case c2 => exact Nat.le_refl _
  intro r w1 ho hg
  have hb : Below w.heap.size w w1 := (Below.refl _ _).grown hg (Nat.le_refl _) (fun k hk => by cases hk)
  have HO : Hid (w1.ownsRow w.heap.size 24 4 r N (rawCells rs)) := by
    show World.ownsRow _ _ _ _ _ _ _
    try rw [List.nil_append] at ho
    rw [HN.out] at ho
    exact ho
  clear hg ho
  go_wp2_with fail
  go_ret
  exact ⟨_, rfl, HO.out, hb⟩
end Go.Proofs.Ytfbekeebllcdbaa

/- A region that draws its order, where two calls are ready at once. -/
import Derived.Test.YtfbekeebllcdbaaRg
namespace Go.Proofs.Ytfbekeebllcdbaa
set_option linter.unusedVariables false
set_option linter.unusedSimpArgs false

/-- Two calls are ready: either may come first. -/
theorem rg_call2 {P : Program} {md : Region.Mode} {ops : Array Oper} {Q : Exit → Act → World → Prop} {S : World → Prop} {o1 o2 : Oper} {fuel : Nat} {listed l1 l2 : Array Bool} {a : Act} {w : World} (i1 d1 f1 : Nat) (vals1 : Array Value) (i2 d2 f2 : Nat) (vals2 : Array Value) (hi1 : ops[i1]? = some o1) (hd1 : o1.dst = some d1) (hi2 : ops[i2]? = some o2) (hd2 : o2.dst = some d2)
    (hr : Region.ready md ops listed = [i1, i2]) (hwt1 : Region.wanted o1 (yielded ops a.tmps) = true) (hwt2 : Region.wanted o2 (yielded ops a.tmps) = true) (hl1 : listed.setIfInBounds i1 true = l1) (hl2 : listed.setIfInBounds i2 true = l2)
    (hx1 : ∀ w, (execOp a.eval o1).run P w = .ok (.enter f1 vals1) w) (hx2 : ∀ w, (execOp a.eval o2).run P w = .ok (.enter f2 vals2) w)
    (h1 : Calls P f1 vals1 w fun e w' => ∃ v, e = .returned v ∧ S w' ∧ wpAnyH P md ops Q S fuel l1 { a with tmps := a.tmps.setIfInBounds d1 v } w')
    (h2 : Calls P f2 vals2 w fun e w' => ∃ v, e = .returned v ∧ S w' ∧ wpAnyH P md ops Q S fuel l2 { a with tmps := a.tmps.setIfInBounds d2 v } w') : wpAnyH P md ops Q S (fuel + 1) listed a w := by
  subst hl1 hl2
  refine wpAnyH_ready (rs := [i1, i2]) hr (by simp) (AllReadyH.cons hi1 (fun K hK => ?_) (AllReadyH.cons hi2 (fun K hK => ?_) AllReadyH.nil))
  · rw [if_pos hwt1]
    unfold Oper.wp
    rw [hx1]
    refine Calls.mono h1 ?_
    rintro e w' ⟨v, rfl, hS, h'⟩
    refine hK.out _ _ hS (fun _ => ?_)
    rw [hd1]
    exact h'
  · rw [if_pos hwt2]
    unfold Oper.wp
    rw [hx2]
    refine Calls.mono h2 ?_
    rintro e w' ⟨v, rfl, hS, h'⟩
    refine hK.out _ _ hS (fun _ => ?_)
    rw [hd2]
    exact h'
end Go.Proofs.Ytfbekeebllcdbaa

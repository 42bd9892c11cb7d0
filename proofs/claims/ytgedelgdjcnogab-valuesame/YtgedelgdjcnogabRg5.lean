/- A region that draws its order in which two loads and a call of the first's value come ahead of all else: its orders come to one. -/
import Derived.Test.YtgedelgdjcnogabRg3
namespace Go.Proofs.Ytgedelgdjcnogab
set_option linter.unusedVariables false
set_option linter.unusedSimpArgs false

theorem rg_llc {P : Program} {md : Region.Mode} {ops : Array Oper} {Q : Exit → Act → World → Prop} {fuel : Nat} {listed : Array Bool} {a : Act} {w : World} (i1 i4 j d1 d4 dj : Nat) {o1 o4 oj : Oper} (v1 v4 : Value) (f : Nat) (vals : Array Value) (LD : World → Prop)
    (h1 : ops[i1]? = some o1) (h4 : ops[i4]? = some o4) (hj : ops[j]? = some oj) (hd1 : o1.dst = some d1) (hd4 : o4.dst = some d4) (hdj : oj.dst = some dj)
    (hr0 : Region.ready md ops listed = [i1, i4]) (hr1 : Region.ready md ops (listed.setIfInBounds i1 true) = [j, i4]) (hr4 : Region.ready md ops (listed.setIfInBounds i4 true) = [i1])
    (hr14 : Region.ready md ops ((listed.setIfInBounds i1 true).setIfInBounds i4 true) = [j]) (hr1j : Region.ready md ops ((listed.setIfInBounds i1 true).setIfInBounds j true) = [i4])
    (hw1 : ∀ t, Region.wanted o1 t = true) (hw4 : ∀ t, Region.wanted o4 t = true) (hwj : ∀ t, Region.wanted oj t = true) (h14 : i1 ≠ i4) (hj4 : j ≠ i4) (d14 : d1 ≠ d4) (dj4 : dj ≠ d4)
    (hx1 : (execOp a.eval o1).run P w = .ok (.value v1) w) (hx1' : (execOp ({ a with tmps := a.tmps.setIfInBounds d4 v4 } : Act).eval o1).run P w = .ok (.value v1) w)
    (hx4 : (execOp a.eval o4).run P w = .ok (.value v4) w) (hx41 : (execOp ({ a with tmps := a.tmps.setIfInBounds d1 v1 } : Act).eval o4).run P w = .ok (.value v4) w)
    (hx4j : ∀ v W, LD W → (execOp ({ a with tmps := (a.tmps.setIfInBounds d1 v1).setIfInBounds dj v } : Act).eval o4).run P W = .ok (.value v4) W)
    (hxj : ∀ W, (execOp ({ a with tmps := a.tmps.setIfInBounds d1 v1 } : Act).eval oj).run P W = .ok (.enter f vals) W) (hxj' : ∀ W, (execOp ({ a with tmps := (a.tmps.setIfInBounds d1 v1).setIfInBounds d4 v4 } : Act).eval oj).run P W = .ok (.enter f vals) W)
    (h : Calls P f vals w fun e w' => ∃ v, e = .returned v ∧ LD w' ∧ wpAnyH P md ops Q (fun _ => True) fuel (((listed.setIfInBounds i1 true).setIfInBounds i4 true).setIfInBounds j true) { a with tmps := ((a.tmps.setIfInBounds d1 v1).setIfInBounds d4 v4).setIfInBounds dj v } w') :
    wpAnyH P md ops Q (fun _ => True) (fuel + 3) listed a w := by
  have main : wpAnyH P md ops Q (fun _ => True) (fuel + 1) ((listed.setIfInBounds i1 true).setIfInBounds i4 true) { a with tmps := (a.tmps.setIfInBounds d1 v1).setIfInBounds d4 v4 } w := by
    refine rg_call j dj f vals hj hdj hr14 (hwj _) rfl (fun W => hxj' W) ?_
    refine h.mono ?_
    rintro e w' ⟨v, rfl, _, h3⟩
    exact ⟨v, rfl, trivial, h3⟩
  refine wpAnyH_ready (rs := [i1, i4]) hr0 (by simp) (AllReadyH.cons h1 (fun K hK => ?_) (AllReadyH.cons h4 (fun K hK => ?_) AllReadyH.nil))
  · rw [if_pos (hw1 _)]
    unfold Oper.wp
    rw [hx1]
    refine hK.out _ _ trivial (fun _ => ?_)
    rw [hd1]
    refine wpAnyH_ready (rs := [j, i4]) hr1 (by simp) (AllReadyH.cons hj (fun K hK => ?_) (AllReadyH.cons h4 (fun K hK => ?_) AllReadyH.nil))
    · rw [if_pos (hwj _)]
      unfold Oper.wp
      have hh : (execOp (Act.put a (some d1) v1).eval oj).run P w = .ok (.enter f vals) w := hxj w
      rw [hh]
      refine Calls.mono h ?_
      rintro e w' ⟨v, rfl, l1, h3⟩
      refine hK.out _ _ trivial (fun _ => ?_)
      rw [hdj]
      refine rg_run i4 d4 v4 w' h4 hd4 hr1j (hw4 _) rfl ?_ trivial ?_
      · exact hx4j v w' l1
      · rw [set_comm2 _ hj4]
        show wpAnyH P md ops Q _ _ _ ({ a with tmps := ((a.tmps.setIfInBounds d1 v1).setIfInBounds dj v).setIfInBounds d4 v4 } : Act) w'
        rw [set_comm2 _ dj4]
        exact h3
    · rw [if_pos (hw4 _)]
      unfold Oper.wp
      have hh : (execOp (Act.put a (some d1) v1).eval o4).run P w = .ok (.value v4) w := hx41
      rw [hh]
      refine hK.out _ _ trivial (fun _ => ?_)
      rw [hd4]
      exact main
  · rw [if_pos (hw4 _)]
    unfold Oper.wp
    rw [hx4]
    refine hK.out _ _ trivial (fun _ => ?_)
    rw [hd4]
    refine rg_run i1 d1 v1 w h1 hd1 hr4 (hw1 _) rfl ?_ trivial ?_
    · exact hx1'
    · rw [set_comm2 listed (Ne.symm h14)]
      show wpAnyH P md ops Q _ _ _ ({ a with tmps := (a.tmps.setIfInBounds d4 v4).setIfInBounds d1 v1 } : Act) w
      rw [set_comm2 a.tmps (Ne.symm d14)]
      exact main
end Go.Proofs.Ytgedelgdjcnogab

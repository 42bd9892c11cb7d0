/- A region that draws its order: a call and a new block are ready. -/
import Derived.Test.YtgedelgdjcnogabRg8
namespace Go.Proofs.Ytgedelgdjcnogab
set_option linter.unusedVariables false
set_option linter.unusedSimpArgs false
section
variable {P : Program} {md : Region.Mode} {ops : Array Oper} {Q : Exit → Act → World → Prop} {T : World → Prop} {m : Nat}
/-- A call and a new block are ready: each may come first. -/
theorem M_fork {o1 o2 : Oper} {fuel : Nat} {listed : Array Bool} {a : Act} {w : World} (i j d1 d2 f : Nat) (vals : Array Value) (v2 : Value) (w2 : World) (h1 : ops[i]? = some o1) (h2 : ops[j]? = some o2) (hd1 : o1.dst = some d1) (hd2 : o2.dst = some d2)
    (hr : Region.ready md ops listed = [i, j]) (hw1 : Region.wanted o1 (yielded ops a.tmps) = true) (hw2 : Region.wanted o2 (yielded ops a.tmps) = true)
    (hx1 : (execOp a.eval o1).run P w = .ok (.enter f vals) w) (hx2 : (execOp a.eval o2).run P w = .ok (.value v2) w2)
    (hA : Calls P f vals w fun e w' => ∃ v, e = .returned v ∧ T w' ∧ wpAnyM P md ops Q T m fuel (listed.setIfInBounds i true) { a with tmps := a.tmps.setIfInBounds d1 v } w')
    (hT : T w2) (hB : wpAnyM P md ops Q T m fuel (listed.setIfInBounds j true) { a with tmps := a.tmps.setIfInBounds d2 v2 } w2) : wpAnyM P md ops Q T m (fuel + 1) listed a w := by
  refine ⟨fun h0 => (by rw [hr] at h0; cases h0), fun k hk => ?_⟩
  rw [hr] at hk
  simp only [List.mem_cons, List.not_mem_nil, or_false] at hk
  rcases hk with rfl | rfl
  · unfold wpOp
    simp only [h1]
    rw [if_pos hw1]
    refine .inl ?_
    unfold Oper.wp
    rw [hx1]
    refine Calls.mono hA ?_
    rintro e w' ⟨v, rfl, hT', h'⟩
    rw [hd1]
    exact ⟨fun _ => hT', h'⟩
  · unfold wpOp
    simp only [h2]
    rw [if_pos hw2]
    refine .inl ?_
    unfold Oper.wp
    rw [hx2, Oper.upon_value, hd2]
    exact ⟨fun _ => hT, hB⟩
end
end Go.Proofs.Ytgedelgdjcnogab

/- A region that draws its order in which a load, a call and a new block come before an append: all its orders come to one. -/
import Derived.Test.YtgedelgdjcnogabRg
namespace Go.Proofs.Ytgedelgdjcnogab
set_option linter.unusedVariables false
set_option linter.unusedSimpArgs false

theorem set_comm2 {α : Type} (a : Array α) {i j : Nat} (h : i ≠ j) (x y : α) : (a.setIfInBounds i x).setIfInBounds j y = (a.setIfInBounds j y).setIfInBounds i x := by
  apply Array.ext_getElem?
  intro k
  simp only [Array.getElem?_setIfInBounds, Array.size_setIfInBounds]
  by_cases h1 : i = k
  · subst h1
    by_cases h2 : j = i
    · exact absurd h2.symm h
    · simp [h2]
  · by_cases h2 : j = k <;> simp [h1, h2]

theorem rg_lcb {P : Program} {md : Region.Mode} {ops : Array Oper} {Q : Exit → Act → World → Prop} {fuel : Nat} {listed : Array Bool} {a : Act} {w : World} (i j k di dj dk : Nat) {oi oj ok : Oper} (vi : Value) (f : Nat) (vals : Array Value) (LD : World → Prop)
    (hi : ops[i]? = some oi) (hj : ops[j]? = some oj) (hk : ops[k]? = some ok) (hdi : oi.dst = some di) (hdj : oj.dst = some dj) (hdk : ok.dst = some dk)
    (hr0 : Region.ready md ops listed = [i, j]) (hri : Region.ready md ops (listed.setIfInBounds i true) = [j]) (hrj : Region.ready md ops (listed.setIfInBounds j true) = [i, k])
    (hrij : Region.ready md ops ((listed.setIfInBounds i true).setIfInBounds j true) = [k]) (hrjk : Region.ready md ops ((listed.setIfInBounds j true).setIfInBounds k true) = [i])
    (hwi : ∀ t, Region.wanted oi t = true) (hwj : ∀ t, Region.wanted oj t = true) (hwk : ∀ t, Region.wanted ok t = true) (hij : i ≠ j) (hik : i ≠ k) (dij : di ≠ dj) (dik : di ≠ dk)
    (hx0 : (execOp a.eval oi).run P w = .ok (.value vi) w) (hx1 : ∀ v W, LD W → (execOp ({ a with tmps := a.tmps.setIfInBounds dj v } : Act).eval oi).run P W = .ok (.value vi) W)
    (hx2 : ∀ v s W, LD W → (execOp ({ a with tmps := (a.tmps.setIfInBounds dj v).setIfInBounds dk s } : Act).eval oi).run P W = .ok (.value vi) W)
    (hxj0 : (execOp a.eval oj).run P w = .ok (.enter f vals) w) (hxj1 : ∀ W, (execOp ({ a with tmps := a.tmps.setIfInBounds di vi } : Act).eval oj).run P W = .ok (.enter f vals) W)
    (h : Calls P f vals w fun e w' => ∃ v, e = .returned v ∧ LD w' ∧ ∃ s w'', LD w'' ∧ (execOp ({ a with tmps := a.tmps.setIfInBounds dj v } : Act).eval ok).run P w' = .ok (.value s) w'' ∧
      (execOp ({ a with tmps := (a.tmps.setIfInBounds di vi).setIfInBounds dj v } : Act).eval ok).run P w' = .ok (.value s) w'' ∧
      wpAnyH P md ops Q (fun _ => True) fuel (((listed.setIfInBounds i true).setIfInBounds j true).setIfInBounds k true) { a with tmps := ((a.tmps.setIfInBounds di vi).setIfInBounds dj v).setIfInBounds dk s } w'') :
    wpAnyH P md ops Q (fun _ => True) (fuel + 3) listed a w := by
  refine wpAnyH_ready (rs := [i, j]) hr0 (by simp) (AllReadyH.cons hi (fun K hK => ?_) (AllReadyH.cons hj (fun K hK => ?_) AllReadyH.nil))
  · rw [if_pos (hwi _)]
    unfold Oper.wp
    rw [hx0]
    refine hK.out _ _ trivial (fun _ => ?_)
    rw [hdi]
    refine rg_call j dj f vals hj hdj hri (hwj _) rfl (fun W => ?_) ?_
    · exact hxj1 W
    · refine h.mono ?_
      rintro e w' ⟨v, rfl, l1, s, w'', l2, b1, b2, h3⟩
      refine ⟨v, rfl, trivial, ?_⟩
      exact rg_run k dk s w'' hk hdk hrij (hwk _) rfl b2 trivial h3
  · rw [if_pos (hwj _)]
    unfold Oper.wp
    rw [hxj0]
    refine Calls.mono h ?_
    rintro e w' ⟨v, rfl, l1, s, w'', l2, b1, b2, h3⟩
    refine hK.out _ _ trivial (fun _ => ?_)
    rw [hdj]
    refine wpAnyH_ready (rs := [i, k]) hrj (by simp) (AllReadyH.cons hi (fun K hK => ?_) (AllReadyH.cons hk (fun K hK => ?_) AllReadyH.nil))
    · rw [if_pos (hwi _)]
      unfold Oper.wp
      have hh : (execOp (Act.put a (some dj) v).eval oi).run P w' = .ok (.value vi) w' := hx1 v w' l1
      rw [hh]
      refine hK.out _ _ trivial (fun _ => ?_)
      rw [hdi, set_comm2 listed (Ne.symm hij)]
      show wpAnyH P md ops Q _ _ _ ({ a with tmps := (a.tmps.setIfInBounds dj v).setIfInBounds di vi } : Act) w'
      rw [set_comm2 a.tmps (Ne.symm dij)]
      exact rg_run k dk s w'' hk hdk hrij (hwk _) rfl b2 trivial h3
    · rw [if_pos (hwk _)]
      unfold Oper.wp
      have hh : (execOp (Act.put a (some dj) v).eval ok).run P w' = .ok (.value s) w'' := b1
      rw [hh]
      refine hK.out _ _ trivial (fun _ => ?_)
      rw [hdk]
      refine rg_run i di vi w'' hi hdi hrjk (hwi _) rfl (hx2 v s w'' l2) trivial ?_
      rw [set_comm2 _ (Ne.symm hik), set_comm2 listed (Ne.symm hij)]
      show wpAnyH P md ops Q _ _ _ ({ a with tmps := ((a.tmps.setIfInBounds dj v).setIfInBounds dk s).setIfInBounds di vi } : Act) w''
      rw [set_comm2 _ (Ne.symm dik), set_comm2 a.tmps (Ne.symm dij)]
      exact h3
/-- One operation alone is ready, and is carried out: a store. -/
theorem rg_store {P : Program} {md : Region.Mode} {ops : Array Oper} {Q : Exit → Act → World → Prop} {S : World → Prop} {oi : Oper} {fuel : Nat} {listed listed' : Array Bool} {a : Act} {w : World} (i : Nat) (w' : World) (hi : ops[i]? = some oi) (hd : oi.dst = none)
    (hr : Region.ready md ops listed = [i]) (hwt : Region.wanted oi (yielded ops a.tmps) = true) (hl : listed.setIfInBounds i true = listed') (hx : (execOp a.eval oi).run P w = .ok .skip w') (hS : S w')
    (h : wpAnyH P md ops Q S fuel listed' a w') : wpAnyH P md ops Q S (fuel + 1) listed a w := by
  subst hl
  refine wpAnyH_ready (rs := [i]) hr (by simp) (AllReadyH.cons hi (fun K hK => ?_) AllReadyH.nil)
  rw [if_pos hwt]
  unfold Oper.wp
  rw [hx]
  refine hK.out _ _ hS (fun _ => ?_)
  rw [hd]
  exact h
/-- A call and another operation are ready: each may come first. -/
theorem rg_pair {P : Program} {md : Region.Mode} {ops : Array Oper} {Q : Exit → Act → World → Prop} {fuel : Nat} {listed : Array Bool} {a : Act} {w : World} (i j di dj f : Nat) (vals : Array Value) {oi oj : Oper} (v : Value) (w1 : World)
    (hi : ops[i]? = some oi) (hj : ops[j]? = some oj) (hdi : oi.dst = some di) (hdj : oj.dst = some dj) (hr : Region.ready md ops listed = [i, j]) (hwi : ∀ t, Region.wanted oi t = true) (hwj : ∀ t, Region.wanted oj t = true)
    (hxi : (execOp a.eval oi).run P w = .ok (.enter f vals) w) (hxj : (execOp a.eval oj).run P w = .ok (.value v) w1)
    (h1 : Calls P f vals w fun e w' => ∃ u, e = .returned u ∧ wpAnyH P md ops Q (fun _ => True) fuel (listed.setIfInBounds i true) { a with tmps := a.tmps.setIfInBounds di u } w')
    (h2 : wpAnyH P md ops Q (fun _ => True) fuel (listed.setIfInBounds j true) { a with tmps := a.tmps.setIfInBounds dj v } w1) : wpAnyH P md ops Q (fun _ => True) (fuel + 1) listed a w := by
  refine wpAnyH_ready (rs := [i, j]) hr (by simp) (AllReadyH.cons hi (fun K hK => ?_) (AllReadyH.cons hj (fun K hK => ?_) AllReadyH.nil))
  · rw [if_pos (hwi _)]
    unfold Oper.wp
    rw [hxi]
    refine Calls.mono h1 ?_
    rintro e w' ⟨u, rfl, h⟩
    refine hK.out _ _ trivial (fun _ => ?_)
    rw [hdi]
    exact h
  · rw [if_pos (hwj _)]
    unfold Oper.wp
    rw [hxj]
    refine hK.out _ _ trivial (fun _ => ?_)
    rw [hdj]
    exact h2
end Go.Proofs.Ytgedelgdjcnogab

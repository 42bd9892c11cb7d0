/- A region that draws its order, walked by hand: operations taken first under a condition on the world that may be made stronger on the way. -/
import Derived.OrdersHeld
import Derived.Deep.RegionHeld3
import Derived.WalkKit
import Derived.Test.YtfnjbbaphmmjlaaPkC
namespace Go.Proofs.Ytfnjbbaphmmjlaa
set_option linter.unusedVariables false
set_option linter.unusedSimpArgs false

theorem rg_weaken {P : Program} {md : Region.Mode} {ops : Array Oper} {Q : Exit → Act → World → Prop} {S S' : World → Prop} (hS : ∀ w, S' w → S w) :
    ∀ (fuel : Nat) (listed : Array Bool) (a : Act) (w : World), wpAnyH P md ops Q S' fuel listed a w → wpAnyH P md ops Q S fuel listed a w
  | 0, _, _, _, h => h
  | fuel + 1, _, _, _, h => ⟨h.1, fun i hi => wpOp_mono (fun a' w' h' => ⟨hS _ h'.1, rg_weaken hS fuel _ a' w' h'.2⟩) (h.2 i hi)⟩

theorem rg_take {P : Program} {md : Region.Mode} {ops : Array Oper} {Q : Exit → Act → World → Prop} {S : World → Prop} {oi : Oper} {fuel : Nat} {listed listed' : Array Bool} {a : Act} {w : World} (i d : Nat) (v : Value) (tmps' : Array Value) (hi : ops[i]? = some oi) (hd : oi.dst = some d)
    (hs : Region.noSelect ops = true) (hf : Region.free md ops listed i = true) (hr : (Region.ready md ops listed).contains i = true)
    (hQ : ∀ c a w, Q (.panic c) (a.put oi.dst v) w → Q (.panic c) a w) (hwt : Region.wanted oi (yielded ops a.tmps) = true) (hy : ∀ w, S w → (execOp a.eval oi).run P w = .ok (.value v) w) (hS : S w)
    (hl : listed.setIfInBounds i true = listed') (ht : a.tmps.setIfInBounds d v = tmps')
    (h : wpAnyH P md ops Q S fuel listed' { a with tmps := tmps' } w) : wpAnyH P md ops Q S (fuel + 1) listed a w := by
  subst hl ht
  refine wpAnyH_take hi hs hf hr hQ (.inl ⟨hwt, hy⟩) hS ?_
  rw [hd]
  exact h

theorem rg_call {P : Program} {md : Region.Mode} {ops : Array Oper} {Q : Exit → Act → World → Prop} {S : World → Prop} {oi : Oper} {fuel : Nat} {listed listed' : Array Bool} {a : Act} {w : World} (i d f : Nat) (vals : Array Value) (hi : ops[i]? = some oi) (hd : oi.dst = some d)
    (hr : Region.ready md ops listed = [i]) (hwt : Region.wanted oi (yielded ops a.tmps) = true) (hl : listed.setIfInBounds i true = listed') (hx : ∀ w, (execOp a.eval oi).run P w = .ok (.enter f vals) w)
    (h : Calls P f vals w fun e w' => ∃ v, e = .returned v ∧ S w' ∧ wpAnyH P md ops Q S fuel listed' { a with tmps := a.tmps.setIfInBounds d v } w') : wpAnyH P md ops Q S (fuel + 1) listed a w := by
  subst hl
  refine wpAnyH_ready (rs := [i]) hr (by simp) (AllReadyH.cons hi (fun K hK => ?_) AllReadyH.nil)
  rw [if_pos hwt]
  unfold Oper.wp
  rw [hx]
  refine Calls.mono h ?_
  rintro e w' ⟨v, rfl, hS, h'⟩
  refine hK.out _ _ hS (fun _ => ?_)
  rw [hd]
  exact h'

/-- One operation alone is ready, and is carried out: it may turn the world. -/
theorem rg_run {P : Program} {md : Region.Mode} {ops : Array Oper} {Q : Exit → Act → World → Prop} {S : World → Prop} {oi : Oper} {fuel : Nat} {listed listed' : Array Bool} {a : Act} {w : World} (i d : Nat) (v : Value) (w' : World) (hi : ops[i]? = some oi) (hd : oi.dst = some d)
    (hr : Region.ready md ops listed = [i]) (hwt : Region.wanted oi (yielded ops a.tmps) = true) (hl : listed.setIfInBounds i true = listed') (hx : (execOp a.eval oi).run P w = .ok (.value v) w') (hS : S w')
    (h : wpAnyH P md ops Q S fuel listed' { a with tmps := a.tmps.setIfInBounds d v } w') : wpAnyH P md ops Q S (fuel + 1) listed a w := by
  subst hl
  refine wpAnyH_ready (rs := [i]) hr (by simp) (AllReadyH.cons hi (fun K hK => ?_) AllReadyH.nil)
  rw [if_pos hwt]
  unfold Oper.wp
  rw [hx]
  refine hK.out _ _ hS (fun _ => ?_)
  rw [hd]
  exact h

/-- What an append does, as the operation of a region. -/
theorem append_run {P : Program} {a : Act} {w w' : World} {o : Oper} {s x : Operand} {t u : TypeId} {v y v' : Value} (ho : o.op = .call { callee := .builtin .append, args := #[s, x], argTypes := #[t, u] }) (hs : a.eval s = v) (hx : a.eval x = y)
    (hr : (Builtin.append_ #[t, u] o.type #[v, y]).run P w = .ok v' w') : (execOp a.eval o).run P w = .ok (.value v') w' := by
  unfold execOp
  simp only [ho, resolve, invoke, builtin, Sem.run_bind, Sem.run_pure, Result.andThen_ok, List.map_toArray, List.map_cons, List.map_nil, hs, hx, hr]
end Go.Proofs.Ytfnjbbaphmmjlaa

/- A region that draws its order in which a load, a call and a new block come before an append: all its orders come to one. -/
namespace Go.Proofs.Ytfnjbbaphmmjlaa
set_option linter.unusedVariables false
set_option linter.unusedSimpArgs false

theorem set_comm2 {α : Type} (a : Array α) {i j : Nat} (h : i ≠ j) (x y : α) : (a.setIfInBounds i x).setIfInBounds j y = (a.setIfInBounds j y).setIfInBounds i x := by
  apply Array.ext_getElem?
  intro k
  simp only [Array.getElem?_setIfInBounds, Array.size_setIfInBounds]
  by_cases h1 : i = k
  · subst h1
    by_cases h2 : j = i
    · exact absurd h2.symm h
    · simp [h2]
  · by_cases h2 : j = k <;> simp [h1, h2]

theorem rg_lcb {P : Program} {md : Region.Mode} {ops : Array Oper} {Q : Exit → Act → World → Prop} {fuel : Nat} {listed : Array Bool} {a : Act} {w : World} (i j k di dj dk : Nat) {oi oj ok : Oper} (vi : Value) (f : Nat) (vals : Array Value) (LD : World → Prop)
    (hi : ops[i]? = some oi) (hj : ops[j]? = some oj) (hk : ops[k]? = some ok) (hdi : oi.dst = some di) (hdj : oj.dst = some dj) (hdk : ok.dst = some dk)
    (hr0 : Region.ready md ops listed = [i, j]) (hri : Region.ready md ops (listed.setIfInBounds i true) = [j]) (hrj : Region.ready md ops (listed.setIfInBounds j true) = [i, k])
    (hrij : Region.ready md ops ((listed.setIfInBounds i true).setIfInBounds j true) = [k]) (hrjk : Region.ready md ops ((listed.setIfInBounds j true).setIfInBounds k true) = [i])
    (hwi : ∀ t, Region.wanted oi t = true) (hwj : ∀ t, Region.wanted oj t = true) (hwk : ∀ t, Region.wanted ok t = true) (hij : i ≠ j) (hik : i ≠ k) (dij : di ≠ dj) (dik : di ≠ dk)
    (hx0 : (execOp a.eval oi).run P w = .ok (.value vi) w) (hx1 : ∀ v W, LD W → (execOp ({ a with tmps := a.tmps.setIfInBounds dj v } : Act).eval oi).run P W = .ok (.value vi) W)
    (hx2 : ∀ v s W, LD W → (execOp ({ a with tmps := (a.tmps.setIfInBounds dj v).setIfInBounds dk s } : Act).eval oi).run P W = .ok (.value vi) W)
    (hxj0 : (execOp a.eval oj).run P w = .ok (.enter f vals) w) (hxj1 : ∀ W, (execOp ({ a with tmps := a.tmps.setIfInBounds di vi } : Act).eval oj).run P W = .ok (.enter f vals) W)
    (h : Calls P f vals w fun e w' => ∃ v, e = .returned v ∧ LD w' ∧ ∃ s w'', LD w'' ∧ (execOp ({ a with tmps := a.tmps.setIfInBounds dj v } : Act).eval ok).run P w' = .ok (.value s) w'' ∧
      (execOp ({ a with tmps := (a.tmps.setIfInBounds di vi).setIfInBounds dj v } : Act).eval ok).run P w' = .ok (.value s) w'' ∧
      wpAnyH P md ops Q (fun _ => True) fuel (((listed.setIfInBounds i true).setIfInBounds j true).setIfInBounds k true) { a with tmps := ((a.tmps.setIfInBounds di vi).setIfInBounds dj v).setIfInBounds dk s } w'') :
    wpAnyH P md ops Q (fun _ => True) (fuel + 3) listed a w := by
  refine wpAnyH_ready (rs := [i, j]) hr0 (by simp) (AllReadyH.cons hi (fun K hK => ?_) (AllReadyH.cons hj (fun K hK => ?_) AllReadyH.nil))
  · rw [if_pos (hwi _)]
    unfold Oper.wp
    rw [hx0]
    refine hK.out _ _ trivial (fun _ => ?_)
    rw [hdi]
    refine rg_call j dj f vals hj hdj hri (hwj _) rfl (fun W => ?_) ?_
    · exact hxj1 W
    · refine h.mono ?_
      rintro e w' ⟨v, rfl, l1, s, w'', l2, b1, b2, h3⟩
      refine ⟨v, rfl, trivial, ?_⟩
      exact rg_run k dk s w'' hk hdk hrij (hwk _) rfl b2 trivial h3
  · rw [if_pos (hwj _)]
    unfold Oper.wp
    rw [hxj0]
    refine Calls.mono h ?_
    rintro e w' ⟨v, rfl, l1, s, w'', l2, b1, b2, h3⟩
    refine hK.out _ _ trivial (fun _ => ?_)
    rw [hdj]
    refine wpAnyH_ready (rs := [i, k]) hrj (by simp) (AllReadyH.cons hi (fun K hK => ?_) (AllReadyH.cons hk (fun K hK => ?_) AllReadyH.nil))
    · rw [if_pos (hwi _)]
      unfold Oper.wp
      have hh : (execOp (Act.put a (some dj) v).eval oi).run P w' = .ok (.value vi) w' := hx1 v w' l1
      rw [hh]
      refine hK.out _ _ trivial (fun _ => ?_)
      rw [hdi, set_comm2 listed (Ne.symm hij)]
      show wpAnyH P md ops Q _ _ _ ({ a with tmps := (a.tmps.setIfInBounds dj v).setIfInBounds di vi } : Act) w'
      rw [set_comm2 a.tmps (Ne.symm dij)]
      exact rg_run k dk s w'' hk hdk hrij (hwk _) rfl b2 trivial h3
    · rw [if_pos (hwk _)]
      unfold Oper.wp
      have hh : (execOp (Act.put a (some dj) v).eval ok).run P w' = .ok (.value s) w'' := b1
      rw [hh]
      refine hK.out _ _ trivial (fun _ => ?_)
      rw [hdk]
      refine rg_run i di vi w'' hi hdi hrjk (hwi _) rfl (hx2 v s w'' l2) trivial ?_
      rw [set_comm2 _ (Ne.symm hik), set_comm2 listed (Ne.symm hij)]
      show wpAnyH P md ops Q _ _ _ ({ a with tmps := ((a.tmps.setIfInBounds dj v).setIfInBounds dk s).setIfInBounds di vi } : Act) w''
      rw [set_comm2 _ (Ne.symm dik), set_comm2 a.tmps (Ne.symm dij)]
      exact h3
/-- One operation alone is ready, and is carried out: a store. -/
theorem rg_store {P : Program} {md : Region.Mode} {ops : Array Oper} {Q : Exit → Act → World → Prop} {S : World → Prop} {oi : Oper} {fuel : Nat} {listed listed' : Array Bool} {a : Act} {w : World} (i : Nat) (w' : World) (hi : ops[i]? = some oi) (hd : oi.dst = none)
    (hr : Region.ready md ops listed = [i]) (hwt : Region.wanted oi (yielded ops a.tmps) = true) (hl : listed.setIfInBounds i true = listed') (hx : (execOp a.eval oi).run P w = .ok .skip w') (hS : S w')
    (h : wpAnyH P md ops Q S fuel listed' a w') : wpAnyH P md ops Q S (fuel + 1) listed a w := by
  subst hl
  refine wpAnyH_ready (rs := [i]) hr (by simp) (AllReadyH.cons hi (fun K hK => ?_) AllReadyH.nil)
  rw [if_pos hwt]
  unfold Oper.wp
  rw [hx]
  refine hK.out _ _ hS (fun _ => ?_)
  rw [hd]
  exact h
/-- A call and another operation are ready: each may come first. -/
theorem rg_pair {P : Program} {md : Region.Mode} {ops : Array Oper} {Q : Exit → Act → World → Prop} {fuel : Nat} {listed : Array Bool} {a : Act} {w : World} (i j di dj f : Nat) (vals : Array Value) {oi oj : Oper} (v : Value) (w1 : World)
    (hi : ops[i]? = some oi) (hj : ops[j]? = some oj) (hdi : oi.dst = some di) (hdj : oj.dst = some dj) (hr : Region.ready md ops listed = [i, j]) (hwi : ∀ t, Region.wanted oi t = true) (hwj : ∀ t, Region.wanted oj t = true)
    (hxi : (execOp a.eval oi).run P w = .ok (.enter f vals) w) (hxj : (execOp a.eval oj).run P w = .ok (.value v) w1)
    (h1 : Calls P f vals w fun e w' => ∃ u, e = .returned u ∧ wpAnyH P md ops Q (fun _ => True) fuel (listed.setIfInBounds i true) { a with tmps := a.tmps.setIfInBounds di u } w')
    (h2 : wpAnyH P md ops Q (fun _ => True) fuel (listed.setIfInBounds j true) { a with tmps := a.tmps.setIfInBounds dj v } w1) : wpAnyH P md ops Q (fun _ => True) (fuel + 1) listed a w := by
  refine wpAnyH_ready (rs := [i, j]) hr (by simp) (AllReadyH.cons hi (fun K hK => ?_) (AllReadyH.cons hj (fun K hK => ?_) AllReadyH.nil))
  · rw [if_pos (hwi _)]
    unfold Oper.wp
    rw [hxi]
    refine Calls.mono h1 ?_
    rintro e w' ⟨u, rfl, h⟩
    refine hK.out _ _ trivial (fun _ => ?_)
    rw [hdi]
    exact h
  · rw [if_pos (hwj _)]
    unfold Oper.wp
    rw [hxj]
    refine hK.out _ _ trivial (fun _ => ?_)
    rw [hdj]
    exact h2
end Go.Proofs.Ytfnjbbaphmmjlaa

/- A region that draws its order in which two loads and a call of the first's value come ahead of all else: its orders come to one. -/
namespace Go.Proofs.Ytfnjbbaphmmjlaa
set_option linter.unusedVariables false
set_option linter.unusedSimpArgs false

theorem rg_llc {P : Program} {md : Region.Mode} {ops : Array Oper} {Q : Exit → Act → World → Prop} {fuel : Nat} {listed : Array Bool} {a : Act} {w : World} (i1 i4 j d1 d4 dj : Nat) {o1 o4 oj : Oper} (v1 v4 : Value) (f : Nat) (vals : Array Value) (LD : World → Prop)
    (h1 : ops[i1]? = some o1) (h4 : ops[i4]? = some o4) (hj : ops[j]? = some oj) (hd1 : o1.dst = some d1) (hd4 : o4.dst = some d4) (hdj : oj.dst = some dj)
    (hr0 : Region.ready md ops listed = [i1, i4]) (hr1 : Region.ready md ops (listed.setIfInBounds i1 true) = [j, i4]) (hr4 : Region.ready md ops (listed.setIfInBounds i4 true) = [i1])
    (hr14 : Region.ready md ops ((listed.setIfInBounds i1 true).setIfInBounds i4 true) = [j]) (hr1j : Region.ready md ops ((listed.setIfInBounds i1 true).setIfInBounds j true) = [i4])
    (hw1 : ∀ t, Region.wanted o1 t = true) (hw4 : ∀ t, Region.wanted o4 t = true) (hwj : ∀ t, Region.wanted oj t = true) (h14 : i1 ≠ i4) (hj4 : j ≠ i4) (d14 : d1 ≠ d4) (dj4 : dj ≠ d4)
    (hx1 : (execOp a.eval o1).run P w = .ok (.value v1) w) (hx1' : (execOp ({ a with tmps := a.tmps.setIfInBounds d4 v4 } : Act).eval o1).run P w = .ok (.value v1) w)
    (hx4 : (execOp a.eval o4).run P w = .ok (.value v4) w) (hx41 : (execOp ({ a with tmps := a.tmps.setIfInBounds d1 v1 } : Act).eval o4).run P w = .ok (.value v4) w)
    (hx4j : ∀ v W, LD W → (execOp ({ a with tmps := (a.tmps.setIfInBounds d1 v1).setIfInBounds dj v } : Act).eval o4).run P W = .ok (.value v4) W)
    (hxj : ∀ W, (execOp ({ a with tmps := a.tmps.setIfInBounds d1 v1 } : Act).eval oj).run P W = .ok (.enter f vals) W) (hxj' : ∀ W, (execOp ({ a with tmps := (a.tmps.setIfInBounds d1 v1).setIfInBounds d4 v4 } : Act).eval oj).run P W = .ok (.enter f vals) W)
    (h : Calls P f vals w fun e w' => ∃ v, e = .returned v ∧ LD w' ∧ wpAnyH P md ops Q (fun _ => True) fuel (((listed.setIfInBounds i1 true).setIfInBounds i4 true).setIfInBounds j true) { a with tmps := ((a.tmps.setIfInBounds d1 v1).setIfInBounds d4 v4).setIfInBounds dj v } w') :
    wpAnyH P md ops Q (fun _ => True) (fuel + 3) listed a w := by
  have main : wpAnyH P md ops Q (fun _ => True) (fuel + 1) ((listed.setIfInBounds i1 true).setIfInBounds i4 true) { a with tmps := (a.tmps.setIfInBounds d1 v1).setIfInBounds d4 v4 } w := by
    refine rg_call j dj f vals hj hdj hr14 (hwj _) rfl (fun W => hxj' W) ?_
    refine h.mono ?_
    rintro e w' ⟨v, rfl, _, h3⟩
    exact ⟨v, rfl, trivial, h3⟩
  refine wpAnyH_ready (rs := [i1, i4]) hr0 (by simp) (AllReadyH.cons h1 (fun K hK => ?_) (AllReadyH.cons h4 (fun K hK => ?_) AllReadyH.nil))
  · rw [if_pos (hw1 _)]
    unfold Oper.wp
    rw [hx1]
    refine hK.out _ _ trivial (fun _ => ?_)
    rw [hd1]
    refine wpAnyH_ready (rs := [j, i4]) hr1 (by simp) (AllReadyH.cons hj (fun K hK => ?_) (AllReadyH.cons h4 (fun K hK => ?_) AllReadyH.nil))
    · rw [if_pos (hwj _)]
      unfold Oper.wp
      have hh : (execOp (Act.put a (some d1) v1).eval oj).run P w = .ok (.enter f vals) w := hxj w
      rw [hh]
      refine Calls.mono h ?_
      rintro e w' ⟨v, rfl, l1, h3⟩
      refine hK.out _ _ trivial (fun _ => ?_)
      rw [hdj]
      refine rg_run i4 d4 v4 w' h4 hd4 hr1j (hw4 _) rfl ?_ trivial ?_
      · exact hx4j v w' l1
      · rw [set_comm2 _ hj4]
        show wpAnyH P md ops Q _ _ _ ({ a with tmps := ((a.tmps.setIfInBounds d1 v1).setIfInBounds dj v).setIfInBounds d4 v4 } : Act) w'
        rw [set_comm2 _ dj4]
        exact h3
    · rw [if_pos (hw4 _)]
      unfold Oper.wp
      have hh : (execOp (Act.put a (some d1) v1).eval o4).run P w = .ok (.value v4) w := hx41
      rw [hh]
      refine hK.out _ _ trivial (fun _ => ?_)
      rw [hd4]
      exact main
  · rw [if_pos (hw4 _)]
    unfold Oper.wp
    rw [hx4]
    refine hK.out _ _ trivial (fun _ => ?_)
    rw [hd4]
    refine rg_run i1 d1 v1 w h1 hd1 hr4 (hw1 _) rfl ?_ trivial ?_
    · exact hx1'
    · rw [set_comm2 listed (Ne.symm h14)]
      show wpAnyH P md ops Q _ _ _ ({ a with tmps := (a.tmps.setIfInBounds d4 v4).setIfInBounds d1 v1 } : Act) w
      rw [set_comm2 a.tmps (Ne.symm d14)]
      exact main
end Go.Proofs.Ytfnjbbaphmmjlaa

/- A region that draws its order, walked by hand: a load may be taken first, though its cell is written in the region, if the writing operation waits for it: what the load leans on need hold only till then. -/
namespace Go.Proofs.Ytfnjbbaphmmjlaa
set_option linter.unusedVariables false
set_option linter.unusedSimpArgs false

/-- Whatever order is picked from here on; T holds behind every operation as long as number m has not come up. -/
def wpAnyM (P : Program) (md : Region.Mode) (ops : Array Oper) (Q : Exit → Act → World → Prop) (T : World → Prop) (m : Nat) : Nat → Array Bool → Act → World → Prop
  | 0, listed, a, w => Region.ready md ops listed = [] ∧ Q .normal a w
  | fuel + 1, listed, a, w => (Region.ready md ops listed = [] → Q .normal a w) ∧
    ∀ i ∈ Region.ready md ops listed, wpOp P ops Q i (fun a' w' => ((listed.setIfInBounds i true).getD m true = false → T w') ∧ wpAnyM P md ops Q T m fuel (listed.setIfInBounds i true) a' w') a w
section
variable {P : Program} {md : Region.Mode} {ops : Array Oper} {Q : Exit → Act → World → Prop} {T : World → Prop} {m : Nat}
theorem M_any : ∀ (fuel : Nat) (listed : Array Bool) (a : Act) (w : World), wpAnyM P md ops Q T m fuel listed a w → wpAny P md ops Q fuel listed a w
  | 0, _, _, _, h => h
  | fuel + 1, _, _, _, h => ⟨h.1, fun i hi => wpOp_mono (fun a' w' h' => M_any fuel _ a' w' h'.2) (h.2 i hi)⟩
theorem M_done {listed : Array Bool} {a : Act} {w : World} (hr : Region.ready md ops listed = []) (h : Q .normal a w) : ∀ fuel, wpAnyM P md ops Q T m fuel listed a w
  | 0 => ⟨hr, h⟩
  | _ + 1 => ⟨fun _ => h, by rw [hr]; simp⟩
theorem M_region {id : Nat} {a : Act} {w : World} (hm : P.follows .mixedOrders = true) (h : wpAnyM P .any ops Q T m ops.size (Array.replicate ops.size false) a w.drew) : (Code.region id ops true).wp P Q a w :=
  wp_region_any hm (M_any _ _ _ _ h)
theorem M_first {i : Nat} {oi : Oper} {v : Value} (hi : ops[i]? = some oi) (hsel : ∀ (j : Nat) (o : Oper) cs b, ops[j]? = some o → o.op ≠ .select cs b)
    (hQ : ∀ c a w, Q (.panic c) (a.put oi.dst v) w → Q (.panic c) a w) (hmi : ∀ om, ops[m]? = some om → ∃ e ∈ om.after, Region.binds md e = true ∧ e.on = i) :
    ∀ (fuel : Nat) (listed : Array Bool) (a : Act) (w : World), listed.getD m true = false →
      (∀ j oj, ops[j]? = some oj → j ≠ i → listed.getD j true = false → (∀ e ∈ oj.after, Region.binds md e = true → e.on ≠ i) → oi.apart ops oj = true) →
      i ∈ Region.ready md ops listed → YieldsIf P ops T oi v a → T w →
      wpAnyM P md ops Q T m fuel (listed.setIfInBounds i true) (a.put oi.dst v) w → wpAnyM P md ops Q T m (fuel + 1) listed a w := by
  intro fuel
  induction fuel with
  | zero =>
    intro listed a w hlm _ hr hy hT H
    refine ⟨fun h => (by rw [h] at hr; cases hr), fun j hj => ?_⟩
    by_cases hji : j = i
    · subst hji; exact hy.wpOp hi hT ⟨fun _ => hT, H⟩
    · have h0 := ready_mono hj hji
      rw [H.1] at h0
      cases h0
  | succ fuel ih =>
    intro listed a w hlm hfree hr hy hT H
    refine ⟨fun h => (by rw [h] at hr; cases hr), fun j hj => ?_⟩
    by_cases hji : j = i
    · subst hji; exact hy.wpOp hi hT ⟨fun _ => hT, H⟩
    · have hH := H.2 j (ready_mono hj hji)
      obtain ⟨hjun, oj, hoj, hall⟩ := mem_ready.1 hj
      have hjm : j ≠ m := by
        intro e
        subst e
        obtain ⟨e, he, hb, hon⟩ := hmi oj hoj
        have hx := hall e he hb
        have h0 := (mem_ready.1 hr).1
        rw [hon] at hx
        rcases Nat.lt_or_ge i listed.size with h' | h'
        · simp [h'] at h0 hx; rw [h0] at hx; cases hx
        · simp [Array.getElem?_eq_none h'] at hx
      have hnot : ∀ e ∈ oj.after, Region.binds md e = true → e.on ≠ i := fun e he hb heq => by
        have hx := hall e he hb
        have h0 := (mem_ready.1 hr).1
        rw [heq] at hx
        rcases Nat.lt_or_ge i listed.size with h' | h'
        · simp [h'] at h0 hx; rw [h0] at hx; cases hx
        · simp [Array.getElem?_eq_none h'] at hx
      have h2 := wpOp_putIf hoj (hfree j oj hoj hji hjun hnot) (fun cs b => hsel i oi cs b hi) (fun cs b => hsel j oj cs b hoj) hQ hy hH
      have hlj : (listed.setIfInBounds j true).getD m true = false := by rw [getD_set_ne true hjm]; exact hlm
      have him : i ≠ m := by
        intro e
        subst e
        obtain ⟨e, he, hb, hon⟩ := hmi oi hi
        obtain ⟨h0, oi', hoi', hall'⟩ := mem_ready.1 hr
        rw [hi] at hoi'
        cases hoi'
        have hx := hall' e he hb
        rw [hon] at hx
        rcases Nat.lt_or_ge i listed.size with h' | h'
        · simp [h'] at h0 hx; rw [h0] at hx; cases hx
        · simp [Array.getElem?_eq_none h'] at hx
      have hlij : ((listed.setIfInBounds i true).setIfInBounds j true).getD m true = false := by rw [getD_set_ne true hjm, getD_set_ne true him]; exact hlm
      have hfree' : ∀ k ok, ops[k]? = some ok → k ≠ i → (listed.setIfInBounds j true).getD k true = false → (∀ e ∈ ok.after, Region.binds md e = true → e.on ≠ i) → oi.apart ops ok = true := fun k ok hk hki hun hno => by
        refine hfree k ok hk hki ?_ hno
        by_cases hjk : j = k
        · subst hjk; exact hjun
        · rw [getD_set_ne true hjk] at hun; exact hun
      refine wpOp_mono (fun a' w' h3 => ⟨fun _ => h3.2.1 hlij, ih (listed.setIfInBounds j true) a' w' hlj hfree' (ready_mono hr (Ne.symm hji)) h3.1 (h3.2.1 hlij) ?_⟩) h2
      rw [Array.setIfInBounds_comm _ _ hji]
      exact h3.2.2
/-- Take number i first. -/
theorem M_take {oi : Oper} {fuel : Nat} {listed listed' : Array Bool} {a : Act} {w : World} (i d : Nat) (v : Value) (tmps' : Array Value) (hi : ops[i]? = some oi) (hd : oi.dst = some d)
    (hs : Region.noSelect ops = true) (hf : Region.free md ops listed i = true) (hr : (Region.ready md ops listed).contains i = true) (hmi : ((ops[m]?).any fun om => om.after.any fun e => Region.binds md e && e.on == i) = true) (hlm : listed.getD m true = false)
    (hQ : ∀ c a w, Q (.panic c) (a.put oi.dst v) w → Q (.panic c) a w) (hwt : Region.wanted oi (yielded ops a.tmps) = true) (hy : ∀ w, T w → (execOp a.eval oi).run P w = .ok (.value v) w) (hT : T w)
    (hl : listed.setIfInBounds i true = listed') (ht : a.tmps.setIfInBounds d v = tmps')
    (h : wpAnyM P md ops Q T m fuel listed' { a with tmps := tmps' } w) : wpAnyM P md ops Q T m (fuel + 1) listed a w := by
  subst hl ht
  refine M_first hi (Region.noSelect_spec hs) hQ ?_ fuel listed a w hlm (Region.free_spec hi hf) (by simpa using hr) (.inl ⟨hwt, hy⟩) hT ?_
  · intro om hom
    rw [hom] at hmi
    simp only [Option.any_some, Array.any_eq_true] at hmi
    obtain ⟨k, hk, hb⟩ := hmi
    simp only [Bool.and_eq_true, beq_iff_eq] at hb
    exact ⟨_, Array.getElem_mem hk, hb.1, hb.2⟩
  · rw [hd]
    exact h
/-- One operation alone is ready: it is carried out. -/
theorem M_run {oi : Oper} {fuel : Nat} {listed listed' : Array Bool} {a : Act} {w : World} (i d : Nat) (v : Value) (w' : World) (hi : ops[i]? = some oi) (hd : oi.dst = some d)
    (hr : Region.ready md ops listed = [i]) (hwt : Region.wanted oi (yielded ops a.tmps) = true) (hl : listed.setIfInBounds i true = listed') (hx : (execOp a.eval oi).run P w = .ok (.value v) w') (hT : T w')
    (h : wpAnyM P md ops Q T m fuel listed' { a with tmps := a.tmps.setIfInBounds d v } w') : wpAnyM P md ops Q T m (fuel + 1) listed a w := by
  subst hl
  refine ⟨fun h0 => (by rw [hr] at h0; cases h0), fun j hj => ?_⟩
  rw [hr, List.mem_singleton] at hj
  subst hj
  unfold wpOp
  simp only [hi]
  rw [if_pos hwt]
  refine .inl ?_
  unfold Oper.wp
  rw [hx, Oper.upon_value, hd]
  exact ⟨fun _ => hT, h⟩
theorem M_store {oi : Oper} {fuel : Nat} {listed listed' : Array Bool} {a : Act} {w : World} (i : Nat) (w' : World) (hi : ops[i]? = some oi) (hd : oi.dst = none)
    (hr : Region.ready md ops listed = [i]) (hwt : Region.wanted oi (yielded ops a.tmps) = true) (hl : listed.setIfInBounds i true = listed') (hx : (execOp a.eval oi).run P w = .ok .skip w') (hm : listed'.getD m true = true)
    (h : wpAnyM P md ops Q T m fuel listed' a w') : wpAnyM P md ops Q T m (fuel + 1) listed a w := by
  subst hl
  refine ⟨fun h0 => (by rw [hr] at h0; cases h0), fun j hj => ?_⟩
  rw [hr, List.mem_singleton] at hj
  subst hj
  unfold wpOp
  simp only [hi]
  rw [if_pos hwt]
  refine .inl ?_
  unfold Oper.wp
  rw [hx, Oper.upon_skip, hd]
  exact ⟨fun h0 => (by rw [hm] at h0; cases h0), h⟩
/-- One call alone is ready. -/
theorem M_call {oi : Oper} {fuel : Nat} {listed listed' : Array Bool} {a : Act} {w : World} (i d f : Nat) (vals : Array Value) (hi : ops[i]? = some oi) (hd : oi.dst = some d)
    (hr : Region.ready md ops listed = [i]) (hwt : Region.wanted oi (yielded ops a.tmps) = true) (hl : listed.setIfInBounds i true = listed') (hx : ∀ w, (execOp a.eval oi).run P w = .ok (.enter f vals) w)
    (h : Calls P f vals w fun e w' => ∃ v, e = .returned v ∧ T w' ∧ wpAnyM P md ops Q T m fuel listed' { a with tmps := a.tmps.setIfInBounds d v } w') : wpAnyM P md ops Q T m (fuel + 1) listed a w := by
  subst hl
  refine ⟨fun h0 => (by rw [hr] at h0; cases h0), fun j hj => ?_⟩
  rw [hr, List.mem_singleton] at hj
  subst hj
  unfold wpOp
  simp only [hi]
  rw [if_pos hwt]
  refine .inl ?_
  unfold Oper.wp
  rw [hx]
  refine Calls.mono h ?_
  rintro e w' ⟨v, rfl, hT, h'⟩
  rw [hd]
  exact ⟨fun _ => hT, h'⟩
/-- Two operations that make memory are ready: each may come first; the outcome is said by C. -/
theorem M_two {o1 o2 : Oper} {fuel : Nat} {listed : Array Bool} {a : Act} {w : World} (i j d1 d2 : Nat) (C : Value → Value → World → Prop) (h1 : ops[i]? = some o1) (h2 : ops[j]? = some o2) (hd1 : o1.dst = some d1) (hd2 : o2.dst = some d2) (hij : i ≠ j) (hdd : d1 ≠ d2)
    (hr : Region.ready md ops listed = [i, j]) (hr1 : Region.ready md ops (listed.setIfInBounds i true) = [j]) (hr2 : Region.ready md ops (listed.setIfInBounds j true) = [i])
    (hw1 : ∀ t, Region.wanted o1 t = true) (hw2 : ∀ t, Region.wanted o2 t = true)
    (hA : o1.wp P a w (fun a' w' => ∃ u, a' = a.put (some d1) u ∧ T w' ∧ o2.wp P a' w' (fun a'' w'' => ∃ v, a'' = a'.put (some d2) v ∧ T w'' ∧ C u v w'') Q) Q)
    (hB : o2.wp P a w (fun a' w' => ∃ v, a' = a.put (some d2) v ∧ T w' ∧ o1.wp P a' w' (fun a'' w'' => ∃ u, a'' = a'.put (some d1) u ∧ T w'' ∧ C u v w'') Q) Q)
    (h : ∀ u v w', T w' → C u v w' → wpAnyM P md ops Q T m fuel ((listed.setIfInBounds i true).setIfInBounds j true) { a with tmps := (a.tmps.setIfInBounds d1 u).setIfInBounds d2 v } w') : wpAnyM P md ops Q T m (fuel + 2) listed a w := by
  refine ⟨fun h0 => (by rw [hr] at h0; cases h0), fun k hk => ?_⟩
  rw [hr] at hk
  simp only [List.mem_cons, List.not_mem_nil, or_false] at hk
  rcases hk with rfl | rfl
  · unfold wpOp
    simp only [h1]
    rw [if_pos (hw1 _)]
    refine .inl (Oper.wp_mono (fun a' w' h3 => ?_) hA)
    obtain ⟨u, rfl, t1, h4⟩ := h3
    refine ⟨fun _ => t1, ⟨fun h0 => (by rw [hr1] at h0; cases h0), fun k hk => ?_⟩⟩
    rw [hr1, List.mem_singleton] at hk
    subst hk
    unfold wpOp
    simp only [h2]
    rw [if_pos (hw2 _)]
    refine .inl (Oper.wp_mono (fun a' w' h5 => ?_) h4)
    obtain ⟨v, rfl, t2, h6⟩ := h5
    exact ⟨fun _ => t2, h u v _ t2 h6⟩
  · unfold wpOp
    simp only [h2]
    rw [if_pos (hw2 _)]
    refine .inl (Oper.wp_mono (fun a' w' h3 => ?_) hB)
    obtain ⟨v, rfl, t1, h4⟩ := h3
    refine ⟨fun _ => t1, ⟨fun h0 => (by rw [hr2] at h0; cases h0), fun k hk => ?_⟩⟩
    rw [hr2, List.mem_singleton] at hk
    subst hk
    unfold wpOp
    simp only [h1]
    rw [if_pos (hw1 _)]
    refine .inl (Oper.wp_mono (fun a' w' h5 => ?_) h4)
    obtain ⟨u, rfl, t2, h6⟩ := h5
    refine ⟨fun _ => t2, ?_⟩
    have := h u v _ t2 h6
    rw [Array.setIfInBounds_comm _ _ hij, set_comm2 _ hdd] at this
    exact this
/-- An append and a new block are ready, and a value is built of what the append gives: each of the two may come first; the outcome is said by C. -/
theorem M_aa {o1 o2 ok : Oper} {fuel : Nat} {listed : Array Bool} {a : Act} {w : World} (i j k d1 d2 dk : Nat) (z : World → Value) (N : World → World) (f : Value → Value) (U : Value → Prop) (C : Value → Value → World → Prop)
    (h1 : ops[i]? = some o1) (h2 : ops[j]? = some o2) (hk : ops[k]? = some ok) (hd1 : o1.dst = some d1) (hd2 : o2.dst = some d2) (hdk : ok.dst = some dk) (hij : i ≠ j) (hjk : j ≠ k) (d12 : d1 ≠ d2) (d2k : d2 ≠ dk)
    (hr : Region.ready md ops listed = [i, j]) (hri : (Region.ready md ops (listed.setIfInBounds i true)).contains k = true) (hrik : Region.ready md ops ((listed.setIfInBounds i true).setIfInBounds k true) = [j])
    (hrj : Region.ready md ops (listed.setIfInBounds j true) = [i]) (hrji : Region.ready md ops ((listed.setIfInBounds j true).setIfInBounds i true) = [k])
    (hw1 : ∀ t, Region.wanted o1 t = true) (hw2 : ∀ t, Region.wanted o2 t = true) (hwk : ∀ t, Region.wanted ok t = true)
    (hs : Region.noSelect ops = true) (hfk : Region.free md ops (listed.setIfInBounds i true) k = true) (hmk : ((ops[m]?).any fun om => om.after.any fun e => Region.binds md e && e.on == k) = true) (hlm : (listed.setIfInBounds i true).getD m true = false)
    (hQ : ∀ v c a w, Q (.panic c) (a.put ok.dst v) w → Q (.panic c) a w)
    (hx2 : ∀ (a' : Act) w', (execOp a'.eval o2).run P w' = .ok (.value (z w')) (N w'))
    (hA : ∃ u w1, (execOp a.eval o1).run P w = .ok (.value u) w1 ∧ U u ∧ T w1 ∧ T (N w1) ∧ C u (z w1) (N w1))
    (hB : T (N w) ∧ ∃ u w1, (execOp (a.put (some d2) (z w)).eval o1).run P (N w) = .ok (.value u) w1 ∧ U u ∧ T w1 ∧ C u (z w) w1)
    (hxk : ∀ u w', U u → (execOp (a.put (some d1) u).eval ok).run P w' = .ok (.value (f u)) w') (hxk' : ∀ u v w', U u → (execOp ((a.put (some d2) v).put (some d1) u).eval ok).run P w' = .ok (.value (f u)) w')
    (h : ∀ u v w', U u → T w' → C u v w' → wpAnyM P md ops Q T m fuel (((listed.setIfInBounds i true).setIfInBounds k true).setIfInBounds j true) { a with tmps := ((a.tmps.setIfInBounds d1 u).setIfInBounds dk (f u)).setIfInBounds d2 v } w') : wpAnyM P md ops Q T m (fuel + 3) listed a w := by
  refine ⟨fun h0 => (by rw [hr] at h0; cases h0), fun q hq => ?_⟩
  rw [hr] at hq
  simp only [List.mem_cons, List.not_mem_nil, or_false] at hq
  rcases hq with rfl | rfl
  · obtain ⟨u, w1, e1, uu, t1, t2, c1⟩ := hA
    unfold wpOp
    simp only [h1]
    rw [if_pos (hw1 _)]
    refine .inl ?_
    unfold Oper.wp
    rw [e1, Oper.upon_value, hd1]
    refine ⟨fun _ => t1, ?_⟩
    refine M_take k dk (f u) _ hk hdk hs hfk hri hmk hlm (fun c a w => hQ _ c a w) (hwk _) (fun w' _ => hxk u w' uu) t1 rfl rfl ?_
    exact M_run j d2 (z w1) (N w1) h2 hd2 hrik (hw2 _) rfl (hx2 _ w1) t2 (h u (z w1) (N w1) uu t2 c1)
  · obtain ⟨t0, u, w1, e1, uu, t1, c1⟩ := hB
    unfold wpOp
    simp only [h2]
    rw [if_pos (hw2 _)]
    refine .inl ?_
    unfold Oper.wp
    rw [hx2, Oper.upon_value, hd2]
    refine ⟨fun _ => t0, ?_⟩
    refine M_run i d1 u w1 h1 hd1 hrj (hw1 _) rfl e1 t1 ?_
    refine M_run k dk (f u) w1 hk hdk hrji (hwk _) rfl (hxk' u (z w) w1 uu) t1 ?_
    have hh := h u (z w) w1 uu t1 c1
    rw [Array.setIfInBounds_comm (xs := listed.setIfInBounds i true) _ _ (Ne.symm hjk), Array.setIfInBounds_comm (xs := listed) _ _ hij, set_comm2 (a.tmps.setIfInBounds d1 u) (Ne.symm d2k), set_comm2 a.tmps d12] at hh
    exact hh
end
end Go.Proofs.Ytfnjbbaphmmjlaa

/- What Number, kindOf, Zero, placeOf, identityOf, hasField answer. -/
namespace Go.Proofs.Ytfnjbbaphmmjlaa
open Go.ChangeShapes Go.WideShapes Go.ChangeAt Go.RowKit
set_option linter.unusedVariables false
set_option linter.unusedSimpArgs false
set_option maxRecDepth 20000

set_option maxHeartbeats 1000000 in
theorem kindOf_any (k : Int) (nm : ByteArray) (w : World) : Calls Try.prog 48 #[.agg #[.int .i64 k, .string nm]] w fun e w' => e = .returned (.int .i64 (kindT k)) ∧ Below w.heap.size w w' := by
  have hb : Below w.heap.size w (w.alloc (Obj.cells #[.int .i64 k, .string nm] 41)) := (Below.refl _ _).alloc (Nat.le_refl _) _
  have key : ∀ (a : Int), k = a → (a = 1 ∨ a = 2 ∨ a = 3 ∨ a = 4 ∨ a = 5 ∨ a = 6 ∨ a = 7) → Calls Try.prog 48 #[.agg #[.int .i64 k, .string nm]] w fun e w' => e = .returned (.int .i64 (kindT k)) ∧ Below w.heap.size w w' := by
    intro a ha hc
    subst ha
    rcases hc with rfl | rfl | rfl | rfl | rfl | rfl | rfl <;>
    · go_enter Try.func48, Try.ntmps48
      go_wp2_with fail
      go_ret
      exact ⟨rfl, hb⟩
  by_cases h1 : k = 1
  · exact key 1 h1 (by simp)
  by_cases h2 : k = 2
  · exact key 2 h2 (by simp)
  by_cases h3 : k = 3
  · exact key 3 h3 (by simp)
  by_cases h4 : k = 4
  · exact key 4 h4 (by simp)
  by_cases h5 : k = 5
  · exact key 5 h5 (by simp)
  by_cases h6 : k = 6
  · exact key 6 h6 (by simp)
  by_cases h7 : k = 7
  · exact key 7 h7 (by simp)
  have hk : kindT k = 0 := by simp [kindT, h1, h2, h3, h4, h5, h6, h7]
  rw [hk]
  have d1 : (k == 1) = false := by simpa using h1
  have d2 : (k == 2) = false := by simpa using h2
  have d3 : (k == 3) = false := by simpa using h3
  have d4 : (k == 4) = false := by simpa using h4
  have d5 : (k == 5) = false := by simpa using h5
  have d6 : (k == 6) = false := by simpa using h6
  have d7 : (k == 7) = false := by simpa using h7
  clear key h1 h2 h3 h4 h5 h6 h7 hk
  go_enter Try.func48, Try.ntmps48
  go_wp2_with fail
  go_ret
  exact ⟨rfl, hb⟩
set_option maxHeartbeats 4000000 in
theorem number_any (k n : Int) (nm : ByteArray) (w : World) : Calls Try.prog 14 #[.agg #[.int .i64 k, .string nm], .int .i64 n] w fun e w' => e = .returned (.bool (nmrB k n)) ∧ Below w.heap.size w w' := by
  have hb : Below w.heap.size w (w.alloc (Obj.cells #[.int .i64 k, .string nm] 41)) := (Below.refl _ _).alloc (Nat.le_refl _) _
  have rng : n < -2147483648 ∨ (-2147483648 ≤ n ∧ n < 0) ∨ (0 ≤ n ∧ n ≤ 1) ∨ (1 < n ∧ n ≤ 2147483647) ∨ 2147483647 < n := by omega
  have kk : k = 3 ∨ k = 6 ∨ k = 1 ∨ k = 2 ∨ (¬ k = 3 ∧ ¬ k = 6 ∧ ¬ k = 1 ∧ ¬ k = 2) := by omega
  rcases rng with g | g | g | g | g
  · have f1 : decide (1 < n) = false := by simp; omega
    have f2 : decide (n < 0) = true := by simp; omega
    have f3 : decide (n < -2147483648) = true := by simp; omega
    have f4 : decide (2147483647 < n) = false := by simp; omega
    rcases kk with rfl | rfl | rfl | rfl | ⟨h3, h6, h1, h2⟩
    · have hr : nmrB 3 n = false := by simp [nmrB]; omega
      rw [hr]
      clear hr g
      go_enter Try.func14, Try.ntmps14
      go_wp2_with fail
      go_ret
      exact ⟨rfl, hb⟩
    · have hr : nmrB 6 n = false := by simp [nmrB]; omega
      rw [hr]
      clear hr g
      go_enter Try.func14, Try.ntmps14
      go_wp2_with fail
      go_ret
      exact ⟨rfl, hb⟩
    · have hr : nmrB 1 n = false := by simp [nmrB]; omega
      rw [hr]
      clear hr g
      go_enter Try.func14, Try.ntmps14
      go_wp2_with fail
      go_ret
      exact ⟨rfl, hb⟩
    · have hr : nmrB 2 n = true := by simp [nmrB]
      rw [hr]
      clear hr g
      go_enter Try.func14, Try.ntmps14
      go_wp2_with fail
      go_ret
      exact ⟨rfl, hb⟩
    · have e1 : (k == 1) = false := by simpa using h1
      have e2 : (k == 2) = false := by simpa using h2
      have e3 : (k == 3) = false := by simpa using h3
      have e6 : (k == 6) = false := by simpa using h6
      have hr : nmrB k n = false := by simp [nmrB, h3, h6, h1, h2]
      rw [hr]
      clear h1 h2 h3 h6 hr g
      go_enter Try.func14, Try.ntmps14
      go_wp2_with fail
      go_ret
      exact ⟨rfl, hb⟩
  · have f1 : decide (1 < n) = false := by simp; omega
    have f2 : decide (n < 0) = true := by simp; omega
    have f3 : decide (n < -2147483648) = false := by simp; omega
    have f4 : decide (2147483647 < n) = false := by simp; omega
    rcases kk with rfl | rfl | rfl | rfl | ⟨h3, h6, h1, h2⟩
    · have hr : nmrB 3 n = false := by simp [nmrB]; omega
      rw [hr]
      clear hr g
      go_enter Try.func14, Try.ntmps14
      go_wp2_with fail
      go_ret
      exact ⟨rfl, hb⟩
    · have hr : nmrB 6 n = false := by simp [nmrB]; omega
      rw [hr]
      clear hr g
      go_enter Try.func14, Try.ntmps14
      go_wp2_with fail
      go_ret
      exact ⟨rfl, hb⟩
    · have hr : nmrB 1 n = true := by simp [nmrB]; omega
      rw [hr]
      clear hr g
      go_enter Try.func14, Try.ntmps14
      go_wp2_with fail
      go_ret
      exact ⟨rfl, hb⟩
    · have hr : nmrB 2 n = true := by simp [nmrB]
      rw [hr]
      clear hr g
      go_enter Try.func14, Try.ntmps14
      go_wp2_with fail
      go_ret
      exact ⟨rfl, hb⟩
    · have e1 : (k == 1) = false := by simpa using h1
      have e2 : (k == 2) = false := by simpa using h2
      have e3 : (k == 3) = false := by simpa using h3
      have e6 : (k == 6) = false := by simpa using h6
      have hr : nmrB k n = false := by simp [nmrB, h3, h6, h1, h2]
      rw [hr]
      clear h1 h2 h3 h6 hr g
      go_enter Try.func14, Try.ntmps14
      go_wp2_with fail
      go_ret
      exact ⟨rfl, hb⟩
  · have f1 : decide (1 < n) = false := by simp; omega
    have f2 : decide (n < 0) = false := by simp; omega
    have f3 : decide (n < -2147483648) = false := by simp; omega
    have f4 : decide (2147483647 < n) = false := by simp; omega
    rcases kk with rfl | rfl | rfl | rfl | ⟨h3, h6, h1, h2⟩
    · have hr : nmrB 3 n = true := by simp [nmrB]; omega
      rw [hr]
      clear hr g
      go_enter Try.func14, Try.ntmps14
      go_wp2_with fail
      go_ret
      exact ⟨rfl, hb⟩
    · have hr : nmrB 6 n = true := by simp [nmrB]; omega
      rw [hr]
      clear hr g
      go_enter Try.func14, Try.ntmps14
      go_wp2_with fail
      go_ret
      exact ⟨rfl, hb⟩
    · have hr : nmrB 1 n = true := by simp [nmrB]; omega
      rw [hr]
      clear hr g
      go_enter Try.func14, Try.ntmps14
      go_wp2_with fail
      go_ret
      exact ⟨rfl, hb⟩
    · have hr : nmrB 2 n = true := by simp [nmrB]
      rw [hr]
      clear hr g
      go_enter Try.func14, Try.ntmps14
      go_wp2_with fail
      go_ret
      exact ⟨rfl, hb⟩
    · have e1 : (k == 1) = false := by simpa using h1
      have e2 : (k == 2) = false := by simpa using h2
      have e3 : (k == 3) = false := by simpa using h3
      have e6 : (k == 6) = false := by simpa using h6
      have hr : nmrB k n = false := by simp [nmrB, h3, h6, h1, h2]
      rw [hr]
      clear h1 h2 h3 h6 hr g
      go_enter Try.func14, Try.ntmps14
      go_wp2_with fail
      go_ret
      exact ⟨rfl, hb⟩
  · have f1 : decide (1 < n) = true := by simp; omega
    have f2 : decide (n < 0) = false := by simp; omega
    have f3 : decide (n < -2147483648) = false := by simp; omega
    have f4 : decide (2147483647 < n) = false := by simp; omega
    rcases kk with rfl | rfl | rfl | rfl | ⟨h3, h6, h1, h2⟩
    · have hr : nmrB 3 n = false := by simp [nmrB]; omega
      rw [hr]
      clear hr g
      go_enter Try.func14, Try.ntmps14
      go_wp2_with fail
      go_ret
      exact ⟨rfl, hb⟩
    · have hr : nmrB 6 n = true := by simp [nmrB]; omega
      rw [hr]
      clear hr g
      go_enter Try.func14, Try.ntmps14
      go_wp2_with fail
      go_ret
      exact ⟨rfl, hb⟩
    · have hr : nmrB 1 n = true := by simp [nmrB]; omega
      rw [hr]
      clear hr g
      go_enter Try.func14, Try.ntmps14
      go_wp2_with fail
      go_ret
      exact ⟨rfl, hb⟩
    · have hr : nmrB 2 n = true := by simp [nmrB]
      rw [hr]
      clear hr g
      go_enter Try.func14, Try.ntmps14
      go_wp2_with fail
      go_ret
      exact ⟨rfl, hb⟩
    · have e1 : (k == 1) = false := by simpa using h1
      have e2 : (k == 2) = false := by simpa using h2
      have e3 : (k == 3) = false := by simpa using h3
      have e6 : (k == 6) = false := by simpa using h6
      have hr : nmrB k n = false := by simp [nmrB, h3, h6, h1, h2]
      rw [hr]
      clear h1 h2 h3 h6 hr g
      go_enter Try.func14, Try.ntmps14
      go_wp2_with fail
      go_ret
      exact ⟨rfl, hb⟩
  · have f1 : decide (1 < n) = true := by simp; omega
    have f2 : decide (n < 0) = false := by simp; omega
    have f3 : decide (n < -2147483648) = false := by simp; omega
    have f4 : decide (2147483647 < n) = true := by simp; omega
    rcases kk with rfl | rfl | rfl | rfl | ⟨h3, h6, h1, h2⟩
    · have hr : nmrB 3 n = false := by simp [nmrB]; omega
      rw [hr]
      clear hr g
      go_enter Try.func14, Try.ntmps14
      go_wp2_with fail
      go_ret
      exact ⟨rfl, hb⟩
    · have hr : nmrB 6 n = false := by simp [nmrB]; omega
      rw [hr]
      clear hr g
      go_enter Try.func14, Try.ntmps14
      go_wp2_with fail
      go_ret
      exact ⟨rfl, hb⟩
    · have hr : nmrB 1 n = false := by simp [nmrB]; omega
      rw [hr]
      clear hr g
      go_enter Try.func14, Try.ntmps14
      go_wp2_with fail
      go_ret
      exact ⟨rfl, hb⟩
    · have hr : nmrB 2 n = true := by simp [nmrB]
      rw [hr]
      clear hr g
      go_enter Try.func14, Try.ntmps14
      go_wp2_with fail
      go_ret
      exact ⟨rfl, hb⟩
    · have e1 : (k == 1) = false := by simpa using h1
      have e2 : (k == 2) = false := by simpa using h2
      have e3 : (k == 3) = false := by simpa using h3
      have e6 : (k == 6) = false := by simpa using h6
      have hr : nmrB k n = false := by simp [nmrB, h3, h6, h1, h2]
      rw [hr]
      clear h1 h2 h3 h6 hr g
      go_enter Try.func14, Try.ntmps14
      go_wp2_with fail
      go_ret
      exact ⟨rfl, hb⟩
theorem size_empty {s : ByteArray} (h : s.size = 0) : s = ⟨#[]⟩ := by
  obtain ⟨⟨l⟩⟩ := s
  cases l with
  | nil => rfl
  | cons a l => simp [ByteArray.size] at h
set_option maxHeartbeats 2000000 in
theorem zero_any (t : Tr) (a1 a2 : Option Addr) (n1 c1 n2 c2 : Nat) (w : World) (h1 : n1 = t.es.length) (h2 : n2 = t.rest.length) : Calls Try.prog 65 #[.agg #[.int .i64 t.kind, .int .i64 t.n, .string t.s, .slice a1 n1 c1, .slice a2 n2 c2]] w fun e w' => e = .returned (.bool (zroB t)) ∧ Below w.heap.size w w' := by
  have hb : Below w.heap.size w (w.alloc (Obj.cells #[.int .i64 t.kind, .int .i64 t.n, .string t.s, .slice a1 n1 c1, .slice a2 n2 c2] 30)) := (Below.refl _ _).alloc (Nat.le_refl _) _
  have hz : zroB t = (decide (t.kind = 1 ∨ t.kind = 2 ∨ t.kind = 3) && decide (t.n = 0) && decide (t.s.size = 0) && decide (n1 = 0) && decide (n2 = 0)) := by rw [zroB, h1, h2]
  rw [hz]
  clear hz h1 h2
  generalize t.kind = K at *
  generalize t.n = N at *
  generalize t.s = S at *
  have kk : K = 1 ∨ K = 2 ∨ K = 3 ∨ (¬ K = 1 ∧ ¬ K = 2 ∧ ¬ K = 3) := by omega
  rcases kk with rfl | rfl | rfl | ⟨h1, h2, h3⟩
  · by_cases hN : N = 0
    · subst hN
      by_cases hS : S.size = 0
      · obtain rfl := size_empty hS
        by_cases h1 : n1 = 0
        · subst h1
          by_cases h2 : n2 = 0
          · subst h2
            go_enter Try.func65, Try.ntmps65
            go_wp2_with fail
            go_ret
            exact ⟨rfl, hb⟩
          · have d2 : ((n2 : Int) == 0) = false := by simp; omega
            simp only [decide_eq_false h2, Bool.and_false]
            clear h2
            go_enter Try.func65, Try.ntmps65
            go_wp2_with fail
            go_ret
            exact ⟨rfl, hb⟩
        · have d1 : ((n1 : Int) == 0) = false := by simp; omega
          simp only [decide_eq_false h1, Bool.and_false, Bool.false_and]
          clear h1
          go_enter Try.func65, Try.ntmps65
          go_wp2_with fail
          go_ret
          exact ⟨rfl, hb⟩
      · have dS : (S.toList == ([] : List UInt8)) = false := by rw [ByteArray.toList_eq]; simp; intro e; exact hS (by rw [← ByteArray.size_data, e]; rfl)
        simp only [decide_eq_false hS, Bool.and_false, Bool.false_and]
        clear hS
        go_enter Try.func65, Try.ntmps65
        go_wp2_with fail
        go_ret
        exact ⟨rfl, hb⟩
    · have dN : (N == 0) = false := by simpa using hN
      simp only [decide_eq_false hN, Bool.and_false, Bool.false_and]
      clear hN
      go_enter Try.func65, Try.ntmps65
      go_wp2_with fail
      go_ret
      exact ⟨rfl, hb⟩
  · by_cases hN : N = 0
    · subst hN
      by_cases hS : S.size = 0
      · obtain rfl := size_empty hS
        by_cases h1 : n1 = 0
        · subst h1
          by_cases h2 : n2 = 0
          · subst h2
            go_enter Try.func65, Try.ntmps65
            go_wp2_with fail
            go_ret
            exact ⟨rfl, hb⟩
          · have d2 : ((n2 : Int) == 0) = false := by simp; omega
            simp only [decide_eq_false h2, Bool.and_false]
            clear h2
            go_enter Try.func65, Try.ntmps65
            go_wp2_with fail
            go_ret
            exact ⟨rfl, hb⟩
        · have d1 : ((n1 : Int) == 0) = false := by simp; omega
          simp only [decide_eq_false h1, Bool.and_false, Bool.false_and]
          clear h1
          go_enter Try.func65, Try.ntmps65
          go_wp2_with fail
          go_ret
          exact ⟨rfl, hb⟩
      · have dS : (S.toList == ([] : List UInt8)) = false := by rw [ByteArray.toList_eq]; simp; intro e; exact hS (by rw [← ByteArray.size_data, e]; rfl)
        simp only [decide_eq_false hS, Bool.and_false, Bool.false_and]
        clear hS
        go_enter Try.func65, Try.ntmps65
        go_wp2_with fail
        go_ret
        exact ⟨rfl, hb⟩
    · have dN : (N == 0) = false := by simpa using hN
      simp only [decide_eq_false hN, Bool.and_false, Bool.false_and]
      clear hN
      go_enter Try.func65, Try.ntmps65
      go_wp2_with fail
      go_ret
      exact ⟨rfl, hb⟩
  · by_cases hN : N = 0
    · subst hN
      by_cases hS : S.size = 0
      · obtain rfl := size_empty hS
        by_cases h1 : n1 = 0
        · subst h1
          by_cases h2 : n2 = 0
          · subst h2
            go_enter Try.func65, Try.ntmps65
            go_wp2_with fail
            go_ret
            exact ⟨rfl, hb⟩
          · have d2 : ((n2 : Int) == 0) = false := by simp; omega
            simp only [decide_eq_false h2, Bool.and_false]
            clear h2
            go_enter Try.func65, Try.ntmps65
            go_wp2_with fail
            go_ret
            exact ⟨rfl, hb⟩
        · have d1 : ((n1 : Int) == 0) = false := by simp; omega
          simp only [decide_eq_false h1, Bool.and_false, Bool.false_and]
          clear h1
          go_enter Try.func65, Try.ntmps65
          go_wp2_with fail
          go_ret
          exact ⟨rfl, hb⟩
      · have dS : (S.toList == ([] : List UInt8)) = false := by rw [ByteArray.toList_eq]; simp; intro e; exact hS (by rw [← ByteArray.size_data, e]; rfl)
        simp only [decide_eq_false hS, Bool.and_false, Bool.false_and]
        clear hS
        go_enter Try.func65, Try.ntmps65
        go_wp2_with fail
        go_ret
        exact ⟨rfl, hb⟩
    · have dN : (N == 0) = false := by simpa using hN
      simp only [decide_eq_false hN, Bool.and_false, Bool.false_and]
      clear hN
      go_enter Try.func65, Try.ntmps65
      go_wp2_with fail
      go_ret
      exact ⟨rfl, hb⟩
  · have e1 : (K == 1) = false := by simpa using h1
    have e2 : (K == 2) = false := by simpa using h2
    have e3 : (K == 3) = false := by simpa using h3
    have hk : decide (K = 1 ∨ K = 2 ∨ K = 3) = false := by simp [h1, h2, h3]
    simp only [hk, Bool.false_and]
    clear h1 h2 h3 hk
    go_enter Try.func65, Try.ntmps65
    go_wp2_with fail
    go_ret
    exact ⟨rfl, hb⟩
end Go.Proofs.Ytfnjbbaphmmjlaa

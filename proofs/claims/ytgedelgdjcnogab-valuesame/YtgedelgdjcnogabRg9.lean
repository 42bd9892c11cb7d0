/- A region that draws its order: a call and a new block are ready, and a value is built of what the call answers. -/
import Derived.Test.YtgedelgdjcnogabRg6
namespace Go.Proofs.Ytgedelgdjcnogab
set_option linter.unusedVariables false
set_option linter.unusedSimpArgs false

section
variable {P : Program} {md : Region.Mode} {ops : Array Oper} {Q : Exit → Act → World → Prop} {T : World → Prop} {m : Nat}
theorem M_cab {o1 o2 ok : Oper} {fuel : Nat} {listed : Array Bool} {a : Act} {w : World} (i j k d1 d2 dk f : Nat) (vals : Array Value) (z : World → Value) (N : World → World) (F : Value → Value) (U : Value → Prop) (C : Value → Value → World → Prop)
    (h1 : ops[i]? = some o1) (h2 : ops[j]? = some o2) (hk : ops[k]? = some ok) (hd1 : o1.dst = some d1) (hd2 : o2.dst = some d2) (hdk : ok.dst = some dk) (hij : i ≠ j) (hjk : j ≠ k) (d12 : d1 ≠ d2) (d2k : d2 ≠ dk)
    (hr : Region.ready md ops listed = [i, j]) (hri : (Region.ready md ops (listed.setIfInBounds i true)).contains k = true) (hrik : Region.ready md ops ((listed.setIfInBounds i true).setIfInBounds k true) = [j])
    (hrj : Region.ready md ops (listed.setIfInBounds j true) = [i]) (hrji : Region.ready md ops ((listed.setIfInBounds j true).setIfInBounds i true) = [k])
    (hw1 : ∀ t, Region.wanted o1 t = true) (hw2 : ∀ t, Region.wanted o2 t = true) (hwk : ∀ t, Region.wanted ok t = true)
    (hs : Region.noSelect ops = true) (hfk : Region.free md ops (listed.setIfInBounds i true) k = true) (hmk : ((ops[m]?).any fun om => om.after.any fun e => Region.binds md e && e.on == k) = true) (hlm : (listed.setIfInBounds i true).getD m true = false)
    (hQ : ∀ v c a w, Q (.panic c) (a.put ok.dst v) w → Q (.panic c) a w)
    (hx1 : (execOp a.eval o1).run P w = .ok (.enter f vals) w) (hx1' : ∀ v w', (execOp (a.put (some d2) v).eval o1).run P w' = .ok (.enter f vals) w')
    (hx2 : ∀ (a' : Act) w', (execOp a'.eval o2).run P w' = .ok (.value (z w')) (N w'))
    (hA : Calls P f vals w fun e w1 => ∃ u, e = .returned u ∧ U u ∧ T w1 ∧ T (N w1) ∧ C u (z w1) (N w1))
    (hT : T (N w)) (hB : Calls P f vals (N w) fun e w1 => ∃ u, e = .returned u ∧ U u ∧ T w1 ∧ C u (z w) w1)
    (hxk : ∀ u w', U u → (execOp (a.put (some d1) u).eval ok).run P w' = .ok (.value (F u)) w') (hxk' : ∀ u v w', U u → (execOp ((a.put (some d2) v).put (some d1) u).eval ok).run P w' = .ok (.value (F u)) w')
    (h : ∀ u v w', U u → T w' → C u v w' → wpAnyM P md ops Q T m fuel (((listed.setIfInBounds i true).setIfInBounds k true).setIfInBounds j true) { a with tmps := ((a.tmps.setIfInBounds d1 u).setIfInBounds dk (F u)).setIfInBounds d2 v } w') : wpAnyM P md ops Q T m (fuel + 3) listed a w := by
  refine ⟨fun h0 => (by rw [hr] at h0; cases h0), fun q hq => ?_⟩
  rw [hr] at hq
  simp only [List.mem_cons, List.not_mem_nil, or_false] at hq
  rcases hq with rfl | rfl
  · unfold wpOp
    simp only [h1]
    rw [if_pos (hw1 _)]
    refine .inl ?_
    unfold Oper.wp
    rw [hx1]
    refine Calls.mono hA ?_
    rintro e w1 ⟨u, rfl, uu, t1, t2, c1⟩
    rw [hd1]
    refine ⟨fun _ => t1, ?_⟩
    refine M_take k dk (F u) _ hk hdk hs hfk hri hmk hlm (fun c a w => hQ _ c a w) (hwk _) (fun w' _ => hxk u w' uu) t1 rfl rfl ?_
    exact M_run j d2 (z w1) (N w1) h2 hd2 hrik (hw2 _) rfl (hx2 _ w1) t2 (h u (z w1) (N w1) uu t2 c1)
  · unfold wpOp
    simp only [h2]
    rw [if_pos (hw2 _)]
    refine .inl ?_
    unfold Oper.wp
    rw [hx2, Oper.upon_value, hd2]
    refine ⟨fun _ => hT, ?_⟩
    refine ⟨fun h0 => (by rw [hrj] at h0; cases h0), fun q hq => ?_⟩
    rw [hrj, List.mem_singleton] at hq
    subst hq
    unfold wpOp
    simp only [h1]
    rw [if_pos (hw1 _)]
    refine .inl ?_
    unfold Oper.wp
    rw [hx1']
    refine Calls.mono hB ?_
    rintro e w1 ⟨u, rfl, uu, t1, c1⟩
    rw [hd1]
    refine ⟨fun _ => t1, ?_⟩
    refine M_run k dk (F u) w1 hk hdk hrji (hwk _) rfl (hxk' u (z w) w1 uu) t1 ?_
    have hh := h u (z w) w1 uu t1 c1
    rw [Array.setIfInBounds_comm (xs := listed.setIfInBounds q true) _ _ (Ne.symm hjk), Array.setIfInBounds_comm (xs := listed) _ _ hij, set_comm2 (a.tmps.setIfInBounds d1 u) (Ne.symm d2k), set_comm2 a.tmps d12] at hh
    exact hh
end
end Go.Proofs.Ytgedelgdjcnogab

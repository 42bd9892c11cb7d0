/- Part 14 of what the proof stands on. -/
import Derived.Test.YtmgbhicogmclgaaPkDAM
namespace Go.Proofs.Ytmgbhicogmclgaa
set_option maxHeartbeats 8000000
set_option linter.unusedVariables false
set_option linter.unusedSimpArgs false
set_option maxRecDepth 20000
section
theorem rg_ca3 {P : Program} {md : Region.Mode} {ops : Array Oper} {Q : Exit → Act → World → Prop} {S : World → Prop} {fuel : Nat} {listed : Array Bool} {a : Act} {w : World} {oi oj o1 o2 o3 : Oper} (i j k1 k2 k3 di dj d1 d2 d3 f : Nat) (vals : Array Value) (z : World → Value) (N : World → World) (F1 F2 F3 : Value → Value) (U : Value → Prop) (C : Value → Value → World → Prop)
  (hi : ops[i]? = some oi) (hj : ops[j]? = some oj) (h1 : ops[k1]? = some o1) (h2 : ops[k2]? = some o2) (h3 : ops[k3]? = some o3) (hdi : oi.dst = some di) (hdj : oj.dst = some dj) (hd1 : o1.dst = some d1) (hd2 : o2.dst = some d2) (hd3 : o3.dst = some d3)
  (ij : j ≠ i) (j1 : j ≠ k1) (j2 : j ≠ k2) (j3 : j ≠ k3) (dij : dj ≠ di) (dj1 : dj ≠ d1) (dj2 : dj ≠ d2) (dj3 : dj ≠ d3)
  (hr : Region.ready md ops listed = [i,j]) (hrj : Region.ready md ops (listed.setIfInBounds j true) = [i]) (hs : Region.noSelect ops = true)
  (fA1 : Region.free md ops (listed.setIfInBounds i true) k1 = true) (rA1 : (Region.ready md ops (listed.setIfInBounds i true)).contains k1 = true)
  (fA2 : Region.free md ops ((listed.setIfInBounds i true).setIfInBounds k1 true) k2 = true) (rA2 : (Region.ready md ops ((listed.setIfInBounds i true).setIfInBounds k1 true)).contains k2 = true)
  (fA3 : Region.free md ops (((listed.setIfInBounds i true).setIfInBounds k1 true).setIfInBounds k2 true) k3 = true) (rA3 : (Region.ready md ops (((listed.setIfInBounds i true).setIfInBounds k1 true).setIfInBounds k2 true)).contains k3 = true)
  (rA4 : Region.ready md ops ((((listed.setIfInBounds i true).setIfInBounds k1 true).setIfInBounds k2 true).setIfInBounds k3 true) = [j])
  (fB1 : Region.free md ops ((listed.setIfInBounds j true).setIfInBounds i true) k1 = true) (rB1 : (Region.ready md ops ((listed.setIfInBounds j true).setIfInBounds i true)).contains k1 = true)
  (fB2 : Region.free md ops (((listed.setIfInBounds j true).setIfInBounds i true).setIfInBounds k1 true) k2 = true) (rB2 : (Region.ready md ops (((listed.setIfInBounds j true).setIfInBounds i true).setIfInBounds k1 true)).contains k2 = true)
  (fB3 : Region.free md ops ((((listed.setIfInBounds j true).setIfInBounds i true).setIfInBounds k1 true).setIfInBounds k2 true) k3 = true) (rB3 : (Region.ready md ops ((((listed.setIfInBounds j true).setIfInBounds i true).setIfInBounds k1 true).setIfInBounds k2 true)).contains k3 = true)
  (hwi : ∀ t,Region.wanted oi t = true) (hwj : ∀ t,Region.wanted oj t = true) (hw1 : ∀ t,Region.wanted o1 t = true) (hw2 : ∀ t,Region.wanted o2 t = true) (hw3 : ∀ t,Region.wanted o3 t = true)
  (hQ : ∀ (d : Option Nat) v c a w,Q (.panic c) (Act.put a d v) w → Q (.panic c) a w)
  (hxj : ∀ (a' : Act) w',(execOp a'.eval oj).run P w' = .ok (.value (z w')) (N w'))
  (hxi : ∀ w',(execOp a.eval oi).run P w' = .ok (.enter f vals) w') (hxi' : ∀ v w',(execOp (a.put (some dj) v).eval oi).run P w' = .ok (.enter f vals) w')
  (x1 : ∀ v w',U v → (execOp (a.put (some di) v).eval o1).run P w' = .ok (.value (F1 v)) w') (x1' : ∀ v p w',U v → (execOp ((a.put (some dj) p).put (some di) v).eval o1).run P w' = .ok (.value (F1 v)) w')
  (x2 : ∀ v w',U v → (execOp ((a.put (some di) v).put (some d1) (F1 v)).eval o2).run P w' = .ok (.value (F2 v)) w') (x2' : ∀ v p w',U v → (execOp (((a.put (some dj) p).put (some di) v).put (some d1) (F1 v)).eval o2).run P w' = .ok (.value (F2 v)) w')
  (x3 : ∀ v w',U v → (execOp (((a.put (some di) v).put (some d1) (F1 v)).put (some d2) (F2 v)).eval o3).run P w' = .ok (.value (F3 v)) w') (x3' : ∀ v p w',U v → (execOp ((((a.put (some dj) p).put (some di) v).put (some d1) (F1 v)).put (some d2) (F2 v)).eval o3).run P w' = .ok (.value (F3 v)) w')
  (hA : Calls P f vals w fun e w' => ∃ v,e = .returned v ∧ U v ∧ S w' ∧ S (N w') ∧ C v (z w') (N w'))
  (hB : S (N w) ∧ Calls P f vals (N w) fun e w' => ∃ v,e = .returned v ∧ U v ∧ S w' ∧ C v (z w) w')
  (h : ∀ v p w',U v → S w' → C v p w' → wpAnyH P md ops Q S fuel (((((listed.setIfInBounds i true).setIfInBounds k1 true).setIfInBounds k2 true).setIfInBounds k3 true).setIfInBounds j true) { a with tmps := ((((a.tmps.setIfInBounds di v).setIfInBounds d1 (F1 v)).setIfInBounds d2 (F2 v)).setIfInBounds d3 (F3 v)).setIfInBounds dj p } w') :
  wpAnyH P md ops Q S (fuel + 5) listed a w := by
 refine wpAnyH_ready (rs := [i,j]) hr (by simp) (AllReadyH.cons hi (fun K hK => ?_) (AllReadyH.cons hj (fun K hK => ?_) AllReadyH.nil))
 ·rw [if_pos (hwi _)];unfold Oper.wp;rw [hxi];refine Calls.mono hA ?_;rintro e w1 ⟨v,rfl,u,s1,s2,c⟩;refine hK.out _ _ s1 (fun _ => ?_);rw [hdi];refine rg_take k1 d1 (F1 v) _ h1 hd1 hs fA1 rA1 (fun c a w => hQ _ _ c a w) (hw1 _) (fun w' _ => x1 v w' u) s1 rfl rfl ?_;refine rg_take k2 d2 (F2 v) _ h2 hd2 hs fA2 rA2 (fun c a w => hQ _ _ c a w) (hw2 _) (fun w' _ => x2 v w' u) s1 rfl rfl ?_;refine rg_take k3 d3 (F3 v) _ h3 hd3 hs fA3 rA3 (fun c a w => hQ _ _ c a w) (hw3 _) (fun w' _ => x3 v w' u) s1 rfl rfl ?_;exact rg_run j dj (z w1) (N w1) hj hdj rA4 (hwj _) rfl (hxj _ w1) s2 (h v (z w1) (N w1) u s2 c)
 ·rw [if_pos (hwj _)];unfold Oper.wp;rw [hxj];refine hK.out _ _ hB.1 (fun _ => ?_);rw [hdj];refine rg_call i di f vals hi hdi hrj (hwi _) rfl (fun W => hxi' (z w) W) ?_;refine Calls.mono hB.2 ?_;rintro e w1 ⟨v,rfl,u,s1,c⟩;refine ⟨v,rfl,s1,?_⟩;refine rg_take k1 d1 (F1 v) _ h1 hd1 hs fB1 rB1 (fun c a w => hQ _ _ c a w) (hw1 _) (fun w' _ => x1' v (z w) w' u) s1 rfl rfl ?_;refine rg_take k2 d2 (F2 v) _ h2 hd2 hs fB2 rB2 (fun c a w => hQ _ _ c a w) (hw2 _) (fun w' _ => x2' v (z w) w' u) s1 rfl rfl ?_;refine rg_take k3 d3 (F3 v) _ h3 hd3 hs fB3 rB3 (fun c a w => hQ _ _ c a w) (hw3 _) (fun w' _ => x3' v (z w) w' u) s1 rfl rfl ?_;have hh := h v (z w) w1 u s1 c;rw [set_comm2 _ (Ne.symm j3),set_comm2 _ (Ne.symm j2),set_comm2 _ (Ne.symm j1),set_comm2 _ (Ne.symm ij),set_comm2 _ (Ne.symm dj3),set_comm2 _ (Ne.symm dj2),set_comm2 _ (Ne.symm dj1),set_comm2 _ (Ne.symm dij)] at hh;exact hh
end
section
open Go.ChangeShapes Go.WideShapes Go.ChangeAt Go.RowKit
theorem kept_cell {w : World} {a : Addr} {u : Value} (h : w.cell? a = some u) (x : Kept w.heap.size w) : x.w.cell? a = some u := by
 rw [x.below.cell (World.block_lt_of_cell? _ _ h)]; exact h
end
end Go.Proofs.Ytmgbhicogmclgaa

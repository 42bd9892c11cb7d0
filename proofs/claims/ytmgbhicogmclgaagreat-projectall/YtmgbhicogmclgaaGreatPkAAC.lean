/- Part 3 of what the proof stands on. -/
import Derived.Test.YtmgbhicogmclgaaGreatPkAAB
namespace Go.Proofs.YtmgbhicogmclgaaGreat
set_option maxHeartbeats 8000000
set_option linter.unusedVariables false
set_option linter.unusedSimpArgs false
set_option maxRecDepth 20000
section
theorem rg_llc {P : Program} {md : Region.Mode} {ops : Array Oper} {Q : Exit → Act → World → Prop} {fuel : Nat} {listed : Array Bool} {a : Act} {w : World} (i1 i4 j d1 d4 dj : Nat) {o1 o4 oj : Oper} (v1 v4 : Value) (f : Nat) (vals : Array Value) (LD : World → Prop)
  (h1 : ops[i1]? = some o1) (h4 : ops[i4]? = some o4) (hj : ops[j]? = some oj) (hd1 : o1.dst = some d1) (hd4 : o4.dst = some d4) (hdj : oj.dst = some dj)
  (hr0 : Region.ready md ops listed = [i1,i4]) (hr1 : Region.ready md ops (listed.setIfInBounds i1 true) = [j,i4]) (hr4 : Region.ready md ops (listed.setIfInBounds i4 true) = [i1])
  (hr14 : Region.ready md ops ((listed.setIfInBounds i1 true).setIfInBounds i4 true) = [j]) (hr1j : Region.ready md ops ((listed.setIfInBounds i1 true).setIfInBounds j true) = [i4])
  (hw1 : ∀ t,Region.wanted o1 t = true) (hw4 : ∀ t,Region.wanted o4 t = true) (hwj : ∀ t,Region.wanted oj t = true) (h14 : i1 ≠ i4) (hj4 : j ≠ i4) (d14 : d1 ≠ d4) (dj4 : dj ≠ d4)
  (hx1 : (execOp a.eval o1).run P w = .ok (.value v1) w) (hx1' : (execOp ({ a with tmps := a.tmps.setIfInBounds d4 v4 } : Act).eval o1).run P w = .ok (.value v1) w)
  (hx4 : (execOp a.eval o4).run P w = .ok (.value v4) w) (hx41 : (execOp ({ a with tmps := a.tmps.setIfInBounds d1 v1 } : Act).eval o4).run P w = .ok (.value v4) w)
  (hx4j : ∀ v W,LD W → (execOp ({ a with tmps := (a.tmps.setIfInBounds d1 v1).setIfInBounds dj v } : Act).eval o4).run P W = .ok (.value v4) W)
  (hxj : ∀ W,(execOp ({ a with tmps := a.tmps.setIfInBounds d1 v1 } : Act).eval oj).run P W = .ok (.enter f vals) W) (hxj' : ∀ W,(execOp ({ a with tmps := (a.tmps.setIfInBounds d1 v1).setIfInBounds d4 v4 } : Act).eval oj).run P W = .ok (.enter f vals) W)
  (h : Calls P f vals w fun e w' => ∃ v,e = .returned v ∧ LD w' ∧ wpAnyH P md ops Q (fun _ => True) fuel (((listed.setIfInBounds i1 true).setIfInBounds i4 true).setIfInBounds j true) { a with tmps := ((a.tmps.setIfInBounds d1 v1).setIfInBounds d4 v4).setIfInBounds dj v } w') :
  wpAnyH P md ops Q (fun _ => True) (fuel + 3) listed a w := by
 have main : wpAnyH P md ops Q (fun _ => True) (fuel + 1) ((listed.setIfInBounds i1 true).setIfInBounds i4 true) { a with tmps := (a.tmps.setIfInBounds d1 v1).setIfInBounds d4 v4 } w := by
  refine rg_call j dj f vals hj hdj hr14 (hwj _) rfl (fun W => hxj' W) ?_;refine h.mono ?_;rintro e w' ⟨v,rfl,_,h3⟩;exact ⟨v,rfl,trivial,h3⟩
 refine wpAnyH_ready (rs := [i1,i4]) hr0 (by simp) (AllReadyH.cons h1 (fun K hK => ?_) (AllReadyH.cons h4 (fun K hK => ?_) AllReadyH.nil))
 ·rw [if_pos (hw1 _)];unfold Oper.wp;rw [hx1];refine hK.out _ _ trivial (fun _ => ?_);rw [hd1];refine wpAnyH_ready (rs := [j,i4]) hr1 (by simp) (AllReadyH.cons hj (fun K hK => ?_) (AllReadyH.cons h4 (fun K hK => ?_) AllReadyH.nil))
  ·rw [if_pos (hwj _)];unfold Oper.wp;have hh : (execOp (Act.put a (some d1) v1).eval oj).run P w = .ok (.enter f vals) w := hxj w;rw [hh];refine Calls.mono h ?_;rintro e w' ⟨v,rfl,l1,h3⟩;refine hK.out _ _ trivial (fun _ => ?_);rw [hdj];refine rg_run i4 d4 v4 w' h4 hd4 hr1j (hw4 _) rfl ?_ trivial ?_
   ·exact hx4j v w' l1
   ·rw [set_comm2 _ hj4]
    show wpAnyH P md ops Q _ _ _ ({ a with tmps := ((a.tmps.setIfInBounds d1 v1).setIfInBounds dj v).setIfInBounds d4 v4 } : Act) w'
    rw [set_comm2 _ dj4];exact h3
  ·rw [if_pos (hw4 _)];unfold Oper.wp;have hh : (execOp (Act.put a (some d1) v1).eval o4).run P w = .ok (.value v4) w := hx41;rw [hh];refine hK.out _ _ trivial (fun _ => ?_);rw [hd4];exact main
 ·rw [if_pos (hw4 _)];unfold Oper.wp;rw [hx4];refine hK.out _ _ trivial (fun _ => ?_);rw [hd4];refine rg_run i1 d1 v1 w h1 hd1 hr4 (hw1 _) rfl ?_ trivial ?_
  ·exact hx1'
  ·rw [set_comm2 listed (Ne.symm h14)]
   show wpAnyH P md ops Q _ _ _ ({ a with tmps := (a.tmps.setIfInBounds d4 v4).setIfInBounds d1 v1 } : Act) w
   rw [set_comm2 a.tmps (Ne.symm d14)];exact main
def wpAnyM (P : Program) (md : Region.Mode) (ops : Array Oper) (Q : Exit → Act → World → Prop) (T : World → Prop) (m : Nat) : Nat → Array Bool → Act → World → Prop
 | 0,listed,a,w => Region.ready md ops listed = [] ∧ Q .normal a w
 | fuel + 1,listed,a,w => (Region.ready md ops listed = [] → Q .normal a w) ∧
  ∀ i ∈ Region.ready md ops listed,wpOp P ops Q i (fun a' w' => ((listed.setIfInBounds i true).getD m true = false → T w') ∧ wpAnyM P md ops Q T m fuel (listed.setIfInBounds i true) a' w') a w
section
variable {P : Program} {md : Region.Mode} {ops : Array Oper} {Q : Exit → Act → World → Prop} {T : World → Prop} {m : Nat}
theorem M_any : ∀ (fuel : Nat) (listed : Array Bool) (a : Act) (w : World),wpAnyM P md ops Q T m fuel listed a w → wpAny P md ops Q fuel listed a w
 | 0,_,_,_,h => h
 | fuel + 1,_,_,_,h => ⟨h.1,fun i hi => wpOp_mono (fun a' w' h' => M_any fuel _ a' w' h'.2) (h.2 i hi)⟩
theorem M_done {listed : Array Bool} {a : Act} {w : World} (hr : Region.ready md ops listed = []) (h : Q .normal a w) : ∀ fuel,wpAnyM P md ops Q T m fuel listed a w
 | 0 => ⟨hr,h⟩
 | _ + 1 => ⟨fun _ => h,by rw [hr]; simp⟩
theorem M_region {id : Nat} {a : Act} {w : World} (hm : P.follows .mixedOrders = true) (h : wpAnyM P .any ops Q T m ops.size (Array.replicate ops.size false) a w.drew) : (Code.region id ops true).wp P Q a w :=
 wp_region_any hm (M_any _ _ _ _ h)
theorem M_first {i : Nat} {oi : Oper} {v : Value} (hi : ops[i]? = some oi) (hsel : ∀ (j : Nat) (o : Oper) cs b,ops[j]? = some o → o.op ≠ .select cs b)
  (hQ : ∀ c a w,Q (.panic c) (a.put oi.dst v) w → Q (.panic c) a w) (hmi : ∀ om,ops[m]? = some om → ∃ e ∈ om.after,Region.binds md e = true ∧ e.on = i) :
  ∀ (fuel : Nat) (listed : Array Bool) (a : Act) (w : World),listed.getD m true = false →
   (∀ j oj,ops[j]? = some oj → j ≠ i → listed.getD j true = false → (∀ e ∈ oj.after,Region.binds md e = true → e.on ≠ i) → oi.apart ops oj = true) →
   i ∈ Region.ready md ops listed → YieldsIf P ops T oi v a → T w →
   wpAnyM P md ops Q T m fuel (listed.setIfInBounds i true) (a.put oi.dst v) w → wpAnyM P md ops Q T m (fuel + 1) listed a w := by
 intro fuel
 induction fuel with
 | zero =>
  intro listed a w hlm _ hr hy hT H;refine ⟨fun h => (by rw [h] at hr; cases hr),fun j hj => ?_⟩
  by_cases hji : j = i
  ·subst hji; exact hy.wpOp hi hT ⟨fun _ => hT,H⟩
  ·have h0 := ready_mono hj hji;rw [H.1] at h0
   cases h0
 | succ fuel ih =>
  intro listed a w hlm hfree hr hy hT H;refine ⟨fun h => (by rw [h] at hr; cases hr),fun j hj => ?_⟩
  by_cases hji : j = i
  ·subst hji; exact hy.wpOp hi hT ⟨fun _ => hT,H⟩
  ·have hH := H.2 j (ready_mono hj hji);obtain ⟨hjun,oj,hoj,hall⟩ := mem_ready.1 hj
   have hjm : j ≠ m := by
    intro e;subst e;obtain ⟨e,he,hb,hon⟩ := hmi oj hoj;have hx := hall e he hb;have h0 := (mem_ready.1 hr).1;rw [hon] at hx
    rcases Nat.lt_or_ge i listed.size with h' | h'
    ·simp [h'] at h0 hx; rw [h0] at hx; cases hx
    ·simp [Array.getElem?_eq_none h'] at hx
   have hnot : ∀ e ∈ oj.after,Region.binds md e = true → e.on ≠ i := fun e he hb heq => by
    have hx := hall e he hb;have h0 := (mem_ready.1 hr).1;rw [heq] at hx
    rcases Nat.lt_or_ge i listed.size with h' | h'
    ·simp [h'] at h0 hx; rw [h0] at hx; cases hx
    ·simp [Array.getElem?_eq_none h'] at hx
   have h2 := wpOp_putIf hoj (hfree j oj hoj hji hjun hnot) (fun cs b => hsel i oi cs b hi) (fun cs b => hsel j oj cs b hoj) hQ hy hH
   have hlj : (listed.setIfInBounds j true).getD m true = false := by rw [getD_set_ne true hjm]; exact hlm
   have him : i ≠ m := by
    intro e;subst e;obtain ⟨e,he,hb,hon⟩ := hmi oi hi;obtain ⟨h0,oi',hoi',hall'⟩ := mem_ready.1 hr;rw [hi] at hoi'
    cases hoi'
    have hx := hall' e he hb;rw [hon] at hx
    rcases Nat.lt_or_ge i listed.size with h' | h'
    ·simp [h'] at h0 hx; rw [h0] at hx; cases hx
    ·simp [Array.getElem?_eq_none h'] at hx
   have hlij : ((listed.setIfInBounds i true).setIfInBounds j true).getD m true = false := by rw [getD_set_ne true hjm,getD_set_ne true him]; exact hlm
   have hfree' : ∀ k ok,ops[k]? = some ok → k ≠ i → (listed.setIfInBounds j true).getD k true = false → (∀ e ∈ ok.after,Region.binds md e = true → e.on ≠ i) → oi.apart ops ok = true := fun k ok hk hki hun hno => by
    refine hfree k ok hk hki ?_ hno
    by_cases hjk : j = k
    ·subst hjk; exact hjun
    ·rw [getD_set_ne true hjk] at hun; exact hun
   refine wpOp_mono (fun a' w' h3 => ⟨fun _ => h3.2.1 hlij,ih (listed.setIfInBounds j true) a' w' hlj hfree' (ready_mono hr (Ne.symm hji)) h3.1 (h3.2.1 hlij) ?_⟩) h2;rw [Array.setIfInBounds_comm _ _ hji];exact h3.2.2
theorem M_take {oi : Oper} {fuel : Nat} {listed listed' : Array Bool} {a : Act} {w : World} (i d : Nat) (v : Value) (tmps' : Array Value) (hi : ops[i]? = some oi) (hd : oi.dst = some d)
  (hs : Region.noSelect ops = true) (hf : Region.free md ops listed i = true) (hr : (Region.ready md ops listed).contains i = true) (hmi : ((ops[m]?).any fun om => om.after.any fun e => Region.binds md e && e.on == i) = true) (hlm : listed.getD m true = false)
  (hQ : ∀ c a w,Q (.panic c) (a.put oi.dst v) w → Q (.panic c) a w) (hwt : Region.wanted oi (yielded ops a.tmps) = true) (hy : ∀ w,T w → (execOp a.eval oi).run P w = .ok (.value v) w) (hT : T w)
  (hl : listed.setIfInBounds i true = listed') (ht : a.tmps.setIfInBounds d v = tmps')
  (h : wpAnyM P md ops Q T m fuel listed' { a with tmps := tmps' } w) : wpAnyM P md ops Q T m (fuel + 1) listed a w := by
 subst hl ht;refine M_first hi (Region.noSelect_spec hs) hQ ?_ fuel listed a w hlm (Region.free_spec hi hf) (by simpa using hr) (.inl ⟨hwt,hy⟩) hT ?_
 ·intro om hom;rw [hom] at hmi;simp only [Option.any_some,Array.any_eq_true] at hmi;obtain ⟨k,hk,hb⟩ := hmi;simp only [Bool.and_eq_true,beq_iff_eq] at hb;exact ⟨_,Array.getElem_mem hk,hb.1,hb.2⟩
 ·rw [hd];exact h
theorem M_run {oi : Oper} {fuel : Nat} {listed listed' : Array Bool} {a : Act} {w : World} (i d : Nat) (v : Value) (w' : World) (hi : ops[i]? = some oi) (hd : oi.dst = some d)
  (hr : Region.ready md ops listed = [i]) (hwt : Region.wanted oi (yielded ops a.tmps) = true) (hl : listed.setIfInBounds i true = listed') (hx : (execOp a.eval oi).run P w = .ok (.value v) w') (hT : T w')
  (h : wpAnyM P md ops Q T m fuel listed' { a with tmps := a.tmps.setIfInBounds d v } w') : wpAnyM P md ops Q T m (fuel + 1) listed a w := by
 subst hl;refine ⟨fun h0 => (by rw [hr] at h0; cases h0),fun j hj => ?_⟩;rw [hr,List.mem_singleton] at hj;subst hj;unfold wpOp;simp only [hi];rw [if_pos hwt];refine .inl ?_;unfold Oper.wp;rw [hx,Oper.upon_value,hd];exact ⟨fun _ => hT,h⟩
theorem M_store {oi : Oper} {fuel : Nat} {listed listed' : Array Bool} {a : Act} {w : World} (i : Nat) (w' : World) (hi : ops[i]? = some oi) (hd : oi.dst = none)
  (hr : Region.ready md ops listed = [i]) (hwt : Region.wanted oi (yielded ops a.tmps) = true) (hl : listed.setIfInBounds i true = listed') (hx : (execOp a.eval oi).run P w = .ok .skip w') (hm : listed'.getD m true = true)
  (h : wpAnyM P md ops Q T m fuel listed' a w') : wpAnyM P md ops Q T m (fuel + 1) listed a w := by
 subst hl;refine ⟨fun h0 => (by rw [hr] at h0; cases h0),fun j hj => ?_⟩;rw [hr,List.mem_singleton] at hj;subst hj;unfold wpOp;simp only [hi];rw [if_pos hwt];refine .inl ?_;unfold Oper.wp;rw [hx,Oper.upon_skip,hd];exact ⟨fun h0 => (by rw [hm] at h0; cases h0),h⟩
theorem M_call {oi : Oper} {fuel : Nat} {listed listed' : Array Bool} {a : Act} {w : World} (i d f : Nat) (vals : Array Value) (hi : ops[i]? = some oi) (hd : oi.dst = some d)
  (hr : Region.ready md ops listed = [i]) (hwt : Region.wanted oi (yielded ops a.tmps) = true) (hl : listed.setIfInBounds i true = listed') (hx : ∀ w,(execOp a.eval oi).run P w = .ok (.enter f vals) w)
  (h : Calls P f vals w fun e w' => ∃ v,e = .returned v ∧ T w' ∧ wpAnyM P md ops Q T m fuel listed' { a with tmps := a.tmps.setIfInBounds d v } w') : wpAnyM P md ops Q T m (fuel + 1) listed a w := by
 subst hl;refine ⟨fun h0 => (by rw [hr] at h0; cases h0),fun j hj => ?_⟩;rw [hr,List.mem_singleton] at hj;subst hj;unfold wpOp;simp only [hi];rw [if_pos hwt];refine .inl ?_;unfold Oper.wp;rw [hx];refine Calls.mono h ?_;rintro e w' ⟨v,rfl,hT,h'⟩;rw [hd];exact ⟨fun _ => hT,h'⟩
theorem M_aa {o1 o2 ok : Oper} {fuel : Nat} {listed : Array Bool} {a : Act} {w : World} (i j k d1 d2 dk : Nat) (z : World → Value) (N : World → World) (f : Value → Value) (U : Value → Prop) (C : Value → Value → World → Prop)
  (h1 : ops[i]? = some o1) (h2 : ops[j]? = some o2) (hk : ops[k]? = some ok) (hd1 : o1.dst = some d1) (hd2 : o2.dst = some d2) (hdk : ok.dst = some dk) (hij : i ≠ j) (hjk : j ≠ k) (d12 : d1 ≠ d2) (d2k : d2 ≠ dk)
  (hr : Region.ready md ops listed = [i,j]) (hri : (Region.ready md ops (listed.setIfInBounds i true)).contains k = true) (hrik : Region.ready md ops ((listed.setIfInBounds i true).setIfInBounds k true) = [j])
  (hrj : Region.ready md ops (listed.setIfInBounds j true) = [i]) (hrji : Region.ready md ops ((listed.setIfInBounds j true).setIfInBounds i true) = [k])
  (hw1 : ∀ t,Region.wanted o1 t = true) (hw2 : ∀ t,Region.wanted o2 t = true) (hwk : ∀ t,Region.wanted ok t = true)
  (hs : Region.noSelect ops = true) (hfk : Region.free md ops (listed.setIfInBounds i true) k = true) (hmk : ((ops[m]?).any fun om => om.after.any fun e => Region.binds md e && e.on == k) = true) (hlm : (listed.setIfInBounds i true).getD m true = false)
  (hQ : ∀ v c a w,Q (.panic c) (a.put ok.dst v) w → Q (.panic c) a w)
  (hx2 : ∀ (a' : Act) w',(execOp a'.eval o2).run P w' = .ok (.value (z w')) (N w'))
  (hA : ∃ u w1,(execOp a.eval o1).run P w = .ok (.value u) w1 ∧ U u ∧ T w1 ∧ T (N w1) ∧ C u (z w1) (N w1))
  (hB : T (N w) ∧ ∃ u w1,(execOp (a.put (some d2) (z w)).eval o1).run P (N w) = .ok (.value u) w1 ∧ U u ∧ T w1 ∧ C u (z w) w1)
  (hxk : ∀ u w',U u → (execOp (a.put (some d1) u).eval ok).run P w' = .ok (.value (f u)) w') (hxk' : ∀ u v w',U u → (execOp ((a.put (some d2) v).put (some d1) u).eval ok).run P w' = .ok (.value (f u)) w')
  (h : ∀ u v w',U u → T w' → C u v w' → wpAnyM P md ops Q T m fuel (((listed.setIfInBounds i true).setIfInBounds k true).setIfInBounds j true) { a with tmps := ((a.tmps.setIfInBounds d1 u).setIfInBounds dk (f u)).setIfInBounds d2 v } w') : wpAnyM P md ops Q T m (fuel + 3) listed a w := by
 refine ⟨fun h0 => (by rw [hr] at h0; cases h0),fun q hq => ?_⟩;rw [hr] at hq;simp only [List.mem_cons,List.not_mem_nil,or_false] at hq
 rcases hq with rfl | rfl
 ·obtain ⟨u,w1,e1,uu,t1,t2,c1⟩ := hA;unfold wpOp;simp only [h1];rw [if_pos (hw1 _)];refine .inl ?_;unfold Oper.wp;rw [e1,Oper.upon_value,hd1];refine ⟨fun _ => t1,?_⟩;refine M_take k dk (f u) _ hk hdk hs hfk hri hmk hlm (fun c a w => hQ _ c a w) (hwk _) (fun w' _ => hxk u w' uu) t1 rfl rfl ?_;exact M_run j d2 (z w1) (N w1) h2 hd2 hrik (hw2 _) rfl (hx2 _ w1) t2 (h u (z w1) (N w1) uu t2 c1)
 ·obtain ⟨t0,u,w1,e1,uu,t1,c1⟩ := hB;unfold wpOp;simp only [h2];rw [if_pos (hw2 _)];refine .inl ?_;unfold Oper.wp;rw [hx2,Oper.upon_value,hd2];refine ⟨fun _ => t0,?_⟩;refine M_run i d1 u w1 h1 hd1 hrj (hw1 _) rfl e1 t1 ?_;refine M_run k dk (f u) w1 hk hdk hrji (hwk _) rfl (hxk' u (z w) w1 uu) t1 ?_;have hh := h u (z w) w1 uu t1 c1;rw [Array.setIfInBounds_comm (xs := listed.setIfInBounds i true) _ _ (Ne.symm hjk),Array.setIfInBounds_comm (xs := listed) _ _ hij,set_comm2 (a.tmps.setIfInBounds d1 u) (Ne.symm d2k),set_comm2 a.tmps d12] at hh;exact hh
end
section
variable {P : Program} {md : Region.Mode} {ops : Array Oper} {Q : Exit → Act → World → Prop} {T : World → Prop} {m : Nat}
theorem M_cab {o1 o2 ok : Oper} {fuel : Nat} {listed : Array Bool} {a : Act} {w : World} (i j k d1 d2 dk f : Nat) (vals : Array Value) (z : World → Value) (N : World → World) (F : Value → Value) (U : Value → Prop) (C : Value → Value → World → Prop)
  (h1 : ops[i]? = some o1) (h2 : ops[j]? = some o2) (hk : ops[k]? = some ok) (hd1 : o1.dst = some d1) (hd2 : o2.dst = some d2) (hdk : ok.dst = some dk) (hij : i ≠ j) (hjk : j ≠ k) (d12 : d1 ≠ d2) (d2k : d2 ≠ dk)
  (hr : Region.ready md ops listed = [i,j]) (hri : (Region.ready md ops (listed.setIfInBounds i true)).contains k = true) (hrik : Region.ready md ops ((listed.setIfInBounds i true).setIfInBounds k true) = [j])
  (hrj : Region.ready md ops (listed.setIfInBounds j true) = [i]) (hrji : Region.ready md ops ((listed.setIfInBounds j true).setIfInBounds i true) = [k])
  (hw1 : ∀ t,Region.wanted o1 t = true) (hw2 : ∀ t,Region.wanted o2 t = true) (hwk : ∀ t,Region.wanted ok t = true)
  (hs : Region.noSelect ops = true) (hfk : Region.free md ops (listed.setIfInBounds i true) k = true) (hmk : ((ops[m]?).any fun om => om.after.any fun e => Region.binds md e && e.on == k) = true) (hlm : (listed.setIfInBounds i true).getD m true = false)
  (hQ : ∀ v c a w,Q (.panic c) (a.put ok.dst v) w → Q (.panic c) a w)
  (hx1 : (execOp a.eval o1).run P w = .ok (.enter f vals) w) (hx1' : ∀ v w',(execOp (a.put (some d2) v).eval o1).run P w' = .ok (.enter f vals) w')
  (hx2 : ∀ (a' : Act) w',(execOp a'.eval o2).run P w' = .ok (.value (z w')) (N w'))
  (hA : Calls P f vals w fun e w1 => ∃ u,e = .returned u ∧ U u ∧ T w1 ∧ T (N w1) ∧ C u (z w1) (N w1))
  (hT : T (N w)) (hB : Calls P f vals (N w) fun e w1 => ∃ u,e = .returned u ∧ U u ∧ T w1 ∧ C u (z w) w1)
  (hxk : ∀ u w',U u → (execOp (a.put (some d1) u).eval ok).run P w' = .ok (.value (F u)) w') (hxk' : ∀ u v w',U u → (execOp ((a.put (some d2) v).put (some d1) u).eval ok).run P w' = .ok (.value (F u)) w')
  (h : ∀ u v w',U u → T w' → C u v w' → wpAnyM P md ops Q T m fuel (((listed.setIfInBounds i true).setIfInBounds k true).setIfInBounds j true) { a with tmps := ((a.tmps.setIfInBounds d1 u).setIfInBounds dk (F u)).setIfInBounds d2 v } w') : wpAnyM P md ops Q T m (fuel + 3) listed a w := by
 refine ⟨fun h0 => (by rw [hr] at h0; cases h0),fun q hq => ?_⟩;rw [hr] at hq;simp only [List.mem_cons,List.not_mem_nil,or_false] at hq
 rcases hq with rfl | rfl
 ·unfold wpOp;simp only [h1];rw [if_pos (hw1 _)];refine .inl ?_;unfold Oper.wp;rw [hx1];refine Calls.mono hA ?_;rintro e w1 ⟨u,rfl,uu,t1,t2,c1⟩;rw [hd1];refine ⟨fun _ => t1,?_⟩;refine M_take k dk (F u) _ hk hdk hs hfk hri hmk hlm (fun c a w => hQ _ c a w) (hwk _) (fun w' _ => hxk u w' uu) t1 rfl rfl ?_;exact M_run j d2 (z w1) (N w1) h2 hd2 hrik (hw2 _) rfl (hx2 _ w1) t2 (h u (z w1) (N w1) uu t2 c1)
 ·unfold wpOp;simp only [h2];rw [if_pos (hw2 _)];refine .inl ?_;unfold Oper.wp;rw [hx2,Oper.upon_value,hd2];refine ⟨fun _ => hT,?_⟩;refine ⟨fun h0 => (by rw [hrj] at h0; cases h0),fun q hq => ?_⟩;rw [hrj,List.mem_singleton] at hq;subst hq;unfold wpOp;simp only [h1];rw [if_pos (hw1 _)];refine .inl ?_;unfold Oper.wp;rw [hx1'];refine Calls.mono hB ?_;rintro e w1 ⟨u,rfl,uu,t1,c1⟩;rw [hd1];refine ⟨fun _ => t1,?_⟩;refine M_run k dk (F u) w1 hk hdk hrji (hwk _) rfl (hxk' u (z w) w1 uu) t1 ?_;have hh := h u (z w) w1 uu t1 c1;rw [Array.setIfInBounds_comm (xs := listed.setIfInBounds q true) _ _ (Ne.symm hjk),Array.setIfInBounds_comm (xs := listed) _ _ hij,set_comm2 (a.tmps.setIfInBounds d1 u) (Ne.symm d2k),set_comm2 a.tmps d12] at hh;exact hh
end
end
section
open Go.ChangeShapes Go.WideShapes Go.ChangeAt Go.RowKit
theorem infoTr : (Tryz.prog.info? 30).map (fun i => (i.zero,i.size,i.bytes)) = some (some (.agg #[.int .i64 0,.int .i64 0,.string ⟨#[]⟩,.slice none 0 0,.slice none 0 0]),5,80) := by kernel_rfl
theorem infoEt : (Tryz.prog.info? 69).map (fun i => (i.zero,i.size,i.bytes)) = some (some (.agg #[.int .i64 0,.slice none 0 0]),2,32) := by kernel_rfl
theorem take_atC {α : Type} {l : List α} {i : Nat} {x : α} (h : l[i]? = some x) : l.take (i + 1) = l.take i ++ [x] := by
 obtain ⟨hl,rfl⟩ := List.getElem?_eq_some_iff.1 h;rw [List.take_succ_eq_append_getElem hl]
structure CpS (n B b0 bt : Nat) (bx : Array Value) (K N : Int) (S : ByteArray) (ve vr : Value) (es : List (Int × List Tr)) (fs : List Fd) (rows : List (List Value)) (bss : List (List Nat)) (w : World) : Prop where
 row : RowO (EtO (TrO n B) B) B 69 2 w ve es rows bss
 rst : w.ownsRow B 79 4 vr fs.length (rawCells fs)
 bt : Blk w bt #[.int .i64 K,.int .i64 N,.string S,ve,vr] 30
 bx : Blk w b0 bx 30
 br : Blk w (b0 + 1) #[.int .i64 0,.int .i64 0,.string ⟨#[]⟩,.slice none 0 0,.slice none 0 0] 30
theorem CpS.sm {n B b0 bt : Nat} {bx : Array Value} {K N : Int} {S : ByteArray} {ve vr : Value} {es : List (Int × List Tr)} {fs : List Fd} {rows : List (List Value)} {bss : List (List Nat)} {w w' : World} (h : CpS n B b0 bt bx K N S ve vr es fs rows bss w)
  (hs : Sm w w' ([b0,b0 + 1,bt] ++ (blkOf vr ++ allB ve bss))) : CpS n B b0 bt bx K N S ve vr es fs rows bss w' :=
 ⟨h.row.sm (hs.mono fun k hk => by simp [hk]) fun _ _ _ hp hb => hp.sm hb,own_sm h.rst (hs.mono fun k hk => by simp [hk]),(hs bt (by simp)).trans h.bt,(hs b0 (by simp)).trans h.bx,(hs (b0 + 1) (by simp)).trans h.br⟩
theorem CpS.lt {n B b0 bt : Nat} {bx : Array Value} {K N : Int} {S : ByteArray} {ve vr : Value} {es : List (Int × List Tr)} {fs : List Fd} {rows : List (List Value)} {bss : List (List Nat)} {w : World} (h : CpS n B b0 bt bx K N S ve vr es fs rows bss w) {more : List Nat}
  (ap : Apt B w (([bt] ++ blkOf vr) ++ allB ve bss ++ more)) : ∀ k ∈ [b0,b0 + 1,bt] ++ (blkOf vr ++ allB ve bss),k < w.heap.size := fun k hk => by
 simp only [List.cons_append,List.nil_append,List.mem_cons,List.mem_append] at hk
 rcases hk with rfl | rfl | rfl | hk | hk
 ·exact h.bx.lt
 ·exact h.br.lt
 ·exact h.bt.lt
 ·exact (ap.2 k (by simp [hk])).2
 ·exact (ap.2 k (by simp [hk])).2
def CopyP (n : Nat) (t : Tr) (w : World) (e : Ending) (w' : World) : Prop := ∃ v bs,e = .returned v ∧ TrV n w.heap.size w' v t bs ∧ Below w.heap.size w w'
theorem TrO.open {n B : Nat} {w : World} {r : List Value} {t : Tr} {bs : List Nat} (h : TrO n B w r t bs) : ∃ a1 n1 c1 a2 n2 c2,r = [.int .i64 t.kind,.int .i64 t.n,.string t.s,.slice a1 n1 c1,.slice a2 n2 c2] := by
 cases n with
 | zero => exact h.elim
 | succ n =>
  obtain ⟨ve,vr,rows,bss,h1,h2,h3,h4,h5,h6,h7,rfl⟩ := h;obtain ⟨a1,c1,rfl⟩ := own_form h7.own;obtain ⟨a2,c2,rfl⟩ := own_form h6;exact ⟨_,_,_,_,_,_,h1⟩
theorem copy_step (n : Nat) (IH : ∀ t v w,TrIn n w v t → SmN n t → Calls Tryz.prog 8 #[v] w (CopyP n t w)) (t : Tr) (v : Value) (w : World) (ht : TrIn (n + 1) w v t) (hsm : SmN (n + 1) t) :
  Calls Tryz.prog 8 #[v] w (CopyP (n + 1) t w) := by
 obtain ⟨n',ve,vr,e0,rfl,ka,na,sa,fa,ra,ea⟩ := ht.open
 obtain rfl : n' = n := by omega
 clear e0 ht;obtain ⟨pe,ce,rfl,u1,u2, -⟩ := ea.open;obtain ⟨pr,cr,rfl,x1,x2, -⟩ := rest_holds ra;unfold maxLen at u2 x2;obtain ⟨-,hr40,he40, -,hsub⟩ := hsm;obtain ⟨Ke,hKe⟩ : ∃ K,t.es.length = K := ⟨_,rfl⟩;obtain ⟨Kr,hKr⟩ : ∃ K,t.rest.length = K := ⟨_,rfl⟩;have HSB : Hid (∀ e ∈ t.es,e.2.length ≤ 70 ∧ ∀ x ∈ e.2,SmN n' x) := hsub;rw [hKe] at u1 he40 ⊢;rw [hKr] at x1 hr40 ⊢;have EA : Hid (EnsIn n' w (.slice pe Ke ce) t.es) := (by rw [← hKe]; exact ea : EnsIn n' w (.slice pe Ke ce) t.es);have RA : Hid (RowG w (.slice pr Kr cr) 4 (fdRows t.rest)) := (by rw [← hKr]; exact ra : RowG w (.slice pr Kr cr) 4 (fdRows t.rest));have HKe : Hid (t.es.length = Ke) := hKe;have HKr : Hid (t.rest.length = Kr) := hKr;have HFA : Hid (Is64 t.kind ∧ Is64 t.n ∧ t.s.size ≤ 140737488351232 ∧ Fd64 t.rest) := ⟨ka,na,sa,fa⟩;clear hKe hKr ea ra fa ka na sa hsub;obtain ⟨K,hK⟩ : ∃ K,t.kind = K := ⟨_,rfl⟩;obtain ⟨N,hN⟩ : ∃ K,t.n = K := ⟨_,rfl⟩;obtain ⟨S,hS⟩ : ∃ K,t.s = K := ⟨_,rfl⟩;rw [hK,hN,hS];have HKN : Hid (t.kind = K ∧ t.n = N ∧ t.s = S) := ⟨hK,hN,hS⟩;clear hK hN hS
 go_enter Tryz.func8,Tryz.ntmps8
 go_wp2_with fail;refine M_region (T := fun W => W.cell? ⟨w.heap.size,0,none⟩ = some (.int .i64 K) ∧ W.cell? ⟨w.heap.size,1,none⟩ = some (.int .i64 N) ∧ W.cell? ⟨w.heap.size,2,none⟩ = some (.string S) ∧ W.cell? ⟨w.heap.size,4,none⟩ = some (.slice pr Kr cr)) (m := 11) (by kernel_rfl) ?_;have HB0 : Hid (Below w.heap.size w ((w.alloc (.cells #[.int .i64 K,.int .i64 N,.string S,.slice pe Ke ce,.slice pr Kr cr] 30)).alloc (.cells #[.int .i64 0,.int .i64 0,.string ⟨#[]⟩,.slice none 0 0,.slice none 0 0] 30)).drew) := below_drewN 1 (((Below.refl _ _).alloc (Nat.le_refl _) _).alloc (by simp) _);have HX0 : Hid (Blk ((w.alloc (.cells #[.int .i64 K,.int .i64 N,.string S,.slice pe Ke ce,.slice pr Kr cr] 30)).alloc (.cells #[.int .i64 0,.int .i64 0,.string ⟨#[]⟩,.slice none 0 0,.slice none 0 0] 30)).drew w.heap.size #[.int .i64 K,.int .i64 N,.string S,.slice pe Ke ce,.slice pr Kr cr] 30) := (Blk.new w _ _).below (below_drewN 1 ((Below.refl _ _).alloc (Nat.le_refl _) _))
 have HR0 : Hid (Blk ((w.alloc (.cells #[.int .i64 K,.int .i64 N,.string S,.slice pe Ke ce,.slice pr Kr cr] 30)).alloc (.cells #[.int .i64 0,.int .i64 0,.string ⟨#[]⟩,.slice none 0 0,.slice none 0 0] 30)).drew (w.heap.size + 1) #[.int .i64 0,.int .i64 0,.string ⟨#[]⟩,.slice none 0 0,.slice none 0 0] 30) := by
  have := Blk.new (w.alloc (.cells #[.int .i64 K,.int .i64 N,.string S,.slice pe Ke ce,.slice pr Kr cr] 30)) #[.int .i64 0,.int .i64 0,.string ⟨#[]⟩,.slice none 0 0,.slice none 0 0] 30;rw [show (w.alloc (.cells #[.int .i64 K,.int .i64 N,.string S,.slice pe Ke ce,.slice pr Kr cr] 30)).heap.size = w.heap.size + 1 by simp] at this;exact this
 have HS0 : Hid (((w.alloc (.cells #[.int .i64 K,.int .i64 N,.string S,.slice pe Ke ce,.slice pr Kr cr] 30)).alloc (.cells #[.int .i64 0,.int .i64 0,.string ⟨#[]⟩,.slice none 0 0,.slice none 0 0] 30)).drew.heap.size = w.heap.size + 2) := by show _ = _; simp [World.drew]
 generalize ((w.alloc (.cells #[.int .i64 K,.int .i64 N,.string S,.slice pe Ke ce,.slice pr Kr cr] 30)).alloc (.cells #[.int .i64 0,.int .i64 0,.string ⟨#[]⟩,.slice none 0 0,.slice none 0 0] 30)).drew = W0 at *;have hTb : ∀ W,Below W0.heap.size W0 W → W.cell? ⟨w.heap.size,0,none⟩ = some (.int .i64 K) ∧ W.cell? ⟨w.heap.size,1,none⟩ = some (.int .i64 N) ∧ W.cell? ⟨w.heap.size,2,none⟩ = some (.string S) ∧ W.cell? ⟨w.heap.size,4,none⟩ = some (.slice pr Kr cr) := fun W hW => ⟨(HX0.out.below hW).cell 0,(HX0.out.below hW).cell 1,(HX0.out.below hW).cell 2,(HX0.out.below hW).cell 4⟩
 obtain ⟨b0,hb0⟩ : ∃ n,w.heap.size = n := ⟨_,rfl⟩;rw [hb0] at HX0 HR0 HS0 hTb ⊢;have HBZ : Hid (w.heap.size = b0) := hb0;clear hb0;have hT := hTb W0 (Below.refl _ _);refine M_take 0 7 (.pointer (some ⟨b0,0,none⟩)) _ rfl rfl (by kernel_rfl) (by kernel_rfl) (by kernel_rfl) (by kernel_rfl) (by kernel_rfl) (fun _ _ _ h => h) (by rfl) (fun w' hw' => ?_) hT (listed' := bts 12 1) (by kernel_rfl) rfl ?_
 ·obtain ⟨g0,g1,g2,g3⟩ := hw'; go_simp
 simp only [zsA,zsZ,zsS];refine M_take 2 9 (.pointer (some ⟨b0,1,none⟩)) _ rfl rfl (by kernel_rfl) (by kernel_rfl) (by kernel_rfl) (by kernel_rfl) (by kernel_rfl) (fun _ _ _ h => h) (by rfl) (fun w' hw' => ?_) hT (listed' := bts 12 5) (by kernel_rfl) rfl ?_
 ·obtain ⟨g0,g1,g2,g3⟩ := hw'; go_simp
 simp only [zsA,zsZ,zsS];refine M_take 4 11 (.pointer (some ⟨b0,2,none⟩)) _ rfl rfl (by kernel_rfl) (by kernel_rfl) (by kernel_rfl) (by kernel_rfl) (by kernel_rfl) (fun _ _ _ h => h) (by rfl) (fun w' hw' => ?_) hT (listed' := bts 12 21) (by kernel_rfl) rfl ?_
 ·obtain ⟨g0,g1,g2,g3⟩ := hw'; go_simp
 simp only [zsA,zsZ,zsS];refine M_take 6 13 (.pointer (some ⟨b0,4,none⟩)) _ rfl rfl (by kernel_rfl) (by kernel_rfl) (by kernel_rfl) (by kernel_rfl) (by kernel_rfl) (fun _ _ _ h => h) (by rfl) (fun w' hw' => ?_) hT (listed' := bts 12 85) (by kernel_rfl) rfl ?_
 ·obtain ⟨g0,g1,g2,g3⟩ := hw'; go_simp
 simp only [zsA,zsZ,zsS];refine M_take 1 8 (.int .i64 K) _ rfl rfl (by kernel_rfl) (by kernel_rfl) (by kernel_rfl) (by kernel_rfl) (by kernel_rfl) (fun _ _ _ h => h) (by rfl) (fun w' hw' => ?_) hT (listed' := bts 12 87) (by kernel_rfl) rfl ?_
 ·obtain ⟨g0,g1,g2,g3⟩ := hw'; go_simp
 simp only [zsA,zsZ,zsS];refine M_take 3 10 (.int .i64 N) _ rfl rfl (by kernel_rfl) (by kernel_rfl) (by kernel_rfl) (by kernel_rfl) (by kernel_rfl) (fun _ _ _ h => h) (by rfl) (fun w' hw' => ?_) hT (listed' := bts 12 95) (by kernel_rfl) rfl ?_
 ·obtain ⟨g0,g1,g2,g3⟩ := hw'; go_simp
 simp only [zsA,zsZ,zsS];refine M_take 5 12 (.string S) _ rfl rfl (by kernel_rfl) (by kernel_rfl) (by kernel_rfl) (by kernel_rfl) (by kernel_rfl) (fun _ _ _ h => h) (by rfl) (fun w' hw' => ?_) hT (listed' := bts 12 127) (by kernel_rfl) rfl ?_
 ·obtain ⟨g0,g1,g2,g3⟩ := hw'; go_simp
 simp only [zsA,zsZ,zsS];refine M_take 7 14 (.slice pr Kr cr) _ rfl rfl (by kernel_rfl) (by kernel_rfl) (by kernel_rfl) (by kernel_rfl) (by kernel_rfl) (fun _ _ _ h => h) (by rfl) (fun w' hw' => ?_) hT (listed' := bts 12 255) (by kernel_rfl) rfl ?_
 ·obtain ⟨g0,g1,g2,g3⟩ := hw'; go_simp
 simp only [zsA,zsZ,zsS]
 have HRW : Hid (∀ W,Below W0.heap.size W0 W → Calls Tryz.prog 19 #[.slice pr Kr cr] W fun e w' => ∃ r,e = .returned r ∧ w'.ownsRow W.heap.size 79 4 r Kr (rawCells t.rest) ∧ Below W.heap.size W w') := fun W hW => by
  have := traws_any (RA.out.below (HB0.out.trans (hW.mono HB0.out.size))) (by have := HKr.out; omega);rw [HKr.out] at this;exact this
 have hAl : ∀ W : World,Below W.heap.size W (W.alloc (.cells #[.int .i64 0,.int .i64 0,.string ⟨#[]⟩,.slice none 0 0,.slice none 0 0] 30)) := fun W => (Below.refl _ _).alloc (Nat.le_refl _) _
 refine M_cab 8 10 9 15 3 16 19 #[.slice pr Kr cr] (fun W => .pointer (some ⟨W.heap.size,0,none⟩)) (fun W => W.alloc (.cells #[.int .i64 0,.int .i64 0,.string ⟨#[]⟩,.slice none 0 0,.slice none 0 0] 30)) (fun u => .agg #[.int .i64 K,.int .i64 N,.string S,.slice none 0 0,u]) (fun u => ∃ a c,u = .slice a Kr c)
  (fun u p W => ∃ bt,p = .pointer (some ⟨bt,0,none⟩) ∧ b0 + 2 ≤ bt ∧ Blk W bt #[.int .i64 0,.int .i64 0,.string ⟨#[]⟩,.slice none 0 0,.slice none 0 0] 30 ∧ W.ownsRow (b0 + 2) 79 4 u Kr (rawCells t.rest) ∧ u.ownBlock ≠ some bt ∧ Below W0.heap.size W0 W)
  rfl rfl rfl rfl rfl rfl (by decide) (by decide) (by decide) (by decide) (by kernel_rfl) (by kernel_rfl) (by kernel_rfl) (by kernel_rfl) (by kernel_rfl) (fun _ => rfl) (fun _ => rfl) (fun _ => rfl) (by kernel_rfl) (by kernel_rfl) (by kernel_rfl) (by kernel_rfl) (fun _ _ _ _ h => h) ?x1 ?x1' ?x2 ?hA ?hT' ?hB ?xk ?xk' ?_
 case x1 => go_simp
 case x1' => intro v W'; go_simp
 case x2 => intro a' W'; go_simp
 case hA =>
  refine (HRW.out W0 (Below.refl _ _)).mono ?_;rintro e W1 ⟨u,rfl,r3,r4⟩;have r5 : Below W0.heap.size W0 (W1.alloc (.cells #[.int .i64 0,.int .i64 0,.string ⟨#[]⟩,.slice none 0 0,.slice none 0 0] 30)) := r4.trans ((hAl W1).mono r4.size);have hs0 := HS0.out;exact ⟨u,rfl,own_form r3,hTb W1 r4,hTb _ r5,W1.heap.size,rfl,by have := r4.size; omega,Blk.new W1 _ _,own_base (own_below r3 (hAl W1)) (by omega),fun e => by have := (own_lt r3 e).2; omega,r5⟩
 case hT' => exact hTb _ (hAl W0)
 case hB =>
  refine (HRW.out _ (hAl W0)).mono ?_;rintro e W1 ⟨u,rfl,r3,r4⟩;have r5 : Below W0.heap.size W0 W1 := (hAl W0).trans (r4.mono (hAl W0).size);have hs0 := HS0.out;exact ⟨u,rfl,own_form r3,hTb W1 r5,W0.heap.size,rfl,by omega,(Blk.new W0 _ _).below r4,own_base r3 (by simp; omega),fun e => by have := (own_lt r3 e).1; simp at this; omega,r5⟩
 case xk => rintro u W' ⟨a,c,rfl⟩; go_simp
 case xk' => rintro u v W' ⟨a,c,rfl⟩; go_simp
 rintro u p W1 ⟨ua,uc,rfl⟩ _ ⟨bt,rfl,hbt,BT,ho,hnbt,hbel⟩;simp only [zsA,zsZ,zsS];have HO : Hid (W1.ownsRow (b0 + 2) 79 4 (.slice ua Kr uc) Kr (rawCells t.rest)) := ho;have HX1 := HX0.out.below hbel;have HR1 := HR0.out.below hbel;have hbw : Below w.heap.size w W1 := HB0.out.trans (hbel.mono HB0.out.size);have t0 := (BT.cell 0).trans rfl;have z0 := BT.froz 0;have t1 := (BT.cell 1).trans rfl;have z1 := BT.froz 1;have t2 := (BT.cell 2).trans rfl;have z2 := BT.froz 2;have t3 := (BT.cell 3).trans rfl;have z3 := BT.froz 3;have t4 := (BT.cell 4).trans rfl;have z4 := BT.froz 4;refine M_store 11 (((((W1.setCell ⟨bt,0,none⟩ (.int .i64 K)).setCell ⟨bt,1,none⟩ (.int .i64 N)).setCell ⟨bt,2,none⟩ (.string S)).setCell ⟨bt,3,none⟩ (.slice none 0 0)).setCell ⟨bt,4,none⟩ (.slice ua Kr uc)) rfl rfl (by kernel_rfl) (by rfl) (listed' := bts 12 4095) (by kernel_rfl) (by go_simp) (by kernel_rfl) ?_;refine M_done (by kernel_rfl) ?_ _
 have KS : Kp (fun k => k = bt) W1 (((((W1.setCell ⟨bt,0,none⟩ (.int .i64 K)).setCell ⟨bt,1,none⟩ (.int .i64 N)).setCell ⟨bt,2,none⟩ (.string S)).setCell ⟨bt,3,none⟩ (.slice none 0 0)).setCell ⟨bt,4,none⟩ (.slice ua Kr uc)) := by
  refine Kp.setCell ?_ (fun _ => by simp) _;refine Kp.setCell ?_ (fun _ => by simp) _;refine Kp.setCell ?_ (fun _ => by simp) _;refine Kp.setCell ?_ (fun _ => by simp) _;refine Kp.setCell ?_ (fun _ => by simp) _;exact Kp.refl _ _
 have BA : Blk (W1.setCell ⟨bt,0,none⟩ (.int .i64 K)) bt #[.int .i64 K,.int .i64 0,.string ⟨#[]⟩,.slice none 0 0,.slice none 0 0] 30 := BT.set 0 (.int .i64 K) rfl;have BB : Blk ((W1.setCell ⟨bt,0,none⟩ (.int .i64 K)).setCell ⟨bt,1,none⟩ (.int .i64 N)) bt #[.int .i64 K,.int .i64 N,.string ⟨#[]⟩,.slice none 0 0,.slice none 0 0] 30 := BA.set 1 (.int .i64 N) rfl;have BC : Blk (((W1.setCell ⟨bt,0,none⟩ (.int .i64 K)).setCell ⟨bt,1,none⟩ (.int .i64 N)).setCell ⟨bt,2,none⟩ (.string S)) bt #[.int .i64 K,.int .i64 N,.string S,.slice none 0 0,.slice none 0 0] 30 := BB.set 2 (.string S) rfl;have BD : Blk ((((W1.setCell ⟨bt,0,none⟩ (.int .i64 K)).setCell ⟨bt,1,none⟩ (.int .i64 N)).setCell ⟨bt,2,none⟩ (.string S)).setCell ⟨bt,3,none⟩ (.slice none 0 0)) bt #[.int .i64 K,.int .i64 N,.string S,.slice none 0 0,.slice none 0 0] 30 := BC.set 3 (.slice none 0 0) rfl;have BT2 : Blk (((((W1.setCell ⟨bt,0,none⟩ (.int .i64 K)).setCell ⟨bt,1,none⟩ (.int .i64 N)).setCell ⟨bt,2,none⟩ (.string S)).setCell ⟨bt,3,none⟩ (.slice none 0 0)).setCell ⟨bt,4,none⟩ (.slice ua Kr uc)) bt #[.int .i64 K,.int .i64 N,.string S,.slice none 0 0,.slice ua Kr uc] 30 := BD.set 4 (.slice ua Kr uc) rfl;clear BA BB BC BD
 have HO2 : (((((W1.setCell ⟨bt,0,none⟩ (.int .i64 K)).setCell ⟨bt,1,none⟩ (.int .i64 N)).setCell ⟨bt,2,none⟩ (.string S)).setCell ⟨bt,3,none⟩ (.slice none 0 0)).setCell ⟨bt,4,none⟩ (.slice ua Kr uc)).ownsRow (b0 + 2) 79 4 (.slice ua Kr uc) t.rest.length (rawCells t.rest) := by
  rw [HKr.out];exact own_kpV HO.out KS (fun k hk e => hnbt (by rw [hk,e]))
 have BX2 := HX1.kp KS (by omega);have BR2 := HR1.kp KS (by omega);have hb2 : Below w.heap.size w (((((W1.setCell ⟨bt,0,none⟩ (.int .i64 K)).setCell ⟨bt,1,none⟩ (.int .i64 N)).setCell ⟨bt,2,none⟩ (.string S)).setCell ⟨bt,3,none⟩ (.slice none 0 0)).setCell ⟨bt,4,none⟩ (.slice ua Kr uc)) := hbw.trans (KS.toBelow hbw.size (fun k e => by have := HBZ.out; omega));generalize (((((W1.setCell ⟨bt,0,none⟩ (.int .i64 K)).setCell ⟨bt,1,none⟩ (.int .i64 N)).setCell ⟨bt,2,none⟩ (.string S)).setCell ⟨bt,3,none⟩ (.slice none 0 0)).setCell ⟨bt,4,none⟩ (.slice ua Kr uc)) = W2 at *
 have HAP : Hid (Apt (b0 + 2) W2 (([bt] ++ blkOf (.slice ua Kr uc)) ++ allB (.slice none 0 0) [])) := by
  show Apt _ _ _
  have h1 : blkOf (.slice none 0 0) = [] := rfl;simp only [allB,h1,List.flatten_nil,List.append_nil];refine ⟨?_,fun k hk => ?_⟩
  ·rw [List.cons_append,List.nil_append,List.nodup_cons];refine ⟨fun h => hnbt (mem_blkOf.1 h),?_⟩;unfold blkOf; split <;> simp
  ·rcases List.mem_cons.1 hk with rfl | hk
   ·exact ⟨hbt,BT2.lt⟩
   ·exact own_lt HO2 (mem_blkOf.1 hk)
 have HCP : Hid (CpS n' (b0 + 2) b0 bt #[.int .i64 K,.int .i64 N,.string S,.slice pe Ke ce,.slice pr Kr cr] K N S (.slice none 0 0) (.slice ua Kr uc) (t.es.take 0) t.rest [] [] W2) := ⟨RowO.nil _ _ _ _ _,HO2,BT2,BX2,BR2⟩;clear t0 t1 t2 t3 t4 z0 z1 z2 z3 z4 KS HO HX1 HR1 hbw BT ho hbel hT hTb HRW HB0 HX0 HR0 HS0 hAl BT2 HO2 BX2 BR2 hnbt;go_wp2_with fail
 go_loopw [4] (fun iv wr => ∃ (i : Nat) (va : Option Addr) (vc : Nat) (rows : List (List Value)) (bss : List (List Nat)),iv = .int .i64 (i : Int) ∧ i ≤ Ke ∧ Hid (CpS n' (b0 + 2) b0 bt #[.int .i64 K,.int .i64 N,.string S,.slice pe Ke ce,.slice pr Kr cr] K N S (.slice va i vc) (.slice ua Kr uc) (t.es.take i) t.rest rows bss wr) ∧ Hid (Apt (b0 + 2) wr (([bt] ++ blkOf (.slice ua Kr uc)) ++ allB (.slice va i vc) bss)) ∧ Below w.heap.size w wr) (fun iv _ => Ke - (intOf iv).toNat)
 case atStart => exact ⟨0,none,0,[],[],rfl,by omega,HCP,HAP,hb2⟩
 case round =>
  clear HCP HAP hb2;obtain ⟨i,va,vc,rows,bss,rfl,hi,HCP,HAP,hbel⟩ := hrel;have q3 : wr.cell? ⟨b0,3,none⟩ = some (.slice pe Ke ce) := HCP.out.bx.cell 3;have hbtl := HCP.out.bt.lt
  by_cases hlt : i < Ke
  ·obtain ⟨x,hx⟩ : ∃ r,t.es[i]? = some r := ⟨_,List.getElem?_eq_getElem (by rw [HKe.out]; exact hlt)⟩;obtain ⟨ge,off,rfl,cc⟩ := EA.out.get hx;obtain ⟨vt,p0,p1,p2,p3⟩ := ens_at cc;obtain ⟨pt,ct,rfl,t1,t2, -⟩ := p3.open;unfold maxLen at t2;have HX : Hid (t.es[i]? = some x) := hx;have HSX : Hid (x.2.length ≤ 70 ∧ ∀ y ∈ x.2,SmN n' y) := HSB.out x (List.mem_of_getElem? hx);obtain ⟨xt,xl⟩ := x;simp only at p0 p1 p2 p3 t1 HSX;obtain ⟨Kt,hKt⟩ : ∃ K,xl.length = K := ⟨_,rfl⟩;rw [hKt] at p1 t1;have T1 : Hid (TrsIn n' w (.slice pt Kt ct) xl) := (by rw [← hKt]; exact p3 : TrsIn n' w (.slice pt Kt ct) xl);have HKt : Hid (xl.length = Kt) := hKt
   have hkt : Kt ≤ 70 := by rw [← hKt]; exact HSX.out.1
   have H64 : Hid (Is64 xt) := p2;have P1 : Hid (w.cell? ⟨ge,off + i * 2 + 1,none⟩ = some (.slice pt Kt ct)) := p1;have r0 := (hbel.cell (World.block_lt_of_cell? _ _ p0)).trans p0;clear hx cc p0 p1 p2 p3 hKt;go_wp2_with fail;have hbY : Below wr.heap.size wr (wr.alloc (.cells #[.int .i64 xt,.slice none 0 0] 69)) := (Below.refl _ _).alloc (Nat.le_refl _) _;have BY : Blk (wr.alloc (.cells #[.int .i64 xt,.slice none 0 0] 69)) wr.heap.size #[.int .i64 xt,.slice none 0 0] 69 := Blk.new wr _ _
   have HAPY : Hid (Apt (b0 + 2) (wr.alloc (.cells #[.int .i64 xt,.slice none 0 0] 69)) ((([bt] ++ blkOf (.slice ua Kr uc)) ++ allB (.slice va i vc) bss ++ [wr.heap.size]) ++ allB (.slice none 0 0) [])) := by
    show Apt _ _ _
    have h1 : allB (.slice none 0 0) [] = [] := rfl;rw [h1,List.append_nil];exact HAP.out.new (by omega) (by simp)
   have HCPY : Hid (CpS n' (b0 + 2) b0 bt #[.int .i64 K,.int .i64 N,.string S,.slice (some ⟨ge,off,none⟩) Ke ce,.slice pr Kr cr] K N S (.slice va i vc) (.slice ua Kr uc) (t.es.take i) t.rest rows bss (wr.alloc (.cells #[.int .i64 xt,.slice none 0 0] 69))) := HCP.out.sm (Sm.below hbY (HCP.out.lt (more := []) (by simpa using HAP.out)));have hbZ : Below w.heap.size w (wr.alloc (.cells #[.int .i64 xt,.slice none 0 0] 69)) := hbel.trans (hbY.mono hbel.size);have HYW : Hid (b0 + 2 ≤ wr.heap.size) := (by have := (HAP.out.2 bt (by simp)).1; omega : b0 + 2 ≤ wr.heap.size);have HRY : Hid (RowO (TrO n' (b0 + 2)) (b0 + 2) 30 5 (wr.alloc (.cells #[.int .i64 xt,.slice none 0 0] 69)) (.slice none 0 0) (xl.take 0) [] []) := RowO.nil _ _ _ _ _;generalize (wr.alloc (.cells #[.int .i64 xt,.slice none 0 0] 69)) = WY at *;obtain ⟨by',hby⟩ : ∃ q,wr.heap.size = q := ⟨_,rfl⟩;rw [hby] at BY HAPY HYW ⊢;clear hby hbY HCP HAP hbel q3 r0 hbtl
   go_loopw [6] (fun iv wz => ∃ (j : Nat) (ta : Option Addr) (tc : Nat) (rows' : List (List Value)) (bss' : List (List Nat)),iv = .int .i64 (j : Int) ∧ j ≤ Kt ∧ Hid (RowO (TrO n' (b0 + 2)) (b0 + 2) 30 5 wz (.slice ta j tc) (xl.take j) rows' bss') ∧ Hid (Apt (b0 + 2) wz ((([bt] ++ blkOf (.slice ua Kr uc)) ++ allB (.slice va i vc) bss ++ [by']) ++ allB (.slice ta j tc) bss')) ∧ Hid (Blk wz by' #[.int .i64 xt,.slice ta j tc] 69) ∧ Hid (CpS n' (b0 + 2) b0 bt #[.int .i64 K,.int .i64 N,.string S,.slice (some ⟨ge,off,none⟩) Ke ce,.slice pr Kr cr] K N S (.slice va i vc) (.slice ua Kr uc) (t.es.take i) t.rest rows bss wz) ∧ Below w.heap.size w wz) (fun iv _ => Kt - (intOf iv).toNat)
   case atStart => exact ⟨0,none,0,[],[],rfl,by omega,HRY,HAPY,BY,HCPY,hbZ⟩
   case round =>
    clear HRY HAPY BY HCPY hbZ;obtain ⟨j,ta,tc,rows',bss',rfl,hj,HRY,HAP,BY,HCP,hbel⟩ := hrel;have q3 : wr.cell? ⟨b0,3,none⟩ = some (.slice (some ⟨ge,off,none⟩) Ke ce) := HCP.out.bx.cell 3;have p1 := (hbel.cell (World.block_lt_of_cell? _ _ P1.out)).trans P1.out
    by_cases hlt2 : j < Kt
    ·obtain ⟨x,hx⟩ : ∃ r,xl[j]? = some r := ⟨_,List.getElem?_eq_getElem (by rw [HKt.out]; exact hlt2)⟩;obtain ⟨g3,off3,rfl,k1⟩ := T1.out.get hx;obtain ⟨z1,n1,e1,z2,n2,e2,y0,y1,y2,y3,y4,y5⟩ := trs_get k1;have HX2 : Hid (xl[j]? = some x) := hx;have HSY : Hid (SmN n' x) := HSX.out.2 x (List.mem_of_getElem? hx);have HIN : Hid (TrIn n' w (.agg #[.int .i64 x.kind,.int .i64 x.n,.string x.s,.slice z1 n1 e1,.slice z2 n2 e2]) x) := y5;have HCE : Hid (w.cell? ⟨g3,off3 + j * 5,none⟩ = some (.int .i64 x.kind) ∧ w.cell? ⟨g3,off3 + j * 5 + 1,none⟩ = some (.int .i64 x.n) ∧ w.cell? ⟨g3,off3 + j * 5 + 2,none⟩ = some (.string x.s) ∧ w.cell? ⟨g3,off3 + j * 5 + 3,none⟩ = some (.slice z1 n1 e1) ∧ w.cell? ⟨g3,off3 + j * 5 + 4,none⟩ = some (.slice z2 n2 e2)) := ⟨y0,y1,y2,y3,y4⟩;clear y0 y1 y2 y3 y4 y5 k1 hx;go_wp2_with fail;clear q3 p1;refine M_region (T := fun W => W.cell? ⟨by',1,none⟩ = some (.slice ta j tc) ∧ W.cell? ⟨b0,3,none⟩ = some (.slice (some ⟨ge,off,none⟩) Ke ce) ∧ W.cell? ⟨ge,off + i * 2 + 1,none⟩ = some (.slice (some ⟨g3,off3,none⟩) Kt ct) ∧ W.cell? ⟨g3,off3 + j * 5,none⟩ = some (.int .i64 x.kind) ∧ W.cell? ⟨g3,off3 + j * 5 + 1,none⟩ = some (.int .i64 x.n) ∧ W.cell? ⟨g3,off3 + j * 5 + 2,none⟩ = some (.string x.s) ∧ W.cell? ⟨g3,off3 + j * 5 + 3,none⟩ = some (.slice z1 n1 e1) ∧ W.cell? ⟨g3,off3 + j * 5 + 4,none⟩ = some (.slice z2 n2 e2)) (m := 15) (by kernel_rfl) ?_;have hdr : Below wr.heap.size wr wr.drew := (Below.refl _ _).drew;have HSZ : Hid (wr.drew.heap.size = wr.heap.size) := (rfl : wr.drew.heap.size = wr.heap.size);have HRYd : Hid (RowO (TrO n' (b0 + 2)) (b0 + 2) 30 5 wr.drew (.slice ta j tc) (xl.take j) rows' bss') := HRY.out.sm (fun _ _ => rfl) fun _ _ _ hp hb => hp.sm hb
     have HAPd : Hid (Apt (b0 + 2) wr.drew ((([bt] ++ blkOf (.slice ua Kr uc)) ++ allB (.slice va i vc) bss ++ [by']) ++ allB (.slice ta j tc) bss')) := HAP.out.mono (Nat.le_refl _)
     have BYd : Blk wr.drew by' #[.int .i64 xt,.slice ta j tc] 69 := BY.out
     have HCPd : Hid (CpS n' (b0 + 2) b0 bt #[.int .i64 K,.int .i64 N,.string S,.slice (some ⟨ge,off,none⟩) Ke ce,.slice pr Kr cr] K N S (.slice va i vc) (.slice ua Kr uc) (t.es.take i) t.rest rows bss wr.drew) := HCP.out.sm (fun _ _ => rfl);have hbd : Below w.heap.size w wr.drew := hbel.trans (hdr.mono hbel.size);generalize wr.drew = W0 at *;clear HRY HAP BY HCP hbel HSZ hdr
     have hTb : ∀ W,Below w.heap.size w W → Blk W by' #[.int .i64 xt,.slice ta j tc] 69 → Blk W b0 #[.int .i64 K,.int .i64 N,.string S,.slice (some ⟨ge,off,none⟩) Ke ce,.slice pr Kr cr] 30 → W.cell? ⟨by',1,none⟩ = some (.slice ta j tc) ∧ W.cell? ⟨b0,3,none⟩ = some (.slice (some ⟨ge,off,none⟩) Ke ce) ∧ W.cell? ⟨ge,off + i * 2 + 1,none⟩ = some (.slice (some ⟨g3,off3,none⟩) Kt ct) ∧ W.cell? ⟨g3,off3 + j * 5,none⟩ = some (.int .i64 x.kind) ∧ W.cell? ⟨g3,off3 + j * 5 + 1,none⟩ = some (.int .i64 x.n) ∧ W.cell? ⟨g3,off3 + j * 5 + 2,none⟩ = some (.string x.s) ∧ W.cell? ⟨g3,off3 + j * 5 + 3,none⟩ = some (.slice z1 n1 e1) ∧ W.cell? ⟨g3,off3 + j * 5 + 4,none⟩ = some (.slice z2 n2 e2) := fun W hW h1 h2 => by
      obtain ⟨y0,y1,y2,y3,y4⟩ := HCE.out;exact ⟨h1.cell 1,h2.cell 3,(hW.cell (World.block_lt_of_cell? _ _ P1.out)).trans P1.out,(hW.cell (World.block_lt_of_cell? _ _ y0)).trans y0,(hW.cell (World.block_lt_of_cell? _ _ y1)).trans y1,(hW.cell (World.block_lt_of_cell? _ _ y2)).trans y2,(hW.cell (World.block_lt_of_cell? _ _ y3)).trans y3,(hW.cell (World.block_lt_of_cell? _ _ y4)).trans y4⟩
     have hT := hTb W0 hbd BYd HCPd.out.bx;refine M_take 0 42 (.pointer (some ⟨by',1,none⟩)) _ rfl rfl (by kernel_rfl) (by kernel_rfl) (by kernel_rfl) (by kernel_rfl) (by kernel_rfl) (fun _ _ _ h => h) (by rfl) (fun w' hw' => ?_) hT (listed' := bts 16 1) (by kernel_rfl) rfl ?_
     ·obtain ⟨f0,f1,f2,f3,f4,f5,f6,f7⟩ := hw'; go_simp
     simp only [zsA,zsZ,zsS];refine M_take 2 44 (.pointer (some ⟨b0,3,none⟩)) _ rfl rfl (by kernel_rfl) (by kernel_rfl) (by kernel_rfl) (by kernel_rfl) (by kernel_rfl) (fun _ _ _ h => h) (by rfl) (fun w' hw' => ?_) hT (listed' := bts 16 5) (by kernel_rfl) rfl ?_
     ·obtain ⟨f0,f1,f2,f3,f4,f5,f6,f7⟩ := hw'; go_simp
     simp only [zsA,zsZ,zsS];refine M_take 4 46 (.int .i64 (i : Int)) _ rfl rfl (by kernel_rfl) (by kernel_rfl) (by kernel_rfl) (by kernel_rfl) (by kernel_rfl) (fun _ _ _ h => h) (by rfl) (fun w' hw' => ?_) hT (listed' := bts 16 21) (by kernel_rfl) rfl ?_
     ·obtain ⟨f0,f1,f2,f3,f4,f5,f6,f7⟩ := hw'; go_simp
     simp only [zsA,zsZ,zsS];refine M_take 8 50 (.int .i64 (j : Int)) _ rfl rfl (by kernel_rfl) (by kernel_rfl) (by kernel_rfl) (by kernel_rfl) (by kernel_rfl) (fun _ _ _ h => h) (by rfl) (fun w' hw' => ?_) hT (listed' := bts 16 277) (by kernel_rfl) rfl ?_
     ·obtain ⟨f0,f1,f2,f3,f4,f5,f6,f7⟩ := hw'; go_simp
     simp only [zsA,zsZ,zsS];refine M_take 1 43 (.slice ta j tc) _ rfl rfl (by kernel_rfl) (by kernel_rfl) (by kernel_rfl) (by kernel_rfl) (by kernel_rfl) (fun _ _ _ h => h) (by rfl) (fun w' hw' => ?_) hT (listed' := bts 16 279) (by kernel_rfl) rfl ?_
     ·obtain ⟨f0,f1,f2,f3,f4,f5,f6,f7⟩ := hw'; go_simp
     simp only [zsA,zsZ,zsS];refine M_take 3 45 (.slice (some ⟨ge,off,none⟩) Ke ce) _ rfl rfl (by kernel_rfl) (by kernel_rfl) (by kernel_rfl) (by kernel_rfl) (by kernel_rfl) (fun _ _ _ h => h) (by rfl) (fun w' hw' => ?_) hT (listed' := bts 16 287) (by kernel_rfl) rfl ?_
     ·obtain ⟨f0,f1,f2,f3,f4,f5,f6,f7⟩ := hw'; go_simp
     simp only [zsA,zsZ,zsS];refine M_take 5 47 (.pointer (some ⟨ge,off + i * 2,none⟩)) _ rfl rfl (by kernel_rfl) (by kernel_rfl) (by kernel_rfl) (by kernel_rfl) (by kernel_rfl) (fun _ _ _ h => h) (by rfl) (fun w' hw' => ?_) hT (listed' := bts 16 319) (by kernel_rfl) rfl ?_
     ·obtain ⟨f0,f1,f2,f3,f4,f5,f6,f7⟩ := hw'; go_simp
     simp only [zsA,zsZ,zsS];refine M_take 6 48 (.pointer (some ⟨ge,off + i * 2 + 1,none⟩)) _ rfl rfl (by kernel_rfl) (by kernel_rfl) (by kernel_rfl) (by kernel_rfl) (by kernel_rfl) (fun _ _ _ h => h) (by rfl) (fun w' hw' => ?_) hT (listed' := bts 16 383) (by kernel_rfl) rfl ?_
     ·obtain ⟨f0,f1,f2,f3,f4,f5,f6,f7⟩ := hw'; go_simp
     simp only [zsA,zsZ,zsS];refine M_take 7 49 (.slice (some ⟨g3,off3,none⟩) Kt ct) _ rfl rfl (by kernel_rfl) (by kernel_rfl) (by kernel_rfl) (by kernel_rfl) (by kernel_rfl) (fun _ _ _ h => h) (by rfl) (fun w' hw' => ?_) hT (listed' := bts 16 511) (by kernel_rfl) rfl ?_
     ·obtain ⟨f0,f1,f2,f3,f4,f5,f6,f7⟩ := hw'; go_simp
     simp only [zsA,zsZ,zsS];refine M_take 9 51 (.pointer (some ⟨g3,off3 + j * 5,none⟩)) _ rfl rfl (by kernel_rfl) (by kernel_rfl) (by kernel_rfl) (by kernel_rfl) (by kernel_rfl) (fun _ _ _ h => h) (by rfl) (fun w' hw' => ?_) hT (listed' := bts 16 1023) (by kernel_rfl) rfl ?_
     ·obtain ⟨f0,f1,f2,f3,f4,f5,f6,f7⟩ := hw'; go_simp
     simp only [zsA,zsZ,zsS];refine M_take 10 52 (.agg #[.int .i64 x.kind,.int .i64 x.n,.string x.s,.slice z1 n1 e1,.slice z2 n2 e2]) _ rfl rfl (by kernel_rfl) (by kernel_rfl) (by kernel_rfl) (by kernel_rfl) (by kernel_rfl) (fun _ _ _ h => h) (by rfl) (fun w' hw' => ?_) hT (listed' := bts 16 2047) (by kernel_rfl) rfl ?_
     ·obtain ⟨f0,f1,f2,f3,f4,f5,f6,f7⟩ := hw'; go_simp
     simp only [zsA,zsZ,zsS];refine M_call 11 53 8 #[.agg #[.int .i64 x.kind,.int .i64 x.n,.string x.s,.slice z1 n1 e1,.slice z2 n2 e2]] rfl rfl (by kernel_rfl) (by rfl) (listed' := bts 16 4095) (by kernel_rfl) (fun W => by go_simp) ?_;refine (IH x _ W0 (HIN.out.below hbd) HSY.out).mono ?_;rintro e W1 ⟨v,bs,rfl,⟨r,rfl,hO,hA⟩,hb1⟩;obtain ⟨a1,m1,c1,a2,m2,c2,rfl⟩ := hO.open;have hbw1 : Below w.heap.size w W1 := hbd.trans (hb1.mono hbd.size);have BY1 := BYd.below hb1;have HRY1 : Hid (RowO (TrO n' (b0 + 2)) (b0 + 2) 30 5 W1 (.slice ta j tc) (xl.take j) rows' bss') := HRYd.out.sm (Sm.below hb1 fun k hk => (HAPd.out.2 k (by simp only [List.mem_append]; exact .inr hk)).2) fun _ _ _ hp hb => hp.sm hb
     have HCP1 : Hid (CpS n' (b0 + 2) b0 bt #[.int .i64 K,.int .i64 N,.string S,.slice (some ⟨ge,off,none⟩) Ke ce,.slice pr Kr cr] K N S (.slice va i vc) (.slice ua Kr uc) (t.es.take i) t.rest rows bss W1) := HCPd.out.sm (Sm.below hb1 (HCPd.out.lt (more := [by'] ++ allB (.slice ta j tc) bss') (HAPd.out.of_count fun k => by simp only [List.count_append]; omega)))
     have hW0B : b0 + 2 ≤ W0.heap.size := by have := (HAPd.out.2 by' (by simp)); omega
     have HAP1 : Hid (Apt (b0 + 2) W1 ((([bt] ++ blkOf (.slice ua Kr uc)) ++ allB (.slice va i vc) bss ++ [by']) ++ (allB (.slice ta j tc) bss' ++ bs))) := (HAPd.out.append hA hW0B (Nat.le_refl _) hb1.size).of_count fun k => by simp only [List.count_append]; omega
     have HTO : Hid (TrO n' (b0 + 2) W1 [.int .i64 x.kind,.int .i64 x.n,.string x.s,.slice a1 m1 c1,.slice a2 m2 c2] x bs) := hO.base hW0B;have hT1 := hTb W1 hbw1 BY1 HCP1.out.bx;refine ⟨_,rfl,hT1,?_⟩;simp only [zsA,zsZ,zsS];clear HRYd HAPd BYd HCPd hbd hO hA hT HIN;have hal : Below W1.heap.size W1 (W1.alloc (.cells #[.int .i64 x.kind,.int .i64 x.n,.string x.s,.slice a1 m1 c1,.slice a2 m2 c2] 30)) := (Below.refl _ _).alloc (Nat.le_refl _) _;have hbw3 : Below w.heap.size w (W1.alloc (.cells #[.int .i64 x.kind,.int .i64 x.n,.string x.s,.slice a1 m1 c1,.slice a2 m2 c2] 30)) := hbw1.trans (hal.mono hbw1.size);have BE := Blk.new W1 #[.int .i64 x.kind,.int .i64 x.n,.string x.s,.slice a1 m1 c1,.slice a2 m2 c2] 30;have BY3 := BY1.below hal;have HRY3 : Hid (RowO (TrO n' (b0 + 2)) (b0 + 2) 30 5 (W1.alloc (.cells #[.int .i64 x.kind,.int .i64 x.n,.string x.s,.slice a1 m1 c1,.slice a2 m2 c2] 30)) (.slice ta j tc) (xl.take j) rows' bss') := HRY1.out.sm (Sm.below hal fun k hk => (HAP1.out.2 k (by simp only [List.mem_append]; exact .inr (.inl hk))).2) fun _ _ _ hp hb => hp.sm hb
     have HCP3 : Hid (CpS n' (b0 + 2) b0 bt #[.int .i64 K,.int .i64 N,.string S,.slice (some ⟨ge,off,none⟩) Ke ce,.slice pr Kr cr] K N S (.slice va i vc) (.slice ua Kr uc) (t.es.take i) t.rest rows bss (W1.alloc (.cells #[.int .i64 x.kind,.int .i64 x.n,.string x.s,.slice a1 m1 c1,.slice a2 m2 c2] 30))) := HCP1.out.sm (Sm.below hal (HCP1.out.lt (more := [by'] ++ (allB (.slice ta j tc) bss' ++ bs)) (HAP1.out.of_count fun k => by simp only [List.count_append]; omega)));have HAP3 : Hid (Apt (b0 + 2) (W1.alloc (.cells #[.int .i64 x.kind,.int .i64 x.n,.string x.s,.slice a1 m1 c1,.slice a2 m2 c2] 30)) ((([bt] ++ blkOf (.slice ua Kr uc)) ++ allB (.slice va i vc) bss ++ [by']) ++ (allB (.slice ta j tc) bss' ++ bs))) := HAP1.out.mono hal.size;have HTO3 : Hid (TrO n' (b0 + 2) (W1.alloc (.cells #[.int .i64 x.kind,.int .i64 x.n,.string x.s,.slice a1 m1 c1,.slice a2 m2 c2] 30)) [.int .i64 x.kind,.int .i64 x.n,.string x.s,.slice a1 m1 c1,.slice a2 m2 c2] x bs) := HTO.out.sm (Sm.below hal fun k hk => (HAP1.out.2 k (by simp only [List.mem_append]; exact .inr (.inr hk))).2)
     have hW3B : b0 + 2 ≤ (W1.alloc (.cells #[.int .i64 x.kind,.int .i64 x.n,.string x.s,.slice a1 m1 c1,.slice a2 m2 c2] 30)).heap.size := by have := hb1.size; simp; omega
     have hT3 := hTb _ hbw3 BY3 HCP3.out.bx;obtain ⟨bz,hbz⟩ : ∃ n,W1.heap.size = n := ⟨_,rfl⟩;refine M_run 12 54 (.slice (some ⟨W1.heap.size,0,none⟩) 1 1) ((W1.alloc (.cells #[.int .i64 x.kind,.int .i64 x.n,.string x.s,.slice a1 m1 c1,.slice a2 m2 c2] 30))) rfl rfl (by kernel_rfl) (by rfl) (listed' := bts 16 8191) (by kernel_rfl) (by go_simp) hT3 ?_;simp only [zsA,zsZ,zsS];rw [hbz] at BE ⊢;generalize (W1.alloc (.cells #[.int .i64 x.kind,.int .i64 x.n,.string x.s,.slice a1 m1 c1,.slice a2 m2 c2] 30)) = W3 at *;clear hbz hal HRY1 HCP1 HAP1 HTO BY1 hbw1 hT1 hb1;obtain ⟨i0,hi0,hz0,hz1,hz2⟩ := info_parts infoTr;have hown := HRY3.out.own
     have hlj : (xl.take j).length = j := by rw [List.length_take,HKt.out]; omega
     rw [hlj] at hown
     obtain ⟨v',W4,r1,r2,r3,_,r5⟩ := run_append_own_at W3 (b0 + 2) 67 67 30 i0 _ 5 80 Tryz.underlying67 hi0 hz0 hz1 hz2 rfl (by decide) (.slice ta j tc) j _ hown ⟨bz,0,none⟩ 1 1 [.int .i64 x.kind,.int .i64 x.n,.string x.s,.slice a1 m1 c1,.slice a2 m2 c2] rfl (fun j u hu => by
      have := BE.cell j;rw [Addr.add_lit,Nat.zero_add,this]
      simpa using hu) (fun u hu => by
      simp only [List.mem_cons,List.not_mem_nil,or_false] at hu
      rcases hu with rfl | rfl | rfl | rfl | rfl <;> rfl) (by unfold maxLen; omega) (by omega) hW3B
     have HRUN : Hid _ := r1
     have HRY4 : Hid (RowO (TrO n' (b0 + 2)) (b0 + 2) 30 5 W4 v' (xl.take (j + 1)) (rows' ++ [[.int .i64 x.kind,.int .i64 x.n,.string x.s,.slice a1 m1 c1,.slice a2 m2 c2]]) (bss' ++ [bs])) := by
      show RowO _ _ _ _ _ _ _ _ _
      rw [take_atC HX2.out];exact HRY3.out.push (HAP3.out.of_count fun k => by simp only [List.count_append]; omega) (by rw [hlj]; exact r2) r3 HTO3.out rfl fun _ _ _ hp hb => hp.sm hb
     have HAP4 : Hid (Apt (b0 + 2) W4 ((([bt] ++ blkOf (.slice ua Kr uc)) ++ allB (.slice va i vc) bss ++ [by']) ++ allB v' (bss' ++ [bs]))) := HAP3.out.push r5 r2 r3.size hW3B;have hno : ∀ k ∈ (([bt] ++ blkOf (.slice ua Kr uc)) ++ allB (.slice va i vc) bss ++ [by']),k ∉ blkOf (.slice ta j tc) := fun k hk hq => HAP3.out.apart k hk (by simp [allB,hq])
     have HCP4 : Hid (CpS n' (b0 + 2) b0 bt #[.int .i64 K,.int .i64 N,.string S,.slice (some ⟨ge,off,none⟩) Ke ce,.slice pr Kr cr] K N S (.slice va i vc) (.slice ua Kr uc) (t.es.take i) t.rest rows bss W4) := HCP3.out.sm (grown_sm r3 (HCP3.out.lt (more := [by'] ++ (allB (.slice ta j tc) bss' ++ bs)) (HAP3.out.of_count fun k => by simp only [List.count_append]; omega)) fun k hk hq => by
      have h9 := own_lt hown (mem_blkOf.1 hq);simp only [List.cons_append,List.nil_append,List.mem_cons] at hk
      rcases hk with rfl | rfl | rfl | hk
      ·omega
      ·omega
      ·exact hno _ (by simp) hq
      ·exact hno k (by simp only [List.mem_append] at hk ⊢; rcases hk with hk | hk <;> simp [hk]) hq)
     have BY4 : Blk W4 by' #[.int .i64 xt,.slice ta j tc] 69 := (r3.block by' BY3.lt (fun e => hno by' (by simp) (mem_blkOf.2 e.symm))).trans BY3
     have hbw4 : Below w.heap.size w W4 := hbw3.grown r3 hbw3.size (fun k hk => by have := (own_lt hown hk).1; have := HBZ.out; omega);have hT4 := hTb W4 hbw4 BY4 HCP4.out.bx;obtain ⟨na,nc,hv'⟩ := own_form r2;subst hv';clear r1 r2 r3 r5 hown HRY3 HAP3 HCP3 HTO3 BY3 hbw3 hT3 BE hno;refine M_run 13 55 (.slice na (j + 1) nc) (W4) rfl rfl (by kernel_rfl) (by rfl) (listed' := bts 16 16383) (by kernel_rfl) (append_run rfl rfl rfl HRUN.out) hT4 ?_;simp only [zsA,zsZ,zsS];clear HRUN;refine M_take 14 56 (.pointer (some ⟨by',1,none⟩)) _ rfl rfl (by kernel_rfl) (by kernel_rfl) (by kernel_rfl) (by kernel_rfl) (by kernel_rfl) (fun _ _ _ h => h) (by rfl) (fun w' hw' => ?_) hT4 (listed' := bts 16 32767) (by kernel_rfl) rfl ?_
     ·obtain ⟨f0,f1,f2,f3,f4,f5,f6,f7⟩ := hw'; go_simp
     simp only [zsA,zsZ,zsS];have s1 := (BY4.cell 1).trans rfl;have s2 := BY4.froz 1;refine M_store 15 (W4.setCell ⟨by',1,none⟩ (.slice na (j + 1) nc)) rfl rfl (by kernel_rfl) (by rfl) (listed' := bts 16 65535) (by kernel_rfl) (by go_simp) (by kernel_rfl) ?_;refine M_done (by kernel_rfl) ?_ _
     have KS : Kp (fun q => q = by') W4 (W4.setCell ⟨by',1,none⟩ (.slice na (j + 1) nc)) := by
      refine Kp.setCell ?_ (fun _ => by simp) _;exact Kp.refl _ _
     have hsmY : ∀ bs : List Nat,(∀ k ∈ bs,k < W4.heap.size) → (∀ k ∈ bs,k ≠ by') → Sm W4 (W4.setCell ⟨by',1,none⟩ (.slice na (j + 1) nc)) bs := fun bs h1 h2 k hk => KS.block k (h1 k hk) (h2 k hk)
     have BY5 : Hid (Blk (W4.setCell ⟨by',1,none⟩ (.slice na (j + 1) nc)) by' #[.int .i64 xt,.slice na (j + 1) nc] 69) := BY4.set 1 _ rfl
     have hnb : ∀ k ∈ (([bt] ++ blkOf (.slice ua Kr uc)) ++ allB (.slice va i vc) bss) ++ allB (.slice na (j + 1) nc) (bss' ++ [bs]),k ≠ by' := fun k hk e => by
      subst e;exact (HAP4.out.of_count (cs := ((([bt] ++ blkOf (.slice ua Kr uc)) ++ allB (.slice va i vc) bss) ++ allB (.slice na (j + 1) nc) (bss' ++ [bs])) ++ [k]) fun q => by simp only [List.count_append]; omega).apart k hk (by simp)
     have HRY5 : Hid (RowO (TrO n' (b0 + 2)) (b0 + 2) 30 5 (W4.setCell ⟨by',1,none⟩ (.slice na (j + 1) nc)) (.slice na (j + 1) nc) (xl.take (j + 1)) (rows' ++ [[.int .i64 x.kind,.int .i64 x.n,.string x.s,.slice a1 m1 c1,.slice a2 m2 c2]]) (bss' ++ [bs])) := HRY4.out.sm (hsmY _ (fun k hk => (HAP4.out.2 k (List.mem_append.2 (.inr hk))).2) fun k hk => hnb k (List.mem_append.2 (.inr hk))) fun _ _ _ hp hb => hp.sm hb
     have HAP5 : Hid (Apt (b0 + 2) (W4.setCell ⟨by',1,none⟩ (.slice na (j + 1) nc)) ((([bt] ++ blkOf (.slice ua Kr uc)) ++ allB (.slice va i vc) bss ++ [by']) ++ allB (.slice na (j + 1) nc) (bss' ++ [bs]))) := HAP4.out.mono KS.size
     have hbyB : b0 + 2 ≤ by' := (HAP4.out.2 by' (by simp)).1
     have HCP5 : Hid (CpS n' (b0 + 2) b0 bt #[.int .i64 K,.int .i64 N,.string S,.slice (some ⟨ge,off,none⟩) Ke ce,.slice pr Kr cr] K N S (.slice va i vc) (.slice ua Kr uc) (t.es.take i) t.rest rows bss (W4.setCell ⟨by',1,none⟩ (.slice na (j + 1) nc))) := HCP4.out.sm (hsmY _ (HCP4.out.lt (more := [by'] ++ allB (.slice na (j + 1) nc) (bss' ++ [bs])) (HAP4.out.of_count fun k => by simp only [List.count_append]; omega)) fun k hk => by
      simp only [List.cons_append,List.nil_append,List.mem_cons] at hk
      rcases hk with rfl | rfl | rfl | hk
      ·omega
      ·omega
      ·exact hnb _ (by simp)
      ·exact hnb k (by simp only [List.mem_append] at hk ⊢; rcases hk with hk | hk <;> simp [hk]))
     have hbw5 : Below w.heap.size w (W4.setCell ⟨by',1,none⟩ (.slice na (j + 1) nc)) := hbw4.trans (KS.toBelow hbw4.size (fun q e => by have := HBZ.out; omega));generalize (W4.setCell ⟨by',1,none⟩ (.slice na (j + 1) nc)) = W5 at *;clear s1 s2 KS BY4 HRY4 HAP4 HCP4 hbw4 hT4 hTb hsmY hnb HCE HSY;go_wp2_with fail
     go_roundw
     case rel => exact ⟨j + 1,_,_,_,_,by go_num,by omega,HRY5,HAP5,BY5,HCP5,hbw5⟩
     case measure => simp [intOf]; omega
    ·obtain rfl : j = Kt := by omega
     have HRYF : Hid (RowO (TrO n' (b0 + 2)) (b0 + 2) 30 5 wr (.slice ta j tc) xl rows' bss') := by
      have := HRY.out;rw [List.take_of_length_le (by rw [HKt.out]; omega)] at this;exact this
     have w3 : wr.cell? ⟨bt,3,none⟩ = some (.slice va i vc) := HCP.out.bt.cell 3;have w0' : wr.cell? ⟨by',0,none⟩ = some (.int .i64 xt) := BY.out.cell 0;have w1' : wr.cell? ⟨by',1,none⟩ = some (.slice ta j tc) := BY.out.cell 1;have hal : Below wr.heap.size wr (wr.alloc (.cells #[.int .i64 xt,.slice ta j tc] 69)) := (Below.refl _ _).alloc (Nat.le_refl _) _;have BE : Blk (wr.alloc (.cells #[.int .i64 xt,.slice ta j tc] 69)) wr.heap.size #[.int .i64 xt,.slice ta j tc] 69 := Blk.new wr _ _
     have HAP9 : Hid (Apt (b0 + 2) (wr.alloc (.cells #[.int .i64 xt,.slice ta j tc] 69)) (([bt] ++ blkOf (.slice ua Kr uc)) ++ (allB (.slice va i vc) bss ++ allB (.slice ta j tc) bss'))) := (HAP.out.mono hal.size).of_count fun k => by simp only [List.count_append]; omega
     have HCP9 : Hid (CpS n' (b0 + 2) b0 bt #[.int .i64 K,.int .i64 N,.string S,.slice (some ⟨ge,off,none⟩) Ke ce,.slice pr Kr cr] K N S (.slice va i vc) (.slice ua Kr uc) (t.es.take i) t.rest rows bss (wr.alloc (.cells #[.int .i64 xt,.slice ta j tc] 69))) := HCP.out.sm (Sm.below hal (HCP.out.lt (more := [by'] ++ allB (.slice ta j tc) bss') (HAP.out.of_count fun k => by simp only [List.count_append]; omega)));have HEN9 : Hid (EtO (TrO n' (b0 + 2)) (b0 + 2) (wr.alloc (.cells #[.int .i64 xt,.slice ta j tc] 69)) [.int .i64 xt,.slice ta j tc] (xt,xl) (allB (.slice ta j tc) bss')) := ⟨_,rows',bss',rfl,H64.out,HRYF.out.sm (Sm.below hal fun k hk => (HAP.out.2 k (List.mem_append.2 (.inr hk))).2) fun _ _ _ hp hb => hp.sm hb,rfl⟩;have hbw9 : Below w.heap.size w (wr.alloc (.cells #[.int .i64 xt,.slice ta j tc] 69)) := hbel.trans (hal.mono hbel.size)
     have hW9B : b0 + 2 ≤ (wr.alloc (.cells #[.int .i64 xt,.slice ta j tc] 69)).heap.size := by have := (HAP.out.2 bt (by simp)); have := hal.size; omega
     have HRUN9 : Hid (∃ v' W4,(Builtin.append_ #[27,27] 27 #[.slice va i vc,.slice (some ⟨wr.heap.size,0,none⟩) 1 1]).run Tryz.prog (wr.alloc (.cells #[.int .i64 xt,.slice ta j tc] 69)) = .ok v' W4 ∧ W4.ownsRow (b0 + 2) 69 2 v' (i + 1) (rows.flatten ++ [.int .i64 xt,.slice ta j tc]) ∧ (wr.alloc (.cells #[.int .i64 xt,.slice ta j tc] 69)).grownBy W4 (Value.slice va i vc).ownBlock ∧ (v'.ownBlock = (Value.slice va i vc).ownBlock ∨ v'.ownBlock = some (wr.alloc (.cells #[.int .i64 xt,.slice ta j tc] 69)).heap.size)) := by
      obtain ⟨i0,hi0,hz0,hz1,hz2⟩ := info_parts infoEt;have hown := HCP9.out.row.own;rw [show (t.es.take i).length = i by rw [List.length_take,HKe.out]; omega] at hown
      obtain ⟨v',W4,r1,r2,r3,_,r5⟩ := run_append_own_at (wr.alloc (.cells #[.int .i64 xt,.slice ta j tc] 69)) (b0 + 2) 27 27 69 i0 _ 2 32 Tryz.underlying27 hi0 hz0 hz1 hz2 rfl (by decide) (.slice va i vc) i _ hown ⟨wr.heap.size,0,none⟩ 1 1 [.int .i64 xt,.slice ta j tc] rfl (fun j u hu => by
       have := BE.cell j;rw [Addr.add_lit,Nat.zero_add,this]
       simpa using hu) (fun u hu => by
       simp only [List.mem_cons,List.not_mem_nil,or_false] at hu
       rcases hu with rfl | rfl <;> rfl) (by unfold maxLen; omega) (by omega) hW9B
      exact ⟨v',W4,r1,r2,r3,r5⟩
     obtain ⟨v',W4,r1,r2,r3,r5⟩ := HRUN9.out
     have hli : (t.es.take i).length = i := by rw [List.length_take,HKe.out]; omega
     have HROW4 : Hid (RowO (EtO (TrO n' (b0 + 2)) (b0 + 2)) (b0 + 2) 69 2 W4 v' (t.es.take (i + 1)) (rows ++ [[.int .i64 xt,.slice ta j tc]]) (bss ++ [allB (.slice ta j tc) bss'])) := by
      show RowO _ _ _ _ _ _ _ _ _
      rw [take_atC HX.out];exact HCP9.out.row.push (HAP9.out.of_count fun k => by simp only [List.count_append]; omega) (by rw [hli]; exact r2) r3 HEN9.out rfl fun _ _ _ hp hb => hp.sm hb
     have HAP4 : Hid (Apt (b0 + 2) W4 (([bt] ++ blkOf (.slice ua Kr uc)) ++ allB v' (bss ++ [allB (.slice ta j tc) bss']))) := HAP9.out.push r5 r2 r3.size hW9B;have hno : ∀ k ∈ [bt] ++ blkOf (.slice ua Kr uc),k ∉ blkOf (.slice va i vc) := fun k hk hq => HAP9.out.apart k hk (by simp [allB,hq])
     have HLO : Hid (∀ k,(Value.slice va i vc).ownBlock = some k → b0 + 2 ≤ k) := fun k hk => (own_lt HCP9.out.row.own hk).1
     have hsm4 : ∀ bs : List Nat,(∀ k ∈ bs,k < (wr.alloc (.cells #[.int .i64 xt,.slice ta j tc] 69)).heap.size) → (∀ k ∈ bs,k ∉ blkOf (.slice va i vc)) → Sm (wr.alloc (.cells #[.int .i64 xt,.slice ta j tc] 69)) W4 bs := fun bs h1 h2 => grown_sm r3 h1 h2
     have BT4 : Blk W4 bt #[.int .i64 K,.int .i64 N,.string S,.slice va i vc,(.slice ua Kr uc)] 30 := (hsm4 [bt] (by have := HCP9.out.bt.lt; simpa using this) (by intro k hk; exact hno k (by simp at hk; simp [hk])) bt (by simp)).trans HCP9.out.bt;have BX4 : Blk W4 b0 #[.int .i64 K,.int .i64 N,.string S,.slice (some ⟨ge,off,none⟩) Ke ce,.slice pr Kr cr] 30 := (hsm4 [b0] (by have := HCP9.out.bx.lt; simpa using this) (by intro k hk hq; simp at hk; have := HLO.out k (mem_blkOf.1 hq); omega) b0 (by simp)).trans HCP9.out.bx;have BR4 : Blk W4 (b0 + 1) #[.int .i64 0,.int .i64 0,.string ⟨#[]⟩,.slice none 0 0,.slice none 0 0] 30 := (hsm4 [b0 + 1] (by have := HCP9.out.br.lt; simpa using this) (by intro k hk hq; simp at hk; have := HLO.out k (mem_blkOf.1 hq); omega) (b0 + 1) (by simp)).trans HCP9.out.br;have HO4 : Hid (W4.ownsRow (b0 + 2) 79 4 (.slice ua Kr uc) t.rest.length (rawCells t.rest)) := own_sm HCP9.out.rst (hsm4 _ (fun k hk => (own_lt HCP9.out.rst (mem_blkOf.1 hk)).2) fun k hk => hno k (by simp [hk]));have hbw4 : Below w.heap.size w W4 := hbw9.grown r3 hbw9.size (fun k hk => by have := HLO.out k hk; have := HBZ.out; omega);obtain ⟨na,nc,hv'⟩ := own_form r2;subst hv';have s3 := (BT4.cell 3).trans rfl;have s4 := BT4.froz 3;clear r2 r3 r5 hsm4 hno HRUN9 HAP9 HCP9 HEN9 hW9B hbw9 HRY HAP BY HCP hbel BE
     go_wp2_with (first | (at_builtin; refine wpList_ran rfl (append_run rfl rfl rfl r1) ?_) | fail)
     clear w3 w0' w1' r1 hal q3 p1;go_wp2_with fail
     have KS : Kp (fun q => q = bt) W4 (W4.setCell ⟨bt,3,none⟩ (.slice na (i + 1) nc)) := by
      refine Kp.setCell ?_ (fun _ => by simp) _;exact Kp.refl _ _
     have hnb : ∀ k ∈ blkOf (.slice ua Kr uc) ++ allB (.slice na (i + 1) nc) (bss ++ [allB (.slice ta j tc) bss']),k ≠ bt := fun k hk e => by
      subst e;exact (HAP4.out.of_count (cs := [k] ++ (blkOf (.slice ua Kr uc) ++ allB (.slice na (i + 1) nc) (bss ++ [allB (.slice ta j tc) bss']))) fun q => by simp only [List.count_append]; omega).apart k (by simp) hk
     have hsm5 : ∀ bs : List Nat,(∀ k ∈ bs,k < W4.heap.size) → (∀ k ∈ bs,k ≠ bt) → Sm W4 (W4.setCell ⟨bt,3,none⟩ (.slice na (i + 1) nc)) bs := fun bs h1 h2 k hk => KS.block k (h1 k hk) (h2 k hk)
     have HCP5 : Hid (CpS n' (b0 + 2) b0 bt #[.int .i64 K,.int .i64 N,.string S,.slice (some ⟨ge,off,none⟩) Ke ce,.slice pr Kr cr] K N S (.slice na (i + 1) nc) (.slice ua Kr uc) (t.es.take (i + 1)) t.rest (rows ++ [[.int .i64 xt,.slice ta j tc]]) (bss ++ [allB (.slice ta j tc) bss']) (W4.setCell ⟨bt,3,none⟩ (.slice na (i + 1) nc))) :=
      ⟨HROW4.out.sm (hsm5 _ (fun k hk => (HAP4.out.2 k (List.mem_append.2 (.inr hk))).2) fun k hk => hnb k (List.mem_append.2 (.inr hk))) fun _ _ _ hp hb => hp.sm hb,own_sm HO4.out (hsm5 _ (fun k hk => (own_lt HO4.out (mem_blkOf.1 hk)).2) fun k hk => hnb k (List.mem_append.2 (.inl hk))),BT4.set 3 _ rfl,BX4.kp KS (by omega),BR4.kp KS (by omega)⟩
     have HAP5 : Hid (Apt (b0 + 2) (W4.setCell ⟨bt,3,none⟩ (.slice na (i + 1) nc)) (([bt] ++ blkOf (.slice ua Kr uc)) ++ allB (.slice na (i + 1) nc) (bss ++ [allB (.slice ta j tc) bss']))) := HAP4.out.mono KS.size;have hbw5 : Below w.heap.size w (W4.setCell ⟨bt,3,none⟩ (.slice na (i + 1) nc)) := hbw4.trans (KS.toBelow hbw4.size (fun q e => by have := HBZ.out; omega))
     go_roundw
     case rel => exact ⟨i + 1,_,_,_,_,by go_num,by omega,HCP5,HAP5,hbw5⟩
     case measure => simp [intOf]; omega
  ·obtain rfl : i = Ke := by omega
   have s0 := (HCP.out.bt.cell 0).trans rfl;have s1 := (HCP.out.bt.cell 1).trans rfl;have s2 := (HCP.out.bt.cell 2).trans rfl;have s3 := (HCP.out.bt.cell 3).trans rfl;have s4 := (HCP.out.bt.cell 4).trans rfl;have y0 := (HCP.out.br.cell 0).trans rfl;have y1 := (HCP.out.br.cell 1).trans rfl;have y2 := (HCP.out.br.cell 2).trans rfl;have y3 := (HCP.out.br.cell 3).trans rfl;have y4 := (HCP.out.br.cell 4).trans rfl;have z0 := HCP.out.br.froz 0;have z1 := HCP.out.br.froz 1;have z2 := HCP.out.br.froz 2;have z3 := HCP.out.br.froz 3;have z4 := HCP.out.br.froz 4;go_wp2_with fail
   have KS : Kp (fun q => q = b0 + 1) wr (((((wr.setCell ⟨b0 + 1,0,none⟩ (.int .i64 K)).setCell ⟨b0 + 1,1,none⟩ (.int .i64 N)).setCell ⟨b0 + 1,2,none⟩ (.string S)).setCell ⟨b0 + 1,3,none⟩ (.slice va i vc)).setCell ⟨b0 + 1,4,none⟩ (.slice ua Kr uc)) := by
    refine Kp.setCell ?_ (fun _ => by simp) _;refine Kp.setCell ?_ (fun _ => by simp) _;refine Kp.setCell ?_ (fun _ => by simp) _;refine Kp.setCell ?_ (fun _ => by simp) _;refine Kp.setCell ?_ (fun _ => by simp) _;exact Kp.refl _ _
   refine bodyPost_ret (results_cell rfl _ _ _ ⟨b0 + 1,0,none⟩ (.agg #[.int .i64 K,.int .i64 N,.string S,.slice va i vc,(.slice ua Kr uc)]) (by go_simp) (by go_simp)) rfl ?_;have hrow := HCP.out.row;rw [List.take_of_length_le (by rw [HKe.out]; omega)] at hrow;have hsm : Sm wr (((((wr.setCell ⟨b0 + 1,0,none⟩ (.int .i64 K)).setCell ⟨b0 + 1,1,none⟩ (.int .i64 N)).setCell ⟨b0 + 1,2,none⟩ (.string S)).setCell ⟨b0 + 1,3,none⟩ (.slice va i vc)).setCell ⟨b0 + 1,4,none⟩ (.slice ua Kr uc)) (blkOf (.slice ua Kr uc) ++ allB (.slice va i vc) bss) := fun k hk => KS.block k (HAP.out.2 k (by simp only [List.mem_append] at hk ⊢; rcases hk with hk | hk <;> simp [hk])).2 (by have := (HAP.out.2 k (by simp only [List.mem_append] at hk ⊢; rcases hk with hk | hk <;> simp [hk])).1; omega)
   obtain ⟨f1,f2,f3,f4⟩ := HFA.out;have hbz := HBZ.out;refine ⟨_,blkOf (.slice ua Kr uc) ++ allB (.slice va i vc) bss,rfl,⟨_,rfl,TrO.base (B := b0 + 2) ⟨_,_,rows,bss,by rw [HKN.out.1,HKN.out.2.1,HKN.out.2.2],f1,f2,f3,f4,own_sm HCP.out.rst (hsm.mono fun k hk => List.mem_append.2 (.inl hk)),hrow.sm (hsm.mono fun k hk => List.mem_append.2 (.inr hk)) (fun _ _ _ hp hb => hp.sm hb),rfl⟩ (by omega),?_⟩,?_⟩
   ·exact ((HAP.out.of_count fun k => by simp only [List.count_append]; omega).mono KS.size).base (by omega)
   ·exact hbel.trans (KS.toBelow hbel.size (fun q e => by omega))
theorem copy_any : ∀ (n : Nat) (t : Tr) (v : Value) (w : World),TrIn n w v t → SmN n t → Calls Tryz.prog 8 #[v] w (CopyP n t w)
 | 0,t,v,w,h,_ => by obtain ⟨r,_,h⟩ := h; exact h.elim
 | n + 1,t,v,w,h,hs => copy_step n (fun t v w h hs => copy_any n t v w h hs) t v w h hs
theorem key_any (s : ByteArray) (w : World) :
  Calls Tryz.prog 100 #[.string s] w fun e w' => e = .returned (.bool (keyB s)) ∧ w' = w := by
 go_enter Tryz.func100,Tryz.ntmps100
 go_wp2
 all_goals
  go_ret;refine ⟨ret_bool ?_,rfl⟩
  first | (simp [keyB, *]; done) | simp_all
theorem count_any (s : ByteArray) (w : World) (hs : s.size ≤ 140737488351232) :
  Calls Tryz.prog 99 #[.string s] w fun e w' => e = .returned (.int .i64 (countN s.data.toList)) ∧ Below w.heap.size w w' := by
 go_enter Tryz.func99,Tryz.ntmps99
 go_wp2
 go_loopw [3] (fun n wr => ∃ (pos : Nat) (acc : List Nat),wr = w.iter s pos ∧ n = .int .i64 acc.length ∧ acc.length ≤ pos ∧ Hid (Gone s.data.toList pos acc)) (fun _ wr => s.size - wr.iterPos w.heap.size)
 case atStart => exact ⟨0,[],rfl,rfl,by simp,Gone.start _⟩
 case round =>
  obtain ⟨pos,acc,rfl,rfl,hle,H⟩ := hrel
  by_cases hp : pos < s.size
  ·obtain ⟨c,k,hd,h1,h2⟩ := dec_at s pos hp
   have hnx : ∀ ty,(Instr.next (.pointer (some ⟨w.heap.size,0,none⟩)) true ty).run Tryz.prog (w.iter s pos) = .ok (.tuple #[.bool true,.int .i64 (pos : Int),.int .i32 (c : Int)]) (w.iter s (pos + k)) := by
    intro ty;have := run_next_any (P := Tryz.prog) w s pos ty hp;rw [hd] at this;exact this
   have H1 : Hid (standsB (s.data.toList.drop pos) c = true → nxL (s.data.toList.drop pos) = some (c,k)) := h1;have H2 : Hid (standsB (s.data.toList.drop pos) c = false → nxL (s.data.toList.drop pos) = none) := h2;clear hd h1 h2;go_wp2_with fail;refine (stands_any s _ _ _ hs (by omega) (by omega)).mono ?_;rintro e w' ⟨rfl,rfl⟩;rw [Int.toNat_natCast]
   cases hst : standsB (s.data.toList.drop pos) c with
   | false =>
    go_wp2
    go_ret;exact ⟨ret_int (by unfold countN; rw [H.out.bad (by rw [len_data]; exact hp) (H2.out hst)]; rfl),below_iter _ _ _⟩
   | true =>
    have HN := H1.out hst;have hk : 1 ≤ k := (nxL_some _ _ _ HN).2.2.2.1;have HG : Hid (Gone s.data.toList (pos + k) (acc ++ [c])) := H.out.step HN;clear HN
    go_wp2
    go_roundw
    case rel => exact ⟨pos + k,acc ++ [c],rfl,by simp,by simp; omega,HG⟩
    case measure => simp; omega
  ·have hnx : ∀ ty,(Instr.next (.pointer (some ⟨w.heap.size,0,none⟩)) true ty).run Tryz.prog (w.iter s pos) = _ := fun ty => run_next_end w s pos ty hp
   go_wp2
   go_ret;exact ⟨ret_int (by unfold countN; rw [H.out.done (by rw [len_data]; omega)]; rfl),below_iter _ _ _⟩
theorem nameB_off (s : ByteArray) {pos c k : Nat} {acc : List Nat} (h : Gone s.data.toList pos acc) (hn : nxL (s.data.toList.drop pos) = some (c,k)) (hb : (letB c || (!acc.isEmpty && digB c)) = false) : nameB s = false := by
 unfold nameB
 cases e : runesOf s.data.toList with
 | none => simp [countN,e]
 | some rs =>
  obtain ⟨rest,rfl⟩ := (h.step hn).len e
  have : okFrom true (acc ++ [c] ++ rest) = false := by
   rw [List.append_assoc,okFrom_append];simp only [List.singleton_append,okFrom,Bool.true_and];rw [hb]; simp
  simp only [Option.getD_some,this,Bool.and_false]
theorem name_any (s : ByteArray) (w : World) (hs : s.size ≤ 140737488351232) :
  Calls Tryz.prog 66 #[.string s] w fun e w' => e = .returned (.bool (nameB s)) ∧ Below w.heap.size w w' := by
 have hcl := countN_le s.data.toList;rw [len_data] at hcl
 by_cases hc1 : countN s.data.toList < 1
 ·have HX : Hid (false = nameB s) := by show false = _; unfold nameB; simp; omega
  go_enter Tryz.func66,Tryz.ntmps66
  go_wp2_with fail;refine (count_any s _ hs).mono ?_;rintro e w1 ⟨rfl,hw1⟩;generalize countN s.data.toList = n at *
  have hn1 : decide ((n : Int) < 1) = true := by simp; omega
  go_wp2_with fail;go_ret;exact ⟨ret_bool HX.out,hw1⟩
 ·by_cases hc2 : 20 < countN s.data.toList
  ·have HX : Hid (false = nameB s) := by show false = _; unfold nameB; simp; omega
   go_enter Tryz.func66,Tryz.ntmps66
   go_wp2_with fail;refine (count_any s _ hs).mono ?_;rintro e w1 ⟨rfl,hw1⟩;generalize countN s.data.toList = n at *
   have hn1 : decide ((n : Int) < 1) = false := by simp; omega
   have hn2 : decide (20 < (n : Int)) = true := by simp; omega
   go_wp2_with fail;go_ret;exact ⟨ret_bool HX.out,hw1⟩
  ·cases hk : keyB s with
   | true =>
    have HX : Hid (false = nameB s) := by show false = _; unfold nameB; simp [hk]
    have HK : Hid (keyB s = true) := hk;clear hk
    go_enter Tryz.func66,Tryz.ntmps66
    go_wp2_with fail;refine (count_any s _ hs).mono ?_;rintro e w1 ⟨rfl,hw1⟩;generalize countN s.data.toList = n at *
    have hn1 : decide ((n : Int) < 1) = false := by simp; omega
    have hn2 : decide (20 < (n : Int)) = false := by simp; omega
    go_wp2_with fail;refine (key_any s _).mono ?_;rintro e w2 ⟨rfl,rfl⟩;rw [HK.out];go_wp2_with fail;go_ret;exact ⟨ret_bool HX.out,hw1⟩
   | false =>
    obtain ⟨rs,hrs⟩ : ∃ rs,runesOf s.data.toList = some rs := by
     cases e : runesOf s.data.toList with
     | none => simp [countN,e] at hc1
     | some rs => exact ⟨rs,rfl⟩
    have HX : Hid (nameB s = okFrom true rs) := by
     show nameB s = _
     unfold nameB;rw [hk,hrs];simp only [Bool.not_false,Bool.and_true,Option.getD_some];rw [decide_eq_true (by omega),Bool.true_and]
    have HR : Hid (runesOf s.data.toList = some rs) := hrs;have HK : Hid (keyB s = false) := hk;clear hk hrs
    go_enter Tryz.func66,Tryz.ntmps66
    go_wp2_with fail;refine (count_any s _ hs).mono ?_;rintro e w1 ⟨rfl,hw1⟩;generalize countN s.data.toList = n at *
    have hn1 : decide ((n : Int) < 1) = false := by simp; omega
    have hn2 : decide (20 < (n : Int)) = false := by simp; omega
    go_wp2_with fail;refine (key_any s _).mono ?_;rintro e w2 ⟨rfl,rfl⟩;rw [HK.out];go_wp2_with fail
    go_loopw [] (fun wr => ∃ (pos : Nat) (acc : List Nat),wr = w2.iter s pos ∧ Hid (Gone s.data.toList pos acc) ∧ Hid (okFrom true acc = true) ∧ Hid (acc.isEmpty = decide (pos = 0))) (fun wr => s.size - wr.iterPos w2.heap.size)
    case atStart => exact ⟨0,[],rfl,Gone.start _,rfl,rfl⟩
    case round =>
     obtain ⟨pos,acc,rfl,H,HO,HE⟩ := hrel
     by_cases hp : pos < s.size
     ·obtain ⟨c,k,hd,h1,h2⟩ := dec_at s pos hp;obtain ⟨x,hx⟩ := nx_of_gone H.out (by rw [len_data]; exact hp) HR.out;have HN : Hid (nxL (s.data.toList.drop pos) = some (c,k)) := dec_of_nx h1 h2 hx
      have hnx : ∀ ty,(Instr.next (.pointer (some ⟨w2.heap.size,0,none⟩)) true ty).run Tryz.prog (w2.iter s pos) = .ok (.tuple #[.bool true,.int .i64 (pos : Int),.int .i32 (c : Int)]) (w2.iter s (pos + k)) := by
       intro ty;have := run_next_any (P := Tryz.prog) w2 s pos ty hp;rw [hd] at this;exact this
      have hk : 1 ≤ k := (nxL_some _ _ _ HN.out).2.2.2.1;have HG : Hid (Gone s.data.toList (pos + k) (acc ++ [c])) := H.out.step HN.out
      have HE2 : Hid ((acc ++ [c]).isEmpty = decide (pos + k = 0)) := by show _ = _; rw [decide_eq_false (by omega)]; cases acc <;> rfl
      clear hd h1 h2 hx;go_wp2_with fail;refine (letter_any _ _).mono ?_;rintro e w3 ⟨rfl,rfl⟩
      cases hl : letB c with
      | true =>
       have HO2 : Hid (okFrom true (acc ++ [c]) = true) := by show _ = _; rw [okFrom_append,HO.out]; simp [okFrom,hl]
       go_wp2_with fail
       go_roundw
       case rel => exact ⟨pos + k,acc ++ [c],rfl,HG,HO2,HE2⟩
       case measure => simp; omega
      | false =>
       by_cases hp0 : pos = 0
       ·have HF : Hid (false = nameB s) := (nameB_off s H.out HN.out (by rw [hl,HE.out]; simp [hp0])).symm
        have hpd : ((pos : Int) == 0) = true := by simp [hp0]
        clear hp0;go_wp2_with fail;go_ret;exact ⟨ret_bool HF.out,hw1.trans ((below_iter _ _ _).mono hw1.size)⟩
       ·have hpd : ((pos : Int) == 0) = false := by simp [hp0]
        go_wp2_with fail;refine (digit_any _ _).mono ?_;rintro e w4 ⟨rfl,rfl⟩
        cases hdg : digB c with
        | true =>
         have HO2 : Hid (okFrom true (acc ++ [c]) = true) := by show _ = _; rw [okFrom_append,HO.out,HE.out]; simp [okFrom,hdg,hp0]
         go_wp2_with fail
         go_roundw
         case rel => exact ⟨pos + k,acc ++ [c],rfl,HG,HO2,HE2⟩
         case measure => simp; omega
        | false =>
         have HF : Hid (false = nameB s) := (nameB_off s H.out HN.out (by rw [hl,hdg]; simp)).symm;go_wp2_with fail;go_ret;exact ⟨ret_bool HF.out,hw1.trans ((below_iter _ _ _).mono hw1.size)⟩
     ·have hnx : ∀ ty,(Instr.next (.pointer (some ⟨w2.heap.size,0,none⟩)) true ty).run Tryz.prog (w2.iter s pos) = _ := fun ty => run_next_end w2 s pos ty hp
      have HF : Hid (true = nameB s) := by
       show true = _
       have := H.out.done (by rw [len_data]; omega);rw [HR.out] at this
       simp at this
       rw [HX.out,this,HO.out]
      go_wp2
      go_ret;exact ⟨ret_bool HF.out,hw1.trans ((below_iter _ _ _).mono hw1.size)⟩
end
end Go.Proofs.YtmgbhicogmclgaaGreat

/- Part 3 of what the proof stands on. -/
import Derived.Test.YtfnjbbaphmmjlaaGreatPkAB
import Derived.OrdersHeld
import Derived.Deep.RegionHeld3
import Derived.Deep.QuietTactic
import Derived.Deep.RegionWith
namespace Go.Proofs.YtfnjbbaphmmjlaaGreat
set_option linter.unusedVariables false
set_option linter.unusedSimpArgs false
section
theorem rg_take {P : Program} {md : Region.Mode} {ops : Array Oper} {Q : Exit → Act → World → Prop} {S : World → Prop} {oi : Oper} {fuel : Nat} {listed listed' : Array Bool} {a : Act} {w : World} (i d : Nat) (v : Value) (tmps' : Array Value) (hi : ops[i]? = some oi) (hd : oi.dst = some d)
  (hs : Region.noSelect ops = true) (hf : Region.free md ops listed i = true) (hr : (Region.ready md ops listed).contains i = true)
  (hQ : ∀ c a w,Q (.panic c) (a.put oi.dst v) w → Q (.panic c) a w) (hwt : Region.wanted oi (yielded ops a.tmps) = true) (hy : ∀ w,S w → (execOp a.eval oi).run P w = .ok (.value v) w) (hS : S w)
  (hl : listed.setIfInBounds i true = listed') (ht : a.tmps.setIfInBounds d v = tmps')
  (h : wpAnyH P md ops Q S fuel listed' { a with tmps := tmps' } w) : wpAnyH P md ops Q S (fuel + 1) listed a w := by
 subst hl ht
 refine wpAnyH_take hi hs hf hr hQ (.inl ⟨hwt,hy⟩) hS ?_
 rw [hd]
 exact h
theorem rg_call {P : Program} {md : Region.Mode} {ops : Array Oper} {Q : Exit → Act → World → Prop} {S : World → Prop} {oi : Oper} {fuel : Nat} {listed listed' : Array Bool} {a : Act} {w : World} (i d f : Nat) (vals : Array Value) (hi : ops[i]? = some oi) (hd : oi.dst = some d)
  (hr : Region.ready md ops listed = [i]) (hwt : Region.wanted oi (yielded ops a.tmps) = true) (hl : listed.setIfInBounds i true = listed') (hx : ∀ w,(execOp a.eval oi).run P w = .ok (.enter f vals) w)
  (h : Calls P f vals w fun e w' => ∃ v,e = .returned v ∧ S w' ∧ wpAnyH P md ops Q S fuel listed' { a with tmps := a.tmps.setIfInBounds d v } w') : wpAnyH P md ops Q S (fuel + 1) listed a w := by
 subst hl
 refine wpAnyH_ready (rs := [i]) hr (by simp) (AllReadyH.cons hi (fun K hK => ?_) AllReadyH.nil)
 rw [if_pos hwt]
 unfold Oper.wp
 rw [hx]
 refine Calls.mono h ?_
 rintro e w' ⟨v,rfl,hS,h'⟩
 refine hK.out _ _ hS (fun _ => ?_)
 rw [hd]
 exact h'
theorem rg_run {P : Program} {md : Region.Mode} {ops : Array Oper} {Q : Exit → Act → World → Prop} {S : World → Prop} {oi : Oper} {fuel : Nat} {listed listed' : Array Bool} {a : Act} {w : World} (i d : Nat) (v : Value) (w' : World) (hi : ops[i]? = some oi) (hd : oi.dst = some d)
  (hr : Region.ready md ops listed = [i]) (hwt : Region.wanted oi (yielded ops a.tmps) = true) (hl : listed.setIfInBounds i true = listed') (hx : (execOp a.eval oi).run P w = .ok (.value v) w') (hS : S w')
  (h : wpAnyH P md ops Q S fuel listed' { a with tmps := a.tmps.setIfInBounds d v } w') : wpAnyH P md ops Q S (fuel + 1) listed a w := by
 subst hl
 refine wpAnyH_ready (rs := [i]) hr (by simp) (AllReadyH.cons hi (fun K hK => ?_) AllReadyH.nil)
 rw [if_pos hwt]
 unfold Oper.wp
 rw [hx]
 refine hK.out _ _ hS (fun _ => ?_)
 rw [hd]
 exact h
theorem append_run {P : Program} {a : Act} {w w' : World} {o : Oper} {s x : Operand} {t u : TypeId} {v y v' : Value} (ho : o.op = .call { callee := .builtin .append,args := #[s,x],argTypes := #[t,u] }) (hs : a.eval s = v) (hx : a.eval x = y)
  (hr : (Builtin.append_ #[t,u] o.type #[v,y]).run P w = .ok v' w') : (execOp a.eval o).run P w = .ok (.value v') w' := by
 unfold execOp
 simp only [ho,resolve,invoke,builtin,Sem.run_bind,Sem.run_pure,Result.andThen_ok,List.map_toArray,List.map_cons,List.map_nil,hs,hx,hr]
theorem set_comm2 {α : Type} (a : Array α) {i j : Nat} (h : i ≠ j) (x y : α) : (a.setIfInBounds i x).setIfInBounds j y = (a.setIfInBounds j y).setIfInBounds i x := by
 apply Array.ext_getElem?
 intro k
 simp only [Array.getElem?_setIfInBounds,Array.size_setIfInBounds]
 by_cases h1 : i = k
 ·subst h1
  by_cases h2 : j = i
  ·exact absurd h2.symm h
  ·simp [h2]
 ·by_cases h2 : j = k <;> simp [h1,h2]
theorem rg_store {P : Program} {md : Region.Mode} {ops : Array Oper} {Q : Exit → Act → World → Prop} {S : World → Prop} {oi : Oper} {fuel : Nat} {listed listed' : Array Bool} {a : Act} {w : World} (i : Nat) (w' : World) (hi : ops[i]? = some oi) (hd : oi.dst = none)
  (hr : Region.ready md ops listed = [i]) (hwt : Region.wanted oi (yielded ops a.tmps) = true) (hl : listed.setIfInBounds i true = listed') (hx : (execOp a.eval oi).run P w = .ok .skip w') (hS : S w')
  (h : wpAnyH P md ops Q S fuel listed' a w') : wpAnyH P md ops Q S (fuel + 1) listed a w := by
 subst hl
 refine wpAnyH_ready (rs := [i]) hr (by simp) (AllReadyH.cons hi (fun K hK => ?_) AllReadyH.nil)
 rw [if_pos hwt]
 unfold Oper.wp
 rw [hx]
 refine hK.out _ _ hS (fun _ => ?_)
 rw [hd]
 exact h
theorem rg_llc {P : Program} {md : Region.Mode} {ops : Array Oper} {Q : Exit → Act → World → Prop} {fuel : Nat} {listed : Array Bool} {a : Act} {w : World} (i1 i4 j d1 d4 dj : Nat) {o1 o4 oj : Oper} (v1 v4 : Value) (f : Nat) (vals : Array Value) (LD : World → Prop)
  (h1 : ops[i1]? = some o1) (h4 : ops[i4]? = some o4) (hj : ops[j]? = some oj) (hd1 : o1.dst = some d1) (hd4 : o4.dst = some d4) (hdj : oj.dst = some dj)
  (hr0 : Region.ready md ops listed = [i1,i4]) (hr1 : Region.ready md ops (listed.setIfInBounds i1 true) = [j,i4]) (hr4 : Region.ready md ops (listed.setIfInBounds i4 true) = [i1])
  (hr14 : Region.ready md ops ((listed.setIfInBounds i1 true).setIfInBounds i4 true) = [j]) (hr1j : Region.ready md ops ((listed.setIfInBounds i1 true).setIfInBounds j true) = [i4])
  (hw1 : ∀ t,Region.wanted o1 t = true) (hw4 : ∀ t,Region.wanted o4 t = true) (hwj : ∀ t,Region.wanted oj t = true) (h14 : i1 ≠ i4) (hj4 : j ≠ i4) (d14 : d1 ≠ d4) (dj4 : dj ≠ d4)
  (hx1 : (execOp a.eval o1).run P w = .ok (.value v1) w) (hx1' : (execOp ({ a with tmps := a.tmps.setIfInBounds d4 v4 } : Act).eval o1).run P w = .ok (.value v1) w)
  (hx4 : (execOp a.eval o4).run P w = .ok (.value v4) w) (hx41 : (execOp ({ a with tmps := a.tmps.setIfInBounds d1 v1 } : Act).eval o4).run P w = .ok (.value v4) w)
  (hx4j : ∀ v W,LD W → (execOp ({ a with tmps := (a.tmps.setIfInBounds d1 v1).setIfInBounds dj v } : Act).eval o4).run P W = .ok (.value v4) W)
  (hxj : ∀ W,(execOp ({ a with tmps := a.tmps.setIfInBounds d1 v1 } : Act).eval oj).run P W = .ok (.enter f vals) W) (hxj' : ∀ W,(execOp ({ a with tmps := (a.tmps.setIfInBounds d1 v1).setIfInBounds d4 v4 } : Act).eval oj).run P W = .ok (.enter f vals) W)
  (h : Calls P f vals w fun e w' => ∃ v,e = .returned v ∧ LD w' ∧ wpAnyH P md ops Q (fun _ => True) fuel (((listed.setIfInBounds i1 true).setIfInBounds i4 true).setIfInBounds j true) { a with tmps := ((a.tmps.setIfInBounds d1 v1).setIfInBounds d4 v4).setIfInBounds dj v } w') :
  wpAnyH P md ops Q (fun _ => True) (fuel + 3) listed a w := by
 have main : wpAnyH P md ops Q (fun _ => True) (fuel + 1) ((listed.setIfInBounds i1 true).setIfInBounds i4 true) { a with tmps := (a.tmps.setIfInBounds d1 v1).setIfInBounds d4 v4 } w := by
  refine rg_call j dj f vals hj hdj hr14 (hwj _) rfl (fun W => hxj' W) ?_
  refine h.mono ?_
  rintro e w' ⟨v,rfl,_,h3⟩
  exact ⟨v,rfl,trivial,h3⟩
 refine wpAnyH_ready (rs := [i1,i4]) hr0 (by simp) (AllReadyH.cons h1 (fun K hK => ?_) (AllReadyH.cons h4 (fun K hK => ?_) AllReadyH.nil))
 ·rw [if_pos (hw1 _)]
  unfold Oper.wp
  rw [hx1]
  refine hK.out _ _ trivial (fun _ => ?_)
  rw [hd1]
  refine wpAnyH_ready (rs := [j,i4]) hr1 (by simp) (AllReadyH.cons hj (fun K hK => ?_) (AllReadyH.cons h4 (fun K hK => ?_) AllReadyH.nil))
  ·rw [if_pos (hwj _)]
   unfold Oper.wp
   have hh : (execOp (Act.put a (some d1) v1).eval oj).run P w = .ok (.enter f vals) w := hxj w
   rw [hh]
   refine Calls.mono h ?_
   rintro e w' ⟨v,rfl,l1,h3⟩
   refine hK.out _ _ trivial (fun _ => ?_)
   rw [hdj]
   refine rg_run i4 d4 v4 w' h4 hd4 hr1j (hw4 _) rfl ?_ trivial ?_
   ·exact hx4j v w' l1
   ·rw [set_comm2 _ hj4]
    show wpAnyH P md ops Q _ _ _ ({ a with tmps := ((a.tmps.setIfInBounds d1 v1).setIfInBounds dj v).setIfInBounds d4 v4 } : Act) w'
    rw [set_comm2 _ dj4]
    exact h3
  ·rw [if_pos (hw4 _)]
   unfold Oper.wp
   have hh : (execOp (Act.put a (some d1) v1).eval o4).run P w = .ok (.value v4) w := hx41
   rw [hh]
   refine hK.out _ _ trivial (fun _ => ?_)
   rw [hd4]
   exact main
 ·rw [if_pos (hw4 _)]
  unfold Oper.wp
  rw [hx4]
  refine hK.out _ _ trivial (fun _ => ?_)
  rw [hd4]
  refine rg_run i1 d1 v1 w h1 hd1 hr4 (hw1 _) rfl ?_ trivial ?_
  ·exact hx1'
  ·rw [set_comm2 listed (Ne.symm h14)]
   show wpAnyH P md ops Q _ _ _ ({ a with tmps := (a.tmps.setIfInBounds d4 v4).setIfInBounds d1 v1 } : Act) w
   rw [set_comm2 a.tmps (Ne.symm d14)]
   exact main
def wpAnyM (P : Program) (md : Region.Mode) (ops : Array Oper) (Q : Exit → Act → World → Prop) (T : World → Prop) (m : Nat) : Nat → Array Bool → Act → World → Prop
 | 0,listed,a,w => Region.ready md ops listed = [] ∧ Q .normal a w
 | fuel + 1,listed,a,w => (Region.ready md ops listed = [] → Q .normal a w) ∧
  ∀ i ∈ Region.ready md ops listed,wpOp P ops Q i (fun a' w' => ((listed.setIfInBounds i true).getD m true = false → T w') ∧ wpAnyM P md ops Q T m fuel (listed.setIfInBounds i true) a' w') a w
section
variable {P : Program} {md : Region.Mode} {ops : Array Oper} {Q : Exit → Act → World → Prop} {T : World → Prop} {m : Nat}
theorem M_any : ∀ (fuel : Nat) (listed : Array Bool) (a : Act) (w : World),wpAnyM P md ops Q T m fuel listed a w → wpAny P md ops Q fuel listed a w
 | 0,_,_,_,h => h
 | fuel + 1,_,_,_,h => ⟨h.1,fun i hi => wpOp_mono (fun a' w' h' => M_any fuel _ a' w' h'.2) (h.2 i hi)⟩
theorem M_done {listed : Array Bool} {a : Act} {w : World} (hr : Region.ready md ops listed = []) (h : Q .normal a w) : ∀ fuel,wpAnyM P md ops Q T m fuel listed a w
 | 0 => ⟨hr,h⟩
 | _ + 1 => ⟨fun _ => h,by rw [hr]; simp⟩
theorem M_region {id : Nat} {a : Act} {w : World} (hm : P.follows .mixedOrders = true) (h : wpAnyM P .any ops Q T m ops.size (Array.replicate ops.size false) a w.drew) : (Code.region id ops true).wp P Q a w :=
 wp_region_any hm (M_any _ _ _ _ h)
theorem M_first {i : Nat} {oi : Oper} {v : Value} (hi : ops[i]? = some oi) (hsel : ∀ (j : Nat) (o : Oper) cs b,ops[j]? = some o → o.op ≠ .select cs b)
  (hQ : ∀ c a w,Q (.panic c) (a.put oi.dst v) w → Q (.panic c) a w) (hmi : ∀ om,ops[m]? = some om → ∃ e ∈ om.after,Region.binds md e = true ∧ e.on = i) :
  ∀ (fuel : Nat) (listed : Array Bool) (a : Act) (w : World),listed.getD m true = false →
   (∀ j oj,ops[j]? = some oj → j ≠ i → listed.getD j true = false → (∀ e ∈ oj.after,Region.binds md e = true → e.on ≠ i) → oi.apart ops oj = true) →
   i ∈ Region.ready md ops listed → YieldsIf P ops T oi v a → T w →
   wpAnyM P md ops Q T m fuel (listed.setIfInBounds i true) (a.put oi.dst v) w → wpAnyM P md ops Q T m (fuel + 1) listed a w := by
 intro fuel
 induction fuel with
 | zero =>
  intro listed a w hlm _ hr hy hT H
  refine ⟨fun h => (by rw [h] at hr; cases hr),fun j hj => ?_⟩
  by_cases hji : j = i
  ·subst hji; exact hy.wpOp hi hT ⟨fun _ => hT,H⟩
  ·have h0 := ready_mono hj hji
   rw [H.1] at h0
   cases h0
 | succ fuel ih =>
  intro listed a w hlm hfree hr hy hT H
  refine ⟨fun h => (by rw [h] at hr; cases hr),fun j hj => ?_⟩
  by_cases hji : j = i
  ·subst hji; exact hy.wpOp hi hT ⟨fun _ => hT,H⟩
  ·have hH := H.2 j (ready_mono hj hji)
   obtain ⟨hjun,oj,hoj,hall⟩ := mem_ready.1 hj
   have hjm : j ≠ m := by
    intro e
    subst e
    obtain ⟨e,he,hb,hon⟩ := hmi oj hoj
    have hx := hall e he hb
    have h0 := (mem_ready.1 hr).1
    rw [hon] at hx
    rcases Nat.lt_or_ge i listed.size with h' | h'
    ·simp [h'] at h0 hx; rw [h0] at hx; cases hx
    ·simp [Array.getElem?_eq_none h'] at hx
   have hnot : ∀ e ∈ oj.after,Region.binds md e = true → e.on ≠ i := fun e he hb heq => by
    have hx := hall e he hb
    have h0 := (mem_ready.1 hr).1
    rw [heq] at hx
    rcases Nat.lt_or_ge i listed.size with h' | h'
    ·simp [h'] at h0 hx; rw [h0] at hx; cases hx
    ·simp [Array.getElem?_eq_none h'] at hx
   have h2 := wpOp_putIf hoj (hfree j oj hoj hji hjun hnot) (fun cs b => hsel i oi cs b hi) (fun cs b => hsel j oj cs b hoj) hQ hy hH
   have hlj : (listed.setIfInBounds j true).getD m true = false := by rw [getD_set_ne true hjm]; exact hlm
   have him : i ≠ m := by
    intro e
    subst e
    obtain ⟨e,he,hb,hon⟩ := hmi oi hi
    obtain ⟨h0,oi',hoi',hall'⟩ := mem_ready.1 hr
    rw [hi] at hoi'
    cases hoi'
    have hx := hall' e he hb
    rw [hon] at hx
    rcases Nat.lt_or_ge i listed.size with h' | h'
    ·simp [h'] at h0 hx; rw [h0] at hx; cases hx
    ·simp [Array.getElem?_eq_none h'] at hx
   have hlij : ((listed.setIfInBounds i true).setIfInBounds j true).getD m true = false := by rw [getD_set_ne true hjm,getD_set_ne true him]; exact hlm
   have hfree' : ∀ k ok,ops[k]? = some ok → k ≠ i → (listed.setIfInBounds j true).getD k true = false → (∀ e ∈ ok.after,Region.binds md e = true → e.on ≠ i) → oi.apart ops ok = true := fun k ok hk hki hun hno => by
    refine hfree k ok hk hki ?_ hno
    by_cases hjk : j = k
    ·subst hjk; exact hjun
    ·rw [getD_set_ne true hjk] at hun; exact hun
   refine wpOp_mono (fun a' w' h3 => ⟨fun _ => h3.2.1 hlij,ih (listed.setIfInBounds j true) a' w' hlj hfree' (ready_mono hr (Ne.symm hji)) h3.1 (h3.2.1 hlij) ?_⟩) h2
   rw [Array.setIfInBounds_comm _ _ hji]
   exact h3.2.2
theorem M_take {oi : Oper} {fuel : Nat} {listed listed' : Array Bool} {a : Act} {w : World} (i d : Nat) (v : Value) (tmps' : Array Value) (hi : ops[i]? = some oi) (hd : oi.dst = some d)
  (hs : Region.noSelect ops = true) (hf : Region.free md ops listed i = true) (hr : (Region.ready md ops listed).contains i = true) (hmi : ((ops[m]?).any fun om => om.after.any fun e => Region.binds md e && e.on == i) = true) (hlm : listed.getD m true = false)
  (hQ : ∀ c a w,Q (.panic c) (a.put oi.dst v) w → Q (.panic c) a w) (hwt : Region.wanted oi (yielded ops a.tmps) = true) (hy : ∀ w,T w → (execOp a.eval oi).run P w = .ok (.value v) w) (hT : T w)
  (hl : listed.setIfInBounds i true = listed') (ht : a.tmps.setIfInBounds d v = tmps')
  (h : wpAnyM P md ops Q T m fuel listed' { a with tmps := tmps' } w) : wpAnyM P md ops Q T m (fuel + 1) listed a w := by
 subst hl ht
 refine M_first hi (Region.noSelect_spec hs) hQ ?_ fuel listed a w hlm (Region.free_spec hi hf) (by simpa using hr) (.inl ⟨hwt,hy⟩) hT ?_
 ·intro om hom
  rw [hom] at hmi
  simp only [Option.any_some,Array.any_eq_true] at hmi
  obtain ⟨k,hk,hb⟩ := hmi
  simp only [Bool.and_eq_true,beq_iff_eq] at hb
  exact ⟨_,Array.getElem_mem hk,hb.1,hb.2⟩
 ·rw [hd]
  exact h
theorem M_run {oi : Oper} {fuel : Nat} {listed listed' : Array Bool} {a : Act} {w : World} (i d : Nat) (v : Value) (w' : World) (hi : ops[i]? = some oi) (hd : oi.dst = some d)
  (hr : Region.ready md ops listed = [i]) (hwt : Region.wanted oi (yielded ops a.tmps) = true) (hl : listed.setIfInBounds i true = listed') (hx : (execOp a.eval oi).run P w = .ok (.value v) w') (hT : T w')
  (h : wpAnyM P md ops Q T m fuel listed' { a with tmps := a.tmps.setIfInBounds d v } w') : wpAnyM P md ops Q T m (fuel + 1) listed a w := by
 subst hl
 refine ⟨fun h0 => (by rw [hr] at h0; cases h0),fun j hj => ?_⟩
 rw [hr,List.mem_singleton] at hj
 subst hj
 unfold wpOp
 simp only [hi]
 rw [if_pos hwt]
 refine .inl ?_
 unfold Oper.wp
 rw [hx,Oper.upon_value,hd]
 exact ⟨fun _ => hT,h⟩
theorem M_store {oi : Oper} {fuel : Nat} {listed listed' : Array Bool} {a : Act} {w : World} (i : Nat) (w' : World) (hi : ops[i]? = some oi) (hd : oi.dst = none)
  (hr : Region.ready md ops listed = [i]) (hwt : Region.wanted oi (yielded ops a.tmps) = true) (hl : listed.setIfInBounds i true = listed') (hx : (execOp a.eval oi).run P w = .ok .skip w') (hm : listed'.getD m true = true)
  (h : wpAnyM P md ops Q T m fuel listed' a w') : wpAnyM P md ops Q T m (fuel + 1) listed a w := by
 subst hl
 refine ⟨fun h0 => (by rw [hr] at h0; cases h0),fun j hj => ?_⟩
 rw [hr,List.mem_singleton] at hj
 subst hj
 unfold wpOp
 simp only [hi]
 rw [if_pos hwt]
 refine .inl ?_
 unfold Oper.wp
 rw [hx,Oper.upon_skip,hd]
 exact ⟨fun h0 => (by rw [hm] at h0; cases h0),h⟩
theorem M_call {oi : Oper} {fuel : Nat} {listed listed' : Array Bool} {a : Act} {w : World} (i d f : Nat) (vals : Array Value) (hi : ops[i]? = some oi) (hd : oi.dst = some d)
  (hr : Region.ready md ops listed = [i]) (hwt : Region.wanted oi (yielded ops a.tmps) = true) (hl : listed.setIfInBounds i true = listed') (hx : ∀ w,(execOp a.eval oi).run P w = .ok (.enter f vals) w)
  (h : Calls P f vals w fun e w' => ∃ v,e = .returned v ∧ T w' ∧ wpAnyM P md ops Q T m fuel listed' { a with tmps := a.tmps.setIfInBounds d v } w') : wpAnyM P md ops Q T m (fuel + 1) listed a w := by
 subst hl
 refine ⟨fun h0 => (by rw [hr] at h0; cases h0),fun j hj => ?_⟩
 rw [hr,List.mem_singleton] at hj
 subst hj
 unfold wpOp
 simp only [hi]
 rw [if_pos hwt]
 refine .inl ?_
 unfold Oper.wp
 rw [hx]
 refine Calls.mono h ?_
 rintro e w' ⟨v,rfl,hT,h'⟩
 rw [hd]
 exact ⟨fun _ => hT,h'⟩
theorem M_aa {o1 o2 ok : Oper} {fuel : Nat} {listed : Array Bool} {a : Act} {w : World} (i j k d1 d2 dk : Nat) (z : World → Value) (N : World → World) (f : Value → Value) (U : Value → Prop) (C : Value → Value → World → Prop)
  (h1 : ops[i]? = some o1) (h2 : ops[j]? = some o2) (hk : ops[k]? = some ok) (hd1 : o1.dst = some d1) (hd2 : o2.dst = some d2) (hdk : ok.dst = some dk) (hij : i ≠ j) (hjk : j ≠ k) (d12 : d1 ≠ d2) (d2k : d2 ≠ dk)
  (hr : Region.ready md ops listed = [i,j]) (hri : (Region.ready md ops (listed.setIfInBounds i true)).contains k = true) (hrik : Region.ready md ops ((listed.setIfInBounds i true).setIfInBounds k true) = [j])
  (hrj : Region.ready md ops (listed.setIfInBounds j true) = [i]) (hrji : Region.ready md ops ((listed.setIfInBounds j true).setIfInBounds i true) = [k])
  (hw1 : ∀ t,Region.wanted o1 t = true) (hw2 : ∀ t,Region.wanted o2 t = true) (hwk : ∀ t,Region.wanted ok t = true)
  (hs : Region.noSelect ops = true) (hfk : Region.free md ops (listed.setIfInBounds i true) k = true) (hmk : ((ops[m]?).any fun om => om.after.any fun e => Region.binds md e && e.on == k) = true) (hlm : (listed.setIfInBounds i true).getD m true = false)
  (hQ : ∀ v c a w,Q (.panic c) (a.put ok.dst v) w → Q (.panic c) a w)
  (hx2 : ∀ (a' : Act) w',(execOp a'.eval o2).run P w' = .ok (.value (z w')) (N w'))
  (hA : ∃ u w1,(execOp a.eval o1).run P w = .ok (.value u) w1 ∧ U u ∧ T w1 ∧ T (N w1) ∧ C u (z w1) (N w1))
  (hB : T (N w) ∧ ∃ u w1,(execOp (a.put (some d2) (z w)).eval o1).run P (N w) = .ok (.value u) w1 ∧ U u ∧ T w1 ∧ C u (z w) w1)
  (hxk : ∀ u w',U u → (execOp (a.put (some d1) u).eval ok).run P w' = .ok (.value (f u)) w') (hxk' : ∀ u v w',U u → (execOp ((a.put (some d2) v).put (some d1) u).eval ok).run P w' = .ok (.value (f u)) w')
  (h : ∀ u v w',U u → T w' → C u v w' → wpAnyM P md ops Q T m fuel (((listed.setIfInBounds i true).setIfInBounds k true).setIfInBounds j true) { a with tmps := ((a.tmps.setIfInBounds d1 u).setIfInBounds dk (f u)).setIfInBounds d2 v } w') : wpAnyM P md ops Q T m (fuel + 3) listed a w := by
 refine ⟨fun h0 => (by rw [hr] at h0; cases h0),fun q hq => ?_⟩
 rw [hr] at hq
 simp only [List.mem_cons,List.not_mem_nil,or_false] at hq
 rcases hq with rfl | rfl
 ·obtain ⟨u,w1,e1,uu,t1,t2,c1⟩ := hA
  unfold wpOp
  simp only [h1]
  rw [if_pos (hw1 _)]
  refine .inl ?_
  unfold Oper.wp
  rw [e1,Oper.upon_value,hd1]
  refine ⟨fun _ => t1,?_⟩
  refine M_take k dk (f u) _ hk hdk hs hfk hri hmk hlm (fun c a w => hQ _ c a w) (hwk _) (fun w' _ => hxk u w' uu) t1 rfl rfl ?_
  exact M_run j d2 (z w1) (N w1) h2 hd2 hrik (hw2 _) rfl (hx2 _ w1) t2 (h u (z w1) (N w1) uu t2 c1)
 ·obtain ⟨t0,u,w1,e1,uu,t1,c1⟩ := hB
  unfold wpOp
  simp only [h2]
  rw [if_pos (hw2 _)]
  refine .inl ?_
  unfold Oper.wp
  rw [hx2,Oper.upon_value,hd2]
  refine ⟨fun _ => t0,?_⟩
  refine M_run i d1 u w1 h1 hd1 hrj (hw1 _) rfl e1 t1 ?_
  refine M_run k dk (f u) w1 hk hdk hrji (hwk _) rfl (hxk' u (z w) w1 uu) t1 ?_
  have hh := h u (z w) w1 uu t1 c1
  rw [Array.setIfInBounds_comm (xs := listed.setIfInBounds i true) _ _ (Ne.symm hjk),Array.setIfInBounds_comm (xs := listed) _ _ hij,set_comm2 (a.tmps.setIfInBounds d1 u) (Ne.symm d2k),set_comm2 a.tmps d12] at hh
  exact hh
end
end
section
open Go.ChangeShapes Go.WideShapes Go.ChangeAt Go.RowKit
set_option maxRecDepth 20000
set_option maxHeartbeats 1000000 in
theorem kindOf_any (k : Int) (nm : ByteArray) (w : World) : Calls Tryz.prog 81 #[.agg #[.int .i64 k,.string nm]] w fun e w' => e = .returned (.int .i64 (kindT k)) ∧ Below w.heap.size w w' := by
 have hb : Below w.heap.size w (w.alloc (Obj.cells #[.int .i64 k,.string nm] 32)) := (Below.refl _ _).alloc (Nat.le_refl _) _
 have key : ∀ (a : Int),k = a → (a = 1 ∨ a = 2 ∨ a = 3 ∨ a = 4 ∨ a = 5 ∨ a = 6 ∨ a = 7) → Calls Tryz.prog 81 #[.agg #[.int .i64 k,.string nm]] w fun e w' => e = .returned (.int .i64 (kindT k)) ∧ Below w.heap.size w w' := by
  intro a ha hc
  subst ha
  rcases hc with rfl | rfl | rfl | rfl | rfl | rfl | rfl <;>
  ·go_enter Tryz.func81,Tryz.ntmps81
   go_wp2_with fail
   go_ret
   exact ⟨rfl,hb⟩
 by_cases h1 : k = 1
 ·exact key 1 h1 (by simp)
 by_cases h2 : k = 2
 ·exact key 2 h2 (by simp)
 by_cases h3 : k = 3
 ·exact key 3 h3 (by simp)
 by_cases h4 : k = 4
 ·exact key 4 h4 (by simp)
 by_cases h5 : k = 5
 ·exact key 5 h5 (by simp)
 by_cases h6 : k = 6
 ·exact key 6 h6 (by simp)
 by_cases h7 : k = 7
 ·exact key 7 h7 (by simp)
 have hk : kindT k = 0 := by simp [kindT,h1,h2,h3,h4,h5,h6,h7]
 rw [hk]
 have d1 : (k == 1) = false := by simpa using h1
 have d2 : (k == 2) = false := by simpa using h2
 have d3 : (k == 3) = false := by simpa using h3
 have d4 : (k == 4) = false := by simpa using h4
 have d5 : (k == 5) = false := by simpa using h5
 have d6 : (k == 6) = false := by simpa using h6
 have d7 : (k == 7) = false := by simpa using h7
 clear key h1 h2 h3 h4 h5 h6 h7 hk
 go_enter Tryz.func81,Tryz.ntmps81
 go_wp2_with fail
 go_ret
 exact ⟨rfl,hb⟩
set_option maxHeartbeats 4000000 in
theorem number_any (k n : Int) (nm : ByteArray) (w : World) : Calls Tryz.prog 14 #[.agg #[.int .i64 k,.string nm],.int .i64 n] w fun e w' => e = .returned (.bool (nmrB k n)) ∧ Below w.heap.size w w' := by
 have hb : Below w.heap.size w (w.alloc (Obj.cells #[.int .i64 k,.string nm] 32)) := (Below.refl _ _).alloc (Nat.le_refl _) _
 have rng : n < -2147483648 ∨ (-2147483648 ≤ n ∧ n < 0) ∨ (0 ≤ n ∧ n ≤ 1) ∨ (1 < n ∧ n ≤ 2147483647) ∨ 2147483647 < n := by omega
 have kk : k = 3 ∨ k = 6 ∨ k = 1 ∨ k = 2 ∨ (¬ k = 3 ∧ ¬ k = 6 ∧ ¬ k = 1 ∧ ¬ k = 2) := by omega
 rcases rng with g | g | g | g | g
 ·have f1 : decide (1 < n) = false := by simp; omega
  have f2 : decide (n < 0) = true := by simp; omega
  have f3 : decide (n < -2147483648) = true := by simp; omega
  have f4 : decide (2147483647 < n) = false := by simp; omega
  rcases kk with rfl | rfl | rfl | rfl | ⟨h3,h6,h1,h2⟩
  ·have hr : nmrB 3 n = false := by simp [nmrB]; omega
   rw [hr]
   clear hr g
   go_enter Tryz.func14,Tryz.ntmps14
   go_wp2_with fail
   go_ret
   exact ⟨rfl,hb⟩
  ·have hr : nmrB 6 n = false := by simp [nmrB]; omega
   rw [hr]
   clear hr g
   go_enter Tryz.func14,Tryz.ntmps14
   go_wp2_with fail
   go_ret
   exact ⟨rfl,hb⟩
  ·have hr : nmrB 1 n = false := by simp [nmrB]; omega
   rw [hr]
   clear hr g
   go_enter Tryz.func14,Tryz.ntmps14
   go_wp2_with fail
   go_ret
   exact ⟨rfl,hb⟩
  ·have hr : nmrB 2 n = true := by simp [nmrB]
   rw [hr]
   clear hr g
   go_enter Tryz.func14,Tryz.ntmps14
   go_wp2_with fail
   go_ret
   exact ⟨rfl,hb⟩
  ·have e1 : (k == 1) = false := by simpa using h1
   have e2 : (k == 2) = false := by simpa using h2
   have e3 : (k == 3) = false := by simpa using h3
   have e6 : (k == 6) = false := by simpa using h6
   have hr : nmrB k n = false := by simp [nmrB,h3,h6,h1,h2]
   rw [hr]
   clear h1 h2 h3 h6 hr g
   go_enter Tryz.func14,Tryz.ntmps14
   go_wp2_with fail
   go_ret
   exact ⟨rfl,hb⟩
 ·have f1 : decide (1 < n) = false := by simp; omega
  have f2 : decide (n < 0) = true := by simp; omega
  have f3 : decide (n < -2147483648) = false := by simp; omega
  have f4 : decide (2147483647 < n) = false := by simp; omega
  rcases kk with rfl | rfl | rfl | rfl | ⟨h3,h6,h1,h2⟩
  ·have hr : nmrB 3 n = false := by simp [nmrB]; omega
   rw [hr]
   clear hr g
   go_enter Tryz.func14,Tryz.ntmps14
   go_wp2_with fail
   go_ret
   exact ⟨rfl,hb⟩
  ·have hr : nmrB 6 n = false := by simp [nmrB]; omega
   rw [hr]
   clear hr g
   go_enter Tryz.func14,Tryz.ntmps14
   go_wp2_with fail
   go_ret
   exact ⟨rfl,hb⟩
  ·have hr : nmrB 1 n = true := by simp [nmrB]; omega
   rw [hr]
   clear hr g
   go_enter Tryz.func14,Tryz.ntmps14
   go_wp2_with fail
   go_ret
   exact ⟨rfl,hb⟩
  ·have hr : nmrB 2 n = true := by simp [nmrB]
   rw [hr]
   clear hr g
   go_enter Tryz.func14,Tryz.ntmps14
   go_wp2_with fail
   go_ret
   exact ⟨rfl,hb⟩
  ·have e1 : (k == 1) = false := by simpa using h1
   have e2 : (k == 2) = false := by simpa using h2
   have e3 : (k == 3) = false := by simpa using h3
   have e6 : (k == 6) = false := by simpa using h6
   have hr : nmrB k n = false := by simp [nmrB,h3,h6,h1,h2]
   rw [hr]
   clear h1 h2 h3 h6 hr g
   go_enter Tryz.func14,Tryz.ntmps14
   go_wp2_with fail
   go_ret
   exact ⟨rfl,hb⟩
 ·have f1 : decide (1 < n) = false := by simp; omega
  have f2 : decide (n < 0) = false := by simp; omega
  have f3 : decide (n < -2147483648) = false := by simp; omega
  have f4 : decide (2147483647 < n) = false := by simp; omega
  rcases kk with rfl | rfl | rfl | rfl | ⟨h3,h6,h1,h2⟩
  ·have hr : nmrB 3 n = true := by simp [nmrB]; omega
   rw [hr]
   clear hr g
   go_enter Tryz.func14,Tryz.ntmps14
   go_wp2_with fail
   go_ret
   exact ⟨rfl,hb⟩
  ·have hr : nmrB 6 n = true := by simp [nmrB]; omega
   rw [hr]
   clear hr g
   go_enter Tryz.func14,Tryz.ntmps14
   go_wp2_with fail
   go_ret
   exact ⟨rfl,hb⟩
  ·have hr : nmrB 1 n = true := by simp [nmrB]; omega
   rw [hr]
   clear hr g
   go_enter Tryz.func14,Tryz.ntmps14
   go_wp2_with fail
   go_ret
   exact ⟨rfl,hb⟩
  ·have hr : nmrB 2 n = true := by simp [nmrB]
   rw [hr]
   clear hr g
   go_enter Tryz.func14,Tryz.ntmps14
   go_wp2_with fail
   go_ret
   exact ⟨rfl,hb⟩
  ·have e1 : (k == 1) = false := by simpa using h1
   have e2 : (k == 2) = false := by simpa using h2
   have e3 : (k == 3) = false := by simpa using h3
   have e6 : (k == 6) = false := by simpa using h6
   have hr : nmrB k n = false := by simp [nmrB,h3,h6,h1,h2]
   rw [hr]
   clear h1 h2 h3 h6 hr g
   go_enter Tryz.func14,Tryz.ntmps14
   go_wp2_with fail
   go_ret
   exact ⟨rfl,hb⟩
 ·have f1 : decide (1 < n) = true := by simp; omega
  have f2 : decide (n < 0) = false := by simp; omega
  have f3 : decide (n < -2147483648) = false := by simp; omega
  have f4 : decide (2147483647 < n) = false := by simp; omega
  rcases kk with rfl | rfl | rfl | rfl | ⟨h3,h6,h1,h2⟩
  ·have hr : nmrB 3 n = false := by simp [nmrB]; omega
   rw [hr]
   clear hr g
   go_enter Tryz.func14,Tryz.ntmps14
   go_wp2_with fail
   go_ret
   exact ⟨rfl,hb⟩
  ·have hr : nmrB 6 n = true := by simp [nmrB]; omega
   rw [hr]
   clear hr g
   go_enter Tryz.func14,Tryz.ntmps14
   go_wp2_with fail
   go_ret
   exact ⟨rfl,hb⟩
  ·have hr : nmrB 1 n = true := by simp [nmrB]; omega
   rw [hr]
   clear hr g
   go_enter Tryz.func14,Tryz.ntmps14
   go_wp2_with fail
   go_ret
   exact ⟨rfl,hb⟩
  ·have hr : nmrB 2 n = true := by simp [nmrB]
   rw [hr]
   clear hr g
   go_enter Tryz.func14,Tryz.ntmps14
   go_wp2_with fail
   go_ret
   exact ⟨rfl,hb⟩
  ·have e1 : (k == 1) = false := by simpa using h1
   have e2 : (k == 2) = false := by simpa using h2
   have e3 : (k == 3) = false := by simpa using h3
   have e6 : (k == 6) = false := by simpa using h6
   have hr : nmrB k n = false := by simp [nmrB,h3,h6,h1,h2]
   rw [hr]
   clear h1 h2 h3 h6 hr g
   go_enter Tryz.func14,Tryz.ntmps14
   go_wp2_with fail
   go_ret
   exact ⟨rfl,hb⟩
 ·have f1 : decide (1 < n) = true := by simp; omega
  have f2 : decide (n < 0) = false := by simp; omega
  have f3 : decide (n < -2147483648) = false := by simp; omega
  have f4 : decide (2147483647 < n) = true := by simp; omega
  rcases kk with rfl | rfl | rfl | rfl | ⟨h3,h6,h1,h2⟩
  ·have hr : nmrB 3 n = false := by simp [nmrB]; omega
   rw [hr]
   clear hr g
   go_enter Tryz.func14,Tryz.ntmps14
   go_wp2_with fail
   go_ret
   exact ⟨rfl,hb⟩
  ·have hr : nmrB 6 n = false := by simp [nmrB]; omega
   rw [hr]
   clear hr g
   go_enter Tryz.func14,Tryz.ntmps14
   go_wp2_with fail
   go_ret
   exact ⟨rfl,hb⟩
  ·have hr : nmrB 1 n = false := by simp [nmrB]; omega
   rw [hr]
   clear hr g
   go_enter Tryz.func14,Tryz.ntmps14
   go_wp2_with fail
   go_ret
   exact ⟨rfl,hb⟩
  ·have hr : nmrB 2 n = true := by simp [nmrB]
   rw [hr]
   clear hr g
   go_enter Tryz.func14,Tryz.ntmps14
   go_wp2_with fail
   go_ret
   exact ⟨rfl,hb⟩
  ·have e1 : (k == 1) = false := by simpa using h1
   have e2 : (k == 2) = false := by simpa using h2
   have e3 : (k == 3) = false := by simpa using h3
   have e6 : (k == 6) = false := by simpa using h6
   have hr : nmrB k n = false := by simp [nmrB,h3,h6,h1,h2]
   rw [hr]
   clear h1 h2 h3 h6 hr g
   go_enter Tryz.func14,Tryz.ntmps14
   go_wp2_with fail
   go_ret
   exact ⟨rfl,hb⟩
theorem size_empty {s : ByteArray} (h : s.size = 0) : s = ⟨#[]⟩ := by
 obtain ⟨⟨l⟩⟩ := s
 cases l with
 | nil => rfl
 | cons a l => simp [ByteArray.size] at h
set_option maxHeartbeats 2000000 in
theorem zero_any (t : Tr) (a1 a2 : Option Addr) (n1 c1 n2 c2 : Nat) (w : World) (h1 : n1 = t.es.length) (h2 : n2 = t.rest.length) : Calls Tryz.prog 16 #[.agg #[.int .i64 t.kind,.int .i64 t.n,.string t.s,.slice a1 n1 c1,.slice a2 n2 c2]] w fun e w' => e = .returned (.bool (zroB t)) ∧ Below w.heap.size w w' := by
 have hb : Below w.heap.size w (w.alloc (Obj.cells #[.int .i64 t.kind,.int .i64 t.n,.string t.s,.slice a1 n1 c1,.slice a2 n2 c2] 30)) := (Below.refl _ _).alloc (Nat.le_refl _) _
 have hz : zroB t = (decide (t.kind = 1 ∨ t.kind = 2 ∨ t.kind = 3) && decide (t.n = 0) && decide (t.s.size = 0) && decide (n1 = 0) && decide (n2 = 0)) := by rw [zroB,h1,h2]
 rw [hz]
 clear hz h1 h2
 generalize t.kind = K at *
 generalize t.n = N at *
 generalize t.s = S at *
 have kk : K = 1 ∨ K = 2 ∨ K = 3 ∨ (¬ K = 1 ∧ ¬ K = 2 ∧ ¬ K = 3) := by omega
 rcases kk with rfl | rfl | rfl | ⟨h1,h2,h3⟩
 ·by_cases hN : N = 0
  ·subst hN
   by_cases hS : S.size = 0
   ·obtain rfl := size_empty hS
    by_cases h1 : n1 = 0
    ·subst h1
     by_cases h2 : n2 = 0
     ·subst h2
      go_enter Tryz.func16,Tryz.ntmps16
      go_wp2_with fail
      go_ret
      exact ⟨rfl,hb⟩
     ·have d2 : ((n2 : Int) == 0) = false := by simp; omega
      simp only [decide_eq_false h2,Bool.and_false]
      clear h2
      go_enter Tryz.func16,Tryz.ntmps16
      go_wp2_with fail
      go_ret
      exact ⟨rfl,hb⟩
    ·have d1 : ((n1 : Int) == 0) = false := by simp; omega
     simp only [decide_eq_false h1,Bool.and_false,Bool.false_and]
     clear h1
     go_enter Tryz.func16,Tryz.ntmps16
     go_wp2_with fail
     go_ret
     exact ⟨rfl,hb⟩
   ·have dS : (S.toList == ([] : List UInt8)) = false := by rw [ByteArray.toList_eq]; simp; intro e; exact hS (by rw [← ByteArray.size_data,e]; rfl)
    simp only [decide_eq_false hS,Bool.and_false,Bool.false_and]
    clear hS
    go_enter Tryz.func16,Tryz.ntmps16
    go_wp2_with fail
    go_ret
    exact ⟨rfl,hb⟩
  ·have dN : (N == 0) = false := by simpa using hN
   simp only [decide_eq_false hN,Bool.and_false,Bool.false_and]
   clear hN
   go_enter Tryz.func16,Tryz.ntmps16
   go_wp2_with fail
   go_ret
   exact ⟨rfl,hb⟩
 ·by_cases hN : N = 0
  ·subst hN
   by_cases hS : S.size = 0
   ·obtain rfl := size_empty hS
    by_cases h1 : n1 = 0
    ·subst h1
     by_cases h2 : n2 = 0
     ·subst h2
      go_enter Tryz.func16,Tryz.ntmps16
      go_wp2_with fail
      go_ret
      exact ⟨rfl,hb⟩
     ·have d2 : ((n2 : Int) == 0) = false := by simp; omega
      simp only [decide_eq_false h2,Bool.and_false]
      clear h2
      go_enter Tryz.func16,Tryz.ntmps16
      go_wp2_with fail
      go_ret
      exact ⟨rfl,hb⟩
    ·have d1 : ((n1 : Int) == 0) = false := by simp; omega
     simp only [decide_eq_false h1,Bool.and_false,Bool.false_and]
     clear h1
     go_enter Tryz.func16,Tryz.ntmps16
     go_wp2_with fail
     go_ret
     exact ⟨rfl,hb⟩
   ·have dS : (S.toList == ([] : List UInt8)) = false := by rw [ByteArray.toList_eq]; simp; intro e; exact hS (by rw [← ByteArray.size_data,e]; rfl)
    simp only [decide_eq_false hS,Bool.and_false,Bool.false_and]
    clear hS
    go_enter Tryz.func16,Tryz.ntmps16
    go_wp2_with fail
    go_ret
    exact ⟨rfl,hb⟩
  ·have dN : (N == 0) = false := by simpa using hN
   simp only [decide_eq_false hN,Bool.and_false,Bool.false_and]
   clear hN
   go_enter Tryz.func16,Tryz.ntmps16
   go_wp2_with fail
   go_ret
   exact ⟨rfl,hb⟩
 ·by_cases hN : N = 0
  ·subst hN
   by_cases hS : S.size = 0
   ·obtain rfl := size_empty hS
    by_cases h1 : n1 = 0
    ·subst h1
     by_cases h2 : n2 = 0
     ·subst h2
      go_enter Tryz.func16,Tryz.ntmps16
      go_wp2_with fail
      go_ret
      exact ⟨rfl,hb⟩
     ·have d2 : ((n2 : Int) == 0) = false := by simp; omega
      simp only [decide_eq_false h2,Bool.and_false]
      clear h2
      go_enter Tryz.func16,Tryz.ntmps16
      go_wp2_with fail
      go_ret
      exact ⟨rfl,hb⟩
    ·have d1 : ((n1 : Int) == 0) = false := by simp; omega
     simp only [decide_eq_false h1,Bool.and_false,Bool.false_and]
     clear h1
     go_enter Tryz.func16,Tryz.ntmps16
     go_wp2_with fail
     go_ret
     exact ⟨rfl,hb⟩
   ·have dS : (S.toList == ([] : List UInt8)) = false := by rw [ByteArray.toList_eq]; simp; intro e; exact hS (by rw [← ByteArray.size_data,e]; rfl)
    simp only [decide_eq_false hS,Bool.and_false,Bool.false_and]
    clear hS
    go_enter Tryz.func16,Tryz.ntmps16
    go_wp2_with fail
    go_ret
    exact ⟨rfl,hb⟩
  ·have dN : (N == 0) = false := by simpa using hN
   simp only [decide_eq_false hN,Bool.and_false,Bool.false_and]
   clear hN
   go_enter Tryz.func16,Tryz.ntmps16
   go_wp2_with fail
   go_ret
   exact ⟨rfl,hb⟩
 ·have e1 : (K == 1) = false := by simpa using h1
  have e2 : (K == 2) = false := by simpa using h2
  have e3 : (K == 3) = false := by simpa using h3
  have hk : decide (K = 1 ∨ K = 2 ∨ K = 3) = false := by simp [h1,h2,h3]
  simp only [hk,Bool.false_and]
  clear h1 h2 h3 hk
  go_enter Tryz.func16,Tryz.ntmps16
  go_wp2_with fail
  go_ret
  exact ⟨rfl,hb⟩
set_option maxHeartbeats 1000000 in
theorem placeE_any (a : Option Addr) (N cap : Nat) (w : World) (h1 : N ≤ cap) (h2 : cap ≤ maxLen) (h3 : N = 0 ∨ ∃ g off,a = some ⟨g,off,none⟩) :
  Calls Tryz.prog 97 #[.slice a N cap] w fun e w' => e = .returned (plV (plOf (.slice a N cap))) ∧ Below w.heap.size w w' := by
 unfold maxLen at h2
 by_cases hN : N = 0
 ·subst hN
  go_enter Tryz.func97,Tryz.ntmps97
  go_wp2_with fail
  refine bodyPost_ret (results_cell rfl _ _ _ ⟨w.heap.size,0,none⟩ (.agg #[.pointer none,.int .i64 0]) (by go_simp) (by go_simp)) rfl ⟨by simp [plV,plOf],(Below.refl _ _).alloc (Nat.le_refl _) _⟩
 ·obtain ⟨g,off,rfl⟩ : ∃ g off,a = some ⟨g,off,none⟩ := by
   rcases h3 with h | h
   ·exact absurd h hN
   ·exact h
  have hd : ((N : Int) == 0) = false := by simp; omega
  have hp : 0 < N := by omega
  go_enter Tryz.func97,Tryz.ntmps97
  go_wp2_with fail
  refine bodyPost_ret (results_cell rfl _ _ _ ⟨w.heap.size,0,none⟩ (.agg #[.pointer (some ⟨g,off,none⟩),.int .i64 (N : Int)]) (by go_simp) (by go_simp)) rfl ⟨by simp [plV,plOf,hN],(Below.refl _ _).alloc (Nat.le_refl _) _⟩
set_option maxHeartbeats 1000000 in
theorem placeR_any (a : Option Addr) (N cap : Nat) (w : World) (h1 : N ≤ cap) (h2 : cap ≤ maxLen) (h3 : N = 0 ∨ ∃ g off,a = some ⟨g,off,none⟩) :
  Calls Tryz.prog 98 #[.slice a N cap] w fun e w' => e = .returned (plV (plOf (.slice a N cap))) ∧ Below w.heap.size w w' := by
 unfold maxLen at h2
 by_cases hN : N = 0
 ·subst hN
  go_enter Tryz.func98,Tryz.ntmps98
  go_wp2_with fail
  refine bodyPost_ret (results_cell rfl _ _ _ ⟨w.heap.size,0,none⟩ (.agg #[.pointer none,.int .i64 0]) (by go_simp) (by go_simp)) rfl ⟨by simp [plV,plOf],(Below.refl _ _).alloc (Nat.le_refl _) _⟩
 ·obtain ⟨g,off,rfl⟩ : ∃ g off,a = some ⟨g,off,none⟩ := by
   rcases h3 with h | h
   ·exact absurd h hN
   ·exact h
  have hd : ((N : Int) == 0) = false := by simp; omega
  have hp : 0 < N := by omega
  go_enter Tryz.func98,Tryz.ntmps98
  go_wp2_with fail
  refine bodyPost_ret (results_cell rfl _ _ _ ⟨w.heap.size,0,none⟩ (.agg #[.pointer (some ⟨g,off,none⟩),.int .i64 (N : Int)]) (by go_simp) (by go_simp)) rfl ⟨by simp [plV,plOf,hN],(Below.refl _ _).alloc (Nat.le_refl _) _⟩
set_option maxHeartbeats 2000000 in
theorem identity_any (K N : Int) (S : ByteArray) (a1 a2 : Option Addr) (n1 c1 n2 c2 : Nat) (w : World) (h1 : n1 ≤ c1) (h2 : c1 ≤ maxLen) (h3 : n1 = 0 ∨ ∃ g off,a1 = some ⟨g,off,none⟩) (h4 : n2 ≤ c2) (h5 : c2 ≤ maxLen) (h6 : n2 = 0 ∨ ∃ g off,a2 = some ⟨g,off,none⟩) :
  Calls Tryz.prog 63 #[.agg #[.int .i64 K,.int .i64 N,.string S,.slice a1 n1 c1,.slice a2 n2 c2]] w fun e w' => e = .returned (.agg (idC ⟨K,N,S,plOf (.slice a1 n1 c1),plOf (.slice a2 n2 c2)⟩).toArray) ∧ Below w.heap.size w w' := by
 obtain ⟨⟨p1,m1⟩,hp1⟩ : ∃ x,plOf (.slice a1 n1 c1) = x := ⟨_,rfl⟩
 obtain ⟨⟨p2,m2⟩,hp2⟩ : ∃ x,plOf (.slice a2 n2 c2) = x := ⟨_,rfl⟩
 have HE : Hid (∀ W,Calls Tryz.prog 97 #[.slice a1 n1 c1] W fun e w' => e = .returned (.agg #[.pointer p1,.int .i64 (m1 : Int)]) ∧ Below W.heap.size W w') := fun W => by
  have := placeE_any a1 n1 c1 W h1 h2 h3
  rw [hp1] at this
  exact this
 have HR : Hid (∀ W,Calls Tryz.prog 98 #[.slice a2 n2 c2] W fun e w' => e = .returned (.agg #[.pointer p2,.int .i64 (m2 : Int)]) ∧ Below W.heap.size W w') := fun W => by
  have := placeR_any a2 n2 c2 W h4 h5 h6
  rw [hp2] at this
  exact this
 rw [hp1,hp2]
 clear hp1 hp2 h1 h2 h3 h4 h5 h6
 have B0 : Blk ((w.alloc (Obj.cells #[.int .i64 K,.int .i64 N,.string S,.slice a1 n1 c1,.slice a2 n2 c2] 30)).alloc (Obj.cells #[.int .i64 0,.int .i64 0,.string ⟨#[]⟩,.pointer none,.int .i64 0,.pointer none,.int .i64 0] 116)) w.heap.size #[.int .i64 K,.int .i64 N,.string S,.slice a1 n1 c1,.slice a2 n2 c2] 30 := (Blk.new w _ _).below ((Below.refl _ _).alloc (Nat.le_refl _) _)
 have B1 : Blk ((w.alloc (Obj.cells #[.int .i64 K,.int .i64 N,.string S,.slice a1 n1 c1,.slice a2 n2 c2] 30)).alloc (Obj.cells #[.int .i64 0,.int .i64 0,.string ⟨#[]⟩,.pointer none,.int .i64 0,.pointer none,.int .i64 0] 116)) (w.heap.size + 1) #[.int .i64 0,.int .i64 0,.string ⟨#[]⟩,.pointer none,.int .i64 0,.pointer none,.int .i64 0] 116 := by
  have := Blk.new (w.alloc (Obj.cells #[.int .i64 K,.int .i64 N,.string S,.slice a1 n1 c1,.slice a2 n2 c2] 30)) #[.int .i64 0,.int .i64 0,.string ⟨#[]⟩,.pointer none,.int .i64 0,.pointer none,.int .i64 0] 116
  rwa [show (w.alloc (Obj.cells #[.int .i64 K,.int .i64 N,.string S,.slice a1 n1 c1,.slice a2 n2 c2] 30)).heap.size = w.heap.size + 1 from by simp] at this
 have hb : Below w.heap.size w ((w.alloc (Obj.cells #[.int .i64 K,.int .i64 N,.string S,.slice a1 n1 c1,.slice a2 n2 c2] 30)).alloc (Obj.cells #[.int .i64 0,.int .i64 0,.string ⟨#[]⟩,.pointer none,.int .i64 0,.pointer none,.int .i64 0] 116)) := ((Below.refl _ _).alloc (Nat.le_refl _) _).alloc (by simp) _
 go_enter Tryz.func63,Tryz.ntmps63
 go_wp2_with fail
 generalize ((w.alloc (Obj.cells #[.int .i64 K,.int .i64 N,.string S,.slice a1 n1 c1,.slice a2 n2 c2] 30)).alloc (Obj.cells #[.int .i64 0,.int .i64 0,.string ⟨#[]⟩,.pointer none,.int .i64 0,.pointer none,.int .i64 0] 116)) = W0 at *
 obtain ⟨b0,hb0⟩ : ∃ b,w.heap.size = b := ⟨_,rfl⟩
 have HBZ : Hid (w.heap.size = b0) := hb0
 rw [hb0] at B0 B1
 simp only [hb0]
 clear hb0
 have hTb : ∀ W,Below W0.heap.size W0 W → W.cell? ⟨b0,0,none⟩ = some (.int .i64 K) ∧ W.cell? ⟨b0,1,none⟩ = some (.int .i64 N) ∧ W.cell? ⟨b0,2,none⟩ = some (.string S) ∧ W.cell? ⟨b0,3,none⟩ = some (.slice a1 n1 c1) ∧ W.cell? ⟨b0,4,none⟩ = some (.slice a2 n2 c2) := fun W hW => ⟨(B0.below hW).cell 0,(B0.below hW).cell 1,(B0.below hW).cell 2,(B0.below hW).cell 3,(B0.below hW).cell 4⟩
 refine M_region (T := fun W => W.cell? ⟨b0,0,none⟩ = some (.int .i64 K) ∧ W.cell? ⟨b0,1,none⟩ = some (.int .i64 N) ∧ W.cell? ⟨b0,2,none⟩ = some (.string S) ∧ W.cell? ⟨b0,3,none⟩ = some (.slice a1 n1 c1) ∧ W.cell? ⟨b0,4,none⟩ = some (.slice a2 n2 c2)) (m := 13) (by kernel_rfl) ?_
 have hd : Below W0.heap.size W0 W0.drew := (Below.refl _ _).drew
 have hS := hTb _ hd
 refine M_take 0 3 (.pointer (some ⟨b0,0,none⟩)) _ rfl rfl (by kernel_rfl) (by kernel_rfl) (by kernel_rfl) (by kernel_rfl) (by kernel_rfl) (fun _ _ _ h => h) (by rfl) (fun w' hw' => ?_) hS (listed' := bts 14 1) (by kernel_rfl) rfl ?_
 ·go_simp
 simp only [zsA,zsZ,zsS]
 refine M_take 1 4 (.int .i64 K) _ rfl rfl (by kernel_rfl) (by kernel_rfl) (by kernel_rfl) (by kernel_rfl) (by kernel_rfl) (fun _ _ _ h => h) (by rfl) (fun w' hw' => ?_) hS (listed' := bts 14 3) (by kernel_rfl) rfl ?_
 ·obtain ⟨f0,f1,f2,f3,f4⟩ := hw'; go_simp
 simp only [zsA,zsZ,zsS]
 refine M_take 2 5 (.pointer (some ⟨b0,1,none⟩)) _ rfl rfl (by kernel_rfl) (by kernel_rfl) (by kernel_rfl) (by kernel_rfl) (by kernel_rfl) (fun _ _ _ h => h) (by rfl) (fun w' hw' => ?_) hS (listed' := bts 14 7) (by kernel_rfl) rfl ?_
 ·go_simp
 simp only [zsA,zsZ,zsS]
 refine M_take 3 6 (.int .i64 N) _ rfl rfl (by kernel_rfl) (by kernel_rfl) (by kernel_rfl) (by kernel_rfl) (by kernel_rfl) (fun _ _ _ h => h) (by rfl) (fun w' hw' => ?_) hS (listed' := bts 14 15) (by kernel_rfl) rfl ?_
 ·obtain ⟨f0,f1,f2,f3,f4⟩ := hw'; go_simp
 simp only [zsA,zsZ,zsS]
 refine M_take 4 7 (.pointer (some ⟨b0,2,none⟩)) _ rfl rfl (by kernel_rfl) (by kernel_rfl) (by kernel_rfl) (by kernel_rfl) (by kernel_rfl) (fun _ _ _ h => h) (by rfl) (fun w' hw' => ?_) hS (listed' := bts 14 31) (by kernel_rfl) rfl ?_
 ·go_simp
 simp only [zsA,zsZ,zsS]
 refine M_take 5 8 (.string S) _ rfl rfl (by kernel_rfl) (by kernel_rfl) (by kernel_rfl) (by kernel_rfl) (by kernel_rfl) (fun _ _ _ h => h) (by rfl) (fun w' hw' => ?_) hS (listed' := bts 14 63) (by kernel_rfl) rfl ?_
 ·obtain ⟨f0,f1,f2,f3,f4⟩ := hw'; go_simp
 simp only [zsA,zsZ,zsS]
 refine M_take 6 9 (.pointer (some ⟨b0,3,none⟩)) _ rfl rfl (by kernel_rfl) (by kernel_rfl) (by kernel_rfl) (by kernel_rfl) (by kernel_rfl) (fun _ _ _ h => h) (by rfl) (fun w' hw' => ?_) hS (listed' := bts 14 127) (by kernel_rfl) rfl ?_
 ·go_simp
 simp only [zsA,zsZ,zsS]
 refine M_take 7 10 (.slice a1 n1 c1) _ rfl rfl (by kernel_rfl) (by kernel_rfl) (by kernel_rfl) (by kernel_rfl) (by kernel_rfl) (fun _ _ _ h => h) (by rfl) (fun w' hw' => ?_) hS (listed' := bts 14 255) (by kernel_rfl) rfl ?_
 ·obtain ⟨f0,f1,f2,f3,f4⟩ := hw'; go_simp
 simp only [zsA,zsZ,zsS]
 refine M_take 9 12 (.pointer (some ⟨b0,4,none⟩)) _ rfl rfl (by kernel_rfl) (by kernel_rfl) (by kernel_rfl) (by kernel_rfl) (by kernel_rfl) (fun _ _ _ h => h) (by rfl) (fun w' hw' => ?_) hS (listed' := bts 14 767) (by kernel_rfl) rfl ?_
 ·go_simp
 simp only [zsA,zsZ,zsS]
 refine M_take 10 13 (.slice a2 n2 c2) _ rfl rfl (by kernel_rfl) (by kernel_rfl) (by kernel_rfl) (by kernel_rfl) (by kernel_rfl) (fun _ _ _ h => h) (by rfl) (fun w' hw' => ?_) hS (listed' := bts 14 1791) (by kernel_rfl) rfl ?_
 ·obtain ⟨f0,f1,f2,f3,f4⟩ := hw'; go_simp
 simp only [zsA,zsZ,zsS]
 refine M_call 8 11 97 #[.slice a1 n1 c1] rfl rfl (by kernel_rfl) (by rfl) (listed' := bts 14 2047) (by kernel_rfl) (fun W => by go_simp) ?_
 refine (HE.out _).mono ?_
 rintro e W1 ⟨rfl,hb1⟩
 have hd1 : Below W0.heap.size W0 W1 := hd.trans (hb1.mono hd.size)
 have hS := hTb _ hd1
 refine ⟨_,rfl,hS,?_⟩
 simp only [zsA,zsZ,zsS]
 refine M_call 11 14 98 #[.slice a2 n2 c2] rfl rfl (by kernel_rfl) (by rfl) (listed' := bts 14 4095) (by kernel_rfl) (fun W => by go_simp) ?_
 refine (HR.out _).mono ?_
 rintro e W2 ⟨rfl,hb2⟩
 have hd2 : Below W0.heap.size W0 W2 := hd1.trans (hb2.mono hd1.size)
 have hS := hTb _ hd2
 refine ⟨_,rfl,hS,?_⟩
 simp only [zsA,zsZ,zsS]
 refine M_take 12 15 (.agg #[.int .i64 K,.int .i64 N,.string S,.pointer p1,.int .i64 (m1 : Int),.pointer p2,.int .i64 (m2 : Int)]) _ rfl rfl (by kernel_rfl) (by kernel_rfl) (by kernel_rfl) (by kernel_rfl) (by kernel_rfl) (fun _ _ _ h => h) (by rfl) (fun w' hw' => ?_) hS (listed' := bts 14 8191) (by kernel_rfl) rfl ?_
 ·go_simp
 simp only [zsA,zsZ,zsS]
 have BR := B1.below hd2
 have r0 := (BR.cell 0).trans rfl
 have z0 := BR.froz 0
 have r1 := (BR.cell 1).trans rfl
 have z1 := BR.froz 1
 have r2 := (BR.cell 2).trans rfl
 have z2 := BR.froz 2
 have r3 := (BR.cell 3).trans rfl
 have z3 := BR.froz 3
 have r4 := (BR.cell 4).trans rfl
 have z4 := BR.froz 4
 have r5 := (BR.cell 5).trans rfl
 have z5 := BR.froz 5
 have r6 := (BR.cell 6).trans rfl
 have z6 := BR.froz 6
 refine M_store 13 (((((((W2.setCell ⟨b0 + 1,0,none⟩ (.int .i64 K)).setCell ⟨b0 + 1,1,none⟩ (.int .i64 N)).setCell ⟨b0 + 1,2,none⟩ (.string S)).setCell ⟨b0 + 1,3,none⟩ (.pointer p1)).setCell ⟨b0 + 1,4,none⟩ (.int .i64 (m1 : Int))).setCell ⟨b0 + 1,5,none⟩ (.pointer p2)).setCell ⟨b0 + 1,6,none⟩ (.int .i64 (m2 : Int))) rfl rfl (by kernel_rfl) (by rfl) (listed' := bts 14 16383) (by kernel_rfl) (by go_simp) (by kernel_rfl) ?_
 refine M_done (by kernel_rfl) ?_ _
 have BR0 : Blk (W2.setCell ⟨b0 + 1,0,none⟩ (.int .i64 K)) (b0 + 1) #[.int .i64 K,.int .i64 0,.string ⟨#[]⟩,.pointer none,.int .i64 0,.pointer none,.int .i64 0] 116 := BR.set 0 _ rfl
 have BR1 : Blk ((W2.setCell ⟨b0 + 1,0,none⟩ (.int .i64 K)).setCell ⟨b0 + 1,1,none⟩ (.int .i64 N)) (b0 + 1) #[.int .i64 K,.int .i64 N,.string ⟨#[]⟩,.pointer none,.int .i64 0,.pointer none,.int .i64 0] 116 := BR0.set 1 _ rfl
 have BR2 : Blk (((W2.setCell ⟨b0 + 1,0,none⟩ (.int .i64 K)).setCell ⟨b0 + 1,1,none⟩ (.int .i64 N)).setCell ⟨b0 + 1,2,none⟩ (.string S)) (b0 + 1) #[.int .i64 K,.int .i64 N,.string S,.pointer none,.int .i64 0,.pointer none,.int .i64 0] 116 := BR1.set 2 _ rfl
 have BR3 : Blk ((((W2.setCell ⟨b0 + 1,0,none⟩ (.int .i64 K)).setCell ⟨b0 + 1,1,none⟩ (.int .i64 N)).setCell ⟨b0 + 1,2,none⟩ (.string S)).setCell ⟨b0 + 1,3,none⟩ (.pointer p1)) (b0 + 1) #[.int .i64 K,.int .i64 N,.string S,.pointer p1,.int .i64 0,.pointer none,.int .i64 0] 116 := BR2.set 3 _ rfl
 have BR4 : Blk (((((W2.setCell ⟨b0 + 1,0,none⟩ (.int .i64 K)).setCell ⟨b0 + 1,1,none⟩ (.int .i64 N)).setCell ⟨b0 + 1,2,none⟩ (.string S)).setCell ⟨b0 + 1,3,none⟩ (.pointer p1)).setCell ⟨b0 + 1,4,none⟩ (.int .i64 (m1 : Int))) (b0 + 1) #[.int .i64 K,.int .i64 N,.string S,.pointer p1,.int .i64 (m1 : Int),.pointer none,.int .i64 0] 116 := BR3.set 4 _ rfl
 have BR5 : Blk ((((((W2.setCell ⟨b0 + 1,0,none⟩ (.int .i64 K)).setCell ⟨b0 + 1,1,none⟩ (.int .i64 N)).setCell ⟨b0 + 1,2,none⟩ (.string S)).setCell ⟨b0 + 1,3,none⟩ (.pointer p1)).setCell ⟨b0 + 1,4,none⟩ (.int .i64 (m1 : Int))).setCell ⟨b0 + 1,5,none⟩ (.pointer p2)) (b0 + 1) #[.int .i64 K,.int .i64 N,.string S,.pointer p1,.int .i64 (m1 : Int),.pointer p2,.int .i64 0] 116 := BR4.set 5 _ rfl
 have BR6 : Blk (((((((W2.setCell ⟨b0 + 1,0,none⟩ (.int .i64 K)).setCell ⟨b0 + 1,1,none⟩ (.int .i64 N)).setCell ⟨b0 + 1,2,none⟩ (.string S)).setCell ⟨b0 + 1,3,none⟩ (.pointer p1)).setCell ⟨b0 + 1,4,none⟩ (.int .i64 (m1 : Int))).setCell ⟨b0 + 1,5,none⟩ (.pointer p2)).setCell ⟨b0 + 1,6,none⟩ (.int .i64 (m2 : Int))) (b0 + 1) #[.int .i64 K,.int .i64 N,.string S,.pointer p1,.int .i64 (m1 : Int),.pointer p2,.int .i64 (m2 : Int)] 116 := BR5.set 6 _ rfl
 have hbe : Below w.heap.size w W2 := hb.trans (hd2.mono hb.size)
 have hbe0 : Below w.heap.size w (W2.setCell ⟨b0 + 1,0,none⟩ (.int .i64 K)) := Below.setCell (p := ⟨b0 + 1,0,none⟩) hbe (by have := HBZ.out; show w.heap.size ≤ b0 + 1; omega) _
 have hbe1 : Below w.heap.size w ((W2.setCell ⟨b0 + 1,0,none⟩ (.int .i64 K)).setCell ⟨b0 + 1,1,none⟩ (.int .i64 N)) := Below.setCell (p := ⟨b0 + 1,1,none⟩) hbe0 (by have := HBZ.out; show w.heap.size ≤ b0 + 1; omega) _
 have hbe2 : Below w.heap.size w (((W2.setCell ⟨b0 + 1,0,none⟩ (.int .i64 K)).setCell ⟨b0 + 1,1,none⟩ (.int .i64 N)).setCell ⟨b0 + 1,2,none⟩ (.string S)) := Below.setCell (p := ⟨b0 + 1,2,none⟩) hbe1 (by have := HBZ.out; show w.heap.size ≤ b0 + 1; omega) _
 have hbe3 : Below w.heap.size w ((((W2.setCell ⟨b0 + 1,0,none⟩ (.int .i64 K)).setCell ⟨b0 + 1,1,none⟩ (.int .i64 N)).setCell ⟨b0 + 1,2,none⟩ (.string S)).setCell ⟨b0 + 1,3,none⟩ (.pointer p1)) := Below.setCell (p := ⟨b0 + 1,3,none⟩) hbe2 (by have := HBZ.out; show w.heap.size ≤ b0 + 1; omega) _
 have hbe4 : Below w.heap.size w (((((W2.setCell ⟨b0 + 1,0,none⟩ (.int .i64 K)).setCell ⟨b0 + 1,1,none⟩ (.int .i64 N)).setCell ⟨b0 + 1,2,none⟩ (.string S)).setCell ⟨b0 + 1,3,none⟩ (.pointer p1)).setCell ⟨b0 + 1,4,none⟩ (.int .i64 (m1 : Int))) := Below.setCell (p := ⟨b0 + 1,4,none⟩) hbe3 (by have := HBZ.out; show w.heap.size ≤ b0 + 1; omega) _
 have hbe5 : Below w.heap.size w ((((((W2.setCell ⟨b0 + 1,0,none⟩ (.int .i64 K)).setCell ⟨b0 + 1,1,none⟩ (.int .i64 N)).setCell ⟨b0 + 1,2,none⟩ (.string S)).setCell ⟨b0 + 1,3,none⟩ (.pointer p1)).setCell ⟨b0 + 1,4,none⟩ (.int .i64 (m1 : Int))).setCell ⟨b0 + 1,5,none⟩ (.pointer p2)) := Below.setCell (p := ⟨b0 + 1,5,none⟩) hbe4 (by have := HBZ.out; show w.heap.size ≤ b0 + 1; omega) _
 have hbe6 : Below w.heap.size w (((((((W2.setCell ⟨b0 + 1,0,none⟩ (.int .i64 K)).setCell ⟨b0 + 1,1,none⟩ (.int .i64 N)).setCell ⟨b0 + 1,2,none⟩ (.string S)).setCell ⟨b0 + 1,3,none⟩ (.pointer p1)).setCell ⟨b0 + 1,4,none⟩ (.int .i64 (m1 : Int))).setCell ⟨b0 + 1,5,none⟩ (.pointer p2)).setCell ⟨b0 + 1,6,none⟩ (.int .i64 (m2 : Int))) := Below.setCell (p := ⟨b0 + 1,6,none⟩) hbe5 (by have := HBZ.out; show w.heap.size ≤ b0 + 1; omega) _
 clear r0 z0 r1 z1 r2 z2 r3 z3 r4 z4 r5 z5 r6 z6 BR0 hbe0 BR1 hbe1 BR2 hbe2 BR3 hbe3 BR4 hbe4 BR5 hbe5 BR hbe hS
 generalize (((((((W2.setCell ⟨b0 + 1,0,none⟩ (.int .i64 K)).setCell ⟨b0 + 1,1,none⟩ (.int .i64 N)).setCell ⟨b0 + 1,2,none⟩ (.string S)).setCell ⟨b0 + 1,3,none⟩ (.pointer p1)).setCell ⟨b0 + 1,4,none⟩ (.int .i64 (m1 : Int))).setCell ⟨b0 + 1,5,none⟩ (.pointer p2)).setCell ⟨b0 + 1,6,none⟩ (.int .i64 (m2 : Int))) = W3 at *
 have r0 := (BR6.cell 0).trans rfl
 have r1 := (BR6.cell 1).trans rfl
 have r2 := (BR6.cell 2).trans rfl
 have r3 := (BR6.cell 3).trans rfl
 have r4 := (BR6.cell 4).trans rfl
 have r5 := (BR6.cell 5).trans rfl
 have r6 := (BR6.cell 6).trans rfl
 go_wp2_with fail
 refine bodyPost_ret (results_cell rfl _ _ _ ⟨b0 + 1,0,none⟩ (.agg #[.int .i64 K,.int .i64 N,.string S,.pointer p1,.int .i64 (m1 : Int),.pointer p2,.int .i64 (m2 : Int)]) (by go_simp) (by go_simp)) rfl ⟨rfl,hbe6⟩
theorem row_slice {w : World} {v : Value} {size : Nat} {rs : List (List Value)} (h : RowG w v size rs) : ∃ a n c,v = .slice a n c := by
 obtain ⟨a,c,e,_⟩ := h.form
 exact ⟨a,_,c,e⟩
set_option maxHeartbeats 1000000 in
theorem hasField_any {w : World} {snm : ByteArray} {vf vr : Value} {fs : List FlS} {tag : Int} (hf : RowG w vf 5 (flRows fs)) (hr : ∃ a n c,vr = .slice a n c) :
  Calls Tryz.prog 67 #[.agg #[.string snm,vf,vr],.int .i64 tag] w fun e w' => e = .returned (.bool (fldOf fs tag).isSome) ∧ Below w.heap.size w w' := by
 obtain ⟨ra,rn,rc,rfl⟩ := hr
 obtain ⟨fa,fnn,fc,rfl⟩ := row_slice hf
 have al : Below w.heap.size w (w.alloc (Obj.cells #[.string snm,.slice fa fnn fc,.slice ra rn rc] 50)) := (Below.refl _ _).alloc (Nat.le_refl _) _
 have HC : Hid (Calls Tryz.prog 80 #[.agg #[.string snm,.slice fa fnn fc,.slice ra rn rc],.int .i64 tag] (w.alloc (Obj.cells #[.string snm,.slice fa fnn fc,.slice ra rn rc] 50)) fun e w' => e = .returned (.tuple #[flV ((fldOf fs tag).getD zeroF),.bool (fldOf fs tag).isSome]) ∧ Below (w.alloc (Obj.cells #[.string snm,.slice fa fnn fc,.slice ra rn rc] 50)).heap.size (w.alloc (Obj.cells #[.string snm,.slice fa fnn fc,.slice ra rn rc] 50)) w') := cfield_any (hf.below al)
 clear hf
 generalize fldOf fs tag = X at *
 generalize X.getD zeroF = Y at *
 generalize X.isSome = B at *
 obtain ⟨y1,y2,y3,y4,y5⟩ := Y
 simp only [flV] at HC
 go_enter Tryz.func67,Tryz.ntmps67
 go_wp2_with fail
 refine HC.out.mono ?_
 rintro e w1 ⟨rfl,hb1⟩
 have hbw : Below w.heap.size w w1 := al.trans (hb1.mono al.size)
 clear HC hb1 al
 have hbe : Below w.heap.size w (w1.alloc (Obj.cells #[.string y1,.int .i64 y2,.int .i64 y3,.int .i64 y4,.string y5] 54)) := hbw.alloc hbw.size _
 go_wp2_with fail
 go_ret
 exact ⟨rfl,hbe⟩
set_option maxHeartbeats 1000000 in
theorem restc_any {W : World} {b : Nat} {snm : ByteArray} {vf vr : Value} {fs : List FlS} (x : Fd) (hB : Blk W b #[.string snm,vf,vr] 50) (hf : RowG W vf 5 (flRows fs)) (hr : ∃ a n c,vr = .slice a n c) :
  Calls Tryz.prog 66 #[.agg #[.int .i64 x.tag,.int .i64 x.wire,.int .i64 x.n,.string x.b],.pointer (some ⟨b,0,none⟩)] W fun e w' => e = .returned (.bool (fldOf fs x.tag).isSome) ∧ Below W.heap.size W w' := by
 obtain ⟨ra,rn,rc,rfl⟩ := hr
 obtain ⟨fa,fnn,fc,rfl⟩ := row_slice hf
 have al : Below W.heap.size W (W.alloc (Obj.cells #[.int .i64 x.tag,.int .i64 x.wire,.int .i64 x.n,.string x.b] 60)) := (Below.refl _ _).alloc (Nat.le_refl _) _
 have q0 := (hB.cell 0).trans rfl
 have q1 := (hB.cell 1).trans rfl
 have q2 := (hB.cell 2).trans rfl
 have hlt := hB.lt
 have HC : Hid (Calls Tryz.prog 67 #[.agg #[.string snm,.slice fa fnn fc,.slice ra rn rc],.int .i64 x.tag] (W.alloc (Obj.cells #[.int .i64 x.tag,.int .i64 x.wire,.int .i64 x.n,.string x.b] 60)) fun e w' => e = .returned (.bool (fldOf fs x.tag).isSome) ∧ Below (W.alloc (Obj.cells #[.int .i64 x.tag,.int .i64 x.wire,.int .i64 x.n,.string x.b] 60)).heap.size (W.alloc (Obj.cells #[.int .i64 x.tag,.int .i64 x.wire,.int .i64 x.n,.string x.b] 60)) w') := hasField_any (hf.below al) ⟨_,_,_,rfl⟩
 clear hf hB
 generalize (fldOf fs x.tag).isSome = R at *
 generalize x.tag = x1 at *
 generalize x.wire = x2 at *
 generalize x.n = x3 at *
 generalize x.b = x4 at *
 go_enter Tryz.func66,Tryz.ntmps66
 go_wp2_with fail
 refine HC.out.mono ?_
 rintro e w1 ⟨rfl,hb1⟩
 have hbw : Below W.heap.size W w1 := al.trans (hb1.mono al.size)
 clear HC hb1 al q0 q1 q2
 go_wp2_with fail
 go_ret
 exact ⟨rfl,hbw⟩
set_option maxHeartbeats 2000000 in
theorem indexR_any (b : Nat) (v : Value) (l : List Fd) (w : World) (p : Fd → Bool) (h : RowG w v 4 (fdRows l)) (hf : ∀ (W : World) (x : Fd),Below w.heap.size w W → x ∈ l → Calls Tryz.prog 66 #[.agg #[.int .i64 x.tag,.int .i64 x.wire,.int .i64 x.n,.string x.b],.pointer (some ⟨b,0,none⟩)] W fun e w' => e = .returned (.bool (p x)) ∧ Below W.heap.size W w') :
  Calls Tryz.prog 100 #[v,.func (.func 66) #[] #[.pointer (some ⟨b,0,none⟩)]] w fun e w' => (∃ k : Int,e = .returned (.int .i64 k) ∧ (0 ≤ k ↔ l.any p = true)) ∧ Below w.heap.size w w' := by
 have h0 := h
 obtain ⟨a,cap,rfl,h1,h2,h3, -,h5⟩ := rest_holds h
 obtain ⟨N,hN⟩ : ∃ N,l.length = N := ⟨_,rfl⟩
 rw [hN] at h1 h0 ⊢
 have HH : Hid (∀ g off,a = some ⟨g,off,none⟩ → ∀ (i : Nat) (f : Fd),l[i]? = some f → w.cell? ⟨g,off + i * 4,none⟩ = some (.int .i64 f.tag) ∧ w.cell? ⟨g,off + i * 4 + 1,none⟩ = some (.int .i64 f.wire) ∧ w.cell? ⟨g,off + i * 4 + 2,none⟩ = some (.int .i64 f.n) ∧ w.cell? ⟨g,off + i * 4 + 3,none⟩ = some (.string f.b)) := h5
 have H3 : Hid (l = [] ∨ ∃ g off,a = some ⟨g,off,none⟩) := h3
 have HN : Hid (l.length = N) := hN
 have HF : Hid (∀ (W : World) (x : Fd),Below w.heap.size w W → x ∈ l → Calls Tryz.prog 66 #[.agg #[.int .i64 x.tag,.int .i64 x.wire,.int .i64 x.n,.string x.b],.pointer (some ⟨b,0,none⟩)] W fun e w' => e = .returned (.bool (p x)) ∧ Below W.heap.size W w') := hf
 unfold maxLen at h2
 clear h h0 hN hf h3 h5
 go_enter Tryz.func100,Tryz.ntmps100
 go_wp2_with fail
 go_loopw [8] (fun iv wr => ∃ i : Nat,iv = .int .i64 (i : Int) ∧ i ≤ N ∧ Hid (∀ x ∈ l.take i,p x = false) ∧ Below w.heap.size w wr) (fun iv _ => N - (intOf iv).toNat)
 case atStart => exact ⟨0,rfl,by omega,(by simp : ∀ x ∈ l.take 0,p x = false),Below.refl _ _⟩
 case round =>
  obtain ⟨i,rfl,hi,HI,hbel⟩ := hrel
  by_cases hlt : i < N
  ·obtain ⟨t,ht⟩ : ∃ r,l[i]? = some r := ⟨_,List.getElem?_eq_getElem (by rw [HN.out]; exact hlt)⟩
   obtain ⟨g,off,rfl⟩ : ∃ g off,a = some ⟨g,off,none⟩ := by
    rcases H3.out with h | h
    ·rw [h] at ht; simp at ht
    ·exact h
   obtain ⟨p0,p1,p2,p3⟩ := HH.out g off rfl i t ht
   have c0 := (hbel.cell (World.block_lt_of_cell? _ _ p0)).trans p0
   have c1 := (hbel.cell (World.block_lt_of_cell? _ _ p1)).trans p1
   have c2 := (hbel.cell (World.block_lt_of_cell? _ _ p2)).trans p2
   have c3 := (hbel.cell (World.block_lt_of_cell? _ _ p3)).trans p3
   have HCC : Hid (Calls Tryz.prog 66 #[.agg #[.int .i64 t.tag,.int .i64 t.wire,.int .i64 t.n,.string t.b],.pointer (some ⟨b,0,none⟩)] wr fun e w' => e = .returned (.bool (p t)) ∧ Below wr.heap.size wr w') := HF.out wr t hbel (List.mem_of_getElem? ht)
   have HT : Hid (l.take (i + 1) = l.take i ++ [t]) := (by obtain ⟨hl',e⟩ := List.getElem?_eq_some_iff.1 ht; rw [List.take_succ_eq_append_getElem hl',e] : l.take (i + 1) = l.take i ++ [t])
   have HTM : Hid (t ∈ l) := List.mem_of_getElem? ht
   clear ht p0 p1 p2 p3
   obtain ⟨R,hR⟩ : ∃ R,p t = R := ⟨_,rfl⟩
   have HR : Hid (p t = R) := hR
   rw [hR] at HCC
   clear hR
   generalize t.tag = x1 at *
   generalize t.wire = x2 at *
   generalize t.n = x3 at *
   generalize t.b = x4 at *
   go_wp2_with fail
   refine Calls.mono HCC.out ?_
   rintro e w2 ⟨rfl,hb2⟩
   have hbw : Below w.heap.size w w2 := hbel.trans (hb2.mono hbel.size)
   clear HCC hb2 c0 c1 c2 c3 hbel
   cases R with
   | true =>
    go_wp2_with fail
    go_ret
    exact ⟨⟨_,rfl,by simp only [Int.natCast_nonneg,true_iff]; exact List.any_eq_true.2 ⟨t,HTM.out,HR.out⟩⟩,hbw⟩
   | false =>
    go_wp2_with fail
    go_roundw
    case rel => exact ⟨i + 1,by go_num,by omega,(by
     rw [HT.out]
     intro x hx
     rcases List.mem_append.1 hx with hx | hx
     ·exact HI.out x hx
     ·obtain rfl : x = t := by simpa using hx
      exact HR.out : ∀ x ∈ l.take (i + 1),p x = false),hbw⟩
    case measure => simp [intOf]; omega
  ·go_wp2_with fail
   go_ret
   have h5 := HI.out
   rw [List.take_of_length_le (by rw [HN.out]; omega)] at h5
   refine ⟨⟨-1,rfl,?_⟩,hbel⟩
   have : l.any p = false := by rw [List.any_eq_false]; intro x hx; rw [h5 x hx]; simp
   rw [this]
   simp
theorem containsR_any (b : Nat) (v : Value) (l : List Fd) (w : World) (p : Fd → Bool) (h : RowG w v 4 (fdRows l)) (hf : ∀ (W : World) (x : Fd),Below w.heap.size w W → x ∈ l → Calls Tryz.prog 66 #[.agg #[.int .i64 x.tag,.int .i64 x.wire,.int .i64 x.n,.string x.b],.pointer (some ⟨b,0,none⟩)] W fun e w' => e = .returned (.bool (p x)) ∧ Below W.heap.size W w') :
  Calls Tryz.prog 65 #[v,.func (.func 66) #[] #[.pointer (some ⟨b,0,none⟩)]] w fun e w' => e = .returned (.bool (l.any p)) ∧ Below w.heap.size w w' := by
 have HI : Hid (Calls Tryz.prog 100 #[v,.func (.func 66) #[] #[.pointer (some ⟨b,0,none⟩)]] w fun e w' => (∃ k : Int,e = .returned (.int .i64 k) ∧ (0 ≤ k ↔ l.any p = true)) ∧ Below w.heap.size w w') := indexR_any b v l w p h hf
 obtain ⟨a,n,cap,rfl⟩ := row_slice h
 clear h hf
 obtain ⟨R,hR⟩ : ∃ R,l.any p = R := ⟨_,rfl⟩
 rw [hR] at HI ⊢
 clear hR
 go_enter Tryz.func65,Tryz.ntmps65
 go_wp2_with fail
 refine Calls.mono HI.out ?_
 rintro e w2 ⟨⟨k,rfl,hk⟩,hb⟩
 clear HI
 have hd : decide (0 ≤ k) = R := by
  cases R
  ·simpa using hk
  ·simpa using hk
 clear hk
 go_wp2_with fail
 go_ret
 exact ⟨rfl,hb⟩
set_option maxHeartbeats 1000000 in
theorem valid_any (s : ByteArray) (w : World) (hs : s.size ≤ 140737488351232) :
  Calls Tryz.prog 119 #[.string s] w fun e w' => e = .returned (.bool (validB s.data.toList)) ∧ Below w.heap.size w w' := by
 go_enter Tryz.func119,Tryz.ntmps119
 go_wp2
 go_loopw [] (fun wr => ∃ (pos : Nat) (acc : List Nat),wr = w.iter s pos ∧ Hid (Gone s.data.toList pos acc)) (fun wr => s.size - wr.iterPos w.heap.size)
 case atStart => exact ⟨0,[],rfl,Gone.start _⟩
 case round =>
  obtain ⟨pos,acc,rfl,H⟩ := hrel
  by_cases hp : pos < s.size
  ·obtain ⟨c,k,hd,h1,h2⟩ := dec_at s pos hp
   have hnx : ∀ ty,(Instr.next (.pointer (some ⟨w.heap.size,0,none⟩)) true ty).run Tryz.prog (w.iter s pos) = .ok (.tuple #[.bool true,.int .i64 (pos : Int),.int .i32 (c : Int)]) (w.iter s (pos + k)) := by
    intro ty
    have := run_next_any (P := Tryz.prog) w s pos ty hp
    rw [hd] at this
    exact this
   have H1 : Hid (standsB (s.data.toList.drop pos) c = true → nxL (s.data.toList.drop pos) = some (c,k)) := h1
   have H2 : Hid (standsB (s.data.toList.drop pos) c = false → nxL (s.data.toList.drop pos) = none) := h2
   clear hd h1 h2
   go_wp2_with fail
   refine (stands_any s _ _ _ hs (by omega) (by omega)).mono ?_
   rintro e w' ⟨rfl,rfl⟩
   rw [Int.toNat_natCast]
   cases hst : standsB (s.data.toList.drop pos) c with
   | false =>
    go_wp2
    go_ret
    exact ⟨ret_bool (by unfold validB; rw [H.out.bad (by rw [len_data]; exact hp) (H2.out hst)]; rfl),below_iter _ _ _⟩
   | true =>
    have HN := H1.out hst
    have hk : 1 ≤ k := (nxL_some _ _ _ HN).2.2.2.1
    have HG : Hid (Gone s.data.toList (pos + k) (acc ++ [c])) := H.out.step HN
    clear HN
    go_wp2
    go_roundw
    case rel => exact ⟨pos + k,acc ++ [c],rfl,HG⟩
    case measure => simp; omega
  ·have hnx : ∀ ty,(Instr.next (.pointer (some ⟨w.heap.size,0,none⟩)) true ty).run Tryz.prog (w.iter s pos) = _ := fun ty => run_next_end w s pos ty hp
   go_wp2
   go_ret
   exact ⟨ret_bool (by unfold validB; rw [H.out.done (by rw [len_data]; omega)]; rfl),below_iter _ _ _⟩
end
section
open Go.RowKit
structure Kept (B : Nat) (w0 : World) where
 w : World
 below : Below B w0 w
theorem wp_region_qb {P : Program} {id : Nat} {Q : Exit → Act → World → Prop} {a : Act} {w : World} {l : List Oper} {B : Nat} {w0 : World} (h0 : Below B w0 w) (hm : P.follows .mixedOrders = true) (hB : Region.lexB .any l.toArray = true)
  (h : wpQuiet P l.toArray (fun w' => ∃ x : Kept B w0,w' = x.w) (fun a' => ∀ w',(∃ x : Kept B w0,w' = x.w) → Q .normal a' w') l a) : (Code.region id l.toArray true).wp P Q a w :=
 wp_region_quiet (C := fun w' => ∃ x : Kept B w0,w' = x.w) hm hB ⟨⟨_,h0.drew⟩,rfl⟩ (by simpa using h)
theorem nonempty_qb {B : Nat} {w0 w : World} (h0 : Below B w0 w) : Nonempty (Kept B w0) := ⟨⟨w,h0⟩⟩
theorem qb_call {P : Program} {f : FuncId} {args : Array Value} {B : Nat} {w0 : World} {x : Kept B w0} {v : Value}
  (h : ∀ W,Below B w0 W → Calls P f args W fun e W' => e = .returned v ∧ Below B w0 W') : Calls P f args x.w fun e w'' => e = .returned v ∧ ∃ y : Kept B w0,w'' = y.w :=
 (h _ x.below).mono fun _ W' h => ⟨h.1,⟨⟨W',h.2⟩,rfl⟩⟩
end
section
open Go.ChangeShapes Go.WideShapes Go.ChangeAt Go.RowKit
set_option maxRecDepth 20000
def MesP (s : ScS) (X : Int) (b : Nat) (w : World) (e : Ending) (w' : World) : Prop := e = .returned (.int .i64 X) ∧ Kp (fun q => q = b) w w' ∧ KnS s w' b
theorem MesP.of {s : ScS} {X Y : Int} {b : Nat} {w w' : World} (hX : Y = X) (h : Kp (fun q => q = b) w w') (hk : KnS s w' b) : MesP s X b w (.returned (.int .i64 Y)) w' := ⟨by rw [hX],h,hk⟩
theorem kept_cellW {w : World} {a : Addr} {u : Value} (h : w.cell? a = some u) (x : Kept w.heap.size w) : x.w.cell? a = some u := by
 rw [x.below.cell (World.block_lt_of_cell? _ _ h)]; exact h
theorem blk3a (w : World) (c1 c2 c3 : Array Value) (t1 t2 t3 : TypeId) : Blk (((w.alloc (Obj.cells c1 t1)).alloc (Obj.cells c2 t2)).alloc (Obj.cells c3 t3)) w.heap.size c1 t1 := ((Blk.new w _ _).below ((Below.refl _ _).alloc (Nat.le_refl _) _)).below ((Below.refl _ _).alloc (Nat.le_refl _) _)
theorem blk3b (w : World) (c1 c2 c3 : Array Value) (t1 t2 t3 : TypeId) : Blk (((w.alloc (Obj.cells c1 t1)).alloc (Obj.cells c2 t2)).alloc (Obj.cells c3 t3)) (w.heap.size + 1) c2 t2 := by
 have := (Blk.new (w.alloc (Obj.cells c1 t1)) c2 t2).below ((Below.refl _ _).alloc (Nat.le_refl _) (Obj.cells c3 t3))
 rwa [show (w.alloc (Obj.cells c1 t1)).heap.size = w.heap.size + 1 from by simp] at this
theorem blk3c (w : World) (c1 c2 c3 : Array Value) (t1 t2 t3 : TypeId) : Blk (((w.alloc (Obj.cells c1 t1)).alloc (Obj.cells c2 t2)).alloc (Obj.cells c3 t3)) (w.heap.size + 2) c3 t3 := by
 have := Blk.new ((w.alloc (Obj.cells c1 t1)).alloc (Obj.cells c2 t2)) c3 t3
 rwa [show ((w.alloc (Obj.cells c1 t1)).alloc (Obj.cells c2 t2)).heap.size = w.heap.size + 2 from by simp] at this
theorem blk3w (w : World) (c1 c2 c3 : Array Value) (t1 t2 t3 : TypeId) : Below w.heap.size w (((w.alloc (Obj.cells c1 t1)).alloc (Obj.cells c2 t2)).alloc (Obj.cells c3 t3)) := (((Below.refl _ _).alloc (Nat.le_refl _) _).alloc (by simp) _).alloc (by simp; omega) _
set_option maxHeartbeats 4000000 in
theorem tree_step (s : ScS) (sn : ByteArray) (ma ea ta : Option Addr) (mn mc en ec tn tc b : Nat) (n : Nat) (IH : ∀ t nm v w,TrW n w v t → KnS s w b → ScIn w (.agg #[.string sn,.slice ma mn mc,.slice ea en ec,.slice ta tn tc]) s → Calls Tryz.prog 36 #[.agg #[.string sn,.slice ma mn mc,.slice ea en ec,.slice ta tn tc,.map (some b)],.string nm,v] w (MesP s (msgV n s nm t) b w))
  (t : Tr) (k : Int) (tnm : ByteArray) (v : Value) (w : World) (ht : TrW n w v t) (hk : KnS s w b) (hs : ScIn w (.agg #[.string sn,.slice ma mn mc,.slice ea en ec,.slice ta tn tc]) s) : Calls Tryz.prog 99 #[.agg #[.string sn,.slice ma mn mc,.slice ea en ec,.slice ta tn tc,.map (some b)],.agg #[.int .i64 k,.string tnm],v] w (MesP s (treeV (msgV n s) k tnm t) b w) := by
 obtain ⟨m,a1,c1,a2,c2, -,rfl, -, -,hsz, -⟩ := ht.open
 have HM : Hid (∀ W,Below w.heap.size w W → Calls Tryz.prog 36 #[.agg #[.string sn,.slice ma mn mc,.slice ea en ec,.slice ta tn tc,.map (some b)],.string tnm,.agg #[.int .i64 t.kind,.int .i64 t.n,.string t.s,.slice a1 t.es.length c1,.slice a2 t.rest.length c2]] W (MesP s (msgV n s tnm t) b W)) := fun W hW => IH t tnm _ W (ht.cel (Cel.ofBelow hW)) (hk.below hW) (hs.below hW)
 have HK : Hid (KnS s w b) := hk
 have HX : Hid (∃ X,treeV (msgV n s) k tnm t = X) := ⟨_,rfl⟩
 obtain ⟨X,hX⟩ := HX.out
 have HV : Hid (treeV (msgV n s) k tnm t = X) := hX
 rw [hX]
 clear hX HX ht hk hs
 generalize t.es.length = n1 at *
 generalize t.rest.length = n2 at *
 obtain ⟨K,hK⟩ : ∃ z,t.kind = z := ⟨_,rfl⟩
 obtain ⟨N,hN⟩ : ∃ z,t.n = z := ⟨_,rfl⟩
 obtain ⟨S,hS⟩ : ∃ z,t.s = z := ⟨_,rfl⟩
 have HT : Hid (t.kind = K ∧ t.n = N ∧ t.s = S) := ⟨hK,hN,hS⟩
 rw [hK,hN,hS] at HM
 rw [hS] at hsz
 rw [hK,hN,hS]
 clear hK hN hS
 have BF := blk3a w #[.string sn,.slice ma mn mc,.slice ea en ec,.slice ta tn tc,.map (some b)] #[.int .i64 k,.string tnm] #[.int .i64 K,.int .i64 N,.string S,.slice a1 n1 c1,.slice a2 n2 c2] 81 32 30
 have BY := blk3b w #[.string sn,.slice ma mn mc,.slice ea en ec,.slice ta tn tc,.map (some b)] #[.int .i64 k,.string tnm] #[.int .i64 K,.int .i64 N,.string S,.slice a1 n1 c1,.slice a2 n2 c2] 81 32 30
 have BT := blk3c w #[.string sn,.slice ma mn mc,.slice ea en ec,.slice ta tn tc,.map (some b)] #[.int .i64 k,.string tnm] #[.int .i64 K,.int .i64 N,.string S,.slice a1 n1 c1,.slice a2 n2 c2] 81 32 30
 have hbw := blk3w w #[.string sn,.slice ma mn mc,.slice ea en ec,.slice ta tn tc,.map (some b)] #[.int .i64 k,.string tnm] #[.int .i64 K,.int .i64 N,.string S,.slice a1 n1 c1,.slice a2 n2 c2] 81 32 30
 obtain ⟨kt,hkt⟩ : ∃ z,kindT k = z := ⟨_,rfl⟩
 have HKT : Hid (kindT k = kt) := hkt
 have HKC : Hid (∀ W,Calls Tryz.prog 81 #[.agg #[.int .i64 k,.string tnm]] W fun e w' => e = .returned (.int .i64 kt) ∧ Below W.heap.size W w') := fun W => by
  have h1 := kindOf_any k tnm W
  rw [hkt] at h1
  exact h1
 clear hkt
 go_enter Tryz.func99,Tryz.ntmps99
 go_wp2_with fail
 obtain ⟨b0,hb0⟩ : ∃ z,w.heap.size = z := ⟨_,rfl⟩
 have HBZ : Hid (w.heap.size = b0) := hb0
 generalize (((w.alloc (Obj.cells #[.string sn,.slice ma mn mc,.slice ea en ec,.slice ta tn tc,.map (some b)] 81)).alloc (Obj.cells #[.int .i64 k,.string tnm] 32)).alloc (Obj.cells #[.int .i64 K,.int .i64 N,.string S,.slice a1 n1 c1,.slice a2 n2 c2] 30)) = WA at *
 rw [hb0] at BF BY BT
 simp only [hb0]
 clear hb0
 have t0 := (BT.cell 0).trans rfl
 have y0 := (BY.cell 0).trans rfl
 have y1 := (BY.cell 1).trans rfl
 have k0 := kept_cellW t0
 have k1 := kept_cellW y0
 have k2 := kept_cellW y1
 clear t0 y0 y1
 have HKD : Hid (∀ W1,Below WA.heap.size WA W1 → Calls Tryz.prog 81 #[.agg #[.int .i64 k,.string tnm]] W1 fun e w' => e = .returned (.int .i64 kt) ∧ Below WA.heap.size WA w') := fun W1 hW1 => by
  refine (HKC.out W1).mono ?_
  rintro e W' ⟨rfl,hb⟩
  exact ⟨rfl,hW1.trans (hb.mono hW1.size)⟩
 have FIN : Hid (∀ (W : World) (Y : Int),Below WA.heap.size WA W → X = Y → MesP s X b w (.returned (.int .i64 Y)) W) := fun W Y hW hY => by
  have h1 : Below w.heap.size w W := hbw.trans (hW.mono hbw.size)
  exact MesP.of hY.symm (Kp.ofBelow h1) (HK.out.below h1)
 haveI := nonempty_qb (Below.refl WA.heap.size WA)
 refine wp_region_qb (Below.refl WA.heap.size WA) (by kernel_rfl) (by kernel_rfl) ?_
 repeat (go_big_quiet_step (first | (go_at_call 81; exact qb_call HKD.out)))
 refine wpQuiet_nil ?_
 rintro W1 ⟨⟨_,hW1⟩,rfl⟩
 clear k0 k1 k2 HKD HKC
 have BF1 := BF.below hW1
 have BY1 := BY.below hW1
 have BT1 := BT.below hW1
 have f0 := (BF1.cell 0).trans rfl
 have f1 := (BF1.cell 1).trans rfl
 have f2 := (BF1.cell 2).trans rfl
 have f3 := (BF1.cell 3).trans rfl
 have f4 := (BF1.cell 4).trans rfl
 have y0 := (BY1.cell 0).trans rfl
 have y1 := (BY1.cell 1).trans rfl
 have t0 := (BT1.cell 0).trans rfl
 have t1 := (BT1.cell 1).trans rfl
 have t2 := (BT1.cell 2).trans rfl
 have t3 := (BT1.cell 3).trans rfl
 have t4 := (BT1.cell 4).trans rfl
 clear BF BY BT BF1 BY1 BT1
 by_cases hne : K = kt
 rotate_left
 ·have hq : (K != kt) = true := by simpa using hne
  have hX : X = 8 := by rw [← HV.out,treeV,HT.out.1,HKT.out,if_pos hne]
  have HX : Hid (X = 8) := hX
  clear hne hX
  go_wp2_with fail
  go_ret
  exact FIN.out _ _ hW1 HX.out
 ·have hq : (K != kt) = false := by simpa using hne
  by_cases hK1 : K = 1
  ·subst hK1
   have hk4 : ¬ k = 4 := fun h => by have := HKT.out; rw [h,← hne] at this; revert this; decide
   have e4 : (k == 4) = false := by simpa using hk4
   cases hR : nmrB k N with
   | false =>
    have HX : Hid (X = 11) := (by rw [← HV.out,treeV,HT.out.1,HKT.out,if_neg (by simpa using hne),if_pos ⟨rfl,by rw [HT.out.2.1]; exact hR⟩] : X = 11)
    have HN : Hid (Calls Tryz.prog 14 #[.agg #[.int .i64 k,.string tnm],.int .i64 N] W1 fun e w' => e = .returned (.bool false) ∧ Below W1.heap.size W1 w') := (by have h1 := number_any k N tnm W1; rw [hR] at h1; exact h1 : Calls Tryz.prog _ _ W1 _)
    clear hR hne hk4
    go_wp2_with fail
    refine HN.out.mono ?_
    rintro e W2 ⟨rfl,hb2⟩
    have hW2 := hW1.trans (hb2.mono hW1.size)
    clear HN hb2 f0 f1 f2 f3 f4 y0 y1 t0 t1 t2 t3 t4
    go_wp2_with fail
    go_ret
    exact FIN.out _ _ hW2 HX.out
   | true =>
    have HX : Hid (X = 0) := (by rw [← HV.out,treeV,HT.out.1,HKT.out,if_neg (by simpa using hne),if_neg (by rw [HT.out.2.1,hR]; simp),if_neg (by simp [hk4]),if_neg (by decide)] : X = 0)
    have HN : Hid (Calls Tryz.prog 14 #[.agg #[.int .i64 k,.string tnm],.int .i64 N] W1 fun e w' => e = .returned (.bool true) ∧ Below W1.heap.size W1 w') := (by have h1 := number_any k N tnm W1; rw [hR] at h1; exact h1 : Calls Tryz.prog _ _ W1 _)
    clear hR hne hk4
    go_wp2_with fail
    refine HN.out.mono ?_
    rintro e W2 ⟨rfl,hb2⟩
    have hW2 := hW1.trans (hb2.mono hW1.size)
    have y0 := (hb2.cell (World.block_lt_of_cell? _ _ y0)).trans y0
    have t0 := (hb2.cell (World.block_lt_of_cell? _ _ t0)).trans t0
    clear HN hb2 f0 f1 f2 f3 f4 y1 t1 t2 t3 t4
    go_wp2_with fail
    go_ret
    exact FIN.out _ _ hW2 HX.out
  ·have e1 : (K == 1) = false := by simpa using hK1
   by_cases hk4 : k = 4
   ·subst hk4
    have h3 : (K == 3) = false := by have := HKT.out; rw [← hne] at this; rw [← this]; decide
    cases hR : validB S.data.toList with
    | false =>
     have HX : Hid (X = 9) := (by rw [← HV.out,treeV,HT.out.1,HKT.out,if_neg (by simpa using hne),if_neg (by simp [hK1]),if_pos ⟨rfl,by rw [HT.out.2.2]; exact hR⟩] : X = 9)
     have HN : Hid (Calls Tryz.prog 119 #[.string S] W1 fun e w' => e = .returned (.bool false) ∧ Below W1.heap.size W1 w') := (by have h1 := valid_any S W1 hsz; rw [hR] at h1; exact h1 : Calls Tryz.prog _ _ W1 _)
     clear hR hne hK1
     go_wp2_with fail
     refine HN.out.mono ?_
     rintro e W2 ⟨rfl,hb2⟩
     have hW2 := hW1.trans (hb2.mono hW1.size)
     clear HN hb2 f0 f1 f2 f3 f4 y0 y1 t0 t1 t2 t3 t4
     go_wp2_with fail
     go_ret
     exact FIN.out _ _ hW2 HX.out
    | true =>
     have HX : Hid (X = 0) := (by rw [← HV.out,treeV,HT.out.1,HKT.out,if_neg (by simpa using hne),if_neg (by simp [hK1]),if_neg (by rw [HT.out.2.2,hR]; simp),if_neg (by simpa using h3)] : X = 0)
     have HN : Hid (Calls Tryz.prog 119 #[.string S] W1 fun e w' => e = .returned (.bool true) ∧ Below W1.heap.size W1 w') := (by have h1 := valid_any S W1 hsz; rw [hR] at h1; exact h1 : Calls Tryz.prog _ _ W1 _)
     clear hR hne hK1
     go_wp2_with fail
     refine HN.out.mono ?_
     rintro e W2 ⟨rfl,hb2⟩
     have hW2 := hW1.trans (hb2.mono hW1.size)
     have t0 := (hb2.cell (World.block_lt_of_cell? _ _ t0)).trans t0
     clear HN hb2 f0 f1 f2 f3 f4 y0 y1 t1 t2 t3 t4
     go_wp2_with fail
     go_ret
     exact FIN.out _ _ hW2 HX.out
   ·have e4 : (k == 4) = false := by simpa using hk4
    by_cases hK3 : K = 3
    ·subst hK3
     have HX : Hid (X = msgV n s tnm t) := (by rw [← HV.out,treeV,HT.out.1,HKT.out,if_neg (by simpa using hne),if_neg (by simp),if_neg (by simp [hk4]),if_pos rfl] : X = msgV n s tnm t)
     have hbW1 := hbw.trans (hW1.mono hbw.size)
     have HN := HM.out W1 hbW1
     rw [← HX.out] at HN
     have HN2 : Hid (Calls Tryz.prog 36 #[.agg #[.string sn,.slice ma mn mc,.slice ea en ec,.slice ta tn tc,.map (some b)],.string tnm,.agg #[.int .i64 3,.int .i64 N,.string S,.slice a1 n1 c1,.slice a2 n2 c2]] W1 (MesP s X b W1)) := HN
     clear HN hne hK1 hk4 HX
     go_wp2_with fail
     refine Calls.mono HN2.out ?_
     rintro e W2 ⟨rfl,hk2,hn2⟩
     have HF : Hid (MesP s X b w (.returned (.int .i64 X)) W2) := MesP.of rfl ((Kp.ofBelow hbW1).trans hk2) hn2
     clear HN2 hk2 hn2 f0 f1 f2 f3 f4 y0 y1 t0 t1 t2 t3 t4
     go_wp2_with fail
     go_ret
     exact HF.out
    ·have e3 : (K == 3) = false := by simpa using hK3
     have HX : Hid (X = 0) := (by rw [← HV.out,treeV,HT.out.1,HKT.out,if_neg (by simpa using hne),if_neg (by simp [hK1]),if_neg (by simp [hk4]),if_neg hK3] : X = 0)
     clear hne hK1 hk4 hK3
     go_wp2_with fail
     go_ret
     exact FIN.out _ _ hW1 HX.out
end
end Go.Proofs.YtfnjbbaphmmjlaaGreat

/- A region that draws its order, walked by hand: a load may be taken first, though its cell is written in the region, if the writing operation waits for it: what the load leans on need hold only till then. -/
import Derived.OwnWalk
import Derived.Test.YtkmdaopmmfdpgaaPkC
import Derived.Test.YtkmdaopmmfdpgaaPkA
import Derived.Test.YtkmdaopmmfdpgaaPkB
namespace Go.Proofs.Ytkmdaopmmfdpgaa
set_option linter.unusedVariables false
set_option linter.unusedSimpArgs false

/-- Whatever order is picked from here on; T holds behind every operation as long as number m has not come up. -/
def wpAnyM (P : Program) (md : Region.Mode) (ops : Array Oper) (Q : Exit → Act → World → Prop) (T : World → Prop) (m : Nat) : Nat → Array Bool → Act → World → Prop
  | 0, listed, a, w => Region.ready md ops listed = [] ∧ Q .normal a w
  | fuel + 1, listed, a, w => (Region.ready md ops listed = [] → Q .normal a w) ∧
    ∀ i ∈ Region.ready md ops listed, wpOp P ops Q i (fun a' w' => ((listed.setIfInBounds i true).getD m true = false → T w') ∧ wpAnyM P md ops Q T m fuel (listed.setIfInBounds i true) a' w') a w
section
variable {P : Program} {md : Region.Mode} {ops : Array Oper} {Q : Exit → Act → World → Prop} {T : World → Prop} {m : Nat}
theorem M_any : ∀ (fuel : Nat) (listed : Array Bool) (a : Act) (w : World), wpAnyM P md ops Q T m fuel listed a w → wpAny P md ops Q fuel listed a w
  | 0, _, _, _, h => h
  | fuel + 1, _, _, _, h => ⟨h.1, fun i hi => wpOp_mono (fun a' w' h' => M_any fuel _ a' w' h'.2) (h.2 i hi)⟩
theorem M_done {listed : Array Bool} {a : Act} {w : World} (hr : Region.ready md ops listed = []) (h : Q .normal a w) : ∀ fuel, wpAnyM P md ops Q T m fuel listed a w
  | 0 => ⟨hr, h⟩
  | _ + 1 => ⟨fun _ => h, by rw [hr]; simp⟩
theorem M_region {id : Nat} {a : Act} {w : World} (hm : P.follows .mixedOrders = true) (h : wpAnyM P .any ops Q T m ops.size (Array.replicate ops.size false) a w.drew) : (Code.region id ops true).wp P Q a w :=
  wp_region_any hm (M_any _ _ _ _ h)
theorem M_first {i : Nat} {oi : Oper} {v : Value} (hi : ops[i]? = some oi) (hsel : ∀ (j : Nat) (o : Oper) cs b, ops[j]? = some o → o.op ≠ .select cs b)
    (hQ : ∀ c a w, Q (.panic c) (a.put oi.dst v) w → Q (.panic c) a w) (hmi : ∀ om, ops[m]? = some om → ∃ e ∈ om.after, Region.binds md e = true ∧ e.on = i) :
    ∀ (fuel : Nat) (listed : Array Bool) (a : Act) (w : World), listed.getD m true = false →
      (∀ j oj, ops[j]? = some oj → j ≠ i → listed.getD j true = false → (∀ e ∈ oj.after, Region.binds md e = true → e.on ≠ i) → oi.apart ops oj = true) →
      i ∈ Region.ready md ops listed → YieldsIf P ops T oi v a → T w →
      wpAnyM P md ops Q T m fuel (listed.setIfInBounds i true) (a.put oi.dst v) w → wpAnyM P md ops Q T m (fuel + 1) listed a w := by
  intro fuel
  induction fuel with
  | zero =>
    intro listed a w hlm _ hr hy hT H
    refine ⟨fun h => (by rw [h] at hr; cases hr), fun j hj => ?_⟩
    by_cases hji : j = i
    · subst hji; exact hy.wpOp hi hT ⟨fun _ => hT, H⟩
    · have h0 := ready_mono hj hji
      rw [H.1] at h0
      cases h0
  | succ fuel ih =>
    intro listed a w hlm hfree hr hy hT H
    refine ⟨fun h => (by rw [h] at hr; cases hr), fun j hj => ?_⟩
    by_cases hji : j = i
    · subst hji; exact hy.wpOp hi hT ⟨fun _ => hT, H⟩
    · have hH := H.2 j (ready_mono hj hji)
      obtain ⟨hjun, oj, hoj, hall⟩ := mem_ready.1 hj
      have hjm : j ≠ m := by
        intro e
        subst e
        obtain ⟨e, he, hb, hon⟩ := hmi oj hoj
        have hx := hall e he hb
        have h0 := (mem_ready.1 hr).1
        rw [hon] at hx
        rcases Nat.lt_or_ge i listed.size with h' | h'
        · simp [h'] at h0 hx; rw [h0] at hx; cases hx
        · simp [Array.getElem?_eq_none h'] at hx
      have hnot : ∀ e ∈ oj.after, Region.binds md e = true → e.on ≠ i := fun e he hb heq => by
        have hx := hall e he hb
        have h0 := (mem_ready.1 hr).1
        rw [heq] at hx
        rcases Nat.lt_or_ge i listed.size with h' | h'
        · simp [h'] at h0 hx; rw [h0] at hx; cases hx
        · simp [Array.getElem?_eq_none h'] at hx
      have h2 := wpOp_putIf hoj (hfree j oj hoj hji hjun hnot) (fun cs b => hsel i oi cs b hi) (fun cs b => hsel j oj cs b hoj) hQ hy hH
      have hlj : (listed.setIfInBounds j true).getD m true = false := by rw [getD_set_ne true hjm]; exact hlm
      have him : i ≠ m := by
        intro e
        subst e
        obtain ⟨e, he, hb, hon⟩ := hmi oi hi
        obtain ⟨h0, oi', hoi', hall'⟩ := mem_ready.1 hr
        rw [hi] at hoi'
        cases hoi'
        have hx := hall' e he hb
        rw [hon] at hx
        rcases Nat.lt_or_ge i listed.size with h' | h'
        · simp [h'] at h0 hx; rw [h0] at hx; cases hx
        · simp [Array.getElem?_eq_none h'] at hx
      have hlij : ((listed.setIfInBounds i true).setIfInBounds j true).getD m true = false := by rw [getD_set_ne true hjm, getD_set_ne true him]; exact hlm
      have hfree' : ∀ k ok, ops[k]? = some ok → k ≠ i → (listed.setIfInBounds j true).getD k true = false → (∀ e ∈ ok.after, Region.binds md e = true → e.on ≠ i) → oi.apart ops ok = true := fun k ok hk hki hun hno => by
        refine hfree k ok hk hki ?_ hno
        by_cases hjk : j = k
        · subst hjk; exact hjun
        · rw [getD_set_ne true hjk] at hun; exact hun
      refine wpOp_mono (fun a' w' h3 => ⟨fun _ => h3.2.1 hlij, ih (listed.setIfInBounds j true) a' w' hlj hfree' (ready_mono hr (Ne.symm hji)) h3.1 (h3.2.1 hlij) ?_⟩) h2
      rw [Array.setIfInBounds_comm _ _ hji]
      exact h3.2.2
/-- Take number i first. -/
theorem M_take {oi : Oper} {fuel : Nat} {listed listed' : Array Bool} {a : Act} {w : World} (i d : Nat) (v : Value) (tmps' : Array Value) (hi : ops[i]? = some oi) (hd : oi.dst = some d)
    (hs : Region.noSelect ops = true) (hf : Region.free md ops listed i = true) (hr : (Region.ready md ops listed).contains i = true) (hmi : ((ops[m]?).any fun om => om.after.any fun e => Region.binds md e && e.on == i) = true) (hlm : listed.getD m true = false)
    (hQ : ∀ c a w, Q (.panic c) (a.put oi.dst v) w → Q (.panic c) a w) (hwt : Region.wanted oi (yielded ops a.tmps) = true) (hy : ∀ w, T w → (execOp a.eval oi).run P w = .ok (.value v) w) (hT : T w)
    (hl : listed.setIfInBounds i true = listed') (ht : a.tmps.setIfInBounds d v = tmps')
    (h : wpAnyM P md ops Q T m fuel listed' { a with tmps := tmps' } w) : wpAnyM P md ops Q T m (fuel + 1) listed a w := by
  subst hl ht
  refine M_first hi (Region.noSelect_spec hs) hQ ?_ fuel listed a w hlm (Region.free_spec hi hf) (by simpa using hr) (.inl ⟨hwt, hy⟩) hT ?_
  · intro om hom
    rw [hom] at hmi
    simp only [Option.any_some, Array.any_eq_true] at hmi
    obtain ⟨k, hk, hb⟩ := hmi
    simp only [Bool.and_eq_true, beq_iff_eq] at hb
    exact ⟨_, Array.getElem_mem hk, hb.1, hb.2⟩
  · rw [hd]
    exact h
/-- One operation alone is ready: it is carried out. -/
theorem M_run {oi : Oper} {fuel : Nat} {listed listed' : Array Bool} {a : Act} {w : World} (i d : Nat) (v : Value) (w' : World) (hi : ops[i]? = some oi) (hd : oi.dst = some d)
    (hr : Region.ready md ops listed = [i]) (hwt : Region.wanted oi (yielded ops a.tmps) = true) (hl : listed.setIfInBounds i true = listed') (hx : (execOp a.eval oi).run P w = .ok (.value v) w') (hT : T w')
    (h : wpAnyM P md ops Q T m fuel listed' { a with tmps := a.tmps.setIfInBounds d v } w') : wpAnyM P md ops Q T m (fuel + 1) listed a w := by
  subst hl
  refine ⟨fun h0 => (by rw [hr] at h0; cases h0), fun j hj => ?_⟩
  rw [hr, List.mem_singleton] at hj
  subst hj
  unfold wpOp
  simp only [hi]
  rw [if_pos hwt]
  refine .inl ?_
  unfold Oper.wp
  rw [hx, Oper.upon_value, hd]
  exact ⟨fun _ => hT, h⟩
theorem M_store {oi : Oper} {fuel : Nat} {listed listed' : Array Bool} {a : Act} {w : World} (i : Nat) (w' : World) (hi : ops[i]? = some oi) (hd : oi.dst = none)
    (hr : Region.ready md ops listed = [i]) (hwt : Region.wanted oi (yielded ops a.tmps) = true) (hl : listed.setIfInBounds i true = listed') (hx : (execOp a.eval oi).run P w = .ok .skip w') (hm : listed'.getD m true = true)
    (h : wpAnyM P md ops Q T m fuel listed' a w') : wpAnyM P md ops Q T m (fuel + 1) listed a w := by
  subst hl
  refine ⟨fun h0 => (by rw [hr] at h0; cases h0), fun j hj => ?_⟩
  rw [hr, List.mem_singleton] at hj
  subst hj
  unfold wpOp
  simp only [hi]
  rw [if_pos hwt]
  refine .inl ?_
  unfold Oper.wp
  rw [hx, Oper.upon_skip, hd]
  exact ⟨fun h0 => (by rw [hm] at h0; cases h0), h⟩
/-- One call alone is ready. -/
theorem M_call {oi : Oper} {fuel : Nat} {listed listed' : Array Bool} {a : Act} {w : World} (i d f : Nat) (vals : Array Value) (hi : ops[i]? = some oi) (hd : oi.dst = some d)
    (hr : Region.ready md ops listed = [i]) (hwt : Region.wanted oi (yielded ops a.tmps) = true) (hl : listed.setIfInBounds i true = listed') (hx : ∀ w, (execOp a.eval oi).run P w = .ok (.enter f vals) w)
    (h : Calls P f vals w fun e w' => ∃ v, e = .returned v ∧ T w' ∧ wpAnyM P md ops Q T m fuel listed' { a with tmps := a.tmps.setIfInBounds d v } w') : wpAnyM P md ops Q T m (fuel + 1) listed a w := by
  subst hl
  refine ⟨fun h0 => (by rw [hr] at h0; cases h0), fun j hj => ?_⟩
  rw [hr, List.mem_singleton] at hj
  subst hj
  unfold wpOp
  simp only [hi]
  rw [if_pos hwt]
  refine .inl ?_
  unfold Oper.wp
  rw [hx]
  refine Calls.mono h ?_
  rintro e w' ⟨v, rfl, hT, h'⟩
  rw [hd]
  exact ⟨fun _ => hT, h'⟩
/-- Two operations that make memory are ready: each may come first; the outcome is said by C. -/
theorem M_two {o1 o2 : Oper} {fuel : Nat} {listed : Array Bool} {a : Act} {w : World} (i j d1 d2 : Nat) (C : Value → Value → World → Prop) (h1 : ops[i]? = some o1) (h2 : ops[j]? = some o2) (hd1 : o1.dst = some d1) (hd2 : o2.dst = some d2) (hij : i ≠ j) (hdd : d1 ≠ d2)
    (hr : Region.ready md ops listed = [i, j]) (hr1 : Region.ready md ops (listed.setIfInBounds i true) = [j]) (hr2 : Region.ready md ops (listed.setIfInBounds j true) = [i])
    (hw1 : ∀ t, Region.wanted o1 t = true) (hw2 : ∀ t, Region.wanted o2 t = true)
    (hA : o1.wp P a w (fun a' w' => ∃ u, a' = a.put (some d1) u ∧ T w' ∧ o2.wp P a' w' (fun a'' w'' => ∃ v, a'' = a'.put (some d2) v ∧ T w'' ∧ C u v w'') Q) Q)
    (hB : o2.wp P a w (fun a' w' => ∃ v, a' = a.put (some d2) v ∧ T w' ∧ o1.wp P a' w' (fun a'' w'' => ∃ u, a'' = a'.put (some d1) u ∧ T w'' ∧ C u v w'') Q) Q)
    (h : ∀ u v w', T w' → C u v w' → wpAnyM P md ops Q T m fuel ((listed.setIfInBounds i true).setIfInBounds j true) { a with tmps := (a.tmps.setIfInBounds d1 u).setIfInBounds d2 v } w') : wpAnyM P md ops Q T m (fuel + 2) listed a w := by
  refine ⟨fun h0 => (by rw [hr] at h0; cases h0), fun k hk => ?_⟩
  rw [hr] at hk
  simp only [List.mem_cons, List.not_mem_nil, or_false] at hk
  rcases hk with rfl | rfl
  · unfold wpOp
    simp only [h1]
    rw [if_pos (hw1 _)]
    refine .inl (Oper.wp_mono (fun a' w' h3 => ?_) hA)
    obtain ⟨u, rfl, t1, h4⟩ := h3
    refine ⟨fun _ => t1, ⟨fun h0 => (by rw [hr1] at h0; cases h0), fun k hk => ?_⟩⟩
    rw [hr1, List.mem_singleton] at hk
    subst hk
    unfold wpOp
    simp only [h2]
    rw [if_pos (hw2 _)]
    refine .inl (Oper.wp_mono (fun a' w' h5 => ?_) h4)
    obtain ⟨v, rfl, t2, h6⟩ := h5
    exact ⟨fun _ => t2, h u v _ t2 h6⟩
  · unfold wpOp
    simp only [h2]
    rw [if_pos (hw2 _)]
    refine .inl (Oper.wp_mono (fun a' w' h3 => ?_) hB)
    obtain ⟨v, rfl, t1, h4⟩ := h3
    refine ⟨fun _ => t1, ⟨fun h0 => (by rw [hr2] at h0; cases h0), fun k hk => ?_⟩⟩
    rw [hr2, List.mem_singleton] at hk
    subst hk
    unfold wpOp
    simp only [h1]
    rw [if_pos (hw1 _)]
    refine .inl (Oper.wp_mono (fun a' w' h5 => ?_) h4)
    obtain ⟨u, rfl, t2, h6⟩ := h5
    refine ⟨fun _ => t2, ?_⟩
    have := h u v _ t2 h6
    rw [Array.setIfInBounds_comm _ _ hij, set_comm2 _ hdd] at this
    exact this
/-- An append and a new block are ready, and a value is built of what the append gives: each of the two may come first; the outcome is said by C. -/
theorem M_aa {o1 o2 ok : Oper} {fuel : Nat} {listed : Array Bool} {a : Act} {w : World} (i j k d1 d2 dk : Nat) (z : World → Value) (N : World → World) (f : Value → Value) (U : Value → Prop) (C : Value → Value → World → Prop)
    (h1 : ops[i]? = some o1) (h2 : ops[j]? = some o2) (hk : ops[k]? = some ok) (hd1 : o1.dst = some d1) (hd2 : o2.dst = some d2) (hdk : ok.dst = some dk) (hij : i ≠ j) (hjk : j ≠ k) (d12 : d1 ≠ d2) (d2k : d2 ≠ dk)
    (hr : Region.ready md ops listed = [i, j]) (hri : (Region.ready md ops (listed.setIfInBounds i true)).contains k = true) (hrik : Region.ready md ops ((listed.setIfInBounds i true).setIfInBounds k true) = [j])
    (hrj : Region.ready md ops (listed.setIfInBounds j true) = [i]) (hrji : Region.ready md ops ((listed.setIfInBounds j true).setIfInBounds i true) = [k])
    (hw1 : ∀ t, Region.wanted o1 t = true) (hw2 : ∀ t, Region.wanted o2 t = true) (hwk : ∀ t, Region.wanted ok t = true)
    (hs : Region.noSelect ops = true) (hfk : Region.free md ops (listed.setIfInBounds i true) k = true) (hmk : ((ops[m]?).any fun om => om.after.any fun e => Region.binds md e && e.on == k) = true) (hlm : (listed.setIfInBounds i true).getD m true = false)
    (hQ : ∀ v c a w, Q (.panic c) (a.put ok.dst v) w → Q (.panic c) a w)
    (hx2 : ∀ (a' : Act) w', (execOp a'.eval o2).run P w' = .ok (.value (z w')) (N w'))
    (hA : ∃ u w1, (execOp a.eval o1).run P w = .ok (.value u) w1 ∧ U u ∧ T w1 ∧ T (N w1) ∧ C u (z w1) (N w1))
    (hB : T (N w) ∧ ∃ u w1, (execOp (a.put (some d2) (z w)).eval o1).run P (N w) = .ok (.value u) w1 ∧ U u ∧ T w1 ∧ C u (z w) w1)
    (hxk : ∀ u w', U u → (execOp (a.put (some d1) u).eval ok).run P w' = .ok (.value (f u)) w') (hxk' : ∀ u v w', U u → (execOp ((a.put (some d2) v).put (some d1) u).eval ok).run P w' = .ok (.value (f u)) w')
    (h : ∀ u v w', U u → T w' → C u v w' → wpAnyM P md ops Q T m fuel (((listed.setIfInBounds i true).setIfInBounds k true).setIfInBounds j true) { a with tmps := ((a.tmps.setIfInBounds d1 u).setIfInBounds dk (f u)).setIfInBounds d2 v } w') : wpAnyM P md ops Q T m (fuel + 3) listed a w := by
  refine ⟨fun h0 => (by rw [hr] at h0; cases h0), fun q hq => ?_⟩
  rw [hr] at hq
  simp only [List.mem_cons, List.not_mem_nil, or_false] at hq
  rcases hq with rfl | rfl
  · obtain ⟨u, w1, e1, uu, t1, t2, c1⟩ := hA
    unfold wpOp
    simp only [h1]
    rw [if_pos (hw1 _)]
    refine .inl ?_
    unfold Oper.wp
    rw [e1, Oper.upon_value, hd1]
    refine ⟨fun _ => t1, ?_⟩
    refine M_take k dk (f u) _ hk hdk hs hfk hri hmk hlm (fun c a w => hQ _ c a w) (hwk _) (fun w' _ => hxk u w' uu) t1 rfl rfl ?_
    exact M_run j d2 (z w1) (N w1) h2 hd2 hrik (hw2 _) rfl (hx2 _ w1) t2 (h u (z w1) (N w1) uu t2 c1)
  · obtain ⟨t0, u, w1, e1, uu, t1, c1⟩ := hB
    unfold wpOp
    simp only [h2]
    rw [if_pos (hw2 _)]
    refine .inl ?_
    unfold Oper.wp
    rw [hx2, Oper.upon_value, hd2]
    refine ⟨fun _ => t0, ?_⟩
    refine M_run i d1 u w1 h1 hd1 hrj (hw1 _) rfl e1 t1 ?_
    refine M_run k dk (f u) w1 hk hdk hrji (hwk _) rfl (hxk' u (z w) w1 uu) t1 ?_
    have hh := h u (z w) w1 uu t1 c1
    rw [Array.setIfInBounds_comm (xs := listed.setIfInBounds i true) _ _ (Ne.symm hjk), Array.setIfInBounds_comm (xs := listed) _ _ hij, set_comm2 (a.tmps.setIfInBounds d1 u) (Ne.symm d2k), set_comm2 a.tmps d12] at hh
    exact hh
end
end Go.Proofs.Ytkmdaopmmfdpgaa

/- What encode's placeOf, identityOf, contentOf answer. -/
namespace Go.Proofs.Ytkmdaopmmfdpgaa
open Go.ChangeShapes Go.WideShapes Go.ChangeAt Go.RowKit
set_option linter.unusedVariables false
set_option linter.unusedSimpArgs false
set_option maxRecDepth 20000

set_option maxHeartbeats 1000000 in
theorem eplaceE_any (a : Option Addr) (N cap : Nat) (w : World) (h1 : N ≤ cap) (h2 : cap ≤ maxLen) (h3 : N = 0 ∨ ∃ g off, a = some ⟨g, off, none⟩) :
    Calls Try.prog 72 #[.slice a N cap] w fun e w' => e = .returned (plV (plOf (.slice a N cap))) ∧ Below w.heap.size w w' := by
  unfold maxLen at h2
  by_cases hN : N = 0
  · subst hN
    go_enter Try.func72, Try.ntmps72
    go_wp2_with fail
    refine bodyPost_ret (results_cell rfl _ _ _ ⟨w.heap.size, 0, none⟩ (.agg #[.pointer none, .int .i64 0]) (by go_simp) (by go_simp)) rfl ⟨by simp [plV, plOf], (Below.refl _ _).alloc (Nat.le_refl _) _⟩
  · obtain ⟨g, off, rfl⟩ : ∃ g off, a = some ⟨g, off, none⟩ := by
      rcases h3 with h | h
      · exact absurd h hN
      · exact h
    have hd : ((N : Int) == 0) = false := by simp; omega
    have hp : 0 < N := by omega
    go_enter Try.func72, Try.ntmps72
    go_wp2_with fail
    refine bodyPost_ret (results_cell rfl _ _ _ ⟨w.heap.size, 0, none⟩ (.agg #[.pointer (some ⟨g, off, none⟩), .int .i64 (N : Int)]) (by go_simp) (by go_simp)) rfl ⟨by simp [plV, plOf, hN], (Below.refl _ _).alloc (Nat.le_refl _) _⟩
set_option maxHeartbeats 1000000 in
theorem eplaceR_any (a : Option Addr) (N cap : Nat) (w : World) (h1 : N ≤ cap) (h2 : cap ≤ maxLen) (h3 : N = 0 ∨ ∃ g off, a = some ⟨g, off, none⟩) :
    Calls Try.prog 73 #[.slice a N cap] w fun e w' => e = .returned (plV (plOf (.slice a N cap))) ∧ Below w.heap.size w w' := by
  unfold maxLen at h2
  by_cases hN : N = 0
  · subst hN
    go_enter Try.func73, Try.ntmps73
    go_wp2_with fail
    refine bodyPost_ret (results_cell rfl _ _ _ ⟨w.heap.size, 0, none⟩ (.agg #[.pointer none, .int .i64 0]) (by go_simp) (by go_simp)) rfl ⟨by simp [plV, plOf], (Below.refl _ _).alloc (Nat.le_refl _) _⟩
  · obtain ⟨g, off, rfl⟩ : ∃ g off, a = some ⟨g, off, none⟩ := by
      rcases h3 with h | h
      · exact absurd h hN
      · exact h
    have hd : ((N : Int) == 0) = false := by simp; omega
    have hp : 0 < N := by omega
    go_enter Try.func73, Try.ntmps73
    go_wp2_with fail
    refine bodyPost_ret (results_cell rfl _ _ _ ⟨w.heap.size, 0, none⟩ (.agg #[.pointer (some ⟨g, off, none⟩), .int .i64 (N : Int)]) (by go_simp) (by go_simp)) rfl ⟨by simp [plV, plOf, hN], (Below.refl _ _).alloc (Nat.le_refl _) _⟩
set_option maxHeartbeats 2000000 in
theorem eidentity_any (K N : Int) (S : ByteArray) (a1 a2 : Option Addr) (n1 c1 n2 c2 : Nat) (w : World) (h1 : n1 ≤ c1) (h2 : c1 ≤ maxLen) (h3 : n1 = 0 ∨ ∃ g off, a1 = some ⟨g, off, none⟩) (h4 : n2 ≤ c2) (h5 : c2 ≤ maxLen) (h6 : n2 = 0 ∨ ∃ g off, a2 = some ⟨g, off, none⟩) :
    Calls Try.prog 66 #[.agg #[.int .i64 K, .int .i64 N, .string S, .slice a1 n1 c1, .slice a2 n2 c2]] w fun e w' => e = .returned (idV (plOf (.slice a1 n1 c1), plOf (.slice a2 n2 c2))) ∧ Below w.heap.size w w' := by
  obtain ⟨⟨p1, m1⟩, hp1⟩ : ∃ x, plOf (.slice a1 n1 c1) = x := ⟨_, rfl⟩
  obtain ⟨⟨p2, m2⟩, hp2⟩ : ∃ x, plOf (.slice a2 n2 c2) = x := ⟨_, rfl⟩
  have HE : Hid (∀ W, Calls Try.prog 72 #[.slice a1 n1 c1] W fun e w' => e = .returned (.agg #[.pointer p1, .int .i64 (m1 : Int)]) ∧ Below W.heap.size W w') := fun W => by
    have := eplaceE_any a1 n1 c1 W h1 h2 h3
    rw [hp1] at this
    exact this
  have HR : Hid (∀ W, Calls Try.prog 73 #[.slice a2 n2 c2] W fun e w' => e = .returned (.agg #[.pointer p2, .int .i64 (m2 : Int)]) ∧ Below W.heap.size W w') := fun W => by
    have := eplaceR_any a2 n2 c2 W h4 h5 h6
    rw [hp2] at this
    exact this
  rw [hp1, hp2]
  clear hp1 hp2 h1 h2 h3 h4 h5 h6
  have B0 : Blk ((w.alloc (Obj.cells #[.int .i64 K, .int .i64 N, .string S, .slice a1 n1 c1, .slice a2 n2 c2] 25)).alloc (Obj.cells #[.pointer none, .int .i64 0, .pointer none, .int .i64 0] 98)) w.heap.size #[.int .i64 K, .int .i64 N, .string S, .slice a1 n1 c1, .slice a2 n2 c2] 25 := (Blk.new w _ _).below ((Below.refl _ _).alloc (Nat.le_refl _) _)
  have B1 : Blk ((w.alloc (Obj.cells #[.int .i64 K, .int .i64 N, .string S, .slice a1 n1 c1, .slice a2 n2 c2] 25)).alloc (Obj.cells #[.pointer none, .int .i64 0, .pointer none, .int .i64 0] 98)) (w.heap.size + 1) #[.pointer none, .int .i64 0, .pointer none, .int .i64 0] 98 := by
    have := Blk.new (w.alloc (Obj.cells #[.int .i64 K, .int .i64 N, .string S, .slice a1 n1 c1, .slice a2 n2 c2] 25)) #[.pointer none, .int .i64 0, .pointer none, .int .i64 0] 98
    rwa [show (w.alloc (Obj.cells #[.int .i64 K, .int .i64 N, .string S, .slice a1 n1 c1, .slice a2 n2 c2] 25)).heap.size = w.heap.size + 1 from by simp] at this
  have hb : Below w.heap.size w ((w.alloc (Obj.cells #[.int .i64 K, .int .i64 N, .string S, .slice a1 n1 c1, .slice a2 n2 c2] 25)).alloc (Obj.cells #[.pointer none, .int .i64 0, .pointer none, .int .i64 0] 98)) := ((Below.refl _ _).alloc (Nat.le_refl _) _).alloc (by simp) _
  go_enter Try.func66, Try.ntmps66
  go_wp2_with fail
  generalize ((w.alloc (Obj.cells #[.int .i64 K, .int .i64 N, .string S, .slice a1 n1 c1, .slice a2 n2 c2] 25)).alloc (Obj.cells #[.pointer none, .int .i64 0, .pointer none, .int .i64 0] 98)) = W0 at *
  obtain ⟨b0, hb0⟩ : ∃ b, w.heap.size = b := ⟨_, rfl⟩
  have HBZ : Hid (w.heap.size = b0) := hb0
  rw [hb0] at B0 B1
  simp only [hb0]
  clear hb0
  have hTb : ∀ W, Below W0.heap.size W0 W → W.cell? ⟨b0, 3, none⟩ = some (.slice a1 n1 c1) ∧ W.cell? ⟨b0, 4, none⟩ = some (.slice a2 n2 c2) := fun W hW => ⟨(B0.below hW).cell 3, (B0.below hW).cell 4⟩
  refine M_region (T := fun W => W.cell? ⟨b0, 3, none⟩ = some (.slice a1 n1 c1) ∧ W.cell? ⟨b0, 4, none⟩ = some (.slice a2 n2 c2)) (m := 7) (by kernel_rfl) ?_
  have hd : Below W0.heap.size W0 W0.drew := (Below.refl _ _).drew
  have hS := hTb _ hd
  refine M_take 0 3 (.pointer (some ⟨b0, 3, none⟩)) _ rfl rfl (by kernel_rfl) (by kernel_rfl) (by kernel_rfl) (by kernel_rfl) (by kernel_rfl) (fun _ _ _ h => h) (by rfl) (fun w' hw' => ?_) hS (listed' := #[true, false, false, false, false, false, false, false]) (by kernel_rfl) rfl ?_
  · go_simp
  simp only [List.setIfInBounds_toArray, List.set_cons_zero, List.set_cons_succ]
  refine M_take 1 4 (.slice a1 n1 c1) _ rfl rfl (by kernel_rfl) (by kernel_rfl) (by kernel_rfl) (by kernel_rfl) (by kernel_rfl) (fun _ _ _ h => h) (by rfl) (fun w' hw' => ?_) hS (listed' := #[true, true, false, false, false, false, false, false]) (by kernel_rfl) rfl ?_
  · obtain ⟨f3, f4⟩ := hw'; go_simp
  simp only [List.setIfInBounds_toArray, List.set_cons_zero, List.set_cons_succ]
  refine M_take 3 6 (.pointer (some ⟨b0, 4, none⟩)) _ rfl rfl (by kernel_rfl) (by kernel_rfl) (by kernel_rfl) (by kernel_rfl) (by kernel_rfl) (fun _ _ _ h => h) (by rfl) (fun w' hw' => ?_) hS (listed' := #[true, true, false, true, false, false, false, false]) (by kernel_rfl) rfl ?_
  · go_simp
  simp only [List.setIfInBounds_toArray, List.set_cons_zero, List.set_cons_succ]
  refine M_take 4 7 (.slice a2 n2 c2) _ rfl rfl (by kernel_rfl) (by kernel_rfl) (by kernel_rfl) (by kernel_rfl) (by kernel_rfl) (fun _ _ _ h => h) (by rfl) (fun w' hw' => ?_) hS (listed' := #[true, true, false, true, true, false, false, false]) (by kernel_rfl) rfl ?_
  · obtain ⟨f3, f4⟩ := hw'; go_simp
  simp only [List.setIfInBounds_toArray, List.set_cons_zero, List.set_cons_succ]
  refine M_call 2 5 72 #[.slice a1 n1 c1] rfl rfl (by kernel_rfl) (by rfl) (listed' := #[true, true, true, true, true, false, false, false]) (by kernel_rfl) (fun W => by go_simp) ?_
  refine (HE.out _).mono ?_
  rintro e W1 ⟨rfl, hb1⟩
  have hd1 : Below W0.heap.size W0 W1 := hd.trans (hb1.mono hd.size)
  have hS := hTb _ hd1
  refine ⟨_, rfl, hS, ?_⟩
  simp only [List.setIfInBounds_toArray, List.set_cons_zero, List.set_cons_succ]
  refine M_call 5 8 73 #[.slice a2 n2 c2] rfl rfl (by kernel_rfl) (by rfl) (listed' := #[true, true, true, true, true, true, false, false]) (by kernel_rfl) (fun W => by go_simp) ?_
  refine (HR.out _).mono ?_
  rintro e W2 ⟨rfl, hb2⟩
  have hd2 : Below W0.heap.size W0 W2 := hd1.trans (hb2.mono hd1.size)
  have hS := hTb _ hd2
  refine ⟨_, rfl, hS, ?_⟩
  simp only [List.setIfInBounds_toArray, List.set_cons_zero, List.set_cons_succ]
  refine M_take 6 9 (.agg #[.pointer p1, .int .i64 (m1 : Int), .pointer p2, .int .i64 (m2 : Int)]) _ rfl rfl (by kernel_rfl) (by kernel_rfl) (by kernel_rfl) (by kernel_rfl) (by kernel_rfl) (fun _ _ _ h => h) (by rfl) (fun w' hw' => ?_) hS (listed' := #[true, true, true, true, true, true, true, false]) (by kernel_rfl) rfl ?_
  · go_simp
  simp only [List.setIfInBounds_toArray, List.set_cons_zero, List.set_cons_succ]
  have BR := B1.below hd2
  have r0 := (BR.cell 0).trans rfl
  have z0 := BR.froz 0
  have r1 := (BR.cell 1).trans rfl
  have z1 := BR.froz 1
  have r2 := (BR.cell 2).trans rfl
  have z2 := BR.froz 2
  have r3 := (BR.cell 3).trans rfl
  have z3 := BR.froz 3
  refine M_store 7 ((((W2.setCell ⟨b0 + 1, 0, none⟩ (.pointer p1)).setCell ⟨b0 + 1, 1, none⟩ (.int .i64 (m1 : Int))).setCell ⟨b0 + 1, 2, none⟩ (.pointer p2)).setCell ⟨b0 + 1, 3, none⟩ (.int .i64 (m2 : Int))) rfl rfl (by kernel_rfl) (by rfl) (listed' := #[true, true, true, true, true, true, true, true]) (by kernel_rfl) (by go_simp) (by kernel_rfl) ?_
  refine M_done (by kernel_rfl) ?_ _
  have BR0 : Blk (W2.setCell ⟨b0 + 1, 0, none⟩ (.pointer p1)) (b0 + 1) #[.pointer p1, .int .i64 0, .pointer none, .int .i64 0] 98 := BR.set 0 _ rfl
  have BR1 : Blk ((W2.setCell ⟨b0 + 1, 0, none⟩ (.pointer p1)).setCell ⟨b0 + 1, 1, none⟩ (.int .i64 (m1 : Int))) (b0 + 1) #[.pointer p1, .int .i64 (m1 : Int), .pointer none, .int .i64 0] 98 := BR0.set 1 _ rfl
  have BR2 : Blk (((W2.setCell ⟨b0 + 1, 0, none⟩ (.pointer p1)).setCell ⟨b0 + 1, 1, none⟩ (.int .i64 (m1 : Int))).setCell ⟨b0 + 1, 2, none⟩ (.pointer p2)) (b0 + 1) #[.pointer p1, .int .i64 (m1 : Int), .pointer p2, .int .i64 0] 98 := BR1.set 2 _ rfl
  have BR3 : Blk ((((W2.setCell ⟨b0 + 1, 0, none⟩ (.pointer p1)).setCell ⟨b0 + 1, 1, none⟩ (.int .i64 (m1 : Int))).setCell ⟨b0 + 1, 2, none⟩ (.pointer p2)).setCell ⟨b0 + 1, 3, none⟩ (.int .i64 (m2 : Int))) (b0 + 1) #[.pointer p1, .int .i64 (m1 : Int), .pointer p2, .int .i64 (m2 : Int)] 98 := BR2.set 3 _ rfl
  have hbe : Below w.heap.size w W2 := hb.trans (hd2.mono hb.size)
  have hbe0 : Below w.heap.size w (W2.setCell ⟨b0 + 1, 0, none⟩ (.pointer p1)) := Below.setCell (p := ⟨b0 + 1, 0, none⟩) hbe (by have := HBZ.out; show w.heap.size ≤ b0 + 1; omega) _
  have hbe1 : Below w.heap.size w ((W2.setCell ⟨b0 + 1, 0, none⟩ (.pointer p1)).setCell ⟨b0 + 1, 1, none⟩ (.int .i64 (m1 : Int))) := Below.setCell (p := ⟨b0 + 1, 1, none⟩) hbe0 (by have := HBZ.out; show w.heap.size ≤ b0 + 1; omega) _
  have hbe2 : Below w.heap.size w (((W2.setCell ⟨b0 + 1, 0, none⟩ (.pointer p1)).setCell ⟨b0 + 1, 1, none⟩ (.int .i64 (m1 : Int))).setCell ⟨b0 + 1, 2, none⟩ (.pointer p2)) := Below.setCell (p := ⟨b0 + 1, 2, none⟩) hbe1 (by have := HBZ.out; show w.heap.size ≤ b0 + 1; omega) _
  have hbe3 : Below w.heap.size w ((((W2.setCell ⟨b0 + 1, 0, none⟩ (.pointer p1)).setCell ⟨b0 + 1, 1, none⟩ (.int .i64 (m1 : Int))).setCell ⟨b0 + 1, 2, none⟩ (.pointer p2)).setCell ⟨b0 + 1, 3, none⟩ (.int .i64 (m2 : Int))) := Below.setCell (p := ⟨b0 + 1, 3, none⟩) hbe2 (by have := HBZ.out; show w.heap.size ≤ b0 + 1; omega) _
  clear r0 z0 r1 z1 r2 z2 r3 z3 BR0 hbe0 BR1 hbe1 BR2 hbe2 BR hbe hS
  generalize ((((W2.setCell ⟨b0 + 1, 0, none⟩ (.pointer p1)).setCell ⟨b0 + 1, 1, none⟩ (.int .i64 (m1 : Int))).setCell ⟨b0 + 1, 2, none⟩ (.pointer p2)).setCell ⟨b0 + 1, 3, none⟩ (.int .i64 (m2 : Int))) = W3 at *
  have r0 := (BR3.cell 0).trans rfl
  have r1 := (BR3.cell 1).trans rfl
  have r2 := (BR3.cell 2).trans rfl
  have r3 := (BR3.cell 3).trans rfl
  go_wp2_with fail
  refine bodyPost_ret (results_cell rfl _ _ _ ⟨b0 + 1, 0, none⟩ (.agg #[.pointer p1, .int .i64 (m1 : Int), .pointer p2, .int .i64 (m2 : Int)]) (by go_simp) (by go_simp)) rfl ⟨rfl, hbe3⟩
/-- What a tree is. -/
def cntV (K N : Int) (S : ByteArray) (ve vr : Value) : Value := if K = 1 then .iface 82 (.int .i64 N) else if K = 2 then .iface 83 (.string S) else .iface 84 (.agg #[.int .i64 K, .int .i64 N, .string S, ve, vr])
set_option maxHeartbeats 1000000 in
theorem content_any (K N : Int) (S : ByteArray) (a1 a2 : Option Addr) (n1 c1 n2 c2 : Nat) (w : World) :
    Calls Try.prog 58 #[.agg #[.int .i64 K, .int .i64 N, .string S, .slice a1 n1 c1, .slice a2 n2 c2]] w fun e w' => e = .returned (cntV K N S (.slice a1 n1 c1) (.slice a2 n2 c2)) ∧ Below w.heap.size w w' := by
  have al : Below w.heap.size w (w.alloc (Obj.cells #[.int .i64 K, .int .i64 N, .string S, .slice a1 n1 c1, .slice a2 n2 c2] 25)) := (Below.refl _ _).alloc (Nat.le_refl _) _
  by_cases h1 : K = 1
  · subst h1
    go_enter Try.func58, Try.ntmps58
    go_wp2_with fail
    go_ret
    exact ⟨rfl, al⟩
  · have d1 : (K == 1) = false := by simpa using h1
    by_cases h2 : K = 2
    · subst h2
      go_enter Try.func58, Try.ntmps58
      go_wp2_with fail
      go_ret
      exact ⟨rfl, al⟩
    · have d2 : (K == 2) = false := by simpa using h2
      have HV : Hid (cntV K N S (.slice a1 n1 c1) (.slice a2 n2 c2) = .iface 84 (.agg #[.int .i64 K, .int .i64 N, .string S, .slice a1 n1 c1, .slice a2 n2 c2])) := (by unfold cntV; rw [if_neg h1, if_neg h2] : cntV K N S (.slice a1 n1 c1) (.slice a2 n2 c2) = _)
      rw [HV.out]
      clear HV h1 h2
      go_enter Try.func58, Try.ntmps58
      go_wp2_with fail
      go_ret
      exact ⟨rfl, al⟩
end Go.Proofs.Ytkmdaopmmfdpgaa

/- A tree on the wire. -/
namespace Go.Proofs.Ytkmdaopmmfdpgaa
open Go.ChangeShapes Go.WideShapes Go.ChangeAt Go.RowKit
set_option linter.unusedVariables false
set_option linter.unusedSimpArgs false
set_option maxRecDepth 20000

/-- What field, bytes answer. -/
def FldP (W0 : World) (R : Fd × Nat) (b : Nat) (w : World) (e : Ending) (w' : World) : Prop := e = .returned (.tuple #[R.1.val, .int .i64 (R.2 : Int)]) ∧ KnE W0 w' b ∧ Kp (fun q => q = b) w w'
def BytP (W0 : World) (R : List Nat × Nat) (b : Nat) (w : World) (e : Ending) (w' : World) : Prop := e = .returned (.tuple #[.string (strN R.1), .int .i64 (R.2 : Int)]) ∧ KnE W0 w' b ∧ Kp (fun q => q = b) w w'
theorem FldP.of {W0 : World} {R : Fd × Nat} {b : Nat} {w w' : World} {t k n : Int} {s : ByteArray} {e : Int} (h : R = (⟨t, k, n, s⟩, e.toNat)) (he : 0 ≤ e) (h1 : KnE W0 w' b) (h2 : Kp (fun q => q = b) w w') : FldP W0 R b w (.returned (.tuple #[.agg #[.int .i64 t, .int .i64 k, .int .i64 n, .string s], .int .i64 e])) w' := by
  subst h
  refine ⟨?_, h1, h2⟩
  simp only [Fd.val]
  rw [Int.toNat_of_nonneg he]
set_option maxHeartbeats 4000000 in
theorem efield_step (W0 : World) (b n : Nat) (x : Tr) (tag : Int) (K N : Int) (S : ByteArray) (a1 a2 : Option Addr) (n1 c1 n2 c2 : Nat) (w : World) (hx : TrW n W0 (.agg #[.int .i64 K, .int .i64 N, .string S, .slice a1 n1 c1, .slice a2 n2 c2]) x)
    (IB : ∀ W, Below W0.heap.size W0 W → KnE W0 W b → Calls Try.prog 59 #[.agg #[.map (some b)], .agg #[.int .i64 K, .int .i64 N, .string S, .slice a1 n1 c1, .slice a2 n2 c2]] W (BytP W0 (bytE n x) b W))
    (h0 : Below W0.heap.size W0 w) (hk : KnE W0 w b) :
    Calls Try.prog 43 #[.agg #[.map (some b)], .int .i64 tag, .agg #[.int .i64 K, .int .i64 N, .string S, .slice a1 n1 c1, .slice a2 n2 c2]] w (FldP W0 (flE (bytE n) tag x) b w) := by
  have hA : ∀ (T : TypeId) (v : Value) (W : World), T = 82 ∨ T = 83 ∨ T = 84 → (Instr.typeAssert (.iface T v) 20 T true).run Try.prog W = .ok (.tuple #[v, .bool true]) W := by
    rintro T v W (rfl | rfl | rfl) <;> kernel_rfl
  have hA1 : ∀ (v : Value) (W : World), (Instr.typeAssert (.iface 82 v) 20 82 true).run Try.prog W = .ok (.tuple #[v, .bool true]) W := fun v W => hA _ v W (.inl rfl)
  have hA2 : ∀ (v : Value) (W : World), (Instr.typeAssert (.iface 83 v) 20 83 true).run Try.prog W = .ok (.tuple #[v, .bool true]) W := fun v W => hA _ v W (.inr (.inl rfl))
  have hA3 : ∀ (v : Value) (W : World), (Instr.typeAssert (.iface 84 v) 20 84 true).run Try.prog W = .ok (.tuple #[v, .bool true]) W := fun v W => hA _ v W (.inr (.inr rfl))
  have hF2 : ∀ (v : Value) (W : World), (Instr.typeAssert (.iface 83 v) 20 82 true).run Try.prog W = .ok (.tuple #[.int .i64 0, .bool false]) W := fun v W => by kernel_rfl
  have hF3 : ∀ (v : Value) (W : World), (Instr.typeAssert (.iface 84 v) 20 82 true).run Try.prog W = .ok (.tuple #[.int .i64 0, .bool false]) W := fun v W => by kernel_rfl
  have hF4 : ∀ (v : Value) (W : World), (Instr.typeAssert (.iface 84 v) 20 83 true).run Try.prog W = .ok (.tuple #[.string ⟨#[]⟩, .bool false]) W := fun v W => by kernel_rfl
  obtain ⟨k1, k2, k3, -, -⟩ := hx.parts
  obtain ⟨R, hR⟩ : ∃ R, flE (bytE n) tag x = R := ⟨_, rfl⟩
  rw [hR]
  have HR : Hid (flE (bytE n) tag x = R) := hR
  have HX : Hid (x.kind = K ∧ x.n = N ∧ x.s = S) := ⟨k1, k2, k3⟩
  have HC : Hid (∀ W, Calls Try.prog 58 #[.agg #[.int .i64 K, .int .i64 N, .string S, .slice a1 n1 c1, .slice a2 n2 c2]] W fun e w' => e = .returned (cntV K N S (.slice a1 n1 c1) (.slice a2 n2 c2)) ∧ Below W.heap.size W w') := fun W => content_any K N S a1 a2 n1 c1 n2 c2 W
  have HK : Hid (KnE W0 w b) := hk
  have H0 : Hid (Below W0.heap.size W0 w) := h0
  have HB : Hid (∀ W, Below W0.heap.size W0 W → KnE W0 W b → Calls Try.prog 59 #[.agg #[.map (some b)], .agg #[.int .i64 K, .int .i64 N, .string S, .slice a1 n1 c1, .slice a2 n2 c2]] W (BytP W0 (bytE n x) b W)) := IB
  have hlt := hk.lt
  obtain ⟨Z, hZ⟩ : ∃ Z, Z = (((w.alloc (Obj.cells #[.map (some b)] 53)).alloc (Obj.cells #[.int .i64 K, .int .i64 N, .string S, .slice a1 n1 c1, .slice a2 n2 c2] 25)).alloc (Obj.cells #[.int .i64 0, .int .i64 0, .int .i64 0, .string ⟨#[]⟩] 46)).alloc (Obj.cells #[.int .i64 tag, .int .i64 1, .int .i64 0, .string ⟨#[]⟩] 46) := ⟨_, rfl⟩
  have al1 : Below w.heap.size w (w.alloc (Obj.cells #[.map (some b)] 53)) := (Below.refl _ _).alloc (Nat.le_refl _) _
  have BE : Blk Z w.heap.size #[.map (some b)] 53 := by
    rw [hZ]
    exact (((Blk.new w _ _).below ((Below.refl _ _).alloc (Nat.le_refl _) _)).below ((Below.refl _ _).alloc (Nat.le_refl _) _)).below ((Below.refl _ _).alloc (Nat.le_refl _) _)
  have BT : Blk Z (w.heap.size + 1) #[.int .i64 K, .int .i64 N, .string S, .slice a1 n1 c1, .slice a2 n2 c2] 25 := by
    rw [hZ]
    have := Blk.new (w.alloc (Obj.cells #[.map (some b)] 53)) #[.int .i64 K, .int .i64 N, .string S, .slice a1 n1 c1, .slice a2 n2 c2] 25
    rw [show (w.alloc (Obj.cells #[.map (some b)] 53)).heap.size = w.heap.size + 1 from by simp] at this
    exact (this.below ((Below.refl _ _).alloc (Nat.le_refl _) _)).below ((Below.refl _ _).alloc (Nat.le_refl _) _)
  have BO : Blk Z (w.heap.size + 1 + 1) #[.int .i64 0, .int .i64 0, .int .i64 0, .string ⟨#[]⟩] 46 := by
    rw [hZ]
    have := Blk.new ((w.alloc (Obj.cells #[.map (some b)] 53)).alloc (Obj.cells #[.int .i64 K, .int .i64 N, .string S, .slice a1 n1 c1, .slice a2 n2 c2] 25)) #[.int .i64 0, .int .i64 0, .int .i64 0, .string ⟨#[]⟩] 46
    rw [show ((w.alloc (Obj.cells #[.map (some b)] 53)).alloc (Obj.cells #[.int .i64 K, .int .i64 N, .string S, .slice a1 n1 c1, .slice a2 n2 c2] 25)).heap.size = w.heap.size + 1 + 1 from by simp] at this
    exact this.below ((Below.refl _ _).alloc (Nat.le_refl _) _)
  have BR : Blk Z (w.heap.size + 1 + 1 + 1) #[.int .i64 tag, .int .i64 1, .int .i64 0, .string ⟨#[]⟩] 46 := by
    rw [hZ]
    have := Blk.new (((w.alloc (Obj.cells #[.map (some b)] 53)).alloc (Obj.cells #[.int .i64 K, .int .i64 N, .string S, .slice a1 n1 c1, .slice a2 n2 c2] 25)).alloc (Obj.cells #[.int .i64 0, .int .i64 0, .int .i64 0, .string ⟨#[]⟩] 46)) #[.int .i64 tag, .int .i64 1, .int .i64 0, .string ⟨#[]⟩] 46
    rw [show (((w.alloc (Obj.cells #[.map (some b)] 53)).alloc (Obj.cells #[.int .i64 K, .int .i64 N, .string S, .slice a1 n1 c1, .slice a2 n2 c2] 25)).alloc (Obj.cells #[.int .i64 0, .int .i64 0, .int .i64 0, .string ⟨#[]⟩] 46)).heap.size = w.heap.size + 1 + 1 + 1 from by simp] at this
    exact this
  have hZb : Below w.heap.size w Z := by
    rw [hZ]
    exact (((al1.alloc (by simp) _).alloc (by simp; omega) _).alloc (by simp; omega) _)
  clear hR k1 k2 k3 hA al1 hx h0 hk IB
  go_enter Try.func43, Try.ntmps43
  go_wp2_with fail
  rw [← hZ]
  clear hZ
  refine (HC.out _).mono ?_
  rintro e w2 ⟨rfl, hb2⟩
  have hbw2 : Below w.heap.size w w2 := hZb.trans (hb2.mono hZb.size)
  have BE2 := BE.below hb2
  have BT2 := BT.below hb2
  have BO2 := BO.below hb2
  have BR2 := BR.below hb2
  have HK2 : Hid (KnE W0 w2 b) := HK.out.below hbw2
  have H02 : Hid (Below W0.heap.size W0 w2) := H0.out.trans (hbw2.mono H0.out.size)
  clear BE BT BO BR hb2 hZb HC Z H0 HK
  obtain ⟨s, hs⟩ : ∃ s, w.heap.size = s := ⟨_, rfl⟩
  have HSZ : Hid (w.heap.size = s) := hs
  rw [hs] at BE2 BT2 BO2 BR2 hlt
  simp only [hs]
  clear hs
  have o0 := (BO2.cell 0).trans rfl
  have o1 := (BO2.cell 1).trans rfl
  have o2 := (BO2.cell 2).trans rfl
  have o3 := (BO2.cell 3).trans rfl
  have r0 := (BR2.cell 0).trans rfl
  have r1 := (BR2.cell 1).trans rfl
  have r2 := (BR2.cell 2).trans rfl
  have r3 := (BR2.cell 3).trans rfl
  have zo0 := BO2.froz 0
  have zo1 := BO2.froz 1
  have zo2 := BO2.froz 2
  have zo3 := BO2.froz 3
  have zr0 := BR2.froz 0
  have zr1 := BR2.froz 1
  have zr2 := BR2.froz 2
  have zr3 := BR2.froz 3
  by_cases h1 : K = 1
  · subst h1
    have HRV : Hid (R = (⟨tag, 0, N, ⟨#[]⟩⟩, 0)) := (by rw [← HR.out, flE, if_pos HX.out.1, HX.out.2.1] : R = _)
    simp only [cntV, if_pos]
    clear HR HX HB
    go_wp2_with fail
    refine bodyPost_ret (results_two rfl _ _ _ ⟨s + 1 + 1, 0, none⟩ (.agg #[.int .i64 tag, .int .i64 0, .int .i64 N, .string ⟨#[]⟩]) (by go_simp) (by go_simp)) rfl (FldP.of HRV.out (by decide) ?_ ?_)
    · refine KnE.kp (S := fun q => q = s + 1 + 1 ∨ q = s + 1 + 1 + 1) HK2.out ?_ (by omega)
      refine Kp.setCell ?_ (fun _ => by simp) _
      refine Kp.setCell ?_ (fun _ => by simp) _
      refine Kp.setCell ?_ (fun _ => by simp) _
      refine Kp.setCell ?_ (fun _ => by simp) _
      refine Kp.setCell ?_ (fun _ => by simp) _
      refine Kp.setCell ?_ (fun _ => by simp) _
      exact Kp.refl _ _
    · refine Kp.setCell ?_ (fun h => absurd h (by have := HSZ.out; simp only; omega)) _
      refine Kp.setCell ?_ (fun h => absurd h (by have := HSZ.out; simp only; omega)) _
      refine Kp.setCell ?_ (fun h => absurd h (by have := HSZ.out; simp only; omega)) _
      refine Kp.setCell ?_ (fun h => absurd h (by have := HSZ.out; simp only; omega)) _
      refine Kp.setCell ?_ (fun h => absurd h (by have := HSZ.out; simp only; omega)) _
      refine Kp.setCell ?_ (fun h => absurd h (by have := HSZ.out; simp only; omega)) _
      exact Kp.ofBelow hbw2
  · by_cases h2 : K = 2
    · subst h2
      simp only [cntV, if_neg (show ¬ (2 : Int) = 1 by decide), if_pos]
      by_cases h3 : 4096 < S.size
      · have HRV : Hid (R = (⟨0, 0, 0, ⟨#[]⟩⟩, 4)) := (by rw [← HR.out, flE, if_neg (by rw [HX.out.1]; decide), if_pos HX.out.1, HX.out.2.2, if_pos h3]; rfl : R = _)
        clear HR HX HB
        go_wp2_with fail
        refine bodyPost_ret (results_two rfl _ _ _ ⟨s + 1 + 1, 0, none⟩ (.agg #[.int .i64 0, .int .i64 0, .int .i64 0, .string ⟨#[]⟩]) (by go_simp) (by go_simp)) rfl (FldP.of HRV.out (by decide) ?_ ?_)
        · refine KnE.kp (S := fun q => q = s + 1 + 1 ∨ q = s + 1 + 1 + 1) HK2.out ?_ (by omega)
          refine Kp.setCell ?_ (fun _ => by simp) _
          refine Kp.setCell ?_ (fun _ => by simp) _
          refine Kp.setCell ?_ (fun _ => by simp) _
          refine Kp.setCell ?_ (fun _ => by simp) _
          exact Kp.refl _ _
        · refine Kp.setCell ?_ (fun h => absurd h (by have := HSZ.out; simp only; omega)) _
          refine Kp.setCell ?_ (fun h => absurd h (by have := HSZ.out; simp only; omega)) _
          refine Kp.setCell ?_ (fun h => absurd h (by have := HSZ.out; simp only; omega)) _
          refine Kp.setCell ?_ (fun h => absurd h (by have := HSZ.out; simp only; omega)) _
          exact Kp.ofBelow hbw2
      · have HRV : Hid (R = (⟨tag, 1, 0, S⟩, 0)) := (by rw [← HR.out, flE, if_neg (by rw [HX.out.1]; decide), if_pos HX.out.1, HX.out.2.2, if_neg h3] : R = _)
        clear HR HX HB
        go_wp2_with fail
        refine bodyPost_ret (results_two rfl _ _ _ ⟨s + 1 + 1, 0, none⟩ (.agg #[.int .i64 tag, .int .i64 1, .int .i64 0, .string S]) (by go_simp) (by go_simp)) rfl (FldP.of HRV.out (by decide) ?_ ?_)
        · refine KnE.kp (S := fun q => q = s + 1 + 1 ∨ q = s + 1 + 1 + 1) HK2.out ?_ (by omega)
          refine Kp.setCell ?_ (fun _ => by simp) _
          refine Kp.setCell ?_ (fun _ => by simp) _
          refine Kp.setCell ?_ (fun _ => by simp) _
          refine Kp.setCell ?_ (fun _ => by simp) _
          refine Kp.setCell ?_ (fun _ => by simp) _
          exact Kp.refl _ _
        · refine Kp.setCell ?_ (fun h => absurd h (by have := HSZ.out; simp only; omega)) _
          refine Kp.setCell ?_ (fun h => absurd h (by have := HSZ.out; simp only; omega)) _
          refine Kp.setCell ?_ (fun h => absurd h (by have := HSZ.out; simp only; omega)) _
          refine Kp.setCell ?_ (fun h => absurd h (by have := HSZ.out; simp only; omega)) _
          refine Kp.setCell ?_ (fun h => absurd h (by have := HSZ.out; simp only; omega)) _
          exact Kp.ofBelow hbw2
    · have HRV : Hid (R = if (bytE n x).2 ≠ 0 then (fd0, (bytE n x).2) else (⟨tag, 1, 0, strN (bytE n x).1⟩, 0)) := (by rw [← HR.out, flE, if_neg (by rw [HX.out.1]; exact h1), if_neg (by rw [HX.out.1]; exact h2)] : R = _)
      simp only [cntV, if_neg h1, if_neg h2]
      have al3 : Below w2.heap.size w2 (w2.alloc (Obj.cells #[.int .i64 K, .int .i64 N, .string S, .slice a1 n1 c1, .slice a2 n2 c2] 84)) := (Below.refl _ _).alloc (Nat.le_refl _) _
      have BE3 := BE2.below al3
      have BO3 := BO2.below al3
      have BR3 := BR2.below al3
      have HK3 : Hid (KnE W0 (w2.alloc (Obj.cells #[.int .i64 K, .int .i64 N, .string S, .slice a1 n1 c1, .slice a2 n2 c2] 84)) b) := HK2.out.below al3
      have H03 : Hid (Below W0.heap.size W0 (w2.alloc (Obj.cells #[.int .i64 K, .int .i64 N, .string S, .slice a1 n1 c1, .slice a2 n2 c2] 84))) := H02.out.trans (al3.mono H02.out.size)
      have hbw3 : Below w.heap.size w (w2.alloc (Obj.cells #[.int .i64 K, .int .i64 N, .string S, .slice a1 n1 c1, .slice a2 n2 c2] 84)) := hbw2.trans (al3.mono hbw2.size)
      have e0 := (BE3.cell 0).trans rfl
      have HBC : Hid (Calls Try.prog 59 #[.agg #[.map (some b)], .agg #[.int .i64 K, .int .i64 N, .string S, .slice a1 n1 c1, .slice a2 n2 c2]] (w2.alloc (Obj.cells #[.int .i64 K, .int .i64 N, .string S, .slice a1 n1 c1, .slice a2 n2 c2] 84)) (BytP W0 (bytE n x) b (w2.alloc (Obj.cells #[.int .i64 K, .int .i64 N, .string S, .slice a1 n1 c1, .slice a2 n2 c2] 84)))) := HB.out _ H03.out HK3.out
      clear HR HX HB al3 BE2 BT2 BO2 BR2 HK2 H02 hbw2 h1 h2 o0 o1 o2 o3 r0 r1 r2 r3 zo0 zo1 zo2 zo3 zr0 zr1 zr2 zr3
      go_wp2_with fail
      refine Calls.mono HBC.out ?_
      rintro ee w4 ⟨rfl, hk4, hkp4⟩
      generalize (w2.alloc (Obj.cells #[.int .i64 K, .int .i64 N, .string S, .slice a1 n1 c1, .slice a2 n2 c2] 84)) = w3 at *
      have HK4 : Hid (KnE W0 w4 b) := hk4
      have HKP : Hid (Kp (fun q => q = b) w w4) := (Kp.ofBelow hbw3).trans hkp4
      have BO4 := BO3.kp hkp4 (by omega)
      have BR4 := BR3.kp hkp4 (by omega)
      generalize bytE n x = q at *
      obtain ⟨ns, er⟩ := q
      simp only at HRV ⊢
      generalize strN ns = T at *
      have o0 := (BO4.cell 0).trans rfl
      have o1 := (BO4.cell 1).trans rfl
      have o2 := (BO4.cell 2).trans rfl
      have o3 := (BO4.cell 3).trans rfl
      have r0 := (BR4.cell 0).trans rfl
      have r1 := (BR4.cell 1).trans rfl
      have r2 := (BR4.cell 2).trans rfl
      have r3 := (BR4.cell 3).trans rfl
      have zo0 := BO4.froz 0
      have zo1 := BO4.froz 1
      have zo2 := BO4.froz 2
      have zo3 := BO4.froz 3
      have zr3 := BR4.froz 3
      clear hk4 hkp4 BE3 BO3 BR3 HK3 H03 hbw3 e0 HBC BO4 BR4
      by_cases he : er = 0
      · subst he
        have HRV2 : Hid (R = (⟨tag, 1, 0, T⟩, 0)) := (by rw [HRV.out, if_neg (by simp)] : R = _)
        clear HRV
        go_wp2_with fail
        refine bodyPost_ret (results_two rfl _ _ _ ⟨s + 1 + 1, 0, none⟩ (.agg #[.int .i64 tag, .int .i64 1, .int .i64 0, .string T]) (by go_simp) (by go_simp)) rfl (FldP.of HRV2.out (by decide) ?_ ?_)
        · refine KnE.kp (S := fun q => q = s + 1 + 1 ∨ q = s + 1 + 1 + 1) HK4.out ?_ (by omega)
          refine Kp.setCell ?_ (fun _ => by simp) _
          refine Kp.setCell ?_ (fun _ => by simp) _
          refine Kp.setCell ?_ (fun _ => by simp) _
          refine Kp.setCell ?_ (fun _ => by simp) _
          refine Kp.setCell ?_ (fun _ => by simp) _
          exact Kp.refl _ _
        · refine Kp.setCell ?_ (fun h => absurd h (by have := HSZ.out; simp only; omega)) _
          refine Kp.setCell ?_ (fun h => absurd h (by have := HSZ.out; simp only; omega)) _
          refine Kp.setCell ?_ (fun h => absurd h (by have := HSZ.out; simp only; omega)) _
          refine Kp.setCell ?_ (fun h => absurd h (by have := HSZ.out; simp only; omega)) _
          refine Kp.setCell ?_ (fun h => absurd h (by have := HSZ.out; simp only; omega)) _
          exact HKP.out
      · have hd : ((er : Int) != 0) = true := by simp; omega
        have HRV2 : Hid (R = (⟨0, 0, 0, ⟨#[]⟩⟩, ((er : Int)).toNat)) := (by rw [HRV.out, if_pos he]; rfl : R = _)
        clear HRV he
        go_wp2_with fail
        refine bodyPost_ret (results_two rfl _ _ _ ⟨s + 1 + 1, 0, none⟩ (.agg #[.int .i64 0, .int .i64 0, .int .i64 0, .string ⟨#[]⟩]) (by go_simp) (by go_simp)) rfl (FldP.of HRV2.out (by omega) ?_ ?_)
        · refine KnE.kp (S := fun q => q = s + 1 + 1 ∨ q = s + 1 + 1 + 1) HK4.out ?_ (by omega)
          refine Kp.setCell ?_ (fun _ => by simp) _
          refine Kp.setCell ?_ (fun _ => by simp) _
          refine Kp.setCell ?_ (fun _ => by simp) _
          refine Kp.setCell ?_ (fun _ => by simp) _
          exact Kp.refl _ _
        · refine Kp.setCell ?_ (fun h => absurd h (by have := HSZ.out; simp only; omega)) _
          refine Kp.setCell ?_ (fun h => absurd h (by have := HSZ.out; simp only; omega)) _
          refine Kp.setCell ?_ (fun h => absurd h (by have := HSZ.out; simp only; omega)) _
          refine Kp.setCell ?_ (fun h => absurd h (by have := HSZ.out; simp only; omega)) _
          exact HKP.out
end Go.Proofs.Ytkmdaopmmfdpgaa

/- What wire Check answers of a field. -/
namespace Go.Proofs.Ytkmdaopmmfdpgaa
open Go.ChangeShapes Go.WideShapes Go.ChangeAt Go.RowKit
set_option linter.unusedVariables false
set_option linter.unusedSimpArgs false
set_option maxRecDepth 20000

theorem ret_boolF {a b : Bool} (h : a = b) : Ending.returned (.bool a) = .returned (.bool b) := by rw [h]

set_option maxHeartbeats 1000000 in
theorem checkV_any (t k n : Int) (b : ByteArray) (w : World) :
    Calls Try.prog 34 #[.agg #[.int .i64 t, .int .i64 k, .int .i64 n, .string b]] w fun e w' => e = .returned (.bool (okV t k n b)) ∧ Below w.heap.size w w' := by
  by_cases h1 : 1 ≤ t
  · by_cases h2 : t ≤ 500
    · by_cases hk : k = 0
      · subst hk
        go_enter Try.func34, Try.ntmps34
        go_wp2_with fail
        all_goals
          go_ret
          exact ⟨ret_boolF (by simp [okV, h1, h2]), (Below.refl _ _).alloc (Nat.le_refl _) _⟩
      · by_cases hk1 : k = 1
        · subst hk1
          by_cases hn : n = 0
          · subst hn
            go_enter Try.func34, Try.ntmps34
            go_wp2_with fail
            all_goals
              go_ret
              exact ⟨ret_boolF (by simp [okV, h1, h2]), (Below.refl _ _).alloc (Nat.le_refl _) _⟩
          · go_enter Try.func34, Try.ntmps34
            go_wp2_with fail
            all_goals
              go_ret
              exact ⟨ret_boolF (by simp [okV, hn]), (Below.refl _ _).alloc (Nat.le_refl _) _⟩
        · have e0 : (k == 0) = false := by simp [hk]
          have e1 : (k == 1) = false := by simp [hk1]
          go_enter Try.func34, Try.ntmps34
          go_wp2_with fail
          all_goals
            go_ret
            exact ⟨ret_boolF (by simp [okV, hk, hk1]), (Below.refl _ _).alloc (Nat.le_refl _) _⟩
    · have hok : okV t k n b = false := by simp [okV]; omega
      rw [hok]
      clear hok
      have hd : decide (t < 1) = false := by simp; omega
      have hd5 : decide (500 < t) = true := by simp; omega
      go_enter Try.func34, Try.ntmps34
      go_wp2_with fail
      all_goals
        go_ret
        exact ⟨rfl, (Below.refl _ _).alloc (Nat.le_refl _) _⟩
  · have hok : okV t k n b = false := by simp [okV]; omega
    rw [hok]
    clear hok
    have hd : decide (t < 1) = true := by simp; omega
    go_enter Try.func34, Try.ntmps34
    go_wp2_with fail
    all_goals
      go_ret
      exact ⟨rfl, (Below.refl _ _).alloc (Nat.le_refl _) _⟩
end Go.Proofs.Ytkmdaopmmfdpgaa

/- What Check answers of a field, and field of one that may be. -/
namespace Go.Proofs.Ytkmdaopmmfdpgaa
open Go.ChangeShapes Go.WideShapes Go.ChangeAt Go.RowKit
set_option linter.unusedVariables false
set_option linter.unusedSimpArgs false
set_option maxRecDepth 20000

theorem check_any (r : Fd) (w : World) : Calls Try.prog 34 #[r.val] w fun e w' => e = .returned (.bool (okF r)) ∧ Below w.heap.size w w' := checkV_any _ _ _ _ w

set_option maxHeartbeats 2000000 in
theorem field_num (t : Nat) (n : Int) (b : ByteArray) (w : World) (h1 : 1 ≤ t) (h2 : t ≤ 500) (h3 : -9223372036854775808 ≤ n) (h4 : n ≤ 9223372036854775807) :
    Calls Try.prog 35 #[.agg #[.int .i64 (t : Int), .int .i64 0, .int .i64 n, .string b]] w fun e w' => ∃ v, e = .returned v ∧
      w'.ownsRow w.heap.size 5 1 v (digs (2 * t) ++ digs (zigN n).toNat).length (byteCells (digs (2 * t) ++ digs (zigN n).toNat)) ∧ Below w.heap.size w w' := by
  have hz := zigN_bd n h3 h4
  have l1 := digs_len64 (2 * t) (by omega)
  obtain ⟨R, hR⟩ : ∃ R, digs (2 * t) ++ digs (zigN n).toNat = R := ⟨_, rfl⟩
  rw [hR]
  have HR : Hid (digs (2 * t) ++ digs (zigN n).toNat = R) := hR
  clear hR
  go_enter Try.func35, Try.ntmps35
  go_wp2_with fail
  refine (put_nil (2 * t) _ (by omega) _ (by omega)).mono ?_
  rintro e w1 ⟨g, cap, rfl, hg1, hg2, hc, hm, hh, hb⟩
  have hb0 : Below w.heap.size w w1 := (below_one w _).trans (hb.mono (by simp))
  generalize digs (2 * t) = ds at *
  have hcell : w1.cell? ⟨w.heap.size, 1, none⟩ = some (.int .i64 0) := by rw [hb.cell (by simp)]; simp
  have hcell2 : w1.cell? ⟨w.heap.size, 2, none⟩ = some (.int .i64 n) := by rw [hb.cell (by simp)]; simp
  have HH : Hid (Holds w1 (some ⟨g, 0, none⟩) ds) := hh
  have HB : Hid (Below w.heap.size w w1) := hb0
  obtain ⟨N, hN⟩ : ∃ N, ds.length = N := ⟨_, rfl⟩
  rw [hN] at hc l1 ⊢
  have HN : Hid (ds.length = N) := hN
  clear hh hb hb0 hN
  go_wp2_with fail
  refine (zig_any n _ h3 h4).mono ?_
  rintro e w2 ⟨rfl, rfl⟩
  obtain ⟨z, hzz⟩ := Int.eq_ofNat_of_zero_le hz.1
  have HR2 : Hid (ds ++ digs z = R) := by show _ = _; rw [← HR.out, hzz, Int.toNat_natCast]
  rw [hzz] at hz ⊢
  clear hzz HR
  go_wp2_with fail
  have hp := put_any (some ⟨g, 0, none⟩) ds cap z w2 (fun h => by cases h) (by rw [HN.out]; exact hc) hm (by rw [HN.out]; omega) HH.out (by omega)
  rw [HN.out] at hp
  refine hp.mono ?_
  rintro e w3 ⟨r, rfl, ho, hb3⟩
  have hws := HB.out.size
  have HO : Hid (w3.ownsRow w.heap.size 5 1 r R.length (byteCells R)) := by rw [← HR2.out]; exact own_mono ho hws
  have HB3 : Hid (Below w.heap.size w w3) := HB.out.trans (hb3.mono hws)
  clear hp ho hb3 HB
  go_wp2_with fail
  go_ret
  exact ⟨_, rfl, HO.out, HB3.out⟩

set_option maxHeartbeats 4000000 in
theorem field_text (t : Nat) (n : Int) (b : ByteArray) (w : World) (h1 : 1 ≤ t) (h2 : t ≤ 500) (h3 : b.size ≤ 4096) :
    Calls Try.prog 35 #[.agg #[.int .i64 (t : Int), .int .i64 1, .int .i64 n, .string b]] w fun e w' => ∃ v, e = .returned v ∧
      w'.ownsRow w.heap.size 5 1 v (digs (2 * t + 1) ++ (digs b.size ++ bytesN b)).length (byteCells (digs (2 * t + 1) ++ (digs b.size ++ bytesN b))) ∧ Below w.heap.size w w' := by
  obtain ⟨i0, hi, hz0, hz1, hz2⟩ := info_parts infoByte
  have l1 := digs_len64 (2 * t + 1) (by omega)
  have HL2 : Hid ((digs b.size).length ≤ 10) := (digs_len64 b.size (by omega)).2
  have HW : Hid (IntKind.u64.wrap (b.size : Int) = (b.size : Int)) := by show _ = _; rw [IntKind.wrap_u64]; omega
  obtain ⟨R, hR⟩ : ∃ R, digs (2 * t + 1) ++ (digs b.size ++ bytesN b) = R := ⟨_, rfl⟩
  rw [hR]
  have HR : Hid (digs (2 * t + 1) ++ (digs b.size ++ bytesN b) = R) := hR
  clear hR
  go_enter Try.func35, Try.ntmps35
  go_wp2_with fail
  refine (put_nil (2 * t + 1) _ (by omega) _ (by omega)).mono ?_
  rintro e w1 ⟨g, cap, rfl, hg1, hg2, hc, hm, hh, hb⟩
  have hb0 : Below w.heap.size w w1 := (below_one w _).trans (hb.mono (by simp))
  generalize digs (2 * t + 1) = ds at *
  have hcell : w1.cell? ⟨w.heap.size, 1, none⟩ = some (.int .i64 1) := by rw [hb.cell (by simp)]; simp
  have HC3 : Hid (w1.cell? ⟨w.heap.size, 3, none⟩ = some (.string b)) := by show _ = _; rw [hb.cell (by simp)]; simp
  have HH : Hid (Holds w1 (some ⟨g, 0, none⟩) ds) := hh
  have HB : Hid (Below w.heap.size w w1) := hb0
  have hlt : w.heap.size < w1.heap.size := by have := hb.size; simp at this; omega
  obtain ⟨N, hN⟩ : ∃ N, ds.length = N := ⟨_, rfl⟩
  rw [hN] at hc l1 ⊢
  have HN : Hid (ds.length = N) := hN
  clear hh hb hb0 hN
  go_wp2_with fail
  have hS : Below w1.heap.size w1 w1.drew := (Below.refl _ _).drew
  have HCC : Hid (∀ W, Below w1.heap.size w1 W → W.cell? ⟨w.heap.size, 3, none⟩ = some (.string b)) := fun W hW => by rw [hW.cell hlt]; exact HC3.out
  refine wp_region_held_drew (S := fun w' => Below w1.heap.size w1 w') (by kernel_rfl) hS (fun hS => ?_)
  refine rg_take 0 20 (.slice (some ⟨g, 0, none⟩) N cap) _ rfl rfl (by kernel_rfl) (by kernel_rfl) (by kernel_rfl) (fun _ _ _ h => h) (by rfl) (fun w' hw' => ?_) hS (listed' := #[true, false, false, false, false, false, false, false, false, false]) (by kernel_rfl) rfl ?_
  · go_simp
  simp only [List.setIfInBounds_toArray, List.set_cons_zero, List.set_cons_succ]
  refine rg_take 1 21 (.pointer (some ⟨w.heap.size, 3, none⟩)) _ rfl rfl (by kernel_rfl) (by kernel_rfl) (by kernel_rfl) (fun _ _ _ h => h) (by rfl) (fun w' hw' => ?_) hS (listed' := #[true, true, false, false, false, false, false, false, false, false]) (by kernel_rfl) rfl ?_
  · go_simp
  simp only [List.setIfInBounds_toArray, List.set_cons_zero, List.set_cons_succ]
  refine rg_take 2 22 (.string b) _ rfl rfl (by kernel_rfl) (by kernel_rfl) (by kernel_rfl) (fun _ _ _ h => h) (by rfl) (fun w' hw' => ?_) hS (listed' := #[true, true, true, false, false, false, false, false, false, false]) (by kernel_rfl) rfl ?_
  · have hcv := HCC.out w' hw'; go_simp
  simp only [List.setIfInBounds_toArray, List.set_cons_zero, List.set_cons_succ]
  refine rg_take 3 23 (.int .i64 (b.size : Int)) _ rfl rfl (by kernel_rfl) (by kernel_rfl) (by kernel_rfl) (fun _ _ _ h => h) (by rfl) (fun w' hw' => ?_) hS (listed' := #[true, true, true, true, false, false, false, false, false, false]) (by kernel_rfl) rfl ?_
  · go_simp
  simp only [List.setIfInBounds_toArray, List.set_cons_zero, List.set_cons_succ]
  refine rg_take 4 24 (.int .u64 (b.size : Int)) _ rfl rfl (by kernel_rfl) (by kernel_rfl) (by kernel_rfl) (fun _ _ _ h => h) (by rfl) (fun w' hw' => ?_) hS (listed' := #[true, true, true, true, true, false, false, false, false, false]) (by kernel_rfl) rfl ?_
  · have hwr := HW.out; go_simp
  simp only [List.setIfInBounds_toArray, List.set_cons_zero, List.set_cons_succ]
  refine rg_take 6 26 (.pointer (some ⟨w.heap.size, 3, none⟩)) _ rfl rfl (by kernel_rfl) (by kernel_rfl) (by kernel_rfl) (fun _ _ _ h => h) (by rfl) (fun w' hw' => ?_) hS (listed' := #[true, true, true, true, true, false, true, false, false, false]) (by kernel_rfl) rfl ?_
  · go_simp
  simp only [List.setIfInBounds_toArray, List.set_cons_zero, List.set_cons_succ]
  refine rg_take 7 27 (.string b) _ rfl rfl (by kernel_rfl) (by kernel_rfl) (by kernel_rfl) (fun _ _ _ h => h) (by rfl) (fun w' hw' => ?_) hS (listed' := #[true, true, true, true, true, false, true, true, false, false]) (by kernel_rfl) rfl ?_
  · have hcv := HCC.out w' hw'; go_simp
  simp only [List.setIfInBounds_toArray, List.set_cons_zero, List.set_cons_succ]
  refine rg_call 5 25 48 #[.slice (some ⟨g, 0, none⟩) N cap, .int .u64 (b.size : Int)] rfl rfl (by kernel_rfl) (by rfl) (listed' := #[true, true, true, true, true, true, true, true, false, false]) (by kernel_rfl) (fun w' => ?_) ?_
  · go_simp
  have hp := put_any (some ⟨g, 0, none⟩) ds cap b.size w1.drew (fun h => by cases h) (by rw [HN.out]; exact hc) hm (by rw [HN.out]; omega) (HH.out.below hS) (by omega)
  rw [HN.out] at hp
  refine hp.mono ?_
  rintro e w3 ⟨r, rfl, ho, hb3⟩
  have hS3 : Below w1.heap.size w1 w3 := hS.trans (hb3.mono hS.size)
  refine ⟨_, rfl, hS3, ?_⟩
  have ho3 := own_mono ho (Nat.le_trans HB.out.size hS.size)
  obtain ⟨v', w4, hr, h24, h34, _⟩ := Lib.run_append_own_string (P := Try.prog) w3 w.heap.size 29 9 29 5 i0 Try.underlying29 Try.underlying9 hi hz0 hz1 hz2 r _ _ ho3 b (by have := HL2.out; have := HN.out; unfold maxLen; simp; omega) (by have := HL2.out; have := HN.out; simp; omega) (Nat.le_trans HB.out.size hS3.size)
  have hS4 : Below w1.heap.size w1 w4 := hS3.grown h34 hS3.size (fun k hk => Nat.le_trans hS.size (ho.lt k hk).1)
  have HO4 : Hid (w4.ownsRow w.heap.size 5 1 v' R.length (byteCells R)) := by
    show World.ownsRow _ _ _ _ _ _ _
    have e : (ds ++ digs b.size).length + b.size = R.length := by rw [← HR.out]; simp [bytesN_len]; omega
    rw [strCells_bytes, ← byteCells_app, List.append_assoc, HR.out, e] at h24
    exact h24
  have HB4 : Hid (Below w.heap.size w w4) := HB.out.trans (hS4.mono HB.out.size)
  clear ho ho3 hb3 hp h24 h34
  simp only [List.setIfInBounds_toArray, List.set_cons_zero, List.set_cons_succ]
  refine rg_run 8 28 v' w4 rfl rfl (by kernel_rfl) (by rfl) (listed' := #[true, true, true, true, true, true, true, true, true, false]) (by kernel_rfl) ?_ hS4 ?_
  · exact append_run rfl rfl rfl hr
  simp only [List.setIfInBounds_toArray, List.set_cons_zero, List.set_cons_succ]
  have hS := hS4
  refine rg_take 9 2 v' _ rfl rfl (by kernel_rfl) (by kernel_rfl) (by kernel_rfl) (fun _ _ _ h => h) (by rfl) (fun w' hw' => ?_) hS (listed' := #[true, true, true, true, true, true, true, true, true, true]) (by kernel_rfl) rfl ?_
  · go_simp
  simp only [List.setIfInBounds_toArray, List.set_cons_zero, List.set_cons_succ]
  refine wpAnyH_done (by kernel_rfl) ?_ _
  clear hr
  go_wp2_with fail
  go_ret
  exact ⟨_, rfl, HO4.out, HB4.out⟩

/-- The bytes of a field that may be. -/
theorem field_any (r : Fd) (w : World) (h : okF r = true) (hn : Is64 r.n) :
    Calls Try.prog 35 #[r.val] w fun e w' => ∃ v, e = .returned v ∧ w'.ownsRow w.heap.size 5 1 v (fieldN r).length (byteCells (fieldN r)) ∧ Below w.heap.size w w' := by
  rcases ok_cases h hn with ⟨t, n, rfl, h1, h2, h3⟩ | ⟨t, b, rfl, h1, h2, h3⟩
  · rw [fieldN_num]; exact field_num t n _ w h1 h2 h3.1 h3.2
  · rw [fieldN_text]; exact field_text t 0 b w h1 h2 h3
end Go.Proofs.Ytkmdaopmmfdpgaa

/- What PutAll answers: all fields' bytes. -/
namespace Go.Proofs.Ytkmdaopmmfdpgaa
open Go.ChangeShapes Go.WideShapes Go.ChangeAt Go.RowKit
set_option linter.unusedVariables false
set_option linter.unusedSimpArgs false
set_option maxRecDepth 20000

theorem all_take_snoc {rs : List Fd} {i : Nat} {r : Fd} (h : rs[i]? = some r) : rs.take (i + 1) = rs.take i ++ [r] := by
  rw [List.take_add_one, h]; rfl
theorem all_bad {rs : List Fd} {i : Nat} {r : Fd} (h : rs[i]? = some r) (hr : okF r = false) : rs.all okF = false := by
  rw [List.all_eq_false]
  exact ⟨r, List.mem_of_getElem? h, by simp [hr]⟩
theorem flat_take_le (rs : List Fd) (i : Nat) : (flatN (rs.take i)).length ≤ (flatN rs).length := by
  conv => rhs; rw [← List.take_append_drop i rs, flatN_app, List.length_append]
  omega

set_option maxHeartbeats 2000000 in
theorem wputall_any (a : Option Addr) (rs : List Fd) (N cap : Nat) (w : World) (hN : rs.length = N) (hadr : rs = [] ∨ ∃ g off, a = some ⟨g, off, none⟩) (hc : N ≤ cap) (hm : cap ≤ maxLen) (hl : N ≤ 1000000) (hh : HoldsR w a rs) (h64 : ∀ r ∈ rs, Is64 r.n) :
    Calls Try.prog 26 #[.slice a N cap] w fun e w' => ∃ v, e = .returned (.tuple #[v, .int .i64 ((putL rs).2 : Int)]) ∧ w'.ownsRow w.heap.size 5 1 v (putL rs).1.length (byteCells (putL rs).1) ∧ Below w.heap.size w w' := by
  have HN : Hid (rs.length = N) := hN
  have HA : Hid (rs = [] ∨ ∃ g off, a = some ⟨g, off, none⟩) := hadr
  have HH : Hid (HoldsR w a rs) := hh
  have H64 : Hid (∀ r ∈ rs, Is64 r.n) := h64
  obtain ⟨R, hR⟩ : ∃ R, putL rs = R := ⟨_, rfl⟩
  rw [hR]
  have HR : Hid (putL rs = R) := hR
  unfold maxLen at hm
  clear hN hadr hh h64 hR
  go_enter Try.func26, Try.ntmps26
  go_wp2_with fail
  go_loopw [11] (fun iv wr => ∃ i : Nat, iv = .int .i64 (i : Int) ∧ i ≤ N ∧ Hid ((rs.take i).all okF = true) ∧ Below w.heap.size w wr) (fun iv _ => N - (intOf iv).toNat)
  case atStart => exact ⟨0, rfl, by omega, (by rfl : ((rs.take 0).all okF = true)), Below.refl _ _⟩
  case round =>
    obtain ⟨i, rfl, hi, HT, hbel⟩ := hrel
    have hws := hbel.size
    by_cases hlt : i < N
    · have hr : rs[i]? = some (rs[i]'(by rw [HN.out]; exact hlt)) := List.getElem?_eq_getElem _
      generalize rs[i]'(by rw [HN.out]; exact hlt) = r at hr
      rcases HA.out with h0 | ⟨g, off, rfl⟩
      · exact absurd hlt (by have := HN.out; rw [h0] at this; simp at this; omega)
      obtain ⟨p0, p1, p2, p3⟩ := (HH.out.below hbel).at hr
      have HK : Hid (rs[i]? = some r) := hr
      obtain ⟨ok, hok⟩ : ∃ b, okF r = b := ⟨_, rfl⟩
      have HOK : Hid (okF r = ok) := hok
      have HCK : Hid (∀ W, Calls Try.prog 34 #[.agg #[.int .i64 r.tag, .int .i64 r.wire, .int .i64 r.n, .string r.b]] W fun e w' => e = .returned (.bool ok) ∧ Below W.heap.size W w') := fun W => by rw [← hok]; exact check_any r W
      clear hr hok
      generalize r.tag = t at p0 HCK
      generalize r.wire = k at p1 HCK
      generalize r.n = n at p2 HCK
      generalize r.b = b at p3 HCK
      go_wp2_with fail
      refine (HCK.out _).mono ?_
      rintro e w1 ⟨rfl, hb1⟩
      have hb1' : Below w.heap.size w w1 := (hbel.alloc hws _).trans (hb1.mono (by simp; omega))
      clear hb1 p0 p1 p2 p3 HCK hbel
      cases ok with
      | true =>
        have HT2 : Hid ((rs.take (i + 1)).all okF = true) := by
          show _ = _
          rw [all_take_snoc HK.out, List.all_append, HT.out, List.all_cons, HOK.out, List.all_nil]
          rfl
        clear HT HK HOK
        go_wp2_with fail
        go_roundw
        case rel => exact ⟨i + 1, by go_num, by omega, HT2, hb1'⟩
        case measure => simp [intOf]; omega
      | false =>
        obtain rfl : R = ([], 1) := by rw [← HR.out]; exact putL_bad (all_bad HK.out HOK.out)
        clear HT HK HOK HR
        go_wp2_with fail
        go_ret2
        exact ⟨_, rfl, World.ownsRow_nil _ _ _ _, hb1'⟩
    · obtain rfl : i = N := by omega
      have HALL : Hid (rs.all okF = true) := by
        have := HT.out
        rw [List.take_of_length_le (by rw [HN.out]; exact Nat.le_refl _)] at this
        exact this
      clear HT
      go_wp2_with fail
      go_loopw [6, 21] (fun out iv wr' => ∃ i' : Nat, iv = .int .i64 (i' : Int) ∧ i' ≤ i ∧ Hid ((flatN (rs.take i')).length ≤ 4096) ∧ Hid (wr'.ownsRow w.heap.size 5 1 out (flatN (rs.take i')).length (byteCells (flatN (rs.take i')))) ∧ Below w.heap.size w wr') (fun _ iv _ => i - (intOf iv).toNat)
      case atStart => exact ⟨0, rfl, by omega, (by rw [List.take_zero, flatN_nil]; decide : (flatN (rs.take 0)).length ≤ 4096), by rw [List.take_zero, flatN_nil]; exact World.ownsRow_nil _ _ _ _, hbel⟩
      case round =>
        obtain ⟨j, rfl, hj, HL, HO, hbel2⟩ := hrel
        have hws2 := hbel2.size
        by_cases hlt2 : j < i
        · have hr : rs[j]? = some (rs[j]'(by rw [HN.out]; exact hlt2)) := List.getElem?_eq_getElem _
          generalize rs[j]'(by rw [HN.out]; exact hlt2) = r at hr
          rcases HA.out with h0 | ⟨g, off, rfl⟩
          · exact absurd hlt2 (by have := HN.out; rw [h0] at this; simp at this; omega)
          obtain ⟨p0, p1, p2, p3⟩ := (HH.out.below hbel2).at hr
          have hmem : r ∈ rs := List.mem_of_getElem? hr
          have hrok : okF r = true := List.all_eq_true.1 HALL.out r hmem
          have hr64 := H64.out r hmem
          have hfl := (fieldN_len hrok hr64).2
          have HFD : Hid (∀ W, Calls Try.prog 35 #[.agg #[.int .i64 r.tag, .int .i64 r.wire, .int .i64 r.n, .string r.b]] W fun e w' => ∃ v, e = .returned v ∧ w'.ownsRow W.heap.size 5 1 v (fieldN r).length (byteCells (fieldN r)) ∧ Below W.heap.size W w') := fun W => field_any r W hrok hr64
          have HF1 : Hid (flatN (rs.take (j + 1)) = flatN (rs.take j) ++ fieldN r) := by
            show _ = _
            rw [all_take_snoc hr, flatN_app, flatN_cons, flatN_nil, List.append_nil]
          clear hr hmem hrok hr64
          generalize r.tag = t at p0 HFD
          generalize r.wire = k at p1 HFD
          generalize r.n = n at p2 HFD
          generalize r.b = b at p3 HFD
          generalize fieldN r = fs at *
          have HLF : Hid (fs.length ≤ 4116) := hfl
          clear hfl
          obtain ⟨F, hF⟩ : ∃ F, flatN (rs.take j) = F := ⟨_, rfl⟩
          rw [hF] at HL HO HF1
          clear hF
          go_wp2_with fail
          refine (HFD.out _).mono ?_
          rintro e w1 ⟨v1, rfl, ho1, hb1⟩
          have hb1' : Below w.heap.size w w1 := (hbel2.alloc hws2 _).trans (hb1.mono (by simp; omega))
          have HO1 := own_belowH HO ((below_one _ _).trans (hb1.mono (by simp)))
          obtain ⟨a2, cap2, rfl, -, h21, h22, h23, h24⟩ := own_open ho1
          have HH2 : Hid (Holds w1 a2 fs) := h24
          have HA2 : Hid (a2 = none → fs = [] ∧ cap2 = 0) := by
            rcases h21 with h | ⟨g', h, _⟩
            · exact fun _ => ⟨h.2.1, h.2.2⟩
            · exact fun e => by rw [h] at e; cases e
          clear HO ho1 hb1 h21 h22 h23 h24 p0 p1 p2 p3 HFD hbel2
          obtain ⟨M, hM⟩ : ∃ M, fs.length = M := ⟨_, rfl⟩
          rw [hM]
          have HM : Hid (M = fs.length) := hM.symm
          clear hM
          go_wp2_with (first
            | (at_builtin; refine wpList_join rfl _ _ rfl w.heap.size _ _ F rfl HO1.out a2 fs M cap2 rfl HM.out HA2.out HH2.out ?c1 ?c2 ?_)
            | fail)
          case c1 => have := HL.out; have := HLF.out; omega
          case c2 => exact hb1'.size
          intro v3 w3 ho3 hg3
          have hb3 : Below w.heap.size w w3 := hb1'.grown hg3 hb1'.size (fun k hk => (HO1.out.lt k hk).1)
          obtain ⟨a3, cap3, rfl, -, h31, h32, h33, h34⟩ := own_open ho3
          have e0 : F.length + fs.length = (flatN (rs.take (j + 1))).length := by rw [HF1.out, List.length_append]
          rw [← HF1.out] at ho3 ⊢
          rw [e0] at ho3
          clear e0
          have HO3 : Hid (w3.ownsRow w.heap.size 5 1 (.slice a3 (flatN (rs.take (j + 1))).length cap3) (flatN (rs.take (j + 1))).length (byteCells (flatN (rs.take (j + 1))))) := ho3
          clear ho3 hg3 h31 h32 h33 h34 HO1 HH2 HA2 HM HL HLF HF1 hb1'
          by_cases hbig : 4096 < (flatN (rs.take (j + 1))).length
          · obtain rfl : R = ([], 4) := by rw [← HR.out]; exact putL_big HALL.out (Nat.lt_of_lt_of_le hbig (flat_take_le rs _))
            clear HR HO3
            generalize (flatN (rs.take (j + 1))).length = L at *
            go_wp2_with fail
            go_ret2
            exact ⟨_, rfl, World.ownsRow_nil _ _ _ _, hb3⟩
          · have HL3 : Hid ((flatN (rs.take (j + 1))).length ≤ 4096) := by show _ ≤ _; omega
            obtain ⟨L, hLL⟩ : ∃ L, (flatN (rs.take (j + 1))).length = L := ⟨_, rfl⟩
            have hbig' : ¬ 4096 < L := by omega
            rw [hLL]
            have HLL : Hid ((flatN (rs.take (j + 1))).length = L) := hLL
            clear hbig hLL
            go_wp2_with fail
            go_roundw
            case rel => exact ⟨j + 1, by go_num, by omega, HL3, by rw [← HLL.out]; exact HO3, hb3⟩
            case measure => simp [intOf]; omega
        · obtain rfl : j = i := by omega
          have hF : flatN (rs.take j) = flatN rs := by rw [List.take_of_length_le (by rw [HN.out]; exact Nat.le_refl _)]
          rw [hF] at HL HO
          obtain rfl : R = (flatN rs, 0) := by rw [← HR.out]; exact putL_ok HALL.out HL.out
          clear HR hF
          go_wp2_with fail
          go_ret2
          exact ⟨_, rfl, HO.out, hbel2⟩
end Go.Proofs.Ytkmdaopmmfdpgaa

/- Split from WrOwn. -/
namespace Go.Proofs.Ytkmdaopmmfdpgaa
open Go.ChangeShapes Go.WideShapes Go.ChangeAt Go.RowKit
set_option linter.unusedVariables false
set_option linter.unusedSimpArgs false
set_option maxRecDepth 20000

theorem own_adr {B : Nat} {w : World} {a : Option Addr} {cap : Nat} {ns : List Nat} (h : (a = none ∧ ns = [] ∧ cap = 0) ∨ ∃ g, a = some ⟨g, 0, none⟩ ∧ B ≤ g ∧ g < w.heap.size) : ns = [] ∨ ∃ g off, a = some ⟨g, off, none⟩ := by
  rcases h with h | ⟨g, h, _⟩
  · exact .inl h.2.1
  · exact .inr ⟨g, 0, h⟩
theorem own_nil {B : Nat} {w : World} {a : Option Addr} {cap : Nat} {ns : List Nat} (h : (a = none ∧ ns = [] ∧ cap = 0) ∨ ∃ g, a = some ⟨g, 0, none⟩ ∧ B ≤ g ∧ g < w.heap.size) : a = none → ns = [] := by
  rcases h with h | ⟨g, h, _⟩
  · exact fun _ => h.2.1
  · exact fun e => by rw [h] at e; cases e
theorem own_adrR {B : Nat} {w : World} {a : Option Addr} {cap : Nat} {rs : List Fd} (h : (a = none ∧ rs = [] ∧ cap = 0) ∨ ∃ g, a = some ⟨g, 0, none⟩ ∧ B ≤ g ∧ g < w.heap.size) : rs = [] ∨ ∃ g off, a = some ⟨g, off, none⟩ := by
  rcases h with h | ⟨g, h, _⟩
  · exact .inl h.2.1
  · exact .inr ⟨g, 0, h⟩
theorem own_nilR {B : Nat} {w : World} {a : Option Addr} {cap : Nat} {rs : List Fd} (h : (a = none ∧ rs = [] ∧ cap = 0) ∨ ∃ g, a = some ⟨g, 0, none⟩ ∧ B ≤ g ∧ g < w.heap.size) : a = none → rs = [] ∧ cap = 0 := by
  rcases h with h | ⟨g, h, _⟩
  · exact fun _ => h.2
  · exact fun e => by rw [h] at e; cases e

/-- The text of bytes of the call's own. -/
theorem conv_own {B : Nat} {w : World} {r : Value} {n : Nat} {ns : List Nat} (ho : w.ownsRow B 5 1 r n (byteCells ns)) : (convert 29 9 r).run Try.prog w = .ok (.string (strN ns)) w := by
  obtain ⟨a, cap, rfl, -, h1, h2, h3, h4⟩ := own_open ho
  exact conv_holds w a ns cap (own_nil h1) h4
end Go.Proofs.Ytkmdaopmmfdpgaa

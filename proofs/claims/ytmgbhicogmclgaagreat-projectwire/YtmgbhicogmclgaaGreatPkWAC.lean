/- Part 3 of what the proof stands on. -/
import Derived.Test.YtmgbhicogmclgaaGreatPkWAB
import Derived.OrdersHeld
import Derived.Deep.RegionHeld3
import Derived.Maps.AppendAt
import Derived.Laws.AppendOwnNone
import Derived.OwnWalk
namespace Go.Proofs.YtmgbhicogmclgaaGreat
set_option maxHeartbeats 8000000
set_option linter.unusedVariables false
set_option linter.unusedSimpArgs false
set_option maxRecDepth 20000
section
open Go.ChangeShapes Go.WideShapes Go.ChangeAt Go.RowKit
def flRows (fs : List FlS) : List (List Value) := fs.map FlS.cells
def inRows (ns : List Int) : List (List Value) := ns.map fun n => [.int .i64 n]
def nmRows (vs : List NmS) : List (List Value) := vs.map NmS.cells
def mtRows (ms : List MtS) : List (List Value) := ms.map MtS.cells
def MsIn (w : World) (v : Value) (ms : List MsS) : Prop := ∃ rows : List (List Value),RowG w v 3 rows ∧ rows.length = ms.length ∧
 ∀ (i : Nat) (m : MsS),ms[i]? = some m → ∃ vf vr,rows[i]? = some [.string m.name,vf,vr] ∧ RowG w vf 5 (flRows m.fields) ∧ RowG w vr 1 (inRows m.reserved)
def EnIn (w : World) (v : Value) (es : List EnS) : Prop := ∃ rows : List (List Value),RowG w v 2 rows ∧ rows.length = es.length ∧
 ∀ (i : Nat) (e : EnS),es[i]? = some e → ∃ vv,rows[i]? = some [.string e.name,vv] ∧ RowG w vv 2 (nmRows e.values)
def ScIn (w : World) (v : Value) (s : ScS) : Prop := ∃ vm ve vt,v = .agg #[.string s.name,vm,ve,vt] ∧ MsIn w vm s.msgs ∧ EnIn w ve s.enums ∧ RowG w vt 3 (mtRows s.methods)
theorem MsIn.below {w w1 : World} {v : Value} {ms : List MsS} (h : MsIn w v ms) (hb : Below w.heap.size w w1) : MsIn w1 v ms := by
 obtain ⟨rows,h1,h2,h3⟩ := h;refine ⟨rows,h1.below hb,h2,fun i m hm => ?_⟩;obtain ⟨vf,vr,g1,g2,g3⟩ := h3 i m hm;exact ⟨vf,vr,g1,g2.below hb,g3.below hb⟩
theorem EnIn.below {w w1 : World} {v : Value} {es : List EnS} (h : EnIn w v es) (hb : Below w.heap.size w w1) : EnIn w1 v es := by
 obtain ⟨rows,h1,h2,h3⟩ := h;refine ⟨rows,h1.below hb,h2,fun i m hm => ?_⟩;obtain ⟨vv,g1,g2⟩ := h3 i m hm;exact ⟨vv,g1,g2.below hb⟩
theorem ScIn.below {w w1 : World} {v : Value} {s : ScS} (h : ScIn w v s) (hb : Below w.heap.size w w1) : ScIn w1 v s := by
 obtain ⟨vm,ve,vt,h1,h2,h3,h4⟩ := h;exact ⟨vm,ve,vt,h1,h2.below hb,h3.below hb,h4.below hb⟩
theorem MsIn.open {w : World} {v : Value} {ms : List MsS} (h : MsIn w v ms) : ∃ a cap,v = .slice a ms.length cap ∧ ms.length ≤ cap ∧ cap ≤ maxLen ∧ (ms ≠ [] → ∃ g off,a = some ⟨g,off,none⟩) ∧
  ∀ g off,a = some ⟨g,off,none⟩ → ∀ (i : Nat) (m : MsS),ms[i]? = some m → ∃ vf vr,w.cell? ⟨g,off + i * 3,none⟩ = some (.string m.name) ∧ w.cell? ⟨g,off + i * 3 + 1,none⟩ = some vf ∧ w.cell? ⟨g,off + i * 3 + 2,none⟩ = some vr ∧ RowG w vf 5 (flRows m.fields) ∧ RowG w vr 1 (inRows m.reserved) := by
 obtain ⟨rows,h1,h2,h3⟩ := h;obtain ⟨a,cap,e1,e2,e3,e4,e5⟩ := h1.open;rw [h2] at e1 e2;refine ⟨a,cap,e1,e2,e3,fun hne => e4 (fun e => ?_),fun g off ha i m hm => ?_⟩
 ·rw [e] at h2; exact hne (List.eq_nil_of_length_eq_zero h2.symm)
 ·obtain ⟨vf,vr,g1,g2,g3⟩ := h3 i m hm;exact ⟨vf,vr,e5 g off ha i _ g1 0 _ rfl,e5 g off ha i _ g1 1 _ rfl,e5 g off ha i _ g1 2 _ rfl,g2,g3⟩
theorem EnIn.open {w : World} {v : Value} {es : List EnS} (h : EnIn w v es) : ∃ a cap,v = .slice a es.length cap ∧ es.length ≤ cap ∧ cap ≤ maxLen ∧ (es ≠ [] → ∃ g off,a = some ⟨g,off,none⟩) ∧
  ∀ g off,a = some ⟨g,off,none⟩ → ∀ (i : Nat) (e : EnS),es[i]? = some e → ∃ vv,w.cell? ⟨g,off + i * 2,none⟩ = some (.string e.name) ∧ w.cell? ⟨g,off + i * 2 + 1,none⟩ = some vv ∧ RowG w vv 2 (nmRows e.values) := by
 obtain ⟨rows,h1,h2,h3⟩ := h;obtain ⟨a,cap,e1,e2,e3,e4,e5⟩ := h1.open;rw [h2] at e1 e2;refine ⟨a,cap,e1,e2,e3,fun hne => e4 (fun e => ?_),fun g off ha i m hm => ?_⟩
 ·rw [e] at h2; exact hne (List.eq_nil_of_length_eq_zero h2.symm)
 ·obtain ⟨vv,g1,g2⟩ := h3 i m hm;exact ⟨vv,e5 g off ha i _ g1 0 _ rfl,e5 g off ha i _ g1 1 _ rfl,g2⟩
theorem MsIn.get {w : World} {a : Option Addr} {N cap : Nat} {ms : List MsS} (h : MsIn w (.slice a N cap) ms) {i : Nat} {m : MsS} (hi : ms[i]? = some m) : ∃ g off vf vr,a = some ⟨g,off,none⟩ ∧ w.cell? ⟨g,off + i * 3,none⟩ = some (.string m.name) ∧ w.cell? ⟨g,off + i * 3 + 1,none⟩ = some vf ∧ w.cell? ⟨g,off + i * 3 + 2,none⟩ = some vr ∧ RowG w vf 5 (flRows m.fields) ∧ RowG w vr 1 (inRows m.reserved) := by
 obtain ⟨a',cap',e1,e2,e3,e4,e5⟩ := h.open;simp only [Value.slice.injEq] at e1;obtain ⟨rfl,_,_⟩ := e1;obtain ⟨g,off,rfl⟩ := e4 (by intro e; rw [e] at hi; simp at hi);obtain ⟨vf,vr,h1,h2,h3,h4,h5⟩ := e5 g off rfl i m hi;exact ⟨g,off,vf,vr,rfl,h1,h2,h3,h4,h5⟩
theorem EnIn.get {w : World} {a : Option Addr} {N cap : Nat} {ms : List EnS} (h : EnIn w (.slice a N cap) ms) {i : Nat} {m : EnS} (hi : ms[i]? = some m) : ∃ g off vv,a = some ⟨g,off,none⟩ ∧ w.cell? ⟨g,off + i * 2,none⟩ = some (.string m.name) ∧ w.cell? ⟨g,off + i * 2 + 1,none⟩ = some vv ∧ RowG w vv 2 (nmRows m.values) := by
 obtain ⟨a',cap',e1,e2,e3,e4,e5⟩ := h.open;simp only [Value.slice.injEq] at e1;obtain ⟨rfl,_,_⟩ := e1;obtain ⟨g,off,rfl⟩ := e4 (by intro e; rw [e] at hi; simp at hi);obtain ⟨vv,h1,h2,h3⟩ := e5 g off rfl i m hi;exact ⟨g,off,vv,rfl,h1,h2,h3⟩
theorem MsIn.form2 {w : World} {v : Value} {ms : List MsS} (h : MsIn w v ms) : ∃ a cap,v = .slice a ms.length cap ∧ ms.length ≤ cap ∧ cap ≤ 9223372036854775807 := by
 obtain ⟨a',cap',e1,e2,e3,_⟩ := h.open;exact ⟨a',cap',e1,e2,by unfold maxLen at e3; omega⟩
theorem EnIn.form2 {w : World} {v : Value} {ms : List EnS} (h : EnIn w v ms) : ∃ a cap,v = .slice a ms.length cap ∧ ms.length ≤ cap ∧ cap ≤ 9223372036854775807 := by
 obtain ⟨a',cap',e1,e2,e3,_⟩ := h.open;exact ⟨a',cap',e1,e2,by unfold maxLen at e3; omega⟩
end
section
theorem rg_take {P : Program} {md : Region.Mode} {ops : Array Oper} {Q : Exit → Act → World → Prop} {S : World → Prop} {oi : Oper} {fuel : Nat} {listed listed' : Array Bool} {a : Act} {w : World} (i d : Nat) (v : Value) (tmps' : Array Value) (hi : ops[i]? = some oi) (hd : oi.dst = some d)
  (hs : Region.noSelect ops = true) (hf : Region.free md ops listed i = true) (hr : (Region.ready md ops listed).contains i = true)
  (hQ : ∀ c a w,Q (.panic c) (a.put oi.dst v) w → Q (.panic c) a w) (hwt : Region.wanted oi (yielded ops a.tmps) = true) (hy : ∀ w,S w → (execOp a.eval oi).run P w = .ok (.value v) w) (hS : S w)
  (hl : listed.setIfInBounds i true = listed') (ht : a.tmps.setIfInBounds d v = tmps')
  (h : wpAnyH P md ops Q S fuel listed' { a with tmps := tmps' } w) : wpAnyH P md ops Q S (fuel + 1) listed a w := by
 subst hl ht;refine wpAnyH_take hi hs hf hr hQ (.inl ⟨hwt,hy⟩) hS ?_;rw [hd];exact h
theorem rg_tk {P : Program} {md : Region.Mode} {ops : Array Oper} {Q : Exit → Act → World → Prop} {S : World → Prop} {oi : Oper} {fuel : Nat} {listed : Array Bool} {a : Act} {w : World} (i d : Nat) (v : Value) {tmps' : Array Value} (hy : ∀ w,S w → (execOp a.eval oi).run P w = .ok (.value v) w) (hS : S w) (listed' : Array Bool)
  (h : wpAnyH P md ops Q S fuel listed' { a with tmps := tmps' } w) (hi : ops[i]? = some oi := by rfl) (hd : oi.dst = some d := by rfl) (hs : Region.noSelect ops = true := by kernel_rfl) (hf : Region.free md ops listed i = true := by kernel_rfl) (hr : (Region.ready md ops listed).contains i = true := by kernel_rfl)
  (hQ : ∀ c a w,Q (.panic c) (a.put oi.dst v) w → Q (.panic c) a w := by exact fun _ _ _ h => h) (hwt : Region.wanted oi (yielded ops a.tmps) = true := by rfl) (hl : listed.setIfInBounds i true = listed' := by kernel_rfl) (ht : a.tmps.setIfInBounds d v = tmps' := by simp only [zsA,zsZ,zsS]; rfl) : wpAnyH P md ops Q S (fuel + 1) listed a w :=
 rg_take i d v tmps' hi hd hs hf hr hQ hwt hy hS hl ht h
theorem rg_call {P : Program} {md : Region.Mode} {ops : Array Oper} {Q : Exit → Act → World → Prop} {S : World → Prop} {oi : Oper} {fuel : Nat} {listed listed' : Array Bool} {a : Act} {w : World} (i d f : Nat) (vals : Array Value) (hi : ops[i]? = some oi) (hd : oi.dst = some d)
  (hr : Region.ready md ops listed = [i]) (hwt : Region.wanted oi (yielded ops a.tmps) = true) (hl : listed.setIfInBounds i true = listed') (hx : ∀ w,(execOp a.eval oi).run P w = .ok (.enter f vals) w)
  (h : Calls P f vals w fun e w' => ∃ v,e = .returned v ∧ S w' ∧ wpAnyH P md ops Q S fuel listed' { a with tmps := a.tmps.setIfInBounds d v } w') : wpAnyH P md ops Q S (fuel + 1) listed a w := by
 subst hl;refine wpAnyH_ready (rs := [i]) hr (by simp) (AllReadyH.cons hi (fun K hK => ?_) AllReadyH.nil);rw [if_pos hwt];unfold Oper.wp;rw [hx];refine Calls.mono h ?_;rintro e w' ⟨v,rfl,hS,h'⟩;refine hK.out _ _ hS (fun _ => ?_);rw [hd];exact h'
theorem rg_cl {P : Program} {md : Region.Mode} {ops : Array Oper} {Q : Exit → Act → World → Prop} {S : World → Prop} {oi : Oper} {fuel : Nat} {listed : Array Bool} {a : Act} {w : World} (i d f : Nat) (vals : Array Value) (listed' : Array Bool) (hi : ops[i]? = some oi) (hx : ∀ w,(execOp a.eval oi).run P w = .ok (.enter f vals) w)
  (h : Calls P f vals w fun e w' => ∃ v,e = .returned v ∧ S w' ∧ wpAnyH P md ops Q S fuel listed' { a with tmps := a.tmps.setIfInBounds d v } w') (hd : oi.dst = some d := by rfl) (hr : Region.ready md ops listed = [i] := by kernel_rfl) (hwt : Region.wanted oi (yielded ops a.tmps) = true := by rfl) (hl : listed.setIfInBounds i true = listed' := by kernel_rfl) : wpAnyH P md ops Q S (fuel + 1) listed a w :=
 rg_call i d f vals hi hd hr hwt hl hx h
theorem rg_run {P : Program} {md : Region.Mode} {ops : Array Oper} {Q : Exit → Act → World → Prop} {S : World → Prop} {oi : Oper} {fuel : Nat} {listed listed' : Array Bool} {a : Act} {w : World} (i d : Nat) (v : Value) (w' : World) (hi : ops[i]? = some oi) (hd : oi.dst = some d)
  (hr : Region.ready md ops listed = [i]) (hwt : Region.wanted oi (yielded ops a.tmps) = true) (hl : listed.setIfInBounds i true = listed') (hx : (execOp a.eval oi).run P w = .ok (.value v) w') (hS : S w')
  (h : wpAnyH P md ops Q S fuel listed' { a with tmps := a.tmps.setIfInBounds d v } w') : wpAnyH P md ops Q S (fuel + 1) listed a w := by
 subst hl;refine wpAnyH_ready (rs := [i]) hr (by simp) (AllReadyH.cons hi (fun K hK => ?_) AllReadyH.nil);rw [if_pos hwt];unfold Oper.wp;rw [hx];refine hK.out _ _ hS (fun _ => ?_);rw [hd];exact h
theorem append_run {P : Program} {a : Act} {w w' : World} {o : Oper} {s x : Operand} {t u : TypeId} {v y v' : Value} (ho : o.op = .call { callee := .builtin .append,args := #[s,x],argTypes := #[t,u] }) (hs : a.eval s = v) (hx : a.eval x = y)
  (hr : (Builtin.append_ #[t,u] o.type #[v,y]).run P w = .ok v' w') : (execOp a.eval o).run P w = .ok (.value v') w' := by
 unfold execOp;simp only [ho,resolve,invoke,builtin,Sem.run_bind,Sem.run_pure,Result.andThen_ok,List.map_toArray,List.map_cons,List.map_nil,hs,hx,hr]
end
section
open Go.ChangeShapes Go.WideShapes Go.ChangeAt Go.RowKit
theorem Apt.of_count {B : Nat} {w : World} {bs cs : List Nat} (h : Apt B w bs) (hc : ∀ k,cs.count k ≤ bs.count k) : Apt B w cs := by
 refine ⟨List.nodup_iff_count.2 fun a => Nat.le_trans (hc a) (List.nodup_iff_count.1 h.1 a),fun k hk => h.2 k ?_⟩;have := List.count_pos_iff.2 hk;exact List.count_pos_iff.1 (Nat.lt_of_lt_of_le this (hc k))
theorem Apt.new {B : Nat} {w w' : World} {bs : List Nat} (h : Apt B w bs) (hB : B ≤ w.heap.size) (hs : w.heap.size < w'.heap.size) : Apt B w' (bs ++ [w.heap.size]) := by
 refine Apt.append h (B' := w.heap.size) (cs := [w.heap.size]) ⟨by simp,by simp; exact hs⟩ hB (Nat.le_refl _) (Nat.le_of_lt hs)
theorem own_lt {w : World} {B : Nat} {e : TypeId} {s : Nat} {v : Value} {n : Nat} {xs : List Value} (h : w.ownsRow B e s v n xs) {k : Nat} (hk : v.ownBlock = some k) : B ≤ k ∧ k < w.heap.size := by
 rcases h.2 with ⟨rfl,_⟩ | ⟨g,cap,cur,rfl,h2,h3,_⟩
 ·simp [Value.ownBlock] at hk
 ·obtain rfl : g = k := by simpa [Value.ownBlock] using hk
  exact ⟨h2,(Array.getElem?_eq_some_iff.1 h3).1⟩
theorem grown_sm {w w' : World} {v : Value} {bs : List Nat} (hg : w.grownBy w' v.ownBlock) (hb : ∀ k ∈ bs,k < w.heap.size) (hv : ∀ k ∈ bs,k ∉ blkOf v) : Sm w w' bs := fun k hk => hg.block k (hb k hk) (fun e => hv k hk (mem_blkOf.2 e.symm))
theorem RowO.push {α : Type} {P : World → List Value → α → List Nat → Prop} {B e size : Nat} {w w' : World} {v v' : Value} {xs : List α} {rows : List (List Value)} {bss : List (List Nat)} (h : RowO P B e size w v xs rows bss) {r : List Value} {x : α} {b : List Nat}
  (ap : Apt B w (allB v bss ++ b)) (hown : w'.ownsRow B e size v' (xs.length + 1) (rows.flatten ++ r)) (hg : w.grownBy w' v.ownBlock) (hP : P w r x b) (hr : r.length = size) (loc : ∀ r x b,P w r x b → Sm w w' b → P w' r x b) :
  RowO P B e size w' v' (xs ++ [x]) (rows ++ [r]) (bss ++ [b]) := by
 have hcl : ∀ c,c ∈ bss ∨ c = b → Sm w w' c := fun c hc => by
  have hsub : ∀ k ∈ c,k ∈ bss.flatten ++ b := fun k hk => by
   rcases hc with hc | rfl
   ·exact List.mem_append.2 (.inl (List.mem_flatten.2 ⟨c,hc,hk⟩))
   ·exact List.mem_append.2 (.inr hk)
  have hn := ap.1;rw [allB,List.append_assoc] at hn;refine grown_sm hg (fun k hk => (ap.2 k (by rw [allB,List.append_assoc]; exact List.mem_append.2 (.inr (hsub k hk)))).2) fun k hk hv => ?_
  exact (List.nodup_append.1 hn).2.2 k hv k (hsub k hk) rfl
 refine ⟨by simpa using hown,by simp [h.len],by simp [h.blen],?_,fun i y hy => ?_⟩
 ·intro r' hr'
  rcases List.mem_append.1 hr' with h' | h'
  ·exact h.wide r' h'
  ·obtain rfl : r' = r := by simpa using h'
   exact hr
 ·by_cases hi : i < xs.length
  ·rw [List.getElem?_append_left hi] at hy;obtain ⟨r1,b1,e1,e2,e3⟩ := h.each i y hy;exact ⟨r1,b1,by rw [List.getElem?_append_left (by rw [h.len]; exact hi)]; exact e1,by rw [List.getElem?_append_left (by rw [h.blen]; exact hi)]; exact e2,loc _ _ _ e3 (hcl _ (.inl (List.mem_of_getElem? e2)))⟩
  ·rw [List.getElem?_append_right (by omega)] at hy
   obtain ⟨hi0,rfl⟩ : i - xs.length = 0 ∧ x = y := by
    cases hq : i - xs.length with
    | zero => rw [hq] at hy; simpa using hy
    | succ q => rw [hq] at hy; simp at hy
   refine ⟨r,b,?_,?_,loc _ _ _ hP (hcl _ (.inr rfl))⟩
   ·rw [List.getElem?_append_right (by rw [h.len]; omega),h.len,hi0]; rfl
   ·rw [List.getElem?_append_right (by rw [h.blen]; omega),h.blen,hi0]; rfl
theorem Apt.push {B : Nat} {w w' : World} {v v' : Value} {bss : List (List Nat)} {b more : List Nat} (ap : Apt B w (more ++ (allB v bss ++ b))) (hat : v'.ownBlock = v.ownBlock ∨ v'.ownBlock = some w.heap.size) {e : TypeId} {s n : Nat} {xs : List Value} (hown : w'.ownsRow B e s v' n xs) (hs : w.heap.size ≤ w'.heap.size) (hB : B ≤ w.heap.size) :
  Apt B w' (more ++ allB v' (bss ++ [b])) := by
 rcases hat with hat | hat
 ·refine (ap.mono hs).of_count fun k => ?_
  simp [allB,blkOf,hat,List.count_append]
 ·refine (ap.new hB (own_lt hown hat).2).of_count fun k => ?_
  simp only [allB,blkOf,hat,List.count_append,List.flatten_append,List.flatten_cons,List.flatten_nil,List.append_nil]
  omega
theorem RowO.nil {α : Type} (P : World → List Value → α → List Nat → Prop) (B e size : Nat) (w : World) : RowO P B e size w (.slice none 0 0) ([] : List α) [] [] :=
 ⟨World.ownsRow_nil w B e size,rfl,rfl,by simp,by simp⟩
theorem RowO.base {α : Type} {P Q : World → List Value → α → List Nat → Prop} {B B' e size : Nat} {w : World} {v : Value} {xs : List α} {rows : List (List Value)} {bss : List (List Nat)} (h : RowO P B e size w v xs rows bss) (hB : B' ≤ B) (hp : ∀ r x b,P w r x b → Q w r x b) : RowO Q B' e size w v xs rows bss :=
 ⟨own_base h.own hB,h.len,h.blen,h.wide,fun i x hx => by obtain ⟨r,b,h1,h2,h3⟩ := h.each i x hx; exact ⟨r,b,h1,h2,hp _ _ _ h3⟩⟩
theorem TrO.base : ∀ {n B B' : Nat} {w : World} {r : List Value} {t : Tr} {bs : List Nat},TrO n B w r t bs → B' ≤ B → TrO n B' w r t bs
 | 0,_,_,_,_,_,_,h,_ => h
 | n + 1,B,B',w,r,t,bs,h,hb => by
  obtain ⟨ve,vr,rows,bss,h1,h2,h3,h4,h5,h6,h7,rfl⟩ := h;refine ⟨ve,vr,rows,bss,h1,h2,h3,h4,h5,own_base h6 hb,h7.base hb fun r x b hp => ?_,rfl⟩;obtain ⟨vt,rows',bss',g1,g2,g3,rfl⟩ := hp;exact ⟨vt,rows',bss',g1,g2,g3.base hb fun r x b hp => hp.base hb,rfl⟩
theorem wpList_ran {ops : Array Oper} {rest : List Oper} {o : Oper} {a : Act} {w w' : World} {v : Value} {Q : Exit → Act → World → Prop} (hgd : o.guard = none) (hr : (execOp a.eval o).run Tryz.prog w = .ok (.value v) w') (h : wpList Tryz.prog ops Q rest (a.put o.dst v) w') : wpList Tryz.prog ops Q (o :: rest) a w :=
 wpList_plain hgd fun _ hK => by
  unfold Oper.wp;rw [hr,Oper.upon_value];exact hK _ _ h
theorem Apt.apart {B : Nat} {w : World} {a b : List Nat} (h : Apt B w (a ++ b)) : ∀ k ∈ a,k ∉ b := fun k ha hb => (List.nodup_append.1 h.1).2.2 k ha k hb rfl
theorem Sm.below {w w' : World} {bs : List Nat} (h : Below w.heap.size w w') (hb : ∀ k ∈ bs,k < w.heap.size) : Sm w w' bs := fun k hk => h.block k (hb k hk)
theorem flat_inv {size : Nat} : ∀ (rs : List (List Value)),(∀ r ∈ rs,r.length = size) → ∀ (j : Nat) (u : Value),rs.flatten[j]? = some u → ∃ i c k,rs[i]? = some c ∧ c[k]? = some u ∧ j = i * size + k
 | [],_,j,u,h => by simp at h
 | x :: l,hl,j,u,h => by
  have hx := hl x (List.mem_cons_self ..)
  by_cases hj : j < x.length
  ·rw [List.flatten_cons,List.getElem?_append_left hj] at h;exact ⟨0,x,j,rfl,h,by simp⟩
  ·rw [List.flatten_cons,List.getElem?_append_right (by omega)] at h;obtain ⟨i,c,k,h1,h2,h3⟩ := flat_inv l (fun r hr => hl r (List.mem_cons_of_mem _ hr)) _ u h;exact ⟨i + 1,c,k,by simpa using h1,h2,by rw [Nat.add_mul]; omega⟩
theorem run_joinG {w : World} (t ty e : TypeId) (size bytes : Nat) (z : Value) (ht : Tryz.prog.underlying t = some (.slice e)) (hinfo : (Tryz.prog.info? e).map (fun i => (i.zero,i.size,i.bytes)) = some (some z,size,bytes)) (hzs : z.cells.size = size) (hsz : 0 < size)
  (base : Nat) (v : Value) (n : Nat) (xs : List Value) (hown : w.ownsRow base e size v n xs)
  (xv : Value) (rs : List (List Value)) (hr : RowG w xv size rs) (hl : ∀ r ∈ rs,r.length = size) (h1 : ∀ u ∈ rs.flatten,u.oneCell' = true) (hb : n + rs.length ≤ 1000000) (hby : bytes ≤ 1000) (hbase : base ≤ w.heap.size) :
  ∃ v' w',(Builtin.append_ #[t,t] ty #[v,xv]).run Tryz.prog w = .ok v' w' ∧ w'.ownsRow base e size v' (n + rs.length) (xs ++ rs.flatten) ∧ w.grownBy w' v.ownBlock := by
 obtain ⟨i0,hi,hz0,hz1,hz2⟩ := info_parts hinfo;obtain ⟨ao,cap,rfl,q1,q2,q0,q3⟩ := hr.form
 cases ao with
 | none =>
  have hrs : rs = [] := by
   cases rs with
   | nil => rfl
   | cons r l => obtain ⟨g,off,e,_⟩ := q3 (by simp); cases e
  subst hrs;have := q0 rfl;subst this;have hrun := run_append_owned_none (P := Tryz.prog) (w := w) base t ty e i0 size ht hi v n xs hown;refine ⟨v,w,hrun,?_,⟨rfl,rfl,rfl,Nat.le_refl _,fun _ _ _ => rfl⟩⟩;rw [List.flatten_nil,List.append_nil];exact hown
 | some ad =>
  obtain ⟨v',w',g0,g1,g2,_⟩ := run_append_own w base t ty e i0 z size bytes ht hi hz0 hz1 hz2 hzs hsz v _ _ hown ad rs.length cap rs.flatten (by rw [flat_len rs hl]) (fun j u hu => by
   obtain ⟨i,c,k,e1,e2,rfl⟩ := flat_inv rs hl j u hu;obtain ⟨g,off,e3,e4⟩ := q3 (by intro e; rw [e] at e1; simp at e1)
   cases e3
   have := e4 i c u k e1 e2;rw [Nat.add_assoc] at this;rw [Addr.add_lit]
   exact this) h1 (by unfold maxLen; omega) (Nat.le_trans (Nat.mul_le_mul hb hby) (by decide)) hbase
  exact ⟨v',w',g0,g1,g2⟩
theorem wpList_joinG {w : World} {ops : Array Oper} {rest : List Oper} {o : Oper} {a : Act} {Q : Exit → Act → World → Prop} (hgd : o.guard = none) (s x : Operand) (t e : TypeId) (size bytes : Nat) (z : Value)
  (ho : o.op = .call { callee := .builtin .append,args := #[s,x],argTypes := #[t,t] }) (ht : Tryz.prog.underlying t = some (.slice e)) (hinfo : (Tryz.prog.info? e).map (fun i => (i.zero,i.size,i.bytes)) = some (some z,size,bytes)) (hzs : z.cells.size = size) (hsz : 0 < size)
  (base : Nat) (v : Value) (n : Nat) (xs : List Value) (hs : a.eval s = v) (hown : w.ownsRow base e size v n xs)
  (xv : Value) (rs : List (List Value)) (hx : a.eval x = xv) (hr : RowG w xv size rs) (hl : ∀ r ∈ rs,r.length = size) (h1 : ∀ u ∈ rs.flatten,u.oneCell' = true) (hb : n + rs.length ≤ 1000000) (hby : bytes ≤ 1000) (hbase : base ≤ w.heap.size)
  (h : ∀ v' w',w'.ownsRow base e size v' (n + rs.length) (xs ++ rs.flatten) → w.grownBy w' v.ownBlock → wpList Tryz.prog ops Q rest (a.put o.dst v') w') : wpList Tryz.prog ops Q (o :: rest) a w := by
 obtain ⟨i0,hi,hz0,hz1,hz2⟩ := info_parts hinfo;obtain ⟨ao,cap,rfl,q1,q2,q0,q3⟩ := hr.form
 cases ao with
 | none =>
  have hrs : rs = [] := by
   cases rs with
   | nil => rfl
   | cons r l => obtain ⟨g,off,e,_⟩ := q3 (by simp); cases e
  subst hrs;have := q0 rfl;subst this;refine wpList_append_own_none hgd s x t ho base e i0 size ht hi v _ _ hs hown hx ?_;refine h v w ?_ ⟨rfl,rfl,rfl,Nat.le_refl _,fun _ _ _ => rfl⟩;rw [List.flatten_nil,List.append_nil];exact hown
 | some ad =>
  refine wpList_append_own w hgd s x t ho base e i0 z size bytes ht hi hz0 hz1 hz2 hzs hsz v _ _ hs hown ad rs.length cap rs.flatten hx (by rw [flat_len rs hl]) ?_ h1 (by unfold maxLen; omega) ?_ hbase ?_
  ·intro j u hu;obtain ⟨i,c,k,e1,e2,rfl⟩ := flat_inv rs hl j u hu;obtain ⟨g,off,e3,e4⟩ := q3 (by intro e; rw [e] at e1; simp at e1)
   cases e3
   have := e4 i c u k e1 e2;rw [Nat.add_assoc] at this;rw [Addr.add_lit];exact this
  ·exact Nat.le_trans (Nat.mul_le_mul hb hby) (by decide)
  ·intro v' w' g1 g2 _;exact h v' w' g1 g2
theorem fdr_one (fs : List Fd) : ∀ u ∈ (fdRows fs).flatten,u.oneCell' = true := by
 rw [← rawCells_flat]; exact rawCells_one fs
theorem traws_any {w : World} {v : Value} {l : List Fd} (hr : RowG w v 4 (fdRows l)) (hl : l.length ≤ 900000) :
  Calls Tryz.prog 19 #[v] w fun e w' => ∃ r,e = .returned r ∧ w'.ownsRow w.heap.size 79 4 r l.length (rawCells l) ∧ Below w.heap.size w w' := by
 have hN : (fdRows l).length = l.length := by simp [fdRows]
 have HN : Hid ((fdRows l).length = l.length) := hN;have HR : Hid (RowG w v 4 (fdRows l)) := hr;have HL : Hid (l.length ≤ 900000) := hl;clear hr hN hl
 go_enter Tryz.func19,Tryz.ntmps19
 go_wp2_with (first
  | (at_builtin; refine wpList_joinG rfl _ _ 28 79 4 40 _ rfl Tryz.underlying28 infoRaw rfl (by decide) w.heap.size (.slice none 0 0) 0 [] rfl (World.ownsRow_nil _ _ _ _) v (fdRows l) rfl HR.out (fdr_len l) (fdr_one l) ?c1 (by decide) (Nat.le_refl _) ?_)
  | fail)
 case c1 => have h1 := HN.out; have h2 := HL.out; omega
 intro r w1 ho hg;have hb : Below w.heap.size w w1 := (Below.refl _ _).grown hg (Nat.le_refl _) (fun k hk => by cases hk)
 have HO : Hid (w1.ownsRow w.heap.size 79 4 r l.length (rawCells l)) := by
  show World.ownsRow _ _ _ _ _ _ _
  rw [rawCells_flat];rw [HN.out] at ho
  simpa using ho
 clear hg ho;go_wp2_with fail;go_ret;exact ⟨_,rfl,HO.out,hb⟩
end
section
theorem set_comm2 {α : Type} (a : Array α) {i j : Nat} (h : i ≠ j) (x y : α) : (a.setIfInBounds i x).setIfInBounds j y = (a.setIfInBounds j y).setIfInBounds i x := by
 apply Array.ext_getElem?
 intro k;simp only [Array.getElem?_setIfInBounds,Array.size_setIfInBounds]
 by_cases h1 : i = k
 ·subst h1
  by_cases h2 : j = i
  ·exact absurd h2.symm h
  ·simp [h2]
 ·by_cases h2 : j = k <;> simp [h1,h2]
theorem rg_store {P : Program} {md : Region.Mode} {ops : Array Oper} {Q : Exit → Act → World → Prop} {S : World → Prop} {oi : Oper} {fuel : Nat} {listed listed' : Array Bool} {a : Act} {w : World} (i : Nat) (w' : World) (hi : ops[i]? = some oi) (hd : oi.dst = none)
  (hr : Region.ready md ops listed = [i]) (hwt : Region.wanted oi (yielded ops a.tmps) = true) (hl : listed.setIfInBounds i true = listed') (hx : (execOp a.eval oi).run P w = .ok .skip w') (hS : S w')
  (h : wpAnyH P md ops Q S fuel listed' a w') : wpAnyH P md ops Q S (fuel + 1) listed a w := by
 subst hl;refine wpAnyH_ready (rs := [i]) hr (by simp) (AllReadyH.cons hi (fun K hK => ?_) AllReadyH.nil);rw [if_pos hwt];unfold Oper.wp;rw [hx];refine hK.out _ _ hS (fun _ => ?_);rw [hd];exact h
theorem rg_llc {P : Program} {md : Region.Mode} {ops : Array Oper} {Q : Exit → Act → World → Prop} {fuel : Nat} {listed : Array Bool} {a : Act} {w : World} (i1 i4 j d1 d4 dj : Nat) {o1 o4 oj : Oper} (v1 v4 : Value) (f : Nat) (vals : Array Value) (LD : World → Prop)
  (h1 : ops[i1]? = some o1) (h4 : ops[i4]? = some o4) (hj : ops[j]? = some oj) (hd1 : o1.dst = some d1) (hd4 : o4.dst = some d4) (hdj : oj.dst = some dj)
  (hr0 : Region.ready md ops listed = [i1,i4]) (hr1 : Region.ready md ops (listed.setIfInBounds i1 true) = [j,i4]) (hr4 : Region.ready md ops (listed.setIfInBounds i4 true) = [i1])
  (hr14 : Region.ready md ops ((listed.setIfInBounds i1 true).setIfInBounds i4 true) = [j]) (hr1j : Region.ready md ops ((listed.setIfInBounds i1 true).setIfInBounds j true) = [i4])
  (hw1 : ∀ t,Region.wanted o1 t = true) (hw4 : ∀ t,Region.wanted o4 t = true) (hwj : ∀ t,Region.wanted oj t = true) (h14 : i1 ≠ i4) (hj4 : j ≠ i4) (d14 : d1 ≠ d4) (dj4 : dj ≠ d4)
  (hx1 : (execOp a.eval o1).run P w = .ok (.value v1) w) (hx1' : (execOp ({ a with tmps := a.tmps.setIfInBounds d4 v4 } : Act).eval o1).run P w = .ok (.value v1) w)
  (hx4 : (execOp a.eval o4).run P w = .ok (.value v4) w) (hx41 : (execOp ({ a with tmps := a.tmps.setIfInBounds d1 v1 } : Act).eval o4).run P w = .ok (.value v4) w)
  (hx4j : ∀ v W,LD W → (execOp ({ a with tmps := (a.tmps.setIfInBounds d1 v1).setIfInBounds dj v } : Act).eval o4).run P W = .ok (.value v4) W)
  (hxj : ∀ W,(execOp ({ a with tmps := a.tmps.setIfInBounds d1 v1 } : Act).eval oj).run P W = .ok (.enter f vals) W) (hxj' : ∀ W,(execOp ({ a with tmps := (a.tmps.setIfInBounds d1 v1).setIfInBounds d4 v4 } : Act).eval oj).run P W = .ok (.enter f vals) W)
  (h : Calls P f vals w fun e w' => ∃ v,e = .returned v ∧ LD w' ∧ wpAnyH P md ops Q (fun _ => True) fuel (((listed.setIfInBounds i1 true).setIfInBounds i4 true).setIfInBounds j true) { a with tmps := ((a.tmps.setIfInBounds d1 v1).setIfInBounds d4 v4).setIfInBounds dj v } w') :
  wpAnyH P md ops Q (fun _ => True) (fuel + 3) listed a w := by
 have main : wpAnyH P md ops Q (fun _ => True) (fuel + 1) ((listed.setIfInBounds i1 true).setIfInBounds i4 true) { a with tmps := (a.tmps.setIfInBounds d1 v1).setIfInBounds d4 v4 } w := by
  refine rg_call j dj f vals hj hdj hr14 (hwj _) rfl (fun W => hxj' W) ?_;refine h.mono ?_;rintro e w' ⟨v,rfl,_,h3⟩;exact ⟨v,rfl,trivial,h3⟩
 refine wpAnyH_ready (rs := [i1,i4]) hr0 (by simp) (AllReadyH.cons h1 (fun K hK => ?_) (AllReadyH.cons h4 (fun K hK => ?_) AllReadyH.nil))
 ·rw [if_pos (hw1 _)];unfold Oper.wp;rw [hx1];refine hK.out _ _ trivial (fun _ => ?_);rw [hd1];refine wpAnyH_ready (rs := [j,i4]) hr1 (by simp) (AllReadyH.cons hj (fun K hK => ?_) (AllReadyH.cons h4 (fun K hK => ?_) AllReadyH.nil))
  ·rw [if_pos (hwj _)];unfold Oper.wp;have hh : (execOp (Act.put a (some d1) v1).eval oj).run P w = .ok (.enter f vals) w := hxj w;rw [hh];refine Calls.mono h ?_;rintro e w' ⟨v,rfl,l1,h3⟩;refine hK.out _ _ trivial (fun _ => ?_);rw [hdj];refine rg_run i4 d4 v4 w' h4 hd4 hr1j (hw4 _) rfl ?_ trivial ?_
   ·exact hx4j v w' l1
   ·rw [set_comm2 _ hj4]
    show wpAnyH P md ops Q _ _ _ ({ a with tmps := ((a.tmps.setIfInBounds d1 v1).setIfInBounds dj v).setIfInBounds d4 v4 } : Act) w'
    rw [set_comm2 _ dj4];exact h3
  ·rw [if_pos (hw4 _)];unfold Oper.wp;have hh : (execOp (Act.put a (some d1) v1).eval o4).run P w = .ok (.value v4) w := hx41;rw [hh];refine hK.out _ _ trivial (fun _ => ?_);rw [hd4];exact main
 ·rw [if_pos (hw4 _)];unfold Oper.wp;rw [hx4];refine hK.out _ _ trivial (fun _ => ?_);rw [hd4];refine rg_run i1 d1 v1 w h1 hd1 hr4 (hw1 _) rfl ?_ trivial ?_
  ·exact hx1'
  ·rw [set_comm2 listed (Ne.symm h14)]
   show wpAnyH P md ops Q _ _ _ ({ a with tmps := (a.tmps.setIfInBounds d4 v4).setIfInBounds d1 v1 } : Act) w
   rw [set_comm2 a.tmps (Ne.symm d14)];exact main
def wpAnyM (P : Program) (md : Region.Mode) (ops : Array Oper) (Q : Exit → Act → World → Prop) (T : World → Prop) (m : Nat) : Nat → Array Bool → Act → World → Prop
 | 0,listed,a,w => Region.ready md ops listed = [] ∧ Q .normal a w
 | fuel + 1,listed,a,w => (Region.ready md ops listed = [] → Q .normal a w) ∧
  ∀ i ∈ Region.ready md ops listed,wpOp P ops Q i (fun a' w' => ((listed.setIfInBounds i true).getD m true = false → T w') ∧ wpAnyM P md ops Q T m fuel (listed.setIfInBounds i true) a' w') a w
section
variable {P : Program} {md : Region.Mode} {ops : Array Oper} {Q : Exit → Act → World → Prop} {T : World → Prop} {m : Nat}
theorem M_any : ∀ (fuel : Nat) (listed : Array Bool) (a : Act) (w : World),wpAnyM P md ops Q T m fuel listed a w → wpAny P md ops Q fuel listed a w
 | 0,_,_,_,h => h
 | fuel + 1,_,_,_,h => ⟨h.1,fun i hi => wpOp_mono (fun a' w' h' => M_any fuel _ a' w' h'.2) (h.2 i hi)⟩
theorem M_done {listed : Array Bool} {a : Act} {w : World} (hr : Region.ready md ops listed = []) (h : Q .normal a w) : ∀ fuel,wpAnyM P md ops Q T m fuel listed a w
 | 0 => ⟨hr,h⟩
 | _ + 1 => ⟨fun _ => h,by rw [hr]; simp⟩
theorem M_region {id : Nat} {a : Act} {w : World} (hm : P.follows .mixedOrders = true) (h : wpAnyM P .any ops Q T m ops.size (Array.replicate ops.size false) a w.drew) : (Code.region id ops true).wp P Q a w :=
 wp_region_any hm (M_any _ _ _ _ h)
theorem M_first {i : Nat} {oi : Oper} {v : Value} (hi : ops[i]? = some oi) (hsel : ∀ (j : Nat) (o : Oper) cs b,ops[j]? = some o → o.op ≠ .select cs b)
  (hQ : ∀ c a w,Q (.panic c) (a.put oi.dst v) w → Q (.panic c) a w) (hmi : ∀ om,ops[m]? = some om → ∃ e ∈ om.after,Region.binds md e = true ∧ e.on = i) :
  ∀ (fuel : Nat) (listed : Array Bool) (a : Act) (w : World),listed.getD m true = false →
   (∀ j oj,ops[j]? = some oj → j ≠ i → listed.getD j true = false → (∀ e ∈ oj.after,Region.binds md e = true → e.on ≠ i) → oi.apart ops oj = true) →
   i ∈ Region.ready md ops listed → YieldsIf P ops T oi v a → T w →
   wpAnyM P md ops Q T m fuel (listed.setIfInBounds i true) (a.put oi.dst v) w → wpAnyM P md ops Q T m (fuel + 1) listed a w := by
 intro fuel
 induction fuel with
 | zero =>
  intro listed a w hlm _ hr hy hT H;refine ⟨fun h => (by rw [h] at hr; cases hr),fun j hj => ?_⟩
  by_cases hji : j = i
  ·subst hji; exact hy.wpOp hi hT ⟨fun _ => hT,H⟩
  ·have h0 := ready_mono hj hji;rw [H.1] at h0
   cases h0
 | succ fuel ih =>
  intro listed a w hlm hfree hr hy hT H;refine ⟨fun h => (by rw [h] at hr; cases hr),fun j hj => ?_⟩
  by_cases hji : j = i
  ·subst hji; exact hy.wpOp hi hT ⟨fun _ => hT,H⟩
  ·have hH := H.2 j (ready_mono hj hji);obtain ⟨hjun,oj,hoj,hall⟩ := mem_ready.1 hj
   have hjm : j ≠ m := by
    intro e;subst e;obtain ⟨e,he,hb,hon⟩ := hmi oj hoj;have hx := hall e he hb;have h0 := (mem_ready.1 hr).1;rw [hon] at hx
    rcases Nat.lt_or_ge i listed.size with h' | h'
    ·simp [h'] at h0 hx; rw [h0] at hx; cases hx
    ·simp [Array.getElem?_eq_none h'] at hx
   have hnot : ∀ e ∈ oj.after,Region.binds md e = true → e.on ≠ i := fun e he hb heq => by
    have hx := hall e he hb;have h0 := (mem_ready.1 hr).1;rw [heq] at hx
    rcases Nat.lt_or_ge i listed.size with h' | h'
    ·simp [h'] at h0 hx; rw [h0] at hx; cases hx
    ·simp [Array.getElem?_eq_none h'] at hx
   have h2 := wpOp_putIf hoj (hfree j oj hoj hji hjun hnot) (fun cs b => hsel i oi cs b hi) (fun cs b => hsel j oj cs b hoj) hQ hy hH
   have hlj : (listed.setIfInBounds j true).getD m true = false := by rw [getD_set_ne true hjm]; exact hlm
   have him : i ≠ m := by
    intro e;subst e;obtain ⟨e,he,hb,hon⟩ := hmi oi hi;obtain ⟨h0,oi',hoi',hall'⟩ := mem_ready.1 hr;rw [hi] at hoi'
    cases hoi'
    have hx := hall' e he hb;rw [hon] at hx
    rcases Nat.lt_or_ge i listed.size with h' | h'
    ·simp [h'] at h0 hx; rw [h0] at hx; cases hx
    ·simp [Array.getElem?_eq_none h'] at hx
   have hlij : ((listed.setIfInBounds i true).setIfInBounds j true).getD m true = false := by rw [getD_set_ne true hjm,getD_set_ne true him]; exact hlm
   have hfree' : ∀ k ok,ops[k]? = some ok → k ≠ i → (listed.setIfInBounds j true).getD k true = false → (∀ e ∈ ok.after,Region.binds md e = true → e.on ≠ i) → oi.apart ops ok = true := fun k ok hk hki hun hno => by
    refine hfree k ok hk hki ?_ hno
    by_cases hjk : j = k
    ·subst hjk; exact hjun
    ·rw [getD_set_ne true hjk] at hun; exact hun
   refine wpOp_mono (fun a' w' h3 => ⟨fun _ => h3.2.1 hlij,ih (listed.setIfInBounds j true) a' w' hlj hfree' (ready_mono hr (Ne.symm hji)) h3.1 (h3.2.1 hlij) ?_⟩) h2;rw [Array.setIfInBounds_comm _ _ hji];exact h3.2.2
theorem M_take {oi : Oper} {fuel : Nat} {listed listed' : Array Bool} {a : Act} {w : World} (i d : Nat) (v : Value) (tmps' : Array Value) (hi : ops[i]? = some oi) (hd : oi.dst = some d)
  (hs : Region.noSelect ops = true) (hf : Region.free md ops listed i = true) (hr : (Region.ready md ops listed).contains i = true) (hmi : ((ops[m]?).any fun om => om.after.any fun e => Region.binds md e && e.on == i) = true) (hlm : listed.getD m true = false)
  (hQ : ∀ c a w,Q (.panic c) (a.put oi.dst v) w → Q (.panic c) a w) (hwt : Region.wanted oi (yielded ops a.tmps) = true) (hy : ∀ w,T w → (execOp a.eval oi).run P w = .ok (.value v) w) (hT : T w)
  (hl : listed.setIfInBounds i true = listed') (ht : a.tmps.setIfInBounds d v = tmps')
  (h : wpAnyM P md ops Q T m fuel listed' { a with tmps := tmps' } w) : wpAnyM P md ops Q T m (fuel + 1) listed a w := by
 subst hl ht;refine M_first hi (Region.noSelect_spec hs) hQ ?_ fuel listed a w hlm (Region.free_spec hi hf) (by simpa using hr) (.inl ⟨hwt,hy⟩) hT ?_
 ·intro om hom;rw [hom] at hmi;simp only [Option.any_some,Array.any_eq_true] at hmi;obtain ⟨k,hk,hb⟩ := hmi;simp only [Bool.and_eq_true,beq_iff_eq] at hb;exact ⟨_,Array.getElem_mem hk,hb.1,hb.2⟩
 ·rw [hd];exact h
theorem M_tk {oi : Oper} {fuel : Nat} {listed : Array Bool} {a : Act} {w : World} (i d : Nat) (v : Value) {tmps' : Array Value} (hy : ∀ w,T w → (execOp a.eval oi).run P w = .ok (.value v) w) (hT : T w) (listed' : Array Bool)
  (h : wpAnyM P md ops Q T m fuel listed' { a with tmps := tmps' } w) (hi : ops[i]? = some oi := by rfl) (hd : oi.dst = some d := by rfl) (hs : Region.noSelect ops = true := by kernel_rfl) (hf : Region.free md ops listed i = true := by kernel_rfl) (hr : (Region.ready md ops listed).contains i = true := by kernel_rfl)
  (hmi : ((ops[m]?).any fun om => om.after.any fun e => Region.binds md e && e.on == i) = true := by kernel_rfl) (hlm : listed.getD m true = false := by kernel_rfl) (hQ : ∀ c a w,Q (.panic c) (a.put oi.dst v) w → Q (.panic c) a w := by exact fun _ _ _ h => h) (hwt : Region.wanted oi (yielded ops a.tmps) = true := by rfl)
  (hl : listed.setIfInBounds i true = listed' := by kernel_rfl) (ht : a.tmps.setIfInBounds d v = tmps' := by simp only [zsA,zsZ,zsS]; rfl) : wpAnyM P md ops Q T m (fuel + 1) listed a w :=
 M_take i d v tmps' hi hd hs hf hr hmi hlm hQ hwt hy hT hl ht h
theorem M_run {oi : Oper} {fuel : Nat} {listed listed' : Array Bool} {a : Act} {w : World} (i d : Nat) (v : Value) (w' : World) (hi : ops[i]? = some oi) (hd : oi.dst = some d)
  (hr : Region.ready md ops listed = [i]) (hwt : Region.wanted oi (yielded ops a.tmps) = true) (hl : listed.setIfInBounds i true = listed') (hx : (execOp a.eval oi).run P w = .ok (.value v) w') (hT : T w')
  (h : wpAnyM P md ops Q T m fuel listed' { a with tmps := a.tmps.setIfInBounds d v } w') : wpAnyM P md ops Q T m (fuel + 1) listed a w := by
 subst hl;refine ⟨fun h0 => (by rw [hr] at h0; cases h0),fun j hj => ?_⟩;rw [hr,List.mem_singleton] at hj;subst hj;unfold wpOp;simp only [hi];rw [if_pos hwt];refine .inl ?_;unfold Oper.wp;rw [hx,Oper.upon_value,hd];exact ⟨fun _ => hT,h⟩
theorem M_rn {oi : Oper} {fuel : Nat} {listed : Array Bool} {a : Act} {w : World} (i d : Nat) (v : Value) (w' : World) (listed' : Array Bool) (hi : ops[i]? = some oi) (hx : (execOp a.eval oi).run P w = .ok (.value v) w') (hT : T w')
  (h : wpAnyM P md ops Q T m fuel listed' { a with tmps := a.tmps.setIfInBounds d v } w') (hd : oi.dst = some d := by rfl) (hr : Region.ready md ops listed = [i] := by kernel_rfl) (hwt : Region.wanted oi (yielded ops a.tmps) = true := by rfl) (hl : listed.setIfInBounds i true = listed' := by kernel_rfl) : wpAnyM P md ops Q T m (fuel + 1) listed a w :=
 M_run i d v w' hi hd hr hwt hl hx hT h
theorem M_store {oi : Oper} {fuel : Nat} {listed listed' : Array Bool} {a : Act} {w : World} (i : Nat) (w' : World) (hi : ops[i]? = some oi) (hd : oi.dst = none)
  (hr : Region.ready md ops listed = [i]) (hwt : Region.wanted oi (yielded ops a.tmps) = true) (hl : listed.setIfInBounds i true = listed') (hx : (execOp a.eval oi).run P w = .ok .skip w') (hm : listed'.getD m true = true)
  (h : wpAnyM P md ops Q T m fuel listed' a w') : wpAnyM P md ops Q T m (fuel + 1) listed a w := by
 subst hl;refine ⟨fun h0 => (by rw [hr] at h0; cases h0),fun j hj => ?_⟩;rw [hr,List.mem_singleton] at hj;subst hj;unfold wpOp;simp only [hi];rw [if_pos hwt];refine .inl ?_;unfold Oper.wp;rw [hx,Oper.upon_skip,hd];exact ⟨fun h0 => (by rw [hm] at h0; cases h0),h⟩
theorem M_st {oi : Oper} {fuel : Nat} {listed : Array Bool} {a : Act} {w : World} (i : Nat) (w' : World) (listed' : Array Bool) (hi : ops[i]? = some oi) (hx : (execOp a.eval oi).run P w = .ok .skip w') (h : wpAnyM P md ops Q T m fuel listed' a w') (hd : oi.dst = none := by rfl) (hr : Region.ready md ops listed = [i] := by kernel_rfl) (hwt : Region.wanted oi (yielded ops a.tmps) = true := by rfl) (hl : listed.setIfInBounds i true = listed' := by kernel_rfl) (hm : listed'.getD m true = true := by kernel_rfl) : wpAnyM P md ops Q T m (fuel + 1) listed a w :=
 M_store i w' hi hd hr hwt hl hx hm h
theorem M_call {oi : Oper} {fuel : Nat} {listed listed' : Array Bool} {a : Act} {w : World} (i d f : Nat) (vals : Array Value) (hi : ops[i]? = some oi) (hd : oi.dst = some d)
  (hr : Region.ready md ops listed = [i]) (hwt : Region.wanted oi (yielded ops a.tmps) = true) (hl : listed.setIfInBounds i true = listed') (hx : ∀ w,(execOp a.eval oi).run P w = .ok (.enter f vals) w)
  (h : Calls P f vals w fun e w' => ∃ v,e = .returned v ∧ T w' ∧ wpAnyM P md ops Q T m fuel listed' { a with tmps := a.tmps.setIfInBounds d v } w') : wpAnyM P md ops Q T m (fuel + 1) listed a w := by
 subst hl;refine ⟨fun h0 => (by rw [hr] at h0; cases h0),fun j hj => ?_⟩;rw [hr,List.mem_singleton] at hj;subst hj;unfold wpOp;simp only [hi];rw [if_pos hwt];refine .inl ?_;unfold Oper.wp;rw [hx];refine Calls.mono h ?_;rintro e w' ⟨v,rfl,hT,h'⟩;rw [hd];exact ⟨fun _ => hT,h'⟩
theorem M_cl {oi : Oper} {fuel : Nat} {listed : Array Bool} {a : Act} {w : World} (i d f : Nat) (vals : Array Value) (listed' : Array Bool) (hi : ops[i]? = some oi) (hx : ∀ w,(execOp a.eval oi).run P w = .ok (.enter f vals) w)
  (h : Calls P f vals w fun e w' => ∃ v,e = .returned v ∧ T w' ∧ wpAnyM P md ops Q T m fuel listed' { a with tmps := a.tmps.setIfInBounds d v } w') (hd : oi.dst = some d := by rfl) (hr : Region.ready md ops listed = [i] := by kernel_rfl) (hwt : Region.wanted oi (yielded ops a.tmps) = true := by rfl) (hl : listed.setIfInBounds i true = listed' := by kernel_rfl) : wpAnyM P md ops Q T m (fuel + 1) listed a w :=
 M_call i d f vals hi hd hr hwt hl hx h
theorem M_aa {o1 o2 ok : Oper} {fuel : Nat} {listed : Array Bool} {a : Act} {w : World} (i j k d1 d2 dk : Nat) (z : World → Value) (N : World → World) (f : Value → Value) (U : Value → Prop) (C : Value → Value → World → Prop)
  (h1 : ops[i]? = some o1) (h2 : ops[j]? = some o2) (hk : ops[k]? = some ok) (hd1 : o1.dst = some d1) (hd2 : o2.dst = some d2) (hdk : ok.dst = some dk) (hij : i ≠ j) (hjk : j ≠ k) (d12 : d1 ≠ d2) (d2k : d2 ≠ dk)
  (hr : Region.ready md ops listed = [i,j]) (hri : (Region.ready md ops (listed.setIfInBounds i true)).contains k = true) (hrik : Region.ready md ops ((listed.setIfInBounds i true).setIfInBounds k true) = [j])
  (hrj : Region.ready md ops (listed.setIfInBounds j true) = [i]) (hrji : Region.ready md ops ((listed.setIfInBounds j true).setIfInBounds i true) = [k])
  (hw1 : ∀ t,Region.wanted o1 t = true) (hw2 : ∀ t,Region.wanted o2 t = true) (hwk : ∀ t,Region.wanted ok t = true)
  (hs : Region.noSelect ops = true) (hfk : Region.free md ops (listed.setIfInBounds i true) k = true) (hmk : ((ops[m]?).any fun om => om.after.any fun e => Region.binds md e && e.on == k) = true) (hlm : (listed.setIfInBounds i true).getD m true = false)
  (hQ : ∀ v c a w,Q (.panic c) (a.put ok.dst v) w → Q (.panic c) a w)
  (hx2 : ∀ (a' : Act) w',(execOp a'.eval o2).run P w' = .ok (.value (z w')) (N w'))
  (hA : ∃ u w1,(execOp a.eval o1).run P w = .ok (.value u) w1 ∧ U u ∧ T w1 ∧ T (N w1) ∧ C u (z w1) (N w1))
  (hB : T (N w) ∧ ∃ u w1,(execOp (a.put (some d2) (z w)).eval o1).run P (N w) = .ok (.value u) w1 ∧ U u ∧ T w1 ∧ C u (z w) w1)
  (hxk : ∀ u w',U u → (execOp (a.put (some d1) u).eval ok).run P w' = .ok (.value (f u)) w') (hxk' : ∀ u v w',U u → (execOp ((a.put (some d2) v).put (some d1) u).eval ok).run P w' = .ok (.value (f u)) w')
  (h : ∀ u v w',U u → T w' → C u v w' → wpAnyM P md ops Q T m fuel (((listed.setIfInBounds i true).setIfInBounds k true).setIfInBounds j true) { a with tmps := ((a.tmps.setIfInBounds d1 u).setIfInBounds dk (f u)).setIfInBounds d2 v } w') : wpAnyM P md ops Q T m (fuel + 3) listed a w := by
 refine ⟨fun h0 => (by rw [hr] at h0; cases h0),fun q hq => ?_⟩;rw [hr] at hq;simp only [List.mem_cons,List.not_mem_nil,or_false] at hq
 rcases hq with rfl | rfl
 ·obtain ⟨u,w1,e1,uu,t1,t2,c1⟩ := hA;unfold wpOp;simp only [h1];rw [if_pos (hw1 _)];refine .inl ?_;unfold Oper.wp;rw [e1,Oper.upon_value,hd1];refine ⟨fun _ => t1,?_⟩;refine M_take k dk (f u) _ hk hdk hs hfk hri hmk hlm (fun c a w => hQ _ c a w) (hwk _) (fun w' _ => hxk u w' uu) t1 rfl rfl ?_;exact M_run j d2 (z w1) (N w1) h2 hd2 hrik (hw2 _) rfl (hx2 _ w1) t2 (h u (z w1) (N w1) uu t2 c1)
 ·obtain ⟨t0,u,w1,e1,uu,t1,c1⟩ := hB;unfold wpOp;simp only [h2];rw [if_pos (hw2 _)];refine .inl ?_;unfold Oper.wp;rw [hx2,Oper.upon_value,hd2];refine ⟨fun _ => t0,?_⟩;refine M_run i d1 u w1 h1 hd1 hrj (hw1 _) rfl e1 t1 ?_;refine M_run k dk (f u) w1 hk hdk hrji (hwk _) rfl (hxk' u (z w) w1 uu) t1 ?_;have hh := h u (z w) w1 uu t1 c1;rw [Array.setIfInBounds_comm (xs := listed.setIfInBounds i true) _ _ (Ne.symm hjk),Array.setIfInBounds_comm (xs := listed) _ _ hij,set_comm2 (a.tmps.setIfInBounds d1 u) (Ne.symm d2k),set_comm2 a.tmps d12] at hh;exact hh
end
section
variable {P : Program} {md : Region.Mode} {ops : Array Oper} {Q : Exit → Act → World → Prop} {T : World → Prop} {m : Nat}
theorem M_cab {o1 o2 ok : Oper} {fuel : Nat} {listed : Array Bool} {a : Act} {w : World} (i j k d1 d2 dk f : Nat) (vals : Array Value) (z : World → Value) (N : World → World) (F : Value → Value) (U : Value → Prop) (C : Value → Value → World → Prop)
  (h1 : ops[i]? = some o1) (h2 : ops[j]? = some o2) (hk : ops[k]? = some ok) (hd1 : o1.dst = some d1) (hd2 : o2.dst = some d2) (hdk : ok.dst = some dk) (hij : i ≠ j) (hjk : j ≠ k) (d12 : d1 ≠ d2) (d2k : d2 ≠ dk)
  (hr : Region.ready md ops listed = [i,j]) (hri : (Region.ready md ops (listed.setIfInBounds i true)).contains k = true) (hrik : Region.ready md ops ((listed.setIfInBounds i true).setIfInBounds k true) = [j])
  (hrj : Region.ready md ops (listed.setIfInBounds j true) = [i]) (hrji : Region.ready md ops ((listed.setIfInBounds j true).setIfInBounds i true) = [k])
  (hw1 : ∀ t,Region.wanted o1 t = true) (hw2 : ∀ t,Region.wanted o2 t = true) (hwk : ∀ t,Region.wanted ok t = true)
  (hs : Region.noSelect ops = true) (hfk : Region.free md ops (listed.setIfInBounds i true) k = true) (hmk : ((ops[m]?).any fun om => om.after.any fun e => Region.binds md e && e.on == k) = true) (hlm : (listed.setIfInBounds i true).getD m true = false)
  (hQ : ∀ v c a w,Q (.panic c) (a.put ok.dst v) w → Q (.panic c) a w)
  (hx1 : (execOp a.eval o1).run P w = .ok (.enter f vals) w) (hx1' : ∀ v w',(execOp (a.put (some d2) v).eval o1).run P w' = .ok (.enter f vals) w')
  (hx2 : ∀ (a' : Act) w',(execOp a'.eval o2).run P w' = .ok (.value (z w')) (N w'))
  (hA : Calls P f vals w fun e w1 => ∃ u,e = .returned u ∧ U u ∧ T w1 ∧ T (N w1) ∧ C u (z w1) (N w1))
  (hT : T (N w)) (hB : Calls P f vals (N w) fun e w1 => ∃ u,e = .returned u ∧ U u ∧ T w1 ∧ C u (z w) w1)
  (hxk : ∀ u w',U u → (execOp (a.put (some d1) u).eval ok).run P w' = .ok (.value (F u)) w') (hxk' : ∀ u v w',U u → (execOp ((a.put (some d2) v).put (some d1) u).eval ok).run P w' = .ok (.value (F u)) w')
  (h : ∀ u v w',U u → T w' → C u v w' → wpAnyM P md ops Q T m fuel (((listed.setIfInBounds i true).setIfInBounds k true).setIfInBounds j true) { a with tmps := ((a.tmps.setIfInBounds d1 u).setIfInBounds dk (F u)).setIfInBounds d2 v } w') : wpAnyM P md ops Q T m (fuel + 3) listed a w := by
 refine ⟨fun h0 => (by rw [hr] at h0; cases h0),fun q hq => ?_⟩;rw [hr] at hq;simp only [List.mem_cons,List.not_mem_nil,or_false] at hq
 rcases hq with rfl | rfl
 ·unfold wpOp;simp only [h1];rw [if_pos (hw1 _)];refine .inl ?_;unfold Oper.wp;rw [hx1];refine Calls.mono hA ?_;rintro e w1 ⟨u,rfl,uu,t1,t2,c1⟩;rw [hd1];refine ⟨fun _ => t1,?_⟩;refine M_take k dk (F u) _ hk hdk hs hfk hri hmk hlm (fun c a w => hQ _ c a w) (hwk _) (fun w' _ => hxk u w' uu) t1 rfl rfl ?_;exact M_run j d2 (z w1) (N w1) h2 hd2 hrik (hw2 _) rfl (hx2 _ w1) t2 (h u (z w1) (N w1) uu t2 c1)
 ·unfold wpOp;simp only [h2];rw [if_pos (hw2 _)];refine .inl ?_;unfold Oper.wp;rw [hx2,Oper.upon_value,hd2];refine ⟨fun _ => hT,?_⟩;refine ⟨fun h0 => (by rw [hrj] at h0; cases h0),fun q hq => ?_⟩;rw [hrj,List.mem_singleton] at hq;subst hq;unfold wpOp;simp only [h1];rw [if_pos (hw1 _)];refine .inl ?_;unfold Oper.wp;rw [hx1'];refine Calls.mono hB ?_;rintro e w1 ⟨u,rfl,uu,t1,c1⟩;rw [hd1];refine ⟨fun _ => t1,?_⟩;refine M_run k dk (F u) w1 hk hdk hrji (hwk _) rfl (hxk' u (z w) w1 uu) t1 ?_;have hh := h u (z w) w1 uu t1 c1;rw [Array.setIfInBounds_comm (xs := listed.setIfInBounds q true) _ _ (Ne.symm hjk),Array.setIfInBounds_comm (xs := listed) _ _ hij,set_comm2 (a.tmps.setIfInBounds d1 u) (Ne.symm d2k),set_comm2 a.tmps d12] at hh;exact hh
end
end
end Go.Proofs.YtmgbhicogmclgaaGreat

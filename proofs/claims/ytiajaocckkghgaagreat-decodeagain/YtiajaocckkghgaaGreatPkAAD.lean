/- Part 4 of what the proof stands on. -/
import Derived.Test.YtiajaocckkghgaaGreatPkAAC
import Derived.Deep.QuietTactic
import Derived.Deep.RegionWith
namespace Go.Proofs.YtiajaocckkghgaaGreat
set_option maxHeartbeats 8000000
set_option linter.unusedVariables false
set_option linter.unusedSimpArgs false
set_option maxRecDepth 20000
section
open Go.ChangeShapes Go.WideShapes Go.ChangeAt Go.RowKit
def PlnV (w : World) (v : Value) : Prop := ∀ g off n cap,v = .slice (some ⟨g,off,none⟩) n cap → n ≠ 0 → ∃ cs ty,w.heap[g]? = some (.cells cs ty (0,0))
def TrQ : Nat → World → List Value → Tr → Prop
 | 0,_,_,_ => False
 | n + 1,w,r,t => ∃ ve vr,r = [.int .i64 t.kind,.int .i64 t.n,.string t.s,ve,vr] ∧ Is64 t.kind ∧ Is64 t.n ∧ t.s.size ≤ 140737488351232 ∧ Fd64 t.rest ∧ RowG w vr 4 (fdRows t.rest) ∧ RowP (EnC (TrQ n w) w) w 2 ve t.es ∧ PlnV w ve
abbrev TrsQ (n : Nat) (w : World) (v : Value) (ts : List Tr) : Prop := RowP (TrQ n w) w 5 v ts
abbrev EnsQ (n : Nat) (w : World) (v : Value) (es : List (Int × List Tr)) : Prop := RowP (EnC (TrQ n w) w) w 2 v es
theorem PlnV.below {w w1 : World} {v : Value} (h : PlnV w v) (hb : Below w.heap.size w w1) : PlnV w1 v := fun g off n cap e hn => by
 obtain ⟨cs,ty,h1⟩ := h g off n cap e hn;exact ⟨cs,ty,(hb.block g (Array.getElem?_eq_some_iff.1 h1).1).trans h1⟩
theorem TrQ.below : ∀ {n : Nat} {w w1 : World} {r : List Value} {t : Tr},TrQ n w r t → Below w.heap.size w w1 → TrQ n w1 r t
 | 0,_,_,_,_,h,_ => h
 | n + 1,w,w1,r,t,h,hb => by
  obtain ⟨ve,vr,h1,h2,h3,h4,h5,h6,h7,h8⟩ := h;refine ⟨ve,vr,h1,h2,h3,h4,h5,h6.below hb,h7.mono hb fun r x hx hp => ?_,h8.below hb⟩;obtain ⟨vt,g1,g2,g3⟩ := hp;exact ⟨vt,g1,g2,g3.mono hb fun r x hx hp => hp.below hb⟩
theorem RowP.belowTQ {n : Nat} {w w1 : World} {v : Value} {ts : List Tr} (h : TrsQ n w v ts) (hb : Below w.heap.size w w1) : TrsQ n w1 v ts := RowP.mono h hb fun _ _ _ hp => hp.below hb
theorem RowP.belowEQ {n : Nat} {w w1 : World} {v : Value} {es : List (Int × List Tr)} (h : EnsQ n w v es) (hb : Below w.heap.size w w1) : EnsQ n w1 v es :=
 RowP.mono h hb fun _ _ _ hp => by
  obtain ⟨vt,g1,g2,g3⟩ := hp;exact ⟨vt,g1,g2,g3.belowTQ hb⟩
theorem TrQ.trC : ∀ {n : Nat} {w : World} {r : List Value} {t : Tr},TrQ n w r t → TrC n w r t
 | 0,_,_,_,h => h
 | n + 1,w,r,t,h => by
  obtain ⟨ve,vr,h1,h2,h3,h4,h5,h6,h7,h8⟩ := h;refine ⟨ve,vr,h1,h2,h3,h4,h5,h6,h7.imp fun r x hx hp => ?_⟩;obtain ⟨vt,g1,g2,g3⟩ := hp;exact ⟨vt,g1,g2,g3.imp fun r x hx hp => hp.trC⟩
theorem own_pln {w : World} {B e s n : Nat} {v : Value} {xs : List Value} (h : w.ownsRow B e s v n xs) : PlnV w v := by
 intro g off m cap ev hm
 rcases h.2 with ⟨rfl,_⟩ | ⟨g',cap',cur,rfl,_,h3,_⟩
 ·cases ev
 ·simp at ev
  obtain ⟨⟨rfl,_⟩,_⟩ := ev;exact ⟨cur,e,h3⟩
theorem RowP.uniq {α : Type} {P Q : List Value → α → Prop} {w : World} {size : Nat} {a : Option Addr} {N c1 c2 : Nat} {xs ys : List α} (h : RowP P w size (.slice a N c1) xs) (k : RowP Q w size (.slice a N c2) ys)
  (hp : ∀ r s x y,P r x → Q s y → (∀ j : Nat,r[j]? ≠ none → s[j]? ≠ none → r[j]? = s[j]?) → x = y) : xs = ys := by
 obtain ⟨a1,c1',e1,_,_,_,_,_⟩ := h.open;obtain ⟨a2,c2',e2,_,_,_,_,_⟩ := k.open;simp only [Value.slice.injEq] at e1 e2;obtain ⟨_,e1,_⟩ := e1;obtain ⟨_,e2,_⟩ := e2;refine List.ext_getElem? fun i => ?_
 by_cases hi : i < xs.length
 ·obtain ⟨g,off,ha,r,hr,hcr⟩ := h.get (List.getElem?_eq_getElem hi);obtain ⟨g',off',ha',s,hs,hcs⟩ := k.get (i := i) (List.getElem?_eq_getElem (by omega));rw [ha] at ha'
  simp at ha'
  obtain ⟨rfl,rfl⟩ := ha';rw [List.getElem?_eq_getElem hi,List.getElem?_eq_getElem (by omega)];refine congrArg some (hp r s _ _ hr hs fun j h1 h2 => ?_)
  cases hrj : r[j]? with
  | none => exact absurd hrj h1
  | some u =>
   cases hsj : s[j]? with
   | none => exact absurd hsj h2
   | some u' =>
    have q1 := hcr j u hrj;have q2 := hcs j u' hsj;rw [q1] at q2;exact q2
 ·rw [List.getElem?_eq_none (by omega),List.getElem?_eq_none (by omega)]
theorem fd_uniq {w : World} {a : Option Addr} {N c1 c2 : Nat} {l m : List Fd} (h : RowG w (.slice a N c1) 4 (fdRows l)) (k : RowG w (.slice a N c2) 4 (fdRows m)) : l = m := by
 have h1 : RowP (fun r (f : Fd) => r = f.cells) w 4 (.slice a N c1) l := ⟨fdRows l,h,by simp [fdRows],fun i x hx => ⟨x.cells,by simp [fdRows,hx],rfl⟩⟩;have h2 : RowP (fun r (f : Fd) => r = f.cells) w 4 (.slice a N c2) m := ⟨fdRows m,k,by simp [fdRows],fun i x hx => ⟨x.cells,by simp [fdRows,hx],rfl⟩⟩;refine h1.uniq h2 fun r s x y hr hs hj => ?_
 subst hr hs;have j0 := hj 0 (by simp [Fd.cells]) (by simp [Fd.cells]);have j1 := hj 1 (by simp [Fd.cells]) (by simp [Fd.cells]);have j2 := hj 2 (by simp [Fd.cells]) (by simp [Fd.cells]);have j3 := hj 3 (by simp [Fd.cells]) (by simp [Fd.cells])
 simp [Fd.cells] at j0 j1 j2 j3
 cases x; cases y; simp_all
theorem TrC.uniq : ∀ {n m : Nat} {w : World} {r s : List Value} {t u : Tr},TrC n w r t → TrC m w s u → (∀ j : Nat,r[j]? ≠ none → s[j]? ≠ none → r[j]? = s[j]?) → t = u
 | 0,_,_,_,_,_,_,h,_,_ => h.elim
 | _ + 1,0,_,_,_,_,_,_,h,_ => h.elim
 | n + 1,m + 1,w,r,s,t,u,h,k,hj => by
  obtain ⟨ve,vr,rfl,_,_,_,_,h6,h7⟩ := h;obtain ⟨ve',vr',rfl,_,_,_,_,k6,k7⟩ := k;have j0 := hj 0 (by simp) (by simp);have j1 := hj 1 (by simp) (by simp);have j2 := hj 2 (by simp) (by simp);have j3 := hj 3 (by simp) (by simp);have j4 := hj 4 (by simp) (by simp)
  simp at j0 j1 j2 j3 j4
  subst j3 j4;obtain ⟨a1,c1,e1,_⟩ := h7.open;obtain ⟨a2,c2,e2,_⟩ := h6.form2;subst e1 e2
  have hes : t.es = u.es := h7.uniq k7 fun r s x y hp hq hj => by
   obtain ⟨vt,rfl,_,g3⟩ := hp;obtain ⟨vt',rfl,_,g3'⟩ := hq;have i0 := hj 0 (by simp) (by simp);have i1 := hj 1 (by simp) (by simp)
   simp at i0 i1
   subst i1;obtain ⟨a3,c3,e3,_⟩ := g3.open;subst e3;have := g3.uniq g3' fun r s x y hp hq hj => hp.uniq hq hj
   exact Prod.ext i0 this
  have hrs : t.rest = u.rest := fd_uniq h6 k6
  cases t; cases u; simp_all
def plOf (v : Value) : Pl := match v with
 | .slice a n _ => if n = 0 then (none,0) else (a,n)
 | _ => (none,0)
theorem plOf_ok {w : World} {v : Value} {P : List Value → (Int × List Tr) → Prop} {es : List (Int × List Tr)} (h : PlnV w v) (hr : RowP P w 2 v es) : PlOk w (plOf v) := by
 obtain ⟨a,cap,rfl,_,_,h4,_⟩ := hr.open;intro b hb;unfold plOf at hb;simp only at hb
 split at hb
 ·cases hb
 ·rename_i hne
  simp only at hb;subst hb
  rcases h4 with rfl | ⟨g,off,e⟩
  ·exact absurd rfl hne
  ·simp at e
   subst e;exact h g off _ cap rfl hne
theorem pl_uniq {n m : Nat} {w : World} {v v' : Value} {es es' : List (Int × List Tr)} (h : EnsQ n w v es) (k : EnsQ m w v' es') (e : plOf v = plOf v') : es = es' := by
 obtain ⟨a,cap,rfl,_,_,h4,_⟩ := RowP.open h;obtain ⟨a',cap',rfl,_,_,h4',_⟩ := RowP.open k;unfold plOf at e;simp only at e
 by_cases hn : es.length = 0
 ·rw [if_pos hn] at e
  by_cases hn' : es'.length = 0
  ·rw [List.eq_nil_of_length_eq_zero hn,List.eq_nil_of_length_eq_zero hn']
  ·rw [if_neg hn'] at e
   simp at e
   exact absurd (e.2.symm ▸ rfl) hn'
 ·rw [if_neg hn] at e
  by_cases hn' : es'.length = 0
  ·rw [if_pos hn'] at e
   simp at e
   exact absurd e.2 (by intro h0; rw [h0] at hn; exact hn rfl)
  ·rw [if_neg hn'] at e;simp only [Prod.mk.injEq] at e;obtain ⟨rfl,e2⟩ := e;rw [← e2] at k;refine RowP.uniq h k fun r s x y hp hq hj => ?_
   obtain ⟨vt,rfl,_,g3⟩ := hp;obtain ⟨vt',rfl,_,g3'⟩ := hq;have i0 := hj 0 (by simp) (by simp);have i1 := hj 1 (by simp) (by simp)
   simp at i0 i1
   subst i1;obtain ⟨a3,c3,e3,_⟩ := g3.open;subst e3;exact Prod.ext i0 (g3.uniq g3' fun r s x y hp hq hj => hp.trC.uniq hq.trC hj)
def Cel (w w' : World) : Prop := ∀ (k : Nat) (cs : Array Value) (t : TypeId) (fz : Nat × Nat),w.heap[k]? = some (Obj.cells cs t fz) → w'.heap[k]? = some (Obj.cells cs t fz)
theorem Cel.ofBelow {w w' : World} (h : Below w.heap.size w w') : Cel w w' := fun k cs t fz e => (h.block k (Array.getElem?_eq_some_iff.1 e).1).trans e
theorem Cel.ofKp {S : Nat → Prop} {w w' : World} (h : Kp S w w') (hs : ∀ k cs t fz,w.heap[k]? = some (.cells cs t fz) → ¬ S k) : Cel w w' := fun k cs t fz e => (h.block k (Array.getElem?_eq_some_iff.1 e).1 (hs k cs t fz e)).trans e
theorem Cel.cell {w w' : World} (h : Cel w w') {p : Addr} {u : Value} (hc : w.cell? p = some u) : w'.cell? p = some u := by
 cases hb : w.heap[p.block]? with
 | none => simp [World.cell?,hb] at hc
 | some o =>
  cases o with
  | cells cs t fz =>
   have := h _ _ _ _ hb;simp only [World.cell?,hb] at hc;simp only [World.cell?,this];exact hc
  | _ => simp [World.cell?,hb] at hc
theorem RowG.cel {w w1 : World} {v : Value} {size : Nat} {rs : List (List Value)} (h : RowG w v size rs) (hb : Cel w w1) : RowG w1 v size rs := by
 obtain ⟨a,cap,h1,h2,h3,h0,h4⟩ := h.form;refine ⟨a,cap,h1,h2,h3,h0,fun hne => ?_⟩;obtain ⟨g,off,h5,h6⟩ := h4 hne;exact ⟨g,off,h5,fun i c u j hc hu => hb.cell (h6 i c u j hc hu)⟩
theorem RowP.cel {α : Type} {P Q : List Value → α → Prop} {w w1 : World} {size : Nat} {v : Value} {xs : List α} (h : RowP P w size v xs) (hb : Cel w w1) (hp : ∀ r x,x ∈ xs → P r x → Q r x) : RowP Q w1 size v xs := by
 obtain ⟨rows,h1,h2,h3⟩ := h;refine ⟨rows,h1.cel hb,h2,fun i x hx => ?_⟩;obtain ⟨r,g1,g2⟩ := h3 i x hx;exact ⟨r,g1,hp r x (List.mem_of_getElem? hx) g2⟩
theorem PlnV.cel {w w1 : World} {v : Value} (h : PlnV w v) (hb : Cel w w1) : PlnV w1 v := fun g off n cap e hn => by
 obtain ⟨cs,ty,h1⟩ := h g off n cap e hn;exact ⟨cs,ty,hb _ _ _ _ h1⟩
theorem Blk.cel {w w' : World} {b : Nat} {cs : Array Value} {t : TypeId} (h : Blk w b cs t) (hb : Cel w w') : Blk w' b cs t := hb _ _ _ _ h
def TrR : Nat → World → List Value → Tr → Prop
 | 0,_,_,_ => False
 | n + 1,w,r,t => ∃ ve vr,r = [.int .i64 t.kind,.int .i64 t.n,.string t.s,ve,vr] ∧ Is64 t.kind ∧ Is64 t.n ∧ t.s.size ≤ 140737488351232 ∧ Fd64 t.rest ∧ RowG w vr 4 (fdRows t.rest) ∧ RowP (EnC (TrR n w) w) w 2 ve t.es ∧ PlnV w ve ∧ PlnV w vr
abbrev TrsR (n : Nat) (w : World) (v : Value) (ts : List Tr) : Prop := RowP (TrR n w) w 5 v ts
abbrev EnsR (n : Nat) (w : World) (v : Value) (es : List (Int × List Tr)) : Prop := RowP (EnC (TrR n w) w) w 2 v es
theorem TrR.cel : ∀ {n : Nat} {w w1 : World} {r : List Value} {t : Tr},TrR n w r t → Cel w w1 → TrR n w1 r t
 | 0,_,_,_,_,h,_ => h
 | n + 1,w,w1,r,t,h,hb => by
  obtain ⟨ve,vr,h1,h2,h3,h4,h5,h6,h7,h8,h9⟩ := h;refine ⟨ve,vr,h1,h2,h3,h4,h5,h6.cel hb,h7.cel hb fun r x hx hp => ?_,h8.cel hb,h9.cel hb⟩;obtain ⟨vt,g1,g2,g3⟩ := hp;exact ⟨vt,g1,g2,RowP.cel g3 hb fun r x hx hp => hp.cel hb⟩
theorem RowP.celT {n : Nat} {w w1 : World} {v : Value} {ts : List Tr} (h : TrsR n w v ts) (hb : Cel w w1) : TrsR n w1 v ts := RowP.cel h hb fun _ _ _ hp => hp.cel hb
theorem RowP.celE {n : Nat} {w w1 : World} {v : Value} {es : List (Int × List Tr)} (h : EnsR n w v es) (hb : Cel w w1) : EnsR n w1 v es :=
 RowP.cel h hb fun _ _ _ hp => by
  obtain ⟨vt,g1,g2,g3⟩ := hp;exact ⟨vt,g1,g2,g3.celT hb⟩
theorem TrR.trQ : ∀ {n : Nat} {w : World} {r : List Value} {t : Tr},TrR n w r t → TrQ n w r t
 | 0,_,_,_,h => h
 | n + 1,w,r,t,h => by
  obtain ⟨ve,vr,h1,h2,h3,h4,h5,h6,h7,h8,h9⟩ := h;refine ⟨ve,vr,h1,h2,h3,h4,h5,h6,h7.imp fun r x hx hp => ?_,h8⟩;obtain ⟨vt,g1,g2,g3⟩ := hp;exact ⟨vt,g1,g2,g3.imp fun r x hx hp => hp.trQ⟩
theorem TrO.trR : ∀ {n B : Nat} {w : World} {r : List Value} {t : Tr} {bs : List Nat},TrO n B w r t bs → TrR n w r t
 | 0,_,_,_,_,_,h => h
 | n + 1,B,w,r,t,bs,h => by
  obtain ⟨ve,vr,rows,bss,h1,h2,h3,h4,h5,h6,h7,rfl⟩ := h;refine ⟨ve,vr,h1,h2,h3,h4,h5,own_rest h6,h7.rowP (by decide) (fun r x b hx hp => ?_),own_pln h7.own,own_pln h6⟩;obtain ⟨vt,rows',bss',g1,g2,g3,rfl⟩ := hp;exact ⟨vt,g1,g2,g3.rowP (by decide) fun r x b hx hp => hp.trR⟩
theorem RowP.all {α : Type} {P : List Value → α → Prop} {w : World} {size : Nat} {v : Value} {xs : List α} (h : RowP P w size v xs) : ∀ x ∈ xs,∃ r,P r x := fun x hx => by
 obtain ⟨rows,h1,h2,h3⟩ := h;obtain ⟨i,hi,e⟩ := List.getElem_of_mem hx;obtain ⟨r,_,g2⟩ := h3 i x (by rw [List.getElem?_eq_getElem hi,e]);exact ⟨r,g2⟩
theorem TrR.dp : ∀ {n : Nat} {w : World} {r : List Value} {t : Tr},TrR n w r t → DpN n t
 | 0,_,_,_,h => h
 | n + 1,w,r,t,h => by
  obtain ⟨ve,vr,h1,h2,h3,h4,h5,h6,h7,h8,h9⟩ := h;intro e he x hx;obtain ⟨r',vt,_,_,g3⟩ := h7.all e he;obtain ⟨r'',hp⟩ := RowP.all g3 x hx;exact hp.dp
def TrW (n : Nat) (w : World) (v : Value) (t : Tr) : Prop := ∃ r,v = .agg r.toArray ∧ TrR n w r t
theorem TrW.cel {n : Nat} {w w1 : World} {v : Value} {t : Tr} (h : TrW n w v t) (hb : Cel w w1) : TrW n w1 v t := by
 obtain ⟨r,h1,h2⟩ := h;exact ⟨r,h1,h2.cel hb⟩
theorem TrV.trW {n B : Nat} {w : World} {v : Value} {t : Tr} {bs : List Nat} (h : TrV n B w v t bs) : TrW n w v t := by
 obtain ⟨r,h1,h2,_⟩ := h;exact ⟨r,h1,h2.trR⟩
theorem TrW.open {n : Nat} {w : World} {v : Value} {t : Tr} (h : TrW n w v t) : ∃ m a1 c1 a2 c2,n = m + 1 ∧ v = .agg #[.int .i64 t.kind,.int .i64 t.n,.string t.s,.slice a1 t.es.length c1,.slice a2 t.rest.length c2] ∧ Is64 t.kind ∧ Is64 t.n ∧ t.s.size ≤ 140737488351232 ∧ t.es.length ≤ c1 ∧ c1 ≤ maxLen ∧ t.rest.length ≤ c2 ∧ c2 ≤ maxLen ∧
  (t.es.length = 0 ∨ ∃ g off,a1 = some ⟨g,off,none⟩) ∧ (t.rest.length = 0 ∨ ∃ g off,a2 = some ⟨g,off,none⟩) ∧ RowG w (.slice a2 t.rest.length c2) 4 (fdRows t.rest) ∧ EnsR m w (.slice a1 t.es.length c1) t.es ∧ PlnV w (.slice a1 t.es.length c1) ∧ PlnV w (.slice a2 t.rest.length c2) := by
 obtain ⟨r,rfl,h⟩ := h
 cases n with
 | zero => exact h.elim
 | succ m =>
  obtain ⟨ve,vr,rfl,h2,h3,h4,h5,h6,h7,h8,h9⟩ := h;obtain ⟨a1,c1,rfl,u1,u2,u3, -⟩ := RowP.open h7;obtain ⟨a2,c2,rfl,x1,x2,x3, -⟩ := rest_holds h6;exact ⟨m,a1,c1,a2,c2,rfl,rfl,h2,h3,h4,u1,u2,x1,x2,u3.imp (fun h => by rw [h]; rfl) id,x3.imp (fun h => by rw [h]; rfl) id,h6,h7,h8,h9⟩
theorem trsR_get {n : Nat} {w : World} {a : Option Addr} {N cap : Nat} {ts : List Tr} (h : TrsR n w (.slice a N cap) ts) {i : Nat} {t : Tr} (hi : ts[i]? = some t) :
  ∃ g off a1 n1 c1 a2 n2 c2,a = some ⟨g,off,none⟩ ∧ w.cell? ⟨g,off + i * 5,none⟩ = some (.int .i64 t.kind) ∧ w.cell? ⟨g,off + i * 5 + 1,none⟩ = some (.int .i64 t.n) ∧ w.cell? ⟨g,off + i * 5 + 2,none⟩ = some (.string t.s) ∧ w.cell? ⟨g,off + i * 5 + 3,none⟩ = some (.slice a1 n1 c1) ∧ w.cell? ⟨g,off + i * 5 + 4,none⟩ = some (.slice a2 n2 c2) ∧
   TrW n w (.agg #[.int .i64 t.kind,.int .i64 t.n,.string t.s,.slice a1 n1 c1,.slice a2 n2 c2]) t := by
 obtain ⟨g,off,ha,r,hr,hc⟩ := RowP.get h hi;obtain ⟨m,a1,c1,a2,c2,rfl,e,_⟩ := TrW.open ⟨r,rfl,hr⟩
 have e1 : r = [.int .i64 t.kind,.int .i64 t.n,.string t.s,.slice a1 t.es.length c1,.slice a2 t.rest.length c2] := by simpa using e
 subst e1;exact ⟨g,off,a1,_,c1,a2,_,c2,ha,hc 0 _ rfl,hc 1 _ rfl,hc 2 _ rfl,hc 3 _ rfl,hc 4 _ rfl,_,rfl,hr⟩
theorem ensR_get {n : Nat} {w : World} {a : Option Addr} {N cap : Nat} {es : List (Int × List Tr)} (h : EnsR n w (.slice a N cap) es) {i : Nat} {e : Int × List Tr} (hi : es[i]? = some e) :
  ∃ g off a1 c1,a = some ⟨g,off,none⟩ ∧ w.cell? ⟨g,off + i * 2,none⟩ = some (.int .i64 e.1) ∧ w.cell? ⟨g,off + i * 2 + 1,none⟩ = some (.slice a1 e.2.length c1) ∧ Is64 e.1 ∧ TrsR n w (.slice a1 e.2.length c1) e.2 ∧ e.2.length ≤ c1 ∧ c1 ≤ maxLen := by
 obtain ⟨g,off,ha,r,⟨vt,rfl,h2,h3⟩,hc⟩ := RowP.get h hi;obtain ⟨a1,c1,rfl,u1,u2, -⟩ := RowP.open h3;exact ⟨g,off,a1,c1,ha,hc 0 _ rfl,hc 1 _ rfl,h2,h3,u1,u2⟩
theorem TrW.parts {n : Nat} {w : World} {t : Tr} {K N : Int} {S : ByteArray} {a1 a2 : Option Addr} {n1 c1 n2 c2 : Nat} (h : TrW n w (.agg #[.int .i64 K,.int .i64 N,.string S,.slice a1 n1 c1,.slice a2 n2 c2]) t) : t.kind = K ∧ t.n = N ∧ t.s = S ∧ t.es.length = n1 ∧ t.rest.length = n2 := by
 obtain ⟨m,a1',c1',a2',c2', -,e, -⟩ := h.open;simp only [Value.agg.injEq,Array.mk.injEq,List.cons.injEq,Value.int.injEq,Value.string.injEq,Value.slice.injEq,and_true,true_and] at e;obtain ⟨e1,e2,e3,⟨-,e4, -⟩, -,e5, -⟩ := e;exact ⟨e1.symm,e2.symm,e3.symm,e4.symm,e5.symm⟩
theorem MsIn.cel {w w1 : World} {v : Value} {ms : List MsS} (h : MsIn w v ms) (hb : Cel w w1) : MsIn w1 v ms := by
 obtain ⟨rows,h1,h2,h3⟩ := h;refine ⟨rows,h1.cel hb,h2,fun i m hm => ?_⟩;obtain ⟨vf,vr,g1,g2,g3⟩ := h3 i m hm;exact ⟨vf,vr,g1,g2.cel hb,g3.cel hb⟩
theorem EnIn.cel {w w1 : World} {v : Value} {es : List EnS} (h : EnIn w v es) (hb : Cel w w1) : EnIn w1 v es := by
 obtain ⟨rows,h1,h2,h3⟩ := h;refine ⟨rows,h1.cel hb,h2,fun i m hm => ?_⟩;obtain ⟨vv,g1,g2⟩ := h3 i m hm;exact ⟨vv,g1,g2.cel hb⟩
theorem ScIn.cel {w w1 : World} {v : Value} {s : ScS} (h : ScIn w v s) (hb : Cel w w1) : ScIn w1 v s := by
 obtain ⟨vm,ve,vt,h1,h2,h3,h4⟩ := h;exact ⟨vm,ve,vt,h1,h2.cel hb,h3.cel hb,h4.cel hb⟩
theorem eql_ptrR (w : World) (d : Nat) (p q : Option Addr) (hp : ∀ a,p = some a → ∃ cs ty,w.heap[a.block]? = some (.cells cs ty (0,0))) (hq : ∀ a,q = some a → ∃ cs ty,w.heap[a.block]? = some (.cells cs ty (0,0))) :
  (Op.equalIn (d + 1) 137 (.pointer p) (.pointer q)).run Tryz.prog w = .ok (decide (p = q)) w := by
 have hu : Tryz.prog.underlying 137 = some (.pointer 61) := by kernel_rfl
 have hi : (Tryz.prog.info? 61).map (fun i => i.size) = some 4 := by kernel_rfl
 obtain ⟨j,hj,hs⟩ : ∃ j,Tryz.prog.info? 61 = some j ∧ j.size = 4 := by
  cases h : Tryz.prog.info? 61 with
  | none => rw [h] at hi; cases hi
  | some j => rw [h] at hi; exact ⟨j,rfl,by simpa using hi⟩
 cases p with
 | none => cases q <;> simp [Op.equalIn,run_underlying hu]
 | some a =>
  cases q with
  | none => simp [Op.equalIn,run_underlying hu]
  | some b =>
   by_cases e : a = b
   ·subst e
    simp [Op.equalIn,run_underlying hu,sizeOf,typeInfo,hj,hs,run_sameAddr_same]
   ·obtain ⟨ca,ta,ha⟩ := hp a rfl;obtain ⟨cb,tb,hb⟩ := hq b rfl
    simp [Op.equalIn,run_underlying hu,sizeOf,typeInfo,hj,hs,run_sameAddr_other w e ha hb,e]
theorem toList_ne {a b : ByteArray} (h : ¬ a = b) : ¬ a.toList = b.toList := fun e => h (by
 rw [ByteArray.toList_eq,ByteArray.toList_eq] at e;obtain ⟨⟨l⟩⟩ := a;obtain ⟨⟨m⟩⟩ := b;simp only at e;subst e
 rfl)
theorem find_askI {T : TypeId} {w : World} {k : Value} : ∀ (l : List MapEntry) (i : Nat),Told T w k (l.map MapEntry.key) → (∀ e ∈ l,e.val = .agg #[]) → k ∈ l.map MapEntry.key →
  ∃ j e,(Instr.findAsking T k l i).run Tryz.prog w = .ok (some (i + j,.agg #[])) w ∧ l[j]? = some e ∧ e.key = k
 | [],i,_,_,h => by cases h
 | e :: l,i,ht,hv,hm => by
  obtain ⟨h1,h2⟩ := ht e.key (List.mem_cons_self ..);have h3 := hv e (List.mem_cons_self ..)
  by_cases hke : k = e.key
  ·refine ⟨0,e,?_,rfl,hke.symm⟩;unfold Instr.findAsking;rw [Sem.run_bind,h1 hke]
   simp [Result.andThen,h3]
  ·have hrun : (Instr.findAsking T k (e :: l) i).run Tryz.prog w = (Instr.findAsking T k l (i + 1)).run Tryz.prog w := by
    conv => lhs; unfold Instr.findAsking
    rw [Sem.run_bind,h2 hke]
    simp [Result.andThen]
   rcases List.mem_cons.1 hm with h | h
   ·exact absurd h hke
   ·obtain ⟨j,e',g1,g2,g3⟩ := find_askI l (i + 1) (fun q hq => ht q (List.mem_cons_of_mem _ hq)) (fun x hx => hv x (List.mem_cons_of_mem _ hx)) h;exact ⟨j + 1,e',by rw [hrun,g1]; congr 3; omega,by simpa using g2,g3⟩
theorem again_pl {T MT E : TypeId} {w : World} {k : Value} {L : List Value} {b : Nat} (hm : Tryz.prog.underlying MT = some (.map T E)) {fs : TypeDesc} (hu : Tryz.prog.underlying T = some fs) (hf : ∀ k q,Instr.sameNow fs (.agg k) q = none) {ks : Array Value} (hk : k = .agg ks) (hsb : Instr.sameBits 10000 k k = true)
  (hc : ∀ e,(Instr.checkKey e 10000 T k).run Tryz.prog w = .ok () w) (hs : PlSet w b L) (ht : Told T w k L) (hn : k ∈ L) :
  ∃ w',(Instr.mapUpdate MT (.map (some b)) k (.agg #[])).run Tryz.prog w = .ok () w' ∧ PlSet w' b L ∧ Kp (fun q => q = b) w w' := by
 have hs0 := hs;obtain ⟨es,c,h1,rfl,h3⟩ := hs;obtain ⟨j,e,g1,g2,g3⟩ := find_askI es.toList 0 ht h3 hn
 have hne : ∃ a l,es.toList = a :: l := by
  cases h : es.toList with
  | nil => rw [h] at hn; cases hn
  | cons a l => exact ⟨a,l,rfl⟩
 obtain ⟨a,l,hal⟩ := hne
 have hj : (Instr.findKey T k es.toList).run Tryz.prog w = .ok (some (j,.agg #[])) w := by
  rw [hal] at g1 ⊢
  have h1 : Instr.findNow fs k (a :: l) 0 = none := by rw [hk]; simp [Instr.findNow,hf]
  rw [Nat.zero_add] at g1;rw [← g1]
  simp [Instr.findKey,run_underlying hu,h1]
 have hgo : (getObj b).run Tryz.prog w = .ok (.map es c) w := by simp [getObj,Sem.run,h1]
 have hse : ∀ o,(setObj b o).run Tryz.prog w = .ok () { w with heap := w.heap.setIfInBounds b o } := fun o => by simp [setObj,Sem.run,h1]
 have hej : es[j]? = some e := by simpa using g2
 have hkt : (Instr.keyThatStays (((es[j]?).map (·.key)).getD k) k).run Tryz.prog w = .ok k w := by
  rw [hej]
  simp [Instr.keyThatStays,g3,hsb]
 have hmod : (es.modify j fun e => { e with key := k,val := .agg #[] }) = es := by
  have hv := h3 e (List.mem_of_getElem? g2);refine Array.ext_getElem? fun i => ?_
  rw [Array.getElem?_modify]
  by_cases hij : j = i
  ·subst hij;rw [if_pos rfl,hej]
   simp [← g3,← hv]
  ·rw [if_neg hij]
 refine ⟨{ w with heap := w.heap.setIfInBounds b (.map es c) },?_,?_,?_⟩
 ·simp [Instr.mapUpdate,run_underlying hm,hgo,hc,hj,hkt,hse,hmod]
 ·refine ⟨es,c,?_,rfl,h3⟩;have := (Array.getElem?_eq_some_iff.1 h1).1
  simp [this]
 ·refine ⟨rfl,rfl,rfl,by simp,fun q hq hs => ?_⟩;simp only;rw [Array.getElem?_setIfInBounds_ne (Ne.symm hs)]
theorem plOf_ok4 {w : World} {v : Value} {l : List Fd} (h : PlnV w v) (hr : RowG w v 4 (fdRows l)) : PlOk w (plOf v) := by
 obtain ⟨a,cap,rfl,_,_,h4,_⟩ := rest_holds hr;intro b hb;unfold plOf at hb;simp only at hb
 split at hb
 ·cases hb
 ·rename_i hne
  simp only at hb;subst hb
  rcases h4 with rfl | ⟨g,off,e⟩
  ·exact absurd rfl hne
  ·simp at e
   subst e;exact h g off _ cap rfl hne
theorem pl_uniq4 {w : World} {v v' : Value} {l l' : List Fd} (h : RowG w v 4 (fdRows l)) (k : RowG w v' 4 (fdRows l')) (e : plOf v = plOf v') : l = l' := by
 obtain ⟨a,cap,rfl,_,_,h4,_⟩ := rest_holds h;obtain ⟨a',cap',rfl,_,_,h4',_⟩ := rest_holds k;unfold plOf at e;simp only at e
 by_cases hn : l.length = 0
 ·rw [if_pos hn] at e
  by_cases hn' : l'.length = 0
  ·rw [List.eq_nil_of_length_eq_zero hn,List.eq_nil_of_length_eq_zero hn']
  ·rw [if_neg hn'] at e
   simp at e
   exact absurd (e.2.symm ▸ rfl) hn'
 ·rw [if_neg hn] at e
  by_cases hn' : l'.length = 0
  ·rw [if_pos hn'] at e
   simp at e
   exact absurd e.2 (by intro h0; rw [h0] at hn; exact hn rfl)
  ·rw [if_neg hn'] at e;simp only [Prod.mk.injEq] at e;obtain ⟨rfl,e2⟩ := e;rw [← e2] at k;exact fd_uniq h k
theorem EnC.trQ {n : Nat} {w : World} {v : Value} {es : List (Int × List Tr)} (h : EnsR n w v es) : EnsQ n w v es := RowP.imp h fun r x hx hp => by
 obtain ⟨vt,g1,g2,g3⟩ := hp;exact ⟨vt,g1,g2,g3.imp fun r x hx hp => hp.trQ⟩
structure Idn where
 kind : Int
 n : Int
 s : ByteArray
 e : Pl
 r : Pl
def idC (x : Idn) : List Value := [.int .i64 x.kind,.int .i64 x.n,.string x.s,.pointer x.e.1,.int .i64 (x.e.2 : Int),.pointer x.r.1,.int .i64 (x.r.2 : Int)]
def clV (nm : ByteArray) (x : Idn) : Value := .agg (.string nm :: idC x).toArray
def IdOk (w : World) (x : Idn) : Prop := PlOk w x.e ∧ PlOk w x.r
theorem clV_inj {nm nm' : ByteArray} {x y : Idn} : clV nm x = clV nm' y ↔ nm = nm' ∧ x = y := by
 obtain ⟨k,n,s,⟨p1,c1⟩,⟨p2,c2⟩⟩ := x;obtain ⟨k',n',s',⟨p1',c1'⟩,⟨p2',c2'⟩⟩ := y
 simp [clV,idC]
 intro _ _ _ _
 constructor
 ·rintro ⟨h4,h5,h6,h7⟩; exact ⟨⟨h4,by omega⟩,h6,by omega⟩
 ·rintro ⟨⟨h4,h5⟩,h6,h7⟩; exact ⟨h4,by omega,h6,by omega⟩
theorem eql_cl (w : World) (nm nm' : ByteArray) (x y : Idn) (hx : IdOk w x) (hy : IdOk w y) : (Op.equal 144 (clV nm x) (clV nm' y)).run Tryz.prog w = .ok (decide (nm = nm' ∧ x.kind = y.kind ∧ x.n = y.n ∧ x.s = y.s ∧ x.e = y.e ∧ x.r = y.r)) w := by
 obtain ⟨k,n,s,⟨p1,c1⟩,⟨p2,c2⟩⟩ := x;obtain ⟨k',n',s',⟨p1',c1'⟩,⟨p2',c2'⟩⟩ := y;have h1 := fun d => eql_ptr w d p1 p1' hx.1 hy.1
 have h2 := fun d => eql_ptrR w d p2 p2' hx.2 hy.2
 by_cases e1 : nm = nm'
 ·by_cases e2 : k = k'
  ·by_cases e3 : n = n'
   ·by_cases e4 : s = s'
    ·by_cases e5 : p1 = p1'
     ·by_cases e6 : c1 = c1'
      ·by_cases e7 : p2 = p2'
       ·by_cases e8 : c2 = c2'
        ·subst e1 e2 e3 e4 e5 e6 e7 e8
         simp [clV,idC,Op.equal,Op.maxDepth,go_sem,h1,h2]
        ·have e9 : ¬ (c2 : Int) = (c2' : Int) := by omega
         subst e1 e2 e3 e4 e5 e6 e7
         simp [clV,idC,Op.equal,Op.maxDepth,go_sem,h1,h2,e8,e9]
       ·subst e1 e2 e3 e4 e5 e6
        simp [clV,idC,Op.equal,Op.maxDepth,go_sem,h1,h2,e7]
      ·have e9 : ¬ (c1 : Int) = (c1' : Int) := by omega
       subst e1 e2 e3 e4 e5
       simp [clV,idC,Op.equal,Op.maxDepth,go_sem,h1,h2,e6,e9]
     ·subst e1 e2 e3 e4
      simp [clV,idC,Op.equal,Op.maxDepth,go_sem,h1,h2,e5]
    ·have e9 := toList_ne e4;subst e1 e2 e3
     simp [clV,idC,Op.equal,Op.maxDepth,go_sem,h1,h2,e4,e9]
   ·subst e1 e2
    simp [clV,idC,Op.equal,Op.maxDepth,go_sem,h1,h2,e3]
  ·subst e1
   simp [clV,idC,Op.equal,Op.maxDepth,go_sem,h1,h2,e2]
 ·have e9 := toList_ne e1
  simp [clV,idC,Op.equal,Op.maxDepth,go_sem,h1,h2,e1,e9]
theorem check_cl (w : World) (b : Bool) (nm : ByteArray) (x : Idn) : (Instr.checkKey b 10000 144 (clV nm x)).run Tryz.prog w = .ok () w := by kernel_rfl
theorem same_cl (n : Nat) (nm : ByteArray) (x : Idn) : Instr.sameBits (n + 1) (clV nm x) (clV nm x) = true := by
 simp [clV,idC,Instr.sameBits]
 have hb : ∀ s : ByteArray,(s == s) = true := fun ⟨d⟩ => by show (d == d) = true; simp
 exact ⟨hb _,hb _⟩
theorem uClaim : Tryz.prog.underlying 90 = some (.map 144 145) := by kernel_rfl
theorem zeroEl (w : World) : (zeroValue 145).run Tryz.prog w = .ok (.agg #[]) w := by kernel_rfl
theorem told_cl {w : World} {nm : ByteArray} {x : Idn} {L : List (ByteArray × Idn)} (hx : IdOk w x) (hL : ∀ y ∈ L,IdOk w y.2) : Told 144 w (clV nm x) (L.map fun y => clV y.1 y.2) := by
 intro q hq;obtain ⟨y,hy,rfl⟩ := List.mem_map.1 hq;have h := eql_cl w nm y.1 x y.2 hx (hL y hy)
 constructor
 ·intro e;obtain ⟨e1,e2⟩ := clV_inj.1 e;rw [h,decide_eq_true ⟨e1,by rw [e2],by rw [e2],by rw [e2],by rw [e2],by rw [e2]⟩]
 ·intro e;rw [h,decide_eq_false];rintro ⟨e1,e2,e3,e4,e5,e6⟩;refine e (clV_inj.2 ⟨e1,?_⟩);obtain ⟨nm',y⟩ := y
  cases x; cases y; simp_all
theorem mem_clV {nm : ByteArray} {x : Idn} {L : List (ByteArray × Idn)} : clV nm x ∈ (L.map fun y => clV y.1 y.2) ↔ (nm,x) ∈ L := by
 constructor
 ·intro h;obtain ⟨⟨nm',y⟩,hy,e⟩ := List.mem_map.1 h;obtain ⟨rfl,rfl⟩ := clV_inj.1 e;exact hy
 ·intro h;exact List.mem_map.2 ⟨(nm,x),h,rfl⟩
def idOf (t : Tr) (ve vr : Value) : Idn := ⟨t.kind,t.n,t.s,plOf ve,plOf vr⟩
def TrI (n : Nat) (w : World) (x : Idn) (t : Tr) : Prop := ∃ ve vr,x = idOf t ve vr ∧ TrR n w [.int .i64 t.kind,.int .i64 t.n,.string t.s,ve,vr] t
theorem TrI.cel {n : Nat} {w w1 : World} {x : Idn} {t : Tr} (h : TrI n w x t) (hb : Cel w w1) : TrI n w1 x t := by
 obtain ⟨ve,vr,h1,h2⟩ := h;exact ⟨ve,vr,h1,h2.cel hb⟩
theorem TrI.ok {n : Nat} {w : World} {x : Idn} {t : Tr} (h : TrI n w x t) : IdOk w x := by
 obtain ⟨ve,vr,rfl,h⟩ := h
 cases n with
 | zero => exact h.elim
 | succ n =>
  obtain ⟨ve',vr',e,h2,h3,h4,h5,h6,h7,h8,h9⟩ := h;simp only [List.cons.injEq,and_true] at e;obtain ⟨-, -, -,rfl,rfl⟩ := e;exact ⟨plOf_ok h8 h7,plOf_ok4 h9 h6⟩
theorem TrI.uniq {n m : Nat} {w : World} {x : Idn} {t u : Tr} (h : TrI n w x t) (k : TrI m w x u) : t = u := by
 obtain ⟨ve,vr,e,h⟩ := h;obtain ⟨ve',vr',e',k⟩ := k
 cases n with
 | zero => exact h.elim
 | succ n =>
  cases m with
  | zero => exact k.elim
  | succ m =>
   obtain ⟨q1,q2,e1,_,_,_,_,h6,h7,_,_⟩ := h;obtain ⟨q1',q2',e1',_,_,_,_,k6,k7,_,_⟩ := k;simp only [List.cons.injEq,and_true] at e1 e1';obtain ⟨-, -, -,rfl,rfl⟩ := e1;obtain ⟨-, -, -,rfl,rfl⟩ := e1';rw [e] at e';simp only [idOf,Idn.mk.injEq] at e';obtain ⟨i1,i2,i3,i4,i5⟩ := e';have hes : t.es = u.es := pl_uniq (EnC.trQ h7) (EnC.trQ k7) i4;have hrs : t.rest = u.rest := pl_uniq4 h6 k6 i5
   cases t; cases u; simp_all
def KnS (s : ScS) (w : World) (b : Nat) : Prop := ∃ L : List (ByteArray × Idn),PlSet w b (L.map fun y => clV y.1 y.2) ∧ ∀ y ∈ L,∃ n t,TrI n w y.2 t ∧ msgV n s y.1 t = 0
theorem KnS.below {s : ScS} {w w1 : World} {b : Nat} (h : KnS s w b) (hb : Below w.heap.size w w1) : KnS s w1 b := by
 obtain ⟨L,h1,h2⟩ := h;refine ⟨L,h1.below hb,fun y hy => ?_⟩;obtain ⟨n,t,g1,g2⟩ := h2 y hy;exact ⟨n,t,g1.cel (Cel.ofBelow hb),g2⟩
theorem KnS.neB {s : ScS} {w : World} {b : Nat} (h : KnS s w b) {g : Nat} {cs : Array Value} {t : TypeId} {fz : Nat × Nat} (hc : w.heap[g]? = some (.cells cs t fz)) : g ≠ b := by
 obtain ⟨L,h1,_⟩ := h;exact h1.neB hc
theorem KnS.cel {s : ScS} {w w' : World} {b : Nat} (h : KnS s w b) (hk : Kp (fun q => q = b) w w') : Cel w w' := Cel.ofKp hk fun k cs t fz e => h.neB e
theorem KnS.made (s : ScS) (w : World) : KnS s (w.alloc (.map #[] 0)) w.heap.size := ⟨[],PlSet.made w,by simp⟩
theorem KnS.look {s : ScS} {w : World} {b n : Nat} (h : KnS s w b) {nm : ByteArray} {x : Idn} {t : Tr} (hx : TrI n w x t) :
  ∃ R : Bool,(Instr.lookup 90 (.map (some b)) (clV nm x) true).run Tryz.prog w = .ok (.tuple #[.agg #[],.bool R]) w ∧ (R = true → msgV n s nm t = 0) := by
 obtain ⟨L,h1,h2⟩ := h
 have hT : Told 144 w (clV nm x) (L.map fun y => clV y.1 y.2) := told_cl hx.ok fun y hy => by
  obtain ⟨n,t,g1,g2⟩ := h2 y hy;exact g1.ok
 by_cases hm : (nm,x) ∈ L
 ·refine ⟨true,look_pl uClaim zeroEl Tryz.underlying144 (fun _ _ => rfl) rfl (fun e => check_cl _ e nm x) h1 hT true ⟨fun _ => mem_clV.2 hm,fun _ => rfl⟩,fun _ => ?_⟩;obtain ⟨m,u,g1,g2⟩ := h2 _ hm;obtain rfl := hx.uniq g1;obtain ⟨ve,vr,_,q⟩ := hx;obtain ⟨ve',vr',_,q'⟩ := g1;rw [msgV_more n m s nm t q.dp q'.dp];exact g2
 ·exact ⟨false,look_pl uClaim zeroEl Tryz.underlying144 (fun _ _ => rfl) rfl (fun e => check_cl _ e nm x) h1 hT false ⟨(fun h => by cases h),fun h => absurd (mem_clV.1 h) hm⟩,fun h => by cases h⟩
theorem KnS.update {s : ScS} {w : World} {b n : Nat} (h : KnS s w b) {nm : ByteArray} {x : Idn} {t : Tr} (hx : TrI n w x t) (hv : msgV n s nm t = 0) :
  ∃ w',(Instr.mapUpdate 90 (.map (some b)) (clV nm x) (.agg #[])).run Tryz.prog w = .ok () w' ∧ KnS s w' b ∧ Kp (fun q => q = b) w w' := by
 have hK := h;obtain ⟨L,h1,h2⟩ := h
 have hT : Told 144 w (clV nm x) (L.map fun y => clV y.1 y.2) := told_cl hx.ok fun y hy => by
  obtain ⟨n,t,g1,g2⟩ := h2 y hy;exact g1.ok
 have hsb : Instr.sameBits 10000 (clV nm x) (clV nm x) = true := same_cl 9999 nm x
 by_cases hm : (nm,x) ∈ L
 ·obtain ⟨w',e1,e2,e3⟩ := again_pl (k := clV nm x) uClaim Tryz.underlying144 (fun _ _ => rfl) (ks := (.string nm :: idC x).toArray) rfl hsb (fun e => check_cl w e nm x) h1 hT (mem_clV.2 hm);refine ⟨w',e1,⟨L,e2,fun y hy => ?_⟩,e3⟩;obtain ⟨n,t,g1,g2⟩ := h2 y hy;exact ⟨n,t,g1.cel (hK.cel e3),g2⟩
 ·obtain ⟨w',e1,e2,e3,_⟩ := update_pl (k := clV nm x) uClaim Tryz.underlying144 (fun _ _ => rfl) (ks := (.string nm :: idC x).toArray) rfl (fun e => check_cl w e nm x) h1 hT (fun h => hm (mem_clV.1 h));refine ⟨w',e1,⟨L ++ [(nm,x)],by simpa using e2,fun y hy => ?_⟩,e3⟩
  rcases List.mem_append.1 hy with hy | hy
  ·obtain ⟨n,t,g1,g2⟩ := h2 y hy;exact ⟨n,t,g1.cel (hK.cel e3),g2⟩
  ·obtain rfl : y = (nm,x) := by simpa using hy
   exact ⟨n,t,hx.cel (hK.cel e3),hv⟩
end
section
open Go.ChangeShapes Go.WideShapes Go.ChangeAt Go.RowKit Go.Maps
theorem cfield_any {w : World} {snm : ByteArray} {nm : Int} {am : Option Addr} {M cm : Nat} {vt : Value} {ts : List FlS} (hr : RowG w vt 5 (flRows ts)) :
  Calls Tryz.prog 58 #[.agg #[.string snm,vt,.slice am M cm],.int .i64 nm] w fun e w' => e = .returned (.tuple #[flV ((ts.find? fun m => decide (m.tag = nm)).getD zeroF),.bool (ts.find? fun m => decide (m.tag = nm)).isSome]) ∧ Below w.heap.size w w' := by
 obtain ⟨a,c,rfl,q1,q2⟩ := hr.form2
 have hN : (flRows ts).length = ts.length := by simp [flRows]
 rw [hN] at hr q1 ⊢;clear hN;obtain ⟨N,hN⟩ : ∃ N,ts.length = N := ⟨_,rfl⟩;rw [hN] at hr q1 ⊢;have HN : Hid (ts.length = N) := hN;have HR : Hid (RowG w (.slice a N c) 5 (flRows ts)) := hr;clear hN hr;obtain ⟨A,hA⟩ : ∃ A,(ts.find? fun m => decide (m.tag = nm)) = A := ⟨_,rfl⟩;rw [hA];have HA : Hid (A = ((ts.drop 0).find? fun m => decide (m.tag = nm))) := hA.symm;clear hA;have BX0 : Blk ((w.alloc (.cells #[.string snm,.slice a N c,.slice am M cm] 50)).alloc (.cells #[.string ⟨#[]⟩,.int .i64 0,.int .i64 0,.int .i64 0,.string ⟨#[]⟩] 58)) w.heap.size #[.string snm,.slice a N c,.slice am M cm] 50 := (Blk.new w _ _).below ((Below.refl _ _).alloc (Nat.le_refl _) _)
 have BR0 : Blk ((w.alloc (.cells #[.string snm,.slice a N c,.slice am M cm] 50)).alloc (.cells #[.string ⟨#[]⟩,.int .i64 0,.int .i64 0,.int .i64 0,.string ⟨#[]⟩] 58)) (w.heap.size + 1) #[.string ⟨#[]⟩,.int .i64 0,.int .i64 0,.int .i64 0,.string ⟨#[]⟩] 58 := by
  have := Blk.new (w.alloc (.cells #[.string snm,.slice a N c,.slice am M cm] 50)) #[.string ⟨#[]⟩,.int .i64 0,.int .i64 0,.int .i64 0,.string ⟨#[]⟩] 58
  rwa [show (w.alloc (.cells #[.string snm,.slice a N c,.slice am M cm] 50)).heap.size = w.heap.size + 1 by simp] at this
 have hb0 : Below w.heap.size w ((w.alloc (.cells #[.string snm,.slice a N c,.slice am M cm] 50)).alloc (.cells #[.string ⟨#[]⟩,.int .i64 0,.int .i64 0,.int .i64 0,.string ⟨#[]⟩] 58)) := ((Below.refl _ _).alloc (Nat.le_refl _) _).alloc (by simp) _
 go_enter Tryz.func58,Tryz.ntmps58
 go_wp2_with fail
 go_loopw [11] (fun iv wr => ∃ k : Nat,iv = .int .i64 (k : Int) ∧ k ≤ N ∧ Hid (A = ((ts.drop k).find? fun m => decide (m.tag = nm))) ∧ Below w.heap.size w wr ∧ Blk wr (w.heap.size + 1) #[.string ⟨#[]⟩,.int .i64 0,.int .i64 0,.int .i64 0,.string ⟨#[]⟩] 58) (fun iv _ => N - (intOf iv).toNat)
 case atStart => exact ⟨0,rfl,by omega,HA,hb0,BR0⟩
 case round =>
  obtain ⟨k,rfl,hk,HAk,hbel,BR⟩ := hrel;clear BX0 BR0 hb0;have hlt2 : w.heap.size + 1 < wr.heap.size := BR.lt;have r0 := (BR.cell 0).trans rfl;have z0 := BR.froz 0;have r1 := (BR.cell 1).trans rfl;have z1 := BR.froz 1;have r2 := (BR.cell 2).trans rfl;have z2 := BR.froz 2;have r3 := (BR.cell 3).trans rfl;have z3 := BR.froz 3;have r4 := (BR.cell 4).trans rfl;have z4 := BR.froz 4
  by_cases hlt : k < N
  ·obtain ⟨f,hf⟩ : ∃ n,ts[k]? = some n := ⟨_,List.getElem?_eq_getElem (by rw [HN.out]; exact hlt)⟩
   have hrr : (flRows ts)[k]? = some f.cells := by simp [flRows,hf]
   obtain ⟨g,off,rfl,c1⟩ := (HR.out.below hbel).get hrr;obtain ⟨f0,f1,f2,f3,f4⟩ := f
   have HA2 : Hid (A = if decide (f1 = nm) = true then some ⟨f0,f1,f2,f3,f4⟩ else ((ts.drop (k + 1)).find? fun m => decide (m.tag = nm))) := by
    show _ = _
    rw [HAk.out,drop_at hf,List.find?_cons]
    cases decide (f1 = nm) <;> rfl
   have p0 := c1 0 _ rfl;have p1 := c1 1 _ rfl;have p2 := c1 2 _ rfl;have p3 := c1 3 _ rfl;have p4 := c1 4 _ rfl;simp only [Nat.add_zero] at p0 p1 p2 p3 p4;clear c1 hrr hf HAk
   by_cases he : f1 = nm
   ·subst he;go_wp2_with fail;refine bodyPost_ret (results_two rfl _ _ _ ⟨w.heap.size + 1,0,none⟩ (.agg #[.string f0,.int .i64 f1,.int .i64 f2,.int .i64 f3,.string f4]) (by go_simp) (by go_simp)) rfl ?_;exact ⟨ret_two (by rw [HA2.out,if_pos (by simp)]; rfl) (by rw [HA2.out,if_pos (by simp)]; rfl),(Below.alloc (Below.setCell (Below.setCell (Below.setCell (Below.setCell (Below.setCell hbel (by simp) _) (by simp) _) (by simp) _) (by simp) _) (by simp) _) (by simp; omega) _)⟩
   ·have hq : (f1 == nm) = false := by simpa using he
    have HA3 : Hid (A = ((ts.drop (k + 1)).find? fun m => decide (m.tag = nm))) := by show _ = _; rw [HA2.out,if_neg (by simpa using he)]
    have hb2 : Below w.heap.size w (wr.alloc (.cells #[.string f0,.int .i64 f1,.int .i64 f2,.int .i64 f3,.string f4] 58)) := hbel.alloc (by omega) _;have BR2 : Blk (wr.alloc (.cells #[.string f0,.int .i64 f1,.int .i64 f2,.int .i64 f3,.string f4] 58)) (w.heap.size + 1) #[.string ⟨#[]⟩,.int .i64 0,.int .i64 0,.int .i64 0,.string ⟨#[]⟩] 58 := BR.below ((Below.refl _ _).alloc (Nat.le_refl _) _);go_wp2_with fail
    go_roundw
    case rel => exact ⟨k + 1,by go_num,by omega,HA3,hb2,BR2⟩
    case measure => simp [intOf]; omega
  ·have HA2 : Hid (A = none) := by show _ = _; rw [HAk.out,drop_end (by rw [HN.out]; omega)]; rfl
   go_wp2_with fail;refine bodyPost_ret (results_two rfl _ _ _ ⟨w.heap.size + 1,0,none⟩ (.agg #[.string ⟨#[]⟩,.int .i64 0,.int .i64 0,.int .i64 0,.string ⟨#[]⟩]) (by go_simp) (by go_simp)) rfl ?_;exact ⟨ret_two (by rw [HA2.out]; rfl) (by rw [HA2.out]; rfl),(Below.setCell (Below.setCell (Below.setCell (Below.setCell (Below.setCell hbel (by simp) _) (by simp) _) (by simp) _) (by simp) _) (by simp) _)⟩
end
section
open Go.ChangeShapes Go.WideShapes Go.ChangeAt Go.RowKit
theorem number_any (k n : Int) (nm : ByteArray) (w : World) : Calls Tryz.prog 108 #[.agg #[.int .i64 k,.string nm],.int .i64 n] w fun e w' => e = .returned (.bool (nmrB k n)) ∧ Below w.heap.size w w' := by
 have hb : Below w.heap.size w (w.alloc (Obj.cells #[.int .i64 k,.string nm] 56)) := (Below.refl _ _).alloc (Nat.le_refl _) _
 have rng : n < -2147483648 ∨ (-2147483648 ≤ n ∧ n < 0) ∨ (0 ≤ n ∧ n ≤ 1) ∨ (1 < n ∧ n ≤ 2147483647) ∨ 2147483647 < n := by omega
 have kk : k = 3 ∨ k = 6 ∨ k = 1 ∨ k = 2 ∨ (¬ k = 3 ∧ ¬ k = 6 ∧ ¬ k = 1 ∧ ¬ k = 2) := by omega
 rcases rng with g | g | g | g | g
 ·have f1 : decide (1 < n) = false := by simp; omega
  have f2 : decide (n < 0) = true := by simp; omega
  have f3 : decide (n < -2147483648) = true := by simp; omega
  have f4 : decide (2147483647 < n) = false := by simp; omega
  rcases kk with rfl | rfl | rfl | rfl | ⟨h3,h6,h1,h2⟩
  ·have hr : nmrB 3 n = false := by simp [nmrB]; omega
   rw [hr];clear hr g
   go_enter Tryz.func108,Tryz.ntmps108
   go_wp2_with fail;go_ret;exact ⟨rfl,hb⟩
  ·have hr : nmrB 6 n = false := by simp [nmrB]; omega
   rw [hr];clear hr g
   go_enter Tryz.func108,Tryz.ntmps108
   go_wp2_with fail;go_ret;exact ⟨rfl,hb⟩
  ·have hr : nmrB 1 n = false := by simp [nmrB]; omega
   rw [hr];clear hr g
   go_enter Tryz.func108,Tryz.ntmps108
   go_wp2_with fail;go_ret;exact ⟨rfl,hb⟩
  ·have hr : nmrB 2 n = true := by simp [nmrB]
   rw [hr];clear hr g
   go_enter Tryz.func108,Tryz.ntmps108
   go_wp2_with fail;go_ret;exact ⟨rfl,hb⟩
  ·have e1 : (k == 1) = false := by simpa using h1
   have e2 : (k == 2) = false := by simpa using h2
   have e3 : (k == 3) = false := by simpa using h3
   have e6 : (k == 6) = false := by simpa using h6
   have hr : nmrB k n = false := by simp [nmrB,h3,h6,h1,h2]
   rw [hr];clear h1 h2 h3 h6 hr g
   go_enter Tryz.func108,Tryz.ntmps108
   go_wp2_with fail;go_ret;exact ⟨rfl,hb⟩
 ·have f1 : decide (1 < n) = false := by simp; omega
  have f2 : decide (n < 0) = true := by simp; omega
  have f3 : decide (n < -2147483648) = false := by simp; omega
  have f4 : decide (2147483647 < n) = false := by simp; omega
  rcases kk with rfl | rfl | rfl | rfl | ⟨h3,h6,h1,h2⟩
  ·have hr : nmrB 3 n = false := by simp [nmrB]; omega
   rw [hr];clear hr g
   go_enter Tryz.func108,Tryz.ntmps108
   go_wp2_with fail;go_ret;exact ⟨rfl,hb⟩
  ·have hr : nmrB 6 n = false := by simp [nmrB]; omega
   rw [hr];clear hr g
   go_enter Tryz.func108,Tryz.ntmps108
   go_wp2_with fail;go_ret;exact ⟨rfl,hb⟩
  ·have hr : nmrB 1 n = true := by simp [nmrB]; omega
   rw [hr];clear hr g
   go_enter Tryz.func108,Tryz.ntmps108
   go_wp2_with fail;go_ret;exact ⟨rfl,hb⟩
  ·have hr : nmrB 2 n = true := by simp [nmrB]
   rw [hr];clear hr g
   go_enter Tryz.func108,Tryz.ntmps108
   go_wp2_with fail;go_ret;exact ⟨rfl,hb⟩
  ·have e1 : (k == 1) = false := by simpa using h1
   have e2 : (k == 2) = false := by simpa using h2
   have e3 : (k == 3) = false := by simpa using h3
   have e6 : (k == 6) = false := by simpa using h6
   have hr : nmrB k n = false := by simp [nmrB,h3,h6,h1,h2]
   rw [hr];clear h1 h2 h3 h6 hr g
   go_enter Tryz.func108,Tryz.ntmps108
   go_wp2_with fail;go_ret;exact ⟨rfl,hb⟩
 ·have f1 : decide (1 < n) = false := by simp; omega
  have f2 : decide (n < 0) = false := by simp; omega
  have f3 : decide (n < -2147483648) = false := by simp; omega
  have f4 : decide (2147483647 < n) = false := by simp; omega
  rcases kk with rfl | rfl | rfl | rfl | ⟨h3,h6,h1,h2⟩
  ·have hr : nmrB 3 n = true := by simp [nmrB]; omega
   rw [hr];clear hr g
   go_enter Tryz.func108,Tryz.ntmps108
   go_wp2_with fail;go_ret;exact ⟨rfl,hb⟩
  ·have hr : nmrB 6 n = true := by simp [nmrB]; omega
   rw [hr];clear hr g
   go_enter Tryz.func108,Tryz.ntmps108
   go_wp2_with fail;go_ret;exact ⟨rfl,hb⟩
  ·have hr : nmrB 1 n = true := by simp [nmrB]; omega
   rw [hr];clear hr g
   go_enter Tryz.func108,Tryz.ntmps108
   go_wp2_with fail;go_ret;exact ⟨rfl,hb⟩
  ·have hr : nmrB 2 n = true := by simp [nmrB]
   rw [hr];clear hr g
   go_enter Tryz.func108,Tryz.ntmps108
   go_wp2_with fail;go_ret;exact ⟨rfl,hb⟩
  ·have e1 : (k == 1) = false := by simpa using h1
   have e2 : (k == 2) = false := by simpa using h2
   have e3 : (k == 3) = false := by simpa using h3
   have e6 : (k == 6) = false := by simpa using h6
   have hr : nmrB k n = false := by simp [nmrB,h3,h6,h1,h2]
   rw [hr];clear h1 h2 h3 h6 hr g
   go_enter Tryz.func108,Tryz.ntmps108
   go_wp2_with fail;go_ret;exact ⟨rfl,hb⟩
 ·have f1 : decide (1 < n) = true := by simp; omega
  have f2 : decide (n < 0) = false := by simp; omega
  have f3 : decide (n < -2147483648) = false := by simp; omega
  have f4 : decide (2147483647 < n) = false := by simp; omega
  rcases kk with rfl | rfl | rfl | rfl | ⟨h3,h6,h1,h2⟩
  ·have hr : nmrB 3 n = false := by simp [nmrB]; omega
   rw [hr];clear hr g
   go_enter Tryz.func108,Tryz.ntmps108
   go_wp2_with fail;go_ret;exact ⟨rfl,hb⟩
  ·have hr : nmrB 6 n = true := by simp [nmrB]; omega
   rw [hr];clear hr g
   go_enter Tryz.func108,Tryz.ntmps108
   go_wp2_with fail;go_ret;exact ⟨rfl,hb⟩
  ·have hr : nmrB 1 n = true := by simp [nmrB]; omega
   rw [hr];clear hr g
   go_enter Tryz.func108,Tryz.ntmps108
   go_wp2_with fail;go_ret;exact ⟨rfl,hb⟩
  ·have hr : nmrB 2 n = true := by simp [nmrB]
   rw [hr];clear hr g
   go_enter Tryz.func108,Tryz.ntmps108
   go_wp2_with fail;go_ret;exact ⟨rfl,hb⟩
  ·have e1 : (k == 1) = false := by simpa using h1
   have e2 : (k == 2) = false := by simpa using h2
   have e3 : (k == 3) = false := by simpa using h3
   have e6 : (k == 6) = false := by simpa using h6
   have hr : nmrB k n = false := by simp [nmrB,h3,h6,h1,h2]
   rw [hr];clear h1 h2 h3 h6 hr g
   go_enter Tryz.func108,Tryz.ntmps108
   go_wp2_with fail;go_ret;exact ⟨rfl,hb⟩
 ·have f1 : decide (1 < n) = true := by simp; omega
  have f2 : decide (n < 0) = false := by simp; omega
  have f3 : decide (n < -2147483648) = false := by simp; omega
  have f4 : decide (2147483647 < n) = true := by simp; omega
  rcases kk with rfl | rfl | rfl | rfl | ⟨h3,h6,h1,h2⟩
  ·have hr : nmrB 3 n = false := by simp [nmrB]; omega
   rw [hr];clear hr g
   go_enter Tryz.func108,Tryz.ntmps108
   go_wp2_with fail;go_ret;exact ⟨rfl,hb⟩
  ·have hr : nmrB 6 n = false := by simp [nmrB]; omega
   rw [hr];clear hr g
   go_enter Tryz.func108,Tryz.ntmps108
   go_wp2_with fail;go_ret;exact ⟨rfl,hb⟩
  ·have hr : nmrB 1 n = false := by simp [nmrB]; omega
   rw [hr];clear hr g
   go_enter Tryz.func108,Tryz.ntmps108
   go_wp2_with fail;go_ret;exact ⟨rfl,hb⟩
  ·have hr : nmrB 2 n = true := by simp [nmrB]
   rw [hr];clear hr g
   go_enter Tryz.func108,Tryz.ntmps108
   go_wp2_with fail;go_ret;exact ⟨rfl,hb⟩
  ·have e1 : (k == 1) = false := by simpa using h1
   have e2 : (k == 2) = false := by simpa using h2
   have e3 : (k == 3) = false := by simpa using h3
   have e6 : (k == 6) = false := by simpa using h6
   have hr : nmrB k n = false := by simp [nmrB,h3,h6,h1,h2]
   rw [hr];clear h1 h2 h3 h6 hr g
   go_enter Tryz.func108,Tryz.ntmps108
   go_wp2_with fail;go_ret;exact ⟨rfl,hb⟩
theorem size_empty {s : ByteArray} (h : s.size = 0) : s = ⟨#[]⟩ := by
 obtain ⟨⟨l⟩⟩ := s
 cases l with
 | nil => rfl
 | cons a l => simp [ByteArray.size] at h
theorem zero_any (t : Tr) (a1 a2 : Option Addr) (n1 c1 n2 c2 : Nat) (w : World) (h1 : n1 = t.es.length) (h2 : n2 = t.rest.length) : Calls Tryz.prog 111 #[.agg #[.int .i64 t.kind,.int .i64 t.n,.string t.s,.slice a1 n1 c1,.slice a2 n2 c2]] w fun e w' => e = .returned (.bool (zroB t)) ∧ Below w.heap.size w w' := by
 have hb : Below w.heap.size w (w.alloc (Obj.cells #[.int .i64 t.kind,.int .i64 t.n,.string t.s,.slice a1 n1 c1,.slice a2 n2 c2] 33)) := (Below.refl _ _).alloc (Nat.le_refl _) _
 have hz : zroB t = (decide (t.kind = 1 ∨ t.kind = 2 ∨ t.kind = 3) && decide (t.n = 0) && decide (t.s.size = 0) && decide (n1 = 0) && decide (n2 = 0)) := by rw [zroB,h1,h2]
 rw [hz];clear hz h1 h2;generalize t.kind = K at *;generalize t.n = N at *;generalize t.s = S at *
 have kk : K = 1 ∨ K = 2 ∨ K = 3 ∨ (¬ K = 1 ∧ ¬ K = 2 ∧ ¬ K = 3) := by omega
 rcases kk with rfl | rfl | rfl | ⟨h1,h2,h3⟩
 ·by_cases hN : N = 0
  ·subst hN
   by_cases hS : S.size = 0
   ·obtain rfl := size_empty hS
    by_cases h1 : n1 = 0
    ·subst h1
     by_cases h2 : n2 = 0
     ·subst h2
      go_enter Tryz.func111,Tryz.ntmps111
      go_wp2_with fail;go_ret;exact ⟨rfl,hb⟩
     ·have d2 : ((n2 : Int) == 0) = false := by simp; omega
      simp only [decide_eq_false h2,Bool.and_false];clear h2
      go_enter Tryz.func111,Tryz.ntmps111
      go_wp2_with fail;go_ret;exact ⟨rfl,hb⟩
    ·have d1 : ((n1 : Int) == 0) = false := by simp; omega
     simp only [decide_eq_false h1,Bool.and_false,Bool.false_and];clear h1
     go_enter Tryz.func111,Tryz.ntmps111
     go_wp2_with fail;go_ret;exact ⟨rfl,hb⟩
   ·have dS : (S.toList == ([] : List UInt8)) = false := by rw [ByteArray.toList_eq]; simp; intro e; exact hS (by rw [← ByteArray.size_data,e]; rfl)
    simp only [decide_eq_false hS,Bool.and_false,Bool.false_and];clear hS
    go_enter Tryz.func111,Tryz.ntmps111
    go_wp2_with fail;go_ret;exact ⟨rfl,hb⟩
  ·have dN : (N == 0) = false := by simpa using hN
   simp only [decide_eq_false hN,Bool.and_false,Bool.false_and];clear hN
   go_enter Tryz.func111,Tryz.ntmps111
   go_wp2_with fail;go_ret;exact ⟨rfl,hb⟩
 ·by_cases hN : N = 0
  ·subst hN
   by_cases hS : S.size = 0
   ·obtain rfl := size_empty hS
    by_cases h1 : n1 = 0
    ·subst h1
     by_cases h2 : n2 = 0
     ·subst h2
      go_enter Tryz.func111,Tryz.ntmps111
      go_wp2_with fail;go_ret;exact ⟨rfl,hb⟩
     ·have d2 : ((n2 : Int) == 0) = false := by simp; omega
      simp only [decide_eq_false h2,Bool.and_false];clear h2
      go_enter Tryz.func111,Tryz.ntmps111
      go_wp2_with fail;go_ret;exact ⟨rfl,hb⟩
    ·have d1 : ((n1 : Int) == 0) = false := by simp; omega
     simp only [decide_eq_false h1,Bool.and_false,Bool.false_and];clear h1
     go_enter Tryz.func111,Tryz.ntmps111
     go_wp2_with fail;go_ret;exact ⟨rfl,hb⟩
   ·have dS : (S.toList == ([] : List UInt8)) = false := by rw [ByteArray.toList_eq]; simp; intro e; exact hS (by rw [← ByteArray.size_data,e]; rfl)
    simp only [decide_eq_false hS,Bool.and_false,Bool.false_and];clear hS
    go_enter Tryz.func111,Tryz.ntmps111
    go_wp2_with fail;go_ret;exact ⟨rfl,hb⟩
  ·have dN : (N == 0) = false := by simpa using hN
   simp only [decide_eq_false hN,Bool.and_false,Bool.false_and];clear hN
   go_enter Tryz.func111,Tryz.ntmps111
   go_wp2_with fail;go_ret;exact ⟨rfl,hb⟩
 ·by_cases hN : N = 0
  ·subst hN
   by_cases hS : S.size = 0
   ·obtain rfl := size_empty hS
    by_cases h1 : n1 = 0
    ·subst h1
     by_cases h2 : n2 = 0
     ·subst h2
      go_enter Tryz.func111,Tryz.ntmps111
      go_wp2_with fail;go_ret;exact ⟨rfl,hb⟩
     ·have d2 : ((n2 : Int) == 0) = false := by simp; omega
      simp only [decide_eq_false h2,Bool.and_false];clear h2
      go_enter Tryz.func111,Tryz.ntmps111
      go_wp2_with fail;go_ret;exact ⟨rfl,hb⟩
    ·have d1 : ((n1 : Int) == 0) = false := by simp; omega
     simp only [decide_eq_false h1,Bool.and_false,Bool.false_and];clear h1
     go_enter Tryz.func111,Tryz.ntmps111
     go_wp2_with fail;go_ret;exact ⟨rfl,hb⟩
   ·have dS : (S.toList == ([] : List UInt8)) = false := by rw [ByteArray.toList_eq]; simp; intro e; exact hS (by rw [← ByteArray.size_data,e]; rfl)
    simp only [decide_eq_false hS,Bool.and_false,Bool.false_and];clear hS
    go_enter Tryz.func111,Tryz.ntmps111
    go_wp2_with fail;go_ret;exact ⟨rfl,hb⟩
  ·have dN : (N == 0) = false := by simpa using hN
   simp only [decide_eq_false hN,Bool.and_false,Bool.false_and];clear hN
   go_enter Tryz.func111,Tryz.ntmps111
   go_wp2_with fail;go_ret;exact ⟨rfl,hb⟩
 ·have e1 : (K == 1) = false := by simpa using h1
  have e2 : (K == 2) = false := by simpa using h2
  have e3 : (K == 3) = false := by simpa using h3
  have hk : decide (K = 1 ∨ K = 2 ∨ K = 3) = false := by simp [h1,h2,h3]
  simp only [hk,Bool.false_and];clear h1 h2 h3 hk
  go_enter Tryz.func111,Tryz.ntmps111
  go_wp2_with fail;go_ret;exact ⟨rfl,hb⟩
theorem valid_any (s : ByteArray) (w : World) (hs : s.size ≤ 140737488351232) :
  Calls Tryz.prog 109 #[.string s] w fun e w' => e = .returned (.bool (validB s.data.toList)) ∧ Below w.heap.size w w' := by
 go_enter Tryz.func109,Tryz.ntmps109
 go_wp2
 go_loopw [] (fun wr => ∃ (pos : Nat) (acc : List Nat),wr = w.iter s pos ∧ Hid (Gone s.data.toList pos acc)) (fun wr => s.size - wr.iterPos w.heap.size)
 case atStart => exact ⟨0,[],rfl,Gone.start _⟩
 case round =>
  obtain ⟨pos,acc,rfl,H⟩ := hrel
  by_cases hp : pos < s.size
  ·obtain ⟨c,k,hd,h1,h2⟩ := dec_at s pos hp
   have hnx : ∀ ty,(Instr.next (.pointer (some ⟨w.heap.size,0,none⟩)) true ty).run Tryz.prog (w.iter s pos) = .ok (.tuple #[.bool true,.int .i64 (pos : Int),.int .i32 (c : Int)]) (w.iter s (pos + k)) := by
    intro ty;have := run_next_any (P := Tryz.prog) w s pos ty hp;rw [hd] at this;exact this
   have H1 : Hid (standsB (s.data.toList.drop pos) c = true → nxL (s.data.toList.drop pos) = some (c,k)) := h1;have H2 : Hid (standsB (s.data.toList.drop pos) c = false → nxL (s.data.toList.drop pos) = none) := h2;clear hd h1 h2;go_wp2_with fail;refine (stands_any s _ _ _ hs (by omega) (by omega)).mono ?_;rintro e w' ⟨rfl,rfl⟩;rw [Int.toNat_natCast]
   cases hst : standsB (s.data.toList.drop pos) c with
   | false =>
    go_wp2
    go_ret;exact ⟨ret_bool (by unfold validB; rw [H.out.bad (by rw [len_data]; exact hp) (H2.out hst)]; rfl),below_iter _ _ _⟩
   | true =>
    have HN := H1.out hst;have hk : 1 ≤ k := (nxL_some _ _ _ HN).2.2.2.1;have HG : Hid (Gone s.data.toList (pos + k) (acc ++ [c])) := H.out.step HN;clear HN
    go_wp2
    go_roundw
    case rel => exact ⟨pos + k,acc ++ [c],rfl,HG⟩
    case measure => simp; omega
  ·have hnx : ∀ ty,(Instr.next (.pointer (some ⟨w.heap.size,0,none⟩)) true ty).run Tryz.prog (w.iter s pos) = _ := fun ty => run_next_end w s pos ty hp
   go_wp2
   go_ret;exact ⟨ret_bool (by unfold validB; rw [H.out.done (by rw [len_data]; omega)]; rfl),below_iter _ _ _⟩
end
section
open Go.RowKit
structure Kept (B : Nat) (w0 : World) where
 w : World
 below : Below B w0 w
theorem wp_region_qb {P : Program} {id : Nat} {Q : Exit → Act → World → Prop} {a : Act} {w : World} {l : List Oper} {B : Nat} {w0 : World} (h0 : Below B w0 w) (hm : P.follows .mixedOrders = true) (hB : Region.lexB .any l.toArray = true)
  (h : wpQuiet P l.toArray (fun w' => ∃ x : Kept B w0,w' = x.w) (fun a' => ∀ w',(∃ x : Kept B w0,w' = x.w) → Q .normal a' w') l a) : (Code.region id l.toArray true).wp P Q a w :=
 wp_region_quiet (C := fun w' => ∃ x : Kept B w0,w' = x.w) hm hB ⟨⟨_,h0.drew⟩,rfl⟩ (by simpa using h)
theorem nonempty_qb {B : Nat} {w0 w : World} (h0 : Below B w0 w) : Nonempty (Kept B w0) := ⟨⟨w,h0⟩⟩
theorem qb_call {P : Program} {f : FuncId} {args : Array Value} {B : Nat} {w0 : World} {x : Kept B w0} {v : Value}
  (h : ∀ W,Below B w0 W → Calls P f args W fun e W' => e = .returned v ∧ Below B w0 W') : Calls P f args x.w fun e w'' => e = .returned v ∧ ∃ y : Kept B w0,w'' = y.w :=
 (h _ x.below).mono fun _ W' h => ⟨h.1,⟨⟨W',h.2⟩,rfl⟩⟩
end
section
open Go.ChangeShapes Go.WideShapes Go.ChangeAt Go.RowKit
theorem getF_put0 (v p : Nat) (rest : List Nat) (hv : v < 18446744073709551616) : getF (digs v ++ rest) 0 0 p = (v,p + (digs v).length,0) := by
 rw [getF_digs v 0 0 p rest (by omega) (by omega) (by omega)]
 simp
theorem drop_pre (pre l : List Nat) : (pre ++ l).drop pre.length = l := List.drop_left
theorem drop_pre2 (pre l m : List Nat) (q : Nat) (hq : q = pre.length + l.length) : (pre ++ (l ++ m)).drop q = m := by
 rw [← List.append_assoc,hq,← List.length_append];exact List.drop_left
theorem next_put {r : Fd} (h : okF r = true) (hn : Is64 r.n) (pre rest : List Nat) : nextN (pre ++ (fieldN r ++ rest)) pre.length = (r,pre.length + (fieldN r).length,0) := by
 rcases ok_cases h hn with ⟨t,n,rfl,h1,h2,h3⟩ | ⟨t,b,rfl,h1,h2,h3⟩
 ·have hz := zigN_bd n h3.1 h3.2;have hzz : ((zigN n).toNat : Int) = zigN n := Int.toNat_of_nonneg hz.1;rw [fieldN_num]
  have g1 : getF ((pre ++ (digs (2 * t) ++ digs (zigN n).toNat ++ rest)).drop pre.length) 0 0 pre.length = (2 * t,pre.length + (digs (2 * t)).length,0) := by
   rw [drop_pre,List.append_assoc]; exact getF_put0 _ _ _ (by omega)
  have g2 : getF ((pre ++ (digs (2 * t) ++ digs (zigN n).toNat ++ rest)).drop (pre.length + (digs (2 * t)).length)) 0 0 (pre.length + (digs (2 * t)).length) = ((zigN n).toNat,pre.length + (digs (2 * t)).length + (digs (zigN n).toNat).length,0) := by
   rw [List.append_assoc,drop_pre2 pre _ _ _ rfl]; exact getF_put0 _ _ _ (by omega)
  rw [next_num g1 (by omega) g2 (by omega),hzz,zag_zig,show 2 * t / 2 = t by omega,List.length_append,Nat.add_assoc]
 ·rw [fieldN_text]
  have g1 : getF ((pre ++ (digs (2 * t + 1) ++ (digs b.size ++ bytesN b) ++ rest)).drop pre.length) 0 0 pre.length = (2 * t + 1,pre.length + (digs (2 * t + 1)).length,0) := by
   rw [drop_pre,List.append_assoc]; exact getF_put0 _ _ _ (by omega)
  have g2 : getF ((pre ++ (digs (2 * t + 1) ++ (digs b.size ++ bytesN b) ++ rest)).drop (pre.length + (digs (2 * t + 1)).length)) 0 0 (pre.length + (digs (2 * t + 1)).length) = (b.size,pre.length + (digs (2 * t + 1)).length + (digs b.size).length,0) := by
   rw [List.append_assoc,drop_pre2 pre _ _ _ rfl,List.append_assoc]; exact getF_put0 _ _ _ (by omega)
  have hd : (pre ++ (digs (2 * t + 1) ++ (digs b.size ++ bytesN b) ++ rest)).drop (pre.length + (digs (2 * t + 1)).length + (digs b.size).length) = bytesN b ++ rest := by
   have e : pre ++ (digs (2 * t + 1) ++ (digs b.size ++ bytesN b) ++ rest) = (pre ++ digs (2 * t + 1)) ++ (digs b.size ++ (bytesN b ++ rest)) := by simp
   rw [e,drop_pre2 _ _ _ _ (by rw [List.length_append])]
  rw [next_text g1 (by omega) g2 (by omega) (by simp [bytesN_len]; omega),hd]
  have ht : (bytesN b ++ rest).take b.size = bytesN b := by rw [← bytesN_len b]; exact List.take_left
  rw [ht,strN_bytesN,show (2 * t + 1) / 2 = t by omega,List.length_append,List.length_append,bytesN_len];simp only [Prod.mk.injEq,true_and,and_true]
  omega
theorem getA_skip : ∀ (rs : List Fd) (pre tail : List Nat),(∀ r ∈ rs,okF r = true) → (∀ r ∈ rs,Is64 r.n) → (∀ n ∈ pre ++ (flatN rs ++ tail),n < 256) →
  getA (pre ++ (flatN rs ++ tail)) pre.length = joinA rs (getA (pre ++ (flatN rs ++ tail)) (pre.length + (flatN rs).length))
 | [],pre,tail,_,_,hb => by
  rw [flatN_nil,List.length_nil,Nat.add_zero,joinA_nil _ (getA_nil _ _)]
 | r :: rs,pre,tail,ho,hn,hb => by
  have hr := ho r (by simp);have hr64 := hn r (by simp);have hl := (fieldN_len hr hr64).1
  have e : pre ++ (flatN (r :: rs) ++ tail) = pre ++ (fieldN r ++ (flatN rs ++ tail)) := by rw [flatN_cons,List.append_assoc]
  have e2 : pre ++ (fieldN r ++ (flatN rs ++ tail)) = (pre ++ fieldN r) ++ (flatN rs ++ tail) := by rw [List.append_assoc]
  have hx := next_put hr hr64 pre (flatN rs ++ tail);rw [e] at hb ⊢;rw [getA_on (by simp; omega) hx hb];have ih := getA_skip rs (pre ++ fieldN r) tail (fun x hx => ho x (by simp [hx])) (fun x hx => hn x (by simp [hx])) (by rw [← e2]; exact hb);rw [← e2,List.length_append] at ih;rw [ih,joinA_join,List.singleton_append,flatN_cons,List.length_append,Nat.add_assoc]
theorem getL_put {rs : List Fd} (ho : rs.all okF = true) (hn : ∀ r ∈ rs,Is64 r.n) (hl : (flatN rs).length ≤ 4096) : getL (flatN rs) = (rs,0) := by
 have := getA_skip rs [] [] (List.all_eq_true.1 ho) hn (by simpa using flatN_lt rs);simp only [List.nil_append,List.append_nil,List.length_nil,Nat.zero_add] at this;rw [getL,if_neg (by omega),this,getA_end (Nat.le_refl _),joinA,if_pos rfl,List.append_nil]
theorem getF_inv : ∀ (l : List Nat) (i acc p v q : Nat),getF l i acc p = (v,q,0) → (∀ n ∈ l,n < 256) → ∃ u rest,l = digs u ++ rest ∧ v = acc + u * 128 ^ i ∧ q = p + i + (digs u).length ∧ (0 < i → 0 < u)
 | [],i,acc,p,v,q,hg,_ => by simp [getF] at hg
 | c :: r,i,acc,p,v,q,hg,hb => by
  have hc := hb c (by simp)
  by_cases h9 : i = 9 ∧ 1 < c
  ·rw [getF_ten r acc p h9.1 h9.2] at hg; simp at hg
  ·by_cases h1 : 128 ≤ c
   ·rw [getF_on r acc p h9 h1] at hg;obtain ⟨u,rest,rfl,rfl,rfl,hu⟩ := getF_inv r (i + 1) _ p v q hg (fun n hn => hb n (by simp [hn]));have hu0 := hu (by omega);refine ⟨c % 128 + 128 * u,rest,?_,?_,?_,fun _ => by omega⟩
    ·rw [digs_big (v := c % 128 + 128 * u) (by omega),show (c % 128 + 128 * u) % 128 + 128 = c by omega,show (c % 128 + 128 * u) / 128 = u by omega]
     rfl
    ·rw [Nat.pow_succ,Nat.add_mul,Nat.add_assoc]
     congr 2
     rw [Nat.mul_comm 128 u,Nat.mul_assoc,Nat.mul_comm 128]
    ·rw [digs_big (v := c % 128 + 128 * u) (by omega),show (c % 128 + 128 * u) / 128 = u by omega,List.length_cons]
     omega
   ·by_cases h0 : c = 0 ∧ 0 < i
    ·rw [getF_zero r acc p h9 h0.1 h0.2] at hg; simp at hg
    ·rw [getF_end r acc p h9 (by omega) h0] at hg;simp only [Prod.mk.injEq,and_true] at hg;obtain ⟨rfl,rfl⟩ := hg;refine ⟨c,r,?_,rfl,?_,fun hi => by omega⟩
     ·rw [digs_small (by omega)]; rfl
     ·rw [digs_small (by omega)]; simp
theorem getF_at_inv {ns : List Nat} {p v q : Nat} (hg : getF (ns.drop p) 0 0 p = (v,q,0)) (hb : ∀ n ∈ ns,n < 256) : ns.drop p = digs v ++ ns.drop q ∧ q = p + (digs v).length := by
 obtain ⟨u,rest,hl,hv,hq, -⟩ := getF_inv _ 0 0 p v q hg (fun n hn => hb n (List.mem_of_mem_drop hn));simp only [Nat.pow_zero,Nat.mul_one,Nat.zero_add,Nat.add_zero] at hv hq;subst hv
 have hd : ns.drop q = rest := by
  rw [hq,← List.drop_drop,hl];exact List.drop_left
 rw [hd];exact ⟨hl,hq⟩
theorem next_inv {ns : List Nat} {p q : Nat} {r : Fd} (hx : nextN ns p = (r,q,0)) (hb : ∀ n ∈ ns,n < 256) (hp : p ≤ ns.length) (hl : ns.length ≤ 4096) : okF r = true ∧ Is64 r.n ∧ ns.drop p = fieldN r ++ ns.drop q := by
 obtain ⟨⟨h,q1,e1⟩,g1⟩ : ∃ x,getF (ns.drop p) 0 0 p = x := ⟨_,rfl⟩
 by_cases he1 : e1 = 0
 ·subst he1
  by_cases ht : h / 2 = 0 ∨ 500 < h / 2
  ·rw [next_tag g1 ht] at hx; simp at hx
  ·have b1 := getF_at_bd g1 hb hp;have i1 := getF_at_inv g1 hb;obtain ⟨⟨v,q2,e2⟩,g2⟩ : ∃ x,getF (ns.drop q1) 0 0 q1 = x := ⟨_,rfl⟩
   by_cases he2 : e2 = 0
   ·subst he2;have b2 := getF_at_bd g2 hb (by omega);have i2 := getF_at_inv g2 hb
    by_cases hw : h % 2 = 0
    ·rw [next_num g1 ht g2 hw] at hx;simp only [Prod.mk.injEq,and_true] at hx;obtain ⟨rfl,rfl⟩ := hx;have hz := zagN_bd v (by omega) (by omega);refine ⟨?_,hz,?_⟩
     ·unfold okF okV;rw [(toList_empty _).2 rfl]
      simp
      omega
     ·rw [fieldN_num,zig_zag v (by omega),show 2 * (h / 2) = h by omega,Int.toNat_natCast,i1.1,i2.1,List.append_assoc]
    ·by_cases hv : ns.length - q2 < v
     ·rw [next_short g1 ht g2 hw hv] at hx; simp at hx
     ·rw [next_text g1 ht g2 hw (by omega)] at hx;simp only [Prod.mk.injEq,and_true] at hx;obtain ⟨rfl,rfl⟩ := hx
      have hlen : ((ns.drop q2).take v).length = v := by simp; omega
      have hsz : (strN ((ns.drop q2).take v)).size = v := by rw [strN_size,hlen]
      refine ⟨?_,by unfold Is64; simp,?_⟩
      ·unfold okF okV
       simp [hsz]
       omega
      ·rw [fieldN_text,hsz,bytesN_strN _ (fun n hn => hb n (List.mem_of_mem_drop (List.mem_of_mem_take hn))),show 2 * (h / 2) + 1 = h by omega,i1.1,i2.1];simp only [List.append_assoc];rw [← List.drop_drop,List.take_append_drop]
   ·rw [next_e2 g1 ht g2 he2] at hx; simp at hx; omega
 ·rw [next_e1 g1 he1] at hx; simp at hx; omega
theorem getA_inv {ns : List Nat} (hb : ∀ n ∈ ns,n < 256) (hl : ns.length ≤ 4096) : ∀ k p rs,ns.length - p ≤ k → p ≤ ns.length → getA ns p = (rs,0) → (∀ r ∈ rs,okF r = true ∧ Is64 r.n) ∧ flatN rs = ns.drop p
 | 0,p,rs,hk,hp,h => by
  rw [getA_end (by omega)] at h;obtain rfl : [] = rs := (Prod.mk.inj h).1;exact ⟨by simp,by rw [List.drop_of_length_le (by omega),flatN_nil]⟩
 | k + 1,p,rs,hk,hp,h => by
  by_cases hlt : p < ns.length
  ·obtain ⟨⟨r,q,e⟩,hx⟩ : ∃ x,nextN ns p = x := ⟨_,rfl⟩
   by_cases he : e = 0
   ·subst he;have hq := nextN_bd hx hb hp;have hi := next_inv hx hb hp hl;rw [getA_on hlt hx hb,joinA] at h
    split at h <;> rename_i h2
    ·obtain rfl : [r] ++ (getA ns q).1 = rs := (Prod.mk.inj h).1;have ih := getA_inv hb hl k q (getA ns q).1 (by omega) hq.2 (Prod.ext rfl h2);refine ⟨?_,?_⟩
     ·intro x hx
      rcases List.mem_append.1 hx with hx | hx
      ·obtain rfl : x = r := by simpa using hx
       exact ⟨hi.1,hi.2.1⟩
      ·exact ih.1 x hx
     ·rw [flatN_app,flatN_cons,flatN_nil,List.append_nil,ih.2,hi.2.2]
    ·exact absurd (Prod.mk.inj h).2 h2
   ·rw [getA_err hlt hx he] at h;exact absurd (Prod.mk.inj h).2 he
  ·rw [getA_end (by omega)] at h;obtain rfl : [] = rs := (Prod.mk.inj h).1;exact ⟨by simp,by rw [List.drop_of_length_le (by omega),flatN_nil]⟩
theorem putL_get {ns : List Nat} (hb : ∀ n ∈ ns,n < 256) {rs : List Fd} (h : getL ns = (rs,0)) : putL rs = (ns,0) ∧ (∀ r ∈ rs,Is64 r.n) := by
 rw [getL] at h
 split at h
 ·simp at h
 ·rename_i hl
  have hi := getA_inv hb (by omega) ns.length 0 rs (by omega) (by omega) h;rw [List.drop_zero] at hi;refine ⟨?_,fun r hr => (hi.1 r hr).2⟩;rw [putL_ok (List.all_eq_true.2 fun r hr => (hi.1 r hr).1) (by rw [hi.2]; omega),hi.2]
end
end Go.Proofs.YtiajaocckkghgaaGreat

/- Part 9 of what the proof stands on. -/
import Derived.Test.YtdkolhfpfimeoaaPkFAH
namespace Go.Proofs.Ytdkolhfpfimeoaa
set_option maxHeartbeats 8000000
set_option linter.unusedVariables false
set_option linter.unusedSimpArgs false
set_option maxRecDepth 20000
section
open Go.ChangeShapes Go.WideShapes Go.ChangeAt Go.RowKit
structure CpO (W : World) (B bt : Nat) (vm ve vt : Value) (s : ScS) (pm : List (Value × Value)) (pe : List Value) : Prop where
 lo : B ≤ bt
 blk : Blk W bt #[.string s.name,vm,ve,vt] 26
 ms : MsO W B vm s.msgs pm
 es : EnO W B ve s.enums pe
 ts : W.ownsRow B 47 3 vt s.methods.length (mtRows s.methods).flatten
theorem CpO.below {W W1 : World} {B bt : Nat} {vm ve vt : Value} {s : ScS} {pm : List (Value × Value)} {pe : List Value} (h : CpO W B bt vm ve vt s pm pe) (hb : Below W.heap.size W W1) : CpO W1 B bt vm ve vt s pm pe :=
 ⟨h.lo,h.blk.below hb,h.ms.below hb,h.es.below hb,own_below h.ts hb⟩
theorem CpO.sin {W : World} {B bt : Nat} {vm ve vt : Value} {s : ScS} {pm : List (Value × Value)} {pe : List Value} (h : CpO W B bt vm ve vt s pm pe) (hw : ScW s) (hf : FewL s) : SIn W (.agg #[.string s.name,vm,ve,vt]) s :=
 ⟨⟨_,_,_,rfl,h.ms.to_in,h.es.to_in,own_rowT h.ts⟩,hw,hf⟩
theorem CpO.new {W : World} {B : Nat} {vm ve vt : Value} {s : ScS} {pm : List (Value × Value)} {pe : List Value} (hB : B ≤ W.heap.size) (hm : MsO W B vm s.msgs pm) (he : EnO W B ve s.enums pe) (ht : W.ownsRow B 47 3 vt s.methods.length (mtRows s.methods).flatten) :
  CpO (W.alloc (Obj.cells #[.string s.name,vm,ve,vt] 26)) B W.heap.size vm ve vt s pm pe := by
 have hal : Below W.heap.size W (W.alloc (Obj.cells #[.string s.name,vm,ve,vt] 26)) := (Below.refl _ _).alloc (Nat.le_refl _) _;exact ⟨hB,Blk.new _ _ _,hm.below hal,he.below hal,own_below ht hal⟩
theorem set_bel {w D : World} {g i : Nat} {u : Value} (h : Below w.heap.size w D) (hg : w.heap.size ≤ g) : Below w.heap.size w (D.setCell ⟨g,i,none⟩ u) := by
 have hk : Kp (fun q => q = g) D (D.setCell ⟨g,i,none⟩ u) := by
  refine Kp.setCell ?_ (fun _ => by simp) _;exact Kp.refl _ _
 exact h.trans (hk.toBelow h.size fun q e => by rw [e]; exact hg)
theorem CpO.len {W : World} {B bt n c : Nat} {a : Option Addr} {ve vt : Value} {s : ScS} {pm : List (Value × Value)} {pe : List Value} (h : CpO W B bt (.slice a n c) ve vt s pm pe) : n = s.msgs.length := by
 obtain ⟨a',c',e⟩ := own_form h.ms.own;simp only [Value.slice.injEq] at e;exact e.2.1
theorem CpO.fcell {W : World} {B bt q n c : Nat} {ve vt : Value} {s : ScS} {pm : List (Value × Value)} {pe : List Value} (h : CpO W B bt (.slice (some ⟨q,0,none⟩) n c) ve vt s pm pe) {i : Nat} {m : MsS} {p : Value × Value} (hm : s.msgs[i]? = some m) (hp : pm[i]? = some p) :
  W.cell? ⟨q,i * 3,none⟩ = some (.string m.name) ∧ W.cell? ⟨q,i * 3 + 1,none⟩ = some p.1 ∧ W.cell? ⟨q,i * 3 + 2,none⟩ = some p.2 := by
 have hn := h.len;subst hn;exact ⟨own_at (ms_len s.msgs pm) h.ms.own (ms_get hm hp) (j := 0) rfl,own_at (ms_len s.msgs pm) h.ms.own (ms_get hm hp) (j := 1) rfl,own_at (ms_len s.msgs pm) h.ms.own (ms_get hm hp) (j := 2) rfl⟩
theorem own_fieldE {w w1 : World} {B B' : Nat} {v v' : Value} {e s n n' : Nat} {xs xs' : List Value} (h : w.ownsRow B' e s v' n' xs') (hf : w.ownsRow B 42 5 v n xs) (hne : 42 ≠ e) (hk : Kp (fun k => v.ownBlock = some k) w w1) : w1.ownsRow B' e s v' n' xs' :=
 own_kpV h hk (fun k hv hq => own_apart hf h hne k hq hv)
theorem MsO.setFl {w w1 : World} {B : Nat} {v : Value} {ms : List MsS} {ps : List (Value × Value)} (h : MsO w B v ms ps) {i : Nat} {m m' : MsS} {p : Value × Value} (hm : ms[i]? = some m) (hp : ps[i]? = some p) (hn : m'.name = m.name) (hr : m'.reserved = m.reserved)
  (ho : w1.ownsRow B 42 5 p.1 m'.fields.length (flRows m'.fields).flatten) (hk : Kp (fun k => p.1.ownBlock = some k) w w1) : MsO w1 B v (ms.set i m') ps := by
 have hpf := (h.each i m p hm hp).1;have hi := (List.getElem?_eq_some_iff.1 hm).1;refine ⟨by rw [List.length_set]; exact h.len,?_,?_,h.apart⟩
 ·have hrows : msRows (ms.set i m') ps = msRows ms ps := by
   unfold msRows
   apply List.ext_getElem?
   intro k;rw [List.getElem?_zipWith,List.getElem?_zipWith,List.getElem?_set]
   by_cases hk : i = k
   ·subst hk;rw [if_pos rfl,if_pos hi,hm,hp]
    show some [Value.string m'.name,p.1,p.2] = some [Value.string m.name,p.1,p.2]
    rw [hn]
   ·rw [if_neg hk]
  rw [hrows,List.length_set];exact own_fieldE h.own hpf (by decide) hk
 ·intro k m2 p' hm' hp';rw [List.getElem?_set] at hm'
  by_cases hik : i = k
  ·subst hik;rw [if_pos rfl,if_pos hi] at hm'
   cases hm'
   rw [hp] at hp'
   cases hp'
   rw [hr];exact ⟨ho,own_fieldE (h.each i m p hm hp).2 hpf (by decide) hk⟩
  ·rw [if_neg hik] at hm';exact ⟨own_kpV (h.each k m2 p' hm' hp').1 hk (fun q hv hq => hik (h.apart i k p p' q hp hp' hq hv)),own_fieldE (h.each k m2 p' hm' hp').2 hpf (by decide) hk⟩
theorem fl_putE {fs : List FlS} {j : Nat} {f f' : FlS} (h : fs[j]? = some f) {c : Nat} {u : Value} (hc : c < 5) (hf : f.cells.set c u = f'.cells) : (flRows fs).flatten.set (j * 5 + c) u = (flRows (fs.set j f')).flatten := by
 rw [flat_set (flRows fs) (fl_len fs) j f.cells (fl_get h) c u hc,hf];unfold flRows;rw [List.map_set]
theorem CpO.cell {W : World} {B bt g n c : Nat} {vm ve vt : Value} {s : ScS} {pm : List (Value × Value)} {pe : List Value} (h : CpO W B bt vm ve vt s pm pe) {i j q : Nat} {m : MsS} {f f' : FlS} {p : Value × Value} {u : Value} (hm : s.msgs[i]? = some m) (hp : pm[i]? = some p) (hv : p.1 = .slice (some ⟨g,0,none⟩) n c) (hj : m.fields[j]? = some f) (hq : q < 5) (hf : f.cells.set q u = f'.cells) :
  CpO (W.setCell ⟨g,j * 5 + q,none⟩ u) B bt vm ve vt ⟨s.name,s.msgs.set i ⟨m.name,m.fields.set j f',m.reserved⟩,s.enums,s.methods⟩ pm pe := by
 have ho := (h.ms.each i m p hm hp).1
 have hn : n = m.fields.length := by
  obtain ⟨a,c',e⟩ := own_form ho;rw [hv] at e;simp only [Value.slice.injEq] at e;exact e.2.1
 have hk : Kp (fun k => p.1.ownBlock = some k) W (W.setCell ⟨g,j * 5 + q,none⟩ u) := by
  refine Kp.setCell ?_ (fun _ => ?_) _
  ·exact Kp.refl _ _
  ·rw [hv]; rfl
 have ho2 : (W.setCell ⟨g,j * 5 + q,none⟩ u).ownsRow B 42 5 p.1 (m.fields.set j f').length (flRows (m.fields.set j f')).flatten := by
  rw [List.length_set,← fl_putE hj hq hf];rw [hv,hn] at ho ⊢;exact own_set ho u
 refine ⟨h.lo,h.blk.kp hk (fun e => by have := own_type ho e h.blk; revert this; decide),h.ms.setFl hm hp rfl rfl ho2 hk,⟨h.es.len,own_fieldE h.es.own ho (by decide) hk,fun i m p hm hp => own_fieldE (h.es.each i m p hm hp) ho (by decide) hk⟩,own_fieldE h.ts ho (by decide) hk⟩
theorem own_len {w : World} {B : Nat} {e : TypeId} {s n k c : Nat} {a : Option Addr} {xs : List Value} (h : w.ownsRow B e s (.slice a k c) n xs) : k = n := by
 obtain ⟨a',c',e⟩ := own_form h;simp only [Value.slice.injEq] at e;exact e.2.1
theorem ms_set {ms : List MsS} {ps : List (Value × Value)} {i : Nat} {m m' : MsS} {p p' : Value × Value} (hm : ms[i]? = some m) (hp : ps[i]? = some p) {c : Nat} {u : Value} (hc : c < 3) (he : ([.string m.name,p.1,p.2] : List Value).set c u = [.string m'.name,p'.1,p'.2]) :
  (msRows ms ps).flatten.set (i * 3 + c) u = (msRows (ms.set i m') (ps.set i p')).flatten := by
 have hi := (List.getElem?_eq_some_iff.1 hm).1;have hi2 := (List.getElem?_eq_some_iff.1 hp).1;rw [flat_set (msRows ms ps) (ms_len ms ps) i _ (ms_get hm hp) c u hc,he]
 congr 1
 apply List.ext_getElem?
 intro k;unfold msRows;rw [List.getElem?_set,List.getElem?_zipWith,List.getElem?_zipWith]
 by_cases hk : i = k
 ·subst hk;rw [if_pos rfl,List.getElem?_set_self hi,List.getElem?_set_self hi2,if_pos (by rw [List.length_zipWith]; omega)]
 ·rw [if_neg hk,List.getElem?_set_ne hk,List.getElem?_set_ne hk]
theorem CpO.froz {W : World} {B bt q n c : Nat} {ve vt : Value} {s : ScS} {pm : List (Value × Value)} {pe : List Value} (h : CpO W B bt (.slice (some ⟨q,0,none⟩) n c) ve vt s pm pe) (j : Nat) : W.frozen? ⟨q,j,none⟩ = false := by
 have hn := h.len;subst hn;exact own_froz h.ms.own j
theorem CpO.hi {W : World} {B bt q n c : Nat} {ve vt : Value} {s : ScS} {pm : List (Value × Value)} {pe : List Value} (h : CpO W B bt (.slice (some ⟨q,0,none⟩) n c) ve vt s pm pe) : B ≤ q := (World.ownsRow.lt h.ms.own q rfl).1
end
section
theorem mtOf_mem {s : ScS} (hs : OkS s) {m : MtS} (h : m ∈ s.methods) : mtOf s m.name = some m := by
 unfold mtOf;have hn := hs.tns;unfold ScS.tn at hn;generalize s.methods = l at h hn
 induction l with
 | nil => cases h
 | cons a l ih =>
  simp only [List.map_cons,List.nodup_cons] at hn
  rcases List.mem_cons.1 h with rfl | h
  ·simp
  ·have hne : a.name ≠ m.name := fun e => hn.1 (e ▸ List.mem_map.2 ⟨m,h,rfl⟩)
   rw [List.find?_cons_of_neg (by simpa using hne)];exact ih h hn.2
theorem find_set {α : Type} {nm : α → ByteArray} {x' : α} : ∀ {l : List α} {k : Nat} {x : α},(l.map nm).Nodup → l[k]? = some x → nm x' = nm x → ∀ A,(l.set k x').find? (fun y => decide (nm y = A)) = if A = nm x then some x' else l.find? fun y => decide (nm y = A)
 | [],k,x,_,h,_,_ => by simp at h
 | a :: l,0,x,hn,h,e,A => by
  obtain rfl : a = x := by simpa using h
  rw [List.set_cons_zero]
  by_cases hA : A = nm a
  ·rw [if_pos hA,List.find?_cons_of_pos (by simp [e,hA])]
  ·rw [if_neg hA,List.find?_cons_of_neg (by simp [e]; exact fun h => hA h.symm),List.find?_cons_of_neg (by simp; exact fun h => hA h.symm)]
 | a :: l,k + 1,x,hn,h,e,A => by
  have h' : l[k]? = some x := by simpa using h
  simp only [List.map_cons,List.nodup_cons] at hn;rw [List.set_cons_succ]
  by_cases hA : nm a = A
  ·have hne : A ≠ nm x := fun e2 => hn.1 (by rw [hA,e2]; exact List.mem_map.2 ⟨x,List.mem_of_getElem? h',rfl⟩)
   rw [if_neg hne,List.find?_cons_of_pos (by simp [hA]),List.find?_cons_of_pos (by simp [hA])]
  ·rw [List.find?_cons_of_neg (by simp [hA]),find_set hn.2 h' e A,List.find?_cons_of_neg (by simp [hA])]
theorem msG_set {s : ScS} (hs : OkS s) {k : Nat} {m m' : MsS} (hk : s.msgs[k]? = some m) (hn : m'.name = m.name) (A : ByteArray) : msgOf (setM s k m') A = if A = m.name then some m' else msgOf s A := find_set (nm := MsS.name) hs.names hk hn A
theorem ext_of {s t : ScS} (h1 : ∀ A m,msgOf s A = some m → ∃ m',msgOf t A = some m' ∧ (∀ tag ∈ m.reserved,tag ∈ m'.reserved) ∧ ∀ tag f,fldOf m.fields tag = some f → tag ∈ m'.reserved ∨ ∃ g,fldOf m'.fields tag = some g ∧ g.label = f.label ∧ g.kind = f.kind ∧ g.tname = f.tname)
  (h2 : ∀ m ∈ s.methods,∃ k,mtOf t m.name = some k ∧ k.inn = m.inn ∧ k.out = m.out) (h3 : ∀ nm x,enmOf s nm = some x → ∃ y,enmOf t nm = some y ∧ ∀ v ∈ x.values,v ∈ y.values) : Ext s t := by
 refine ⟨h2,fun A tag e => ?_,fun A tag f hf => ?_,h3⟩
 ·unfold msG at e ⊢
  cases hq : msgOf s A with
  | none => rw [hq] at e; cases e
  | some m =>
   rw [hq] at e;obtain ⟨m',q1,q2, -⟩ := h1 A m hq;rw [q1];exact q2 tag e
 ·unfold msG at hf ⊢
  cases hq : msgOf s A with
  | none => rw [hq] at hf; simp [fldOf,zMs] at hf
  | some m =>
   rw [hq] at hf;obtain ⟨m',q1, -,q3⟩ := h1 A m hq;rw [q1];exact q3 tag f hf
theorem mt_same {s t : ScS} (hs : OkS s) (h : t.methods = s.methods) : ∀ m ∈ s.methods,∃ k,mtOf t m.name = some k ∧ k.inn = m.inn ∧ k.out = m.out := fun m hm => ⟨m,by
 have := mtOf_mem hs hm;unfold mtOf at this ⊢
 rw [h]; exact this,rfl,rfl⟩
theorem en_same {s t : ScS} (h : t.enums = s.enums) : ∀ nm x,enmOf s nm = some x → ∃ y,enmOf t nm = some y ∧ ∀ v ∈ x.values,v ∈ y.values := fun nm x hx => ⟨x,by unfold enmOf at hx ⊢; rw [h]; exact hx,fun _ e => e⟩
theorem ext_set {s : ScS} (hs : OkS s) {k : Nat} {m m' : MsS} (hk : s.msgs[k]? = some m) (hn : m'.name = m.name) (hr : ∀ tag ∈ m.reserved,tag ∈ m'.reserved) (hf : ∀ tag f,fldOf m.fields tag = some f → tag ∈ m'.reserved ∨ ∃ g,fldOf m'.fields tag = some g ∧ g.label = f.label ∧ g.kind = f.kind ∧ g.tname = f.tname) : Ext s (setM s k m') := by
 refine ext_of (fun A x hx => ?_) (mt_same hs rfl) (en_same rfl);rw [msG_set hs hk hn A]
 by_cases hA : A = m.name
 ·rw [if_pos hA];have h1 := msgOf_mem hs (List.mem_of_getElem? hk);rw [← hA,hx] at h1;obtain rfl := Option.some.inj h1;exact ⟨m',rfl,hr,hf⟩
 ·rw [if_neg hA];exact ⟨x,hx,fun _ e => e,fun tag f hf => .inr ⟨f,hf,rfl,rfl,rfl⟩⟩
theorem fld_at {fs : List FlS} (hn : (fs.map FlS.tag).Nodup) {f : FlS} (hf : f ∈ fs) : fldOf fs f.tag = some f := by
 unfold fldOf
 induction fs with
 | nil => cases hf
 | cons a l ih =>
  simp only [List.map_cons,List.nodup_cons] at hn
  rcases List.mem_cons.1 hf with rfl | hf
  ·simp
  ·have hne : a.tag ≠ f.tag := fun e => hn.1 (e ▸ List.mem_map.2 ⟨f,hf,rfl⟩)
   rw [List.find?_cons_of_neg (by simpa using hne)];exact ih hn.2 hf
theorem fits_same {s t : ScS} (h : t.enums = s.enums) {k : Int} {n : ByteArray} (hk : k = 6 → n ∈ s.en) : fitsY s t k n k n = true := by
 unfold fitsY
 by_cases h1 : k = 1 ∧ k = 2
 ·omega
 ·rw [if_neg h1,if_neg (by simp)]
  by_cases h6 : k = 6
  ·obtain ⟨x,hx⟩ := enm_in (hk h6)
   have hy : enmOf t n = some x := by unfold enmOf at hx ⊢; rw [h]; exact hx
   rw [if_neg (by simpa using h6),hx,hy];simp only [Option.isSome_some,Option.getD_some,Bool.true_and,List.all_eq_true];exact fun v hvv => inVs_of hvv
  ·rw [if_pos h6]
theorem set_ok {s : ScS} (hs : OkS s) {k : Nat} {m m' : MsS} (hk : s.msgs[k]? = some m) (hn : m'.name = m.name) (hm : msgOk s.mn s.en m') : OkS (setM s k m') := by
 have hnm := set_names (m' := m') hk hn;have hmm : m ∈ s.msgs := List.mem_of_getElem? hk;refine ⟨hs.name,by simpa [setM] using hs.some,by simpa [setM,bigS] using hs.big,fun x hx => ?_,hs.enums,fun t ht => by rw [hnm]; exact hs.meths t ht,by rw [hnm]; exact hs.names,hs.enms,fun x hx => by rw [hnm]; exact hs.apart x hx,hs.tns⟩;rw [hnm]
 rcases List.mem_or_eq_of_mem_set hx with hx | rfl
 ·exact hs.msgs x hx
 ·exact ⟨by rw [hn]; exact (hs.msgs m hmm).1,hm⟩
theorem evol_break {s : ScS} {k : Nat} {m m' : MsS} {f : FlS} (hs : OkS s) (hk : s.msgs[k]? = some m) (hm : msgOk s.mn s.en m') (hn : m'.name = m.name) (hr : m'.reserved = m.reserved) (hf : f ∈ m.fields) (ho : ∀ tag,tag ≠ f.tag → fldOf m'.fields tag = fldOf m.fields tag)
  (hb : fldOf m'.fields f.tag = none ∨ ∃ g,fldOf m'.fields f.tag = some g ∧ ¬ (f.label = g.label ∧ fitsY s (setM s k m') f.kind f.tname g.kind g.tname = true)) (hq : ∃ q ∈ s.methods,q.inn = m.name) : evolA s (setM s k m') = (m.name,f.tag,false) := by
 have ht := set_ok hs hk hn hm;have hmm := List.mem_of_getElem? hk;obtain ⟨-, -,hrs,hrn,hfo, -,htn⟩ := hs.msgs m hmm
 have hmS : msG s m.name = m := by unfold msG; rw [msgOf_mem hs hmm]; rfl
 have hmT : msG (setM s k m') m.name = m' := by unfold msG; rw [msG_set hs hk hn,if_pos rfl]; rfl
 have htg : tagR f.tag = true := (hfo f hf).1.2.1
 have htg2 : 1 ≤ f.tag ∧ f.tag ≤ 500 := by simpa [tagR] using htg
 have h1 := evol_bad (R := fun p => p.1 = p.2) (p0 := (m.name,m.name)) (tag0 := f.tag) hs ht (fun q hqm => by
  obtain ⟨x,e1,e2,e3⟩ := mt_same (t := setM s k m') hs rfl q hqm
  exact ⟨x,e1,e2.symm,e3.symm⟩) (fun p hp hne tag g1 g2 => by
  obtain ⟨A,B⟩ := p;obtain rfl : A = B := hp;have hA : A ≠ m.name := fun e => hne (by rw [e])
  have hsame : msG (setM s k m') A = msG s A := by unfold msG; rw [msG_set hs hk hn,if_neg hA]
  refine okAt_iff.2 ⟨fun e => by rw [hsame]; exact e,fun e x hx hnn => ⟨x,by rw [hsame]; exact hx,rfl,fits_same rfl fun e6 => ?_,fun _ => rfl⟩⟩;have h5 := msG_field hs hx;rw [e6] at h5
  exact type6 h5) (fun tag g1 g2 => by
  refine okAt_iff.2 ⟨fun e => ?_,fun e x hx hnn => ?_⟩
  ·simp only [hmS] at e;simp only [hmT,hr];exact e
  ·simp only [hmS] at hx e;refine ⟨x,by simp only [hmT]; rw [ho tag (by omega)]; exact hx,rfl,fits_same rfl fun e6 => ?_,fun _ => rfl⟩;have h5 := msG_field hs (A := m.name) (by rw [hmS]; exact hx);rw [e6] at h5
   exact type6 h5) (by
  simp only [hmS,hmT];unfold atE;rw [if_neg (hfo f hf).2,fld_at htn hf];simp only;rw [if_neg (by rw [hr]; exact (hfo f hf).2)]
  rcases hb with hb | ⟨g,hb,hc⟩
  ·rw [hb]
  ·rw [hb];simp only
   rw [if_neg hc]) htg2.1 htg2.2 (by
  obtain ⟨q,hqm,hqi⟩ := hq;obtain ⟨x,e1,e2,e3⟩ := mt_same (t := setM s k m') hs rfl q hqm
  exact ⟨q,x,hqm,e1,by rw [e2,hqi]⟩)
 exact h1
theorem evol_back {s t : ScS} {A : ByteArray} {tag : Int} (h1 : tag ∈ (msG s A).reserved) (h2 : tag ∉ (msG t A).reserved) (g1 : 1 ≤ tag) (g2 : tag ≤ 500) (hq : ∃ q ∈ s.methods,q.inn = A ∧ ∃ k,mtOf t q.name = some k ∧ k.inn = A) : (evolA s t).2.2 = false := by
 cases h : (evolA s t).2.2 with
 | false => rfl
 | true =>
  obtain ⟨hs,ht,R,hR⟩ := evol_clo h;obtain ⟨q,hqm,hqi,k,hk,hki⟩ := hq;obtain ⟨k',e1,e2, -⟩ := hR.meth q hqm;rw [hk] at e1;obtain rfl := Option.some.inj e1;rw [hqi,hki] at e2;exact absurd ((okAt_iff.1 (hR.pair _ e2 tag g1 g2)).1 h1) h2
end
section
open Go.ChangeShapes Go.WideShapes Go.ChangeAt Go.RowKit
theorem RowG.ahead {w : World} {g off N c size : Nat} {rs : List (List Value)} (h : RowG w (.slice (some ⟨g,off,none⟩) N c) size rs) {k cap : Nat} (hk : k ≤ N) (h1 : k ≤ cap) (h2 : cap ≤ maxLen) : RowG w (.slice (some ⟨g,off,none⟩) k cap) size (rs.take k) := by
 obtain ⟨a,cap0,e,q1,q2,q3,q4⟩ := h.form;simp only [Value.slice.injEq] at e;obtain ⟨rfl,rfl,rfl⟩ := e;refine ⟨⟨some ⟨g,off,none⟩,cap,by rw [List.length_take,Nat.min_eq_left hk],by rw [List.length_take]; omega,h2,(fun e => by cases e),fun hne => ⟨g,off,rfl,fun i c u j hc hu => ?_⟩⟩⟩
 have hi : i < k := by
  have := (List.getElem?_eq_some_iff.1 hc).1;rw [List.length_take] at this; omega
 rw [List.getElem?_take_of_lt hi] at hc
 have hne' : rs ≠ [] := by intro e; rw [e] at hc; simp at hc
 obtain ⟨g',off',e1,e2⟩ := q4 hne';simp only [Option.some.injEq,Addr.mk.injEq,and_true] at e1;obtain ⟨rfl,rfl⟩ := e1;exact e2 i c u j hc hu
theorem flE_flat (l : List FlS) : (flRows l).flatten.length = l.length * 5 := by
 induction l with
 | nil => rfl
 | cons a l ih =>
  have : (flRows (a :: l)).flatten = a.cells ++ (flRows l).flatten := by simp [flRows]
  rw [this,List.length_append,ih,List.length_cons]
  show 5 + _ = _
  omega
theorem flE_cut (l : List FlS) (j : Nat) : (flRows l).flatten = (flRows (l.take j)).flatten ++ (flRows (l.drop j)).flatten := by
 have : flRows l = flRows (l.take j) ++ flRows (l.drop j) := by
  show l.map _ = (l.take j).map _ ++ (l.drop j).map _
  rw [← List.map_append,List.take_append_drop]
 rw [this,List.flatten_append]
theorem flE_drop (fs : List FlS) (j : Nat) : (flRows (fs.take j)).flatten ++ (flRows (fs.drop (j + 1))).flatten = (flRows (fs.eraseIdx j)).flatten := by
 rw [List.eraseIdx_eq_take_drop_succ]
 simp [flRows]
theorem cutB {W : World} {B gf nf cf j : Nat} {fs : List FlS} (h : W.ownsRow B 42 5 (.slice (some ⟨gf,0,none⟩) nf cf) nf (flRows fs).flatten) (hl : fs.length = nf) (hj : j < nf) (hn : nf ≤ 20) {oa : Nat} (ho : nf = j + 1 ∨ oa = (j + 1) * 5) :
  ∃ a2 c2 W2,(Builtin.append_ #[37,37] 37 #[.slice (some ⟨gf,0,none⟩) j j,.slice (some ⟨gf,oa,none⟩) (nf - (j + 1)) (cf - (j + 1))]).run Try.prog W = .ok (.slice a2 (nf - 1) c2) W2 ∧
   RowG W2 (.slice a2 (nf - 1) c2) 5 (flRows (fs.eraseIdx j)) ∧ (∀ b,(Value.slice a2 (nf - 1) c2).ownBlock = some b → ∃ cs,Blk W2 b cs 42) ∧ Below W.heap.size W W2 := by
 obtain ⟨i0,hi0,hz0,hz1,hz2⟩ := info_parts infoFl
 have hlen : (flRows (fs.take j)).flatten.length = j * 5 := by rw [flE_flat,List.length_take,hl]; congr 1; omega
 have hlt : (flRows (fs.take (j + 1))).flatten.length = (j + 1) * 5 := by rw [flE_flat,List.length_take,hl]; congr 1; omega
 have hln : (flRows (fs.drop (j + 1))).flatten.length = (nf - (j + 1)) * 5 := by rw [flE_flat,List.length_drop,hl]
 obtain ⟨cap,cur,e1,hB,hnc,hcm,hcs,htk⟩ : ∃ cap cur,cf = cap ∧ W.heap[gf]? = some (.cells cur 42 (0,0)) ∧ nf ≤ cap ∧ cap ≤ maxLen ∧ cur.size = cap * 5 ∧ cur.toList.take (nf * 5) = (flRows fs).flatten := by
  rcases h.2 with ⟨e,_⟩ | ⟨g,cap,cur,e,hb,hg,h1,h2,h3,h4⟩
  ·cases e
  ·simp only [Value.slice.injEq,Option.some.injEq,Addr.mk.injEq,and_true,true_and] at e;obtain ⟨rfl,rfl⟩ := e;exact ⟨_,_,rfl,hg,h1,h2,h3,h4⟩
 subst e1;have hcell : ∀ q u,(flRows fs).flatten[q]? = some u → W.cell? ((⟨gf,0,none⟩ : Addr).add q) = some u := World.ownsRow.cells h (g := gf) rfl
 have hcell2 : ∀ q u,(flRows fs).flatten[q]? = some u → W.cell? ⟨gf,q,none⟩ = some u := fun q u hu => by
  have h1 := hcell q u hu;rw [Addr.add_lit,Nat.zero_add] at h1;exact h1
 by_cases hq : nf = j + 1
 ·subst hq;have hr := run_append_room (P := Try.prog) W 37 37 42 i0 Try.underlying37 hi0 gf j j cur hB ⟨gf,oa,none⟩ 0 (cf - (j + 1)) [] (by simp) (fun q u hu => by simp at hu) (fun u hu => by cases hu) (by omega) (by rw [hz1,hcs,List.length_nil]; omega);rw [Nat.add_zero] at hr
  have hcur : (cur.toList.take (j * i0.size) ++ [] ++ cur.toList.drop (j * i0.size + ([] : List Value).length)).toArray = cur := by
   rw [List.append_nil,List.length_nil,Nat.add_zero,List.take_append_drop]
  rw [hcur] at hr;have hg2 : (W.setRow gf cur).heap[gf]? = some (.cells cur 42 (0,0)) := setRow_heap W gf cur cur _ _ hB
  have hgr : W.grownBy (W.setRow gf cur) none := ⟨rfl,rfl,rfl,by simp,fun k hk _ => by
   by_cases hk2 : k = gf
   ·subst hk2; rw [hg2,hB]
   ·exact setRow_other W gf k _ hk2⟩
  have hbl : Below W.heap.size W (W.setRow gf cur) := (Below.refl _ _).grown hgr (Nat.le_refl _) (fun k hk => by cases hk);have hro := ((own_rowF h).below hbl).ahead (k := j) (cap := j) (by omega) (Nat.le_refl _) (by omega);refine ⟨some ⟨gf,0,none⟩,j,W.setRow gf cur,?_,?_,?_,hbl⟩
  ·rw [show j + 1 - (j + 1) = 0 by omega,show j + 1 - 1 = j by omega];exact hr
  ·have e2 : (flRows fs).take j = flRows (fs.eraseIdx j) := by
    rw [List.eraseIdx_eq_take_drop_succ,List.drop_eq_nil_of_le (by omega),List.append_nil]
    simp [flRows]
   rw [e2] at hro;exact hro
  ·intro b hb
   cases hb
   exact ⟨cur,hg2⟩
 ·have hoa : oa = (j + 1) * 5 := by omega
  subst hoa
  have hsum : j + (nf - (j + 1)) = nf - 1 := by omega
  have hr := run_append_grow (P := Try.prog) (w := W) 37 37 42 i0 _ Try.underlying37 hi0 hz0 ⟨gf,0,none⟩ j j (flRows (fs.take j)).flatten (by rw [hlen,hz1]) (fun q u hu => hcell q u (by
   rw [flE_cut fs j,List.getElem?_append_left (List.getElem?_eq_some_iff.1 hu).1]; exact hu)) ⟨gf,(j + 1) * 5,none⟩ (nf - (j + 1)) (cf - (j + 1)) (flRows (fs.drop (j + 1))).flatten (by rw [hln,hz1]) (fun q u hu => by
   rw [Addr.add_lit];refine hcell2 _ u ?_;rw [flE_cut fs (j + 1),List.getElem?_append_right (by rw [hlt]; omega),hlt,Nat.add_sub_cancel_left]
   exact hu) (by omega) (by omega) (growslice_fits (by omega) (by rw [hz2]; omega))
  have hge := grownCap_ge W (j + (nf - (j + 1))) j 42;have hcm2 : grownCap W (j + (nf - (j + 1))) j 42 ≤ maxLen := grownCap_le_maxLen W _ j _ (by unfold maxLen; omega)
  have hown : (W.drew.alloc (.cells ((flRows (fs.take j)).flatten.toArray ++ (flRows (fs.drop (j + 1))).flatten.toArray ++ Builtin.zeroCells (Value.cells (.agg #[.string ⟨#[]⟩,.int .i64 0,.int .i64 0,.int .i64 0,.string ⟨#[]⟩])) (grownCap W (j + (nf - (j + 1))) j 42 - (j + (nf - (j + 1))))) 42)).ownsRow W.heap.size 42 5
    (.slice (some ⟨W.heap.size,0,none⟩) (j + (nf - (j + 1))) (grownCap W (j + (nf - (j + 1))) j 42)) (j + (nf - (j + 1))) (flRows (fs.eraseIdx j)).flatten := by
   have hll : (flRows (fs.eraseIdx j)).flatten.length = (j + (nf - (j + 1))) * 5 := by rw [← flE_drop,List.length_append,hlen,hln]; omega
   refine ⟨hll,.inr ⟨W.heap.size,_,_,rfl,Nat.le_refl _,heap_alloc_new W.drew _,hge,hcm2,?_,?_⟩⟩
   ·simp only [Array.size_append,List.size_toArray,size_zeroCells,hlen,hln];rw [show (Value.cells (.agg #[.string ⟨#[]⟩,.int .i64 0,.int .i64 0,.int .i64 0,.string ⟨#[]⟩])).size = 5 from rfl]
    omega
   ·rw [← hll,← flE_drop];simp only [Array.toList_append];exact List.take_left
  rw [hsum] at hr hown;refine ⟨_,_,_,hr,(own_rowF hown),fun b hb => own_blkE hown hb,?_⟩;exact (Below.refl _ _).drew.alloc (Nat.le_refl _) _
theorem RowG.kpE {S : Nat → Prop} {w w1 : World} {v : Value} {size : Nat} {rs : List (List Value)} (h : RowG w v size rs) (hk : Kp S w w1) (hs : ∀ b,v.ownBlock = some b → ¬ S b) : RowG w1 v size rs := by
 obtain ⟨a,cap,rfl,h2,h3,h0,h4⟩ := h.form;refine ⟨a,cap,rfl,h2,h3,h0,fun hne => ?_⟩;obtain ⟨g,off,rfl,h6⟩ := h4 hne;exact ⟨g,off,rfl,fun i c u j hc hu => hk.cell (h6 i c u j hc hu) (hs g rfl)⟩
structure CpQ (W : World) (B bt : Nat) (vm ve vt : Value) (s : ScS) (ps : List (Value × Value)) (pe : List Value) : Prop where
 lo : B ≤ bt
 blk : Blk W bt #[.string s.name,vm,ve,vt] 26
 len : ps.length = s.msgs.length
 own : W.ownsRow B 40 3 vm s.msgs.length (msRows s.msgs ps).flatten
 each : ∀ (i : Nat) (m : MsS) (p : Value × Value),s.msgs[i]? = some m → ps[i]? = some p → RowG W p.1 5 (flRows m.fields) ∧ (∀ b,p.1.ownBlock = some b → ∃ cs,Blk W b cs 42) ∧ W.ownsRow B 3 1 p.2 m.reserved.length (inRows m.reserved).flatten
 ap : ApR ps
 es : EnO W B ve s.enums pe
 ts : W.ownsRow B 47 3 vt s.methods.length (mtRows s.methods).flatten
theorem CpO.toQ {W : World} {B bt : Nat} {vm ve vt : Value} {s : ScS} {ps : List (Value × Value)} {pe : List Value} (h : CpO W B bt vm ve vt s ps pe) (ha : ApR ps) : CpQ W B bt vm ve vt s ps pe :=
 ⟨h.lo,h.blk,h.ms.len,h.ms.own,fun i m p hm hp => ⟨own_rowF (h.ms.each i m p hm hp).1,fun b hb => own_blkE (h.ms.each i m p hm hp).1 hb,(h.ms.each i m p hm hp).2⟩,ha,h.es,h.ts⟩
theorem CpQ.below {W W1 : World} {B bt : Nat} {vm ve vt : Value} {s : ScS} {ps : List (Value × Value)} {pe : List Value} (h : CpQ W B bt vm ve vt s ps pe) (hb : Below W.heap.size W W1) : CpQ W1 B bt vm ve vt s ps pe :=
 ⟨h.lo,h.blk.below hb,h.len,own_below h.own hb,fun i m p hm hp => ⟨(h.each i m p hm hp).1.below hb,fun b hq => by obtain ⟨cs,hB⟩ := (h.each i m p hm hp).2.1 b hq; exact ⟨cs,hB.below hb⟩,own_below (h.each i m p hm hp).2.2 hb⟩,h.ap,h.es.below hb,own_below h.ts hb⟩
theorem CpQ.sin {W : World} {B bt : Nat} {vm ve vt : Value} {s : ScS} {ps : List (Value × Value)} {pe : List Value} (h : CpQ W B bt vm ve vt s ps pe) (hw : ScW s) (hf : FewL s) : SIn W (.agg #[.string s.name,vm,ve,vt]) s := by
 refine ⟨⟨_,_,_,rfl,?_,h.es.to_in,own_rowT h.ts⟩,hw,hf⟩;obtain ⟨h1,h2⟩ := RowG.own (ms_len s.msgs ps) (by decide) h.own;refine ⟨msRows s.msgs ps,h1,h2.symm,fun i m hm => ?_⟩;have hi := (List.getElem?_eq_some_iff.1 hm).1;obtain ⟨p,hp⟩ : ∃ p,ps[i]? = some p := ⟨_,List.getElem?_eq_getElem (by rw [h.len]; exact hi)⟩;have g := h.each i m p hm hp;exact ⟨p.1,p.2,ms_get hm hp,g.1,own_rowI g.2.2⟩
theorem CpQ.hlen {W : World} {B bt n c : Nat} {a : Option Addr} {ve vt : Value} {s : ScS} {pm : List (Value × Value)} {pe : List Value} (h : CpQ W B bt (.slice a n c) ve vt s pm pe) : n = s.msgs.length := own_len h.own
theorem CpQ.fcell {W : World} {B bt q n c : Nat} {ve vt : Value} {s : ScS} {pm : List (Value × Value)} {pe : List Value} (h : CpQ W B bt (.slice (some ⟨q,0,none⟩) n c) ve vt s pm pe) {i : Nat} {m : MsS} {p : Value × Value} (hm : s.msgs[i]? = some m) (hp : pm[i]? = some p) :
  W.cell? ⟨q,i * 3,none⟩ = some (.string m.name) ∧ W.cell? ⟨q,i * 3 + 1,none⟩ = some p.1 ∧ W.cell? ⟨q,i * 3 + 2,none⟩ = some p.2 := by
 have hn := h.hlen;subst hn;exact ⟨own_at (ms_len s.msgs pm) h.own (ms_get hm hp) (j := 0) rfl,own_at (ms_len s.msgs pm) h.own (ms_get hm hp) (j := 1) rfl,own_at (ms_len s.msgs pm) h.own (ms_get hm hp) (j := 2) rfl⟩
theorem CpQ.hi {W : World} {B bt q n c : Nat} {ve vt : Value} {s : ScS} {pm : List (Value × Value)} {pe : List Value} (h : CpQ W B bt (.slice (some ⟨q,0,none⟩) n c) ve vt s pm pe) : B ≤ q := (World.ownsRow.lt h.own q rfl).1
theorem CpQ.put {w w1 : World} {B bt q n cap : Nat} {ve vt : Value} {s : ScS} {ps : List (Value × Value)} {pe : List Value} (h : CpQ w B bt (.slice (some ⟨q,0,none⟩) n cap) ve vt s ps pe) {i : Nat} {m m' : MsS} {p p' : Value × Value} (hm : s.msgs[i]? = some m) (hp : ps[i]? = some p)
  (S : Nat → Prop) (hS : ∀ b,S b → p.2.ownBlock = some b) (hk : Kp S w w1) {c : Nat} {u : Value} (hc : c < 3) (he : ([.string m.name,p.1,p.2] : List Value).set c u = [.string m'.name,p'.1,p'.2])
  (ho1 : RowG w1 p'.1 5 (flRows m'.fields)) (ht1 : ∀ b,p'.1.ownBlock = some b → ∃ cs,Blk w1 b cs 42) (ho2 : w1.ownsRow B 3 1 p'.2 m'.reserved.length (inRows m'.reserved).flatten)
  (hn2 : ∀ b,p'.2.ownBlock = some b → p.2.ownBlock = some b ∨ w.heap.size ≤ b) :
  CpQ (w1.setCell ⟨q,i * 3 + c,none⟩ u) B bt (.slice (some ⟨q,0,none⟩) n cap) ve vt (setM s i m') (ps.set i p') pe := by
 have hi := (List.getElem?_eq_some_iff.1 hm).1;have hi2 := (List.getElem?_eq_some_iff.1 hp).1;have hn := h.hlen;subst hn;have hr := (h.each i m p hm hp).2.2;have hown1 : w1.ownsRow B 40 3 (.slice (some ⟨q,0,none⟩) s.msgs.length cap) s.msgs.length (msRows s.msgs ps).flatten := own_kpV h.own hk (fun b hb e => own_apart h.own hr (by decide) b hb (hS b e));obtain ⟨cs,hB⟩ := own_blkE hown1 (g := q) rfl
 have hkq : Kp (fun k => k = q) w1 (w1.setCell ⟨q,i * 3 + c,none⟩ u) := by
  refine Kp.setCell ?_ (fun _ => by simp) _;exact Kp.refl _ _
 have keep : ∀ {e : TypeId} {sz n : Nat} {v : Value} {xs : List Value},e ≠ 3 → e ≠ 40 → w.ownsRow B e sz v n xs → (w1.setCell ⟨q,i * 3 + c,none⟩ u).ownsRow B e sz v n xs := fun h2 h3 h4 => own_blk (own_kpV h4 hk fun b hb e => own_apart h4 hr h2 b hb (hS b e)) hB h3 hkq
 have hqn : ∀ {b : Nat} {cs' : Array Value} {t : TypeId},Blk w1 b cs' t → t ≠ 40 → ¬ b = q := fun h1 h2 e => by
  subst e;have h3 := hB.symm.trans h1;simp only [Option.some.injEq,Obj.cells.injEq] at h3;exact h2 h3.2.1.symm
 have hSn : ∀ {b : Nat} {cs' : Array Value} {t : TypeId},Blk w b cs' t → t ≠ 3 → ¬ S b := fun h1 h2 e => h2 (own_type hr (hS _ e) h1).symm
 refine ⟨h.lo,(h.blk.kp hk (hSn h.blk (by decide))).kp hkq (hqn (h.blk.kp hk (hSn h.blk (by decide))) (by decide)),?_,?_,?_,?_,⟨h.es.len,keep (by decide) (by decide) h.es.own,fun i m p hm hp => keep (by decide) (by decide) (h.es.each i m p hm hp)⟩,keep (by decide) (by decide) h.ts⟩
 ·show (ps.set i p').length = (s.msgs.set i m').length
  rw [List.length_set,List.length_set]; exact h.len
 ·show World.ownsRow _ _ _ _ _ (s.msgs.set i m').length (msRows (s.msgs.set i m') (ps.set i p')).flatten
  rw [List.length_set,← ms_set hm hp hc he];exact own_set hown1 u
 ·intro k m2 p2 hm2 hp2
  replace hm2 : (s.msgs.set i m')[k]? = some m2 := hm2
  by_cases hj : i = k
  ·subst hj;rw [List.getElem?_set_self hi] at hm2;rw [List.getElem?_set_self hi2] at hp2
   cases hm2
   cases hp2
   refine ⟨ho1.kpE hkq fun b hb => ?_,fun b hb => ?_,own_blk ho2 hB (by decide) hkq⟩
   ·obtain ⟨c2,hB2⟩ := ht1 b hb;exact hqn hB2 (by decide)
   ·obtain ⟨c2,hB2⟩ := ht1 b hb;exact ⟨c2,hB2.kp hkq (hqn hB2 (by decide))⟩
  ·rw [List.getElem?_set_ne hj] at hm2 hp2;have g := h.each k m2 p2 hm2 hp2;refine ⟨(g.1.kpE hk fun b hb => ?_).kpE hkq fun b hb => ?_,fun b hb => ?_,own_blk (own_kpV g.2.2 hk fun b hb e => hj (h.ap i k p p2 b hp hp2 (hS b e) hb)) hB (by decide) hkq⟩
   ·obtain ⟨c2,hB2⟩ := g.2.1 b hb;exact hSn hB2 (by decide)
   ·obtain ⟨c2,hB2⟩ := g.2.1 b hb;exact hqn (hB2.kp hk (hSn hB2 (by decide))) (by decide)
   ·obtain ⟨c2,hB2⟩ := g.2.1 b hb;have hB3 := hB2.kp hk (hSn hB2 (by decide));exact ⟨c2,hB3.kp hkq (hqn hB3 (by decide))⟩
 ·have high : ∀ (k : Nat) (x : Value × Value) (b : Nat),ps[k]? = some x → x.2.ownBlock = some b → b < w.heap.size := fun k x b hx hb => by
   have hk : k < s.msgs.length := by rw [← h.len]; exact (List.getElem?_eq_some_iff.1 hx).1
   exact (World.ownsRow.lt (h.each k _ x (List.getElem?_eq_getElem hk) hx).2.2 b hb).2
  intro j k x y b hx hy hxb hyb
  by_cases hj : i = j
  ·subst hj
   by_cases hk2 : i = k
   ·exact hk2
   ·rw [List.getElem?_set_self hi2] at hx;rw [List.getElem?_set_ne hk2] at hy
    cases hx
    rcases hn2 b hxb with e | e
    ·exact h.ap i k p y b hp hy e hyb
    ·have := high k y b hy hyb; omega
  ·rw [List.getElem?_set_ne hj] at hx
   by_cases hk2 : i = k
   ·subst hk2;rw [List.getElem?_set_self hi2] at hy
    cases hy
    rcases hn2 b hyb with e | e
    ·exact h.ap j i x p b hx hp hxb e
    ·have := high j x b hx hxb; omega
   ·rw [List.getElem?_set_ne hk2] at hy;exact h.ap j k x y b hx hy hxb hyb
theorem CpQ.putF {w w1 : World} {B bt q n cap : Nat} {ve vt : Value} {s : ScS} {ps : List (Value × Value)} {pe : List Value} (h : CpQ w B bt (.slice (some ⟨q,0,none⟩) n cap) ve vt s ps pe) {i : Nat} {m : MsS} {p : Value × Value} (hm : s.msgs[i]? = some m) (hp : ps[i]? = some p) {fs : List FlS} {v : Value}
  (hb : Below w.heap.size w w1) (ho : RowG w1 v 5 (flRows fs)) (ht : ∀ b,v.ownBlock = some b → ∃ cs,Blk w1 b cs 42) :
  CpQ (w1.setCell ⟨q,i * 3 + 1,none⟩ v) B bt (.slice (some ⟨q,0,none⟩) n cap) ve vt (setM s i ⟨m.name,fs,m.reserved⟩) (ps.set i (v,p.2)) pe := by
 have g := h.each i m p hm hp;exact h.put hm hp (m' := ⟨m.name,fs,m.reserved⟩) (p' := (v,p.2)) (fun _ => False) (fun b e => e.elim) (Kp.ofBelow hb) (c := 1) (by decide) rfl ho ht (own_below g.2.2 hb) (fun b e => .inl e)
theorem CpQ.putR {w w1 : World} {B bt q n cap : Nat} {ve vt : Value} {s : ScS} {ps : List (Value × Value)} {pe : List Value} (h : CpQ w B bt (.slice (some ⟨q,0,none⟩) n cap) ve vt s ps pe) {i : Nat} {m : MsS} {p : Value × Value} (hm : s.msgs[i]? = some m) (hp : ps[i]? = some p) {rs : List Int} {v : Value}
  (hk : Kp (fun b => p.2.ownBlock = some b) w w1) (ho : w1.ownsRow B 3 1 v rs.length (inRows rs).flatten) (hn : ∀ b,v.ownBlock = some b → p.2.ownBlock = some b ∨ w.heap.size ≤ b) :
  CpQ (w1.setCell ⟨q,i * 3 + 2,none⟩ v) B bt (.slice (some ⟨q,0,none⟩) n cap) ve vt (setM s i ⟨m.name,m.fields,rs⟩) (ps.set i (p.1,v)) pe := by
 have g := h.each i m p hm hp
 have hSn : ∀ {b : Nat} {cs' : Array Value},Blk w b cs' 42 → ¬ p.2.ownBlock = some b := fun h1 e => by
  have h2 := own_type g.2.2 e h1
  revert h2
  decide
 exact h.put hm hp (m' := ⟨m.name,m.fields,rs⟩) (p' := (p.1,v)) (fun b => p.2.ownBlock = some b) (fun b e => e) hk (c := 2) (by decide) rfl (g.1.kpE hk fun b hb => by obtain ⟨c2,hB2⟩ := g.2.1 b hb; exact hSn hB2) (fun b hb => by obtain ⟨c2,hB2⟩ := g.2.1 b hb; exact ⟨c2,hB2.kp hk (hSn hB2)⟩) ho hn
theorem run_joinF {w : World} (t ty e : TypeId) (size bytes : Nat) (z : Value) (ht : Try.prog.underlying t = some (.slice e)) (hinfo : (Try.prog.info? e).map (fun i => (i.zero,i.size,i.bytes)) = some (some z,size,bytes)) (hzs : z.cells.size = size) (hsz : 0 < size)
  (base : Nat) (v : Value) (n : Nat) (xs : List Value) (hown : w.ownsRow base e size v n xs)
  (xv : Value) (rs : List (List Value)) (hr : RowG w xv size rs) (hl : ∀ r ∈ rs,r.length = size) (h1 : ∀ u ∈ rs.flatten,u.oneCell' = true) (hb : n + rs.length ≤ 1000000) (hby : bytes ≤ 1000) (hbase : base ≤ w.heap.size) :
  ∃ v' w',(Builtin.append_ #[t,t] ty #[v,xv]).run Try.prog w = .ok v' w' ∧ w'.ownsRow base e size v' (n + rs.length) (xs ++ rs.flatten) ∧ w.grownBy w' v.ownBlock ∧ (v'.ownBlock = v.ownBlock ∨ v'.ownBlock = some w.heap.size) := by
 obtain ⟨i0,hi,hz0,hz1,hz2⟩ := info_parts hinfo;obtain ⟨ao,cap,rfl,q1,q2,q0,q3⟩ := hr.form
 cases ao with
 | none =>
  have hrs : rs = [] := by
   cases rs with
   | nil => rfl
   | cons r l => obtain ⟨g,off,e,_⟩ := q3 (by simp); cases e
  subst hrs;have := q0 rfl;subst this;have hrun := run_append_owned_none (P := Try.prog) (w := w) base t ty e i0 size ht hi v n xs hown;refine ⟨v,w,hrun,?_,⟨rfl,rfl,rfl,Nat.le_refl _,fun _ _ _ => rfl⟩,.inl rfl⟩;rw [List.flatten_nil,List.append_nil];exact hown
 | some ad =>
  obtain ⟨v',w',g0,g1,g2,_,g3⟩ := run_append_own_at w base t ty e i0 z size bytes ht hi hz0 hz1 hz2 hzs hsz v _ _ hown ad rs.length cap rs.flatten (by rw [flat_len rs hl]) (fun j u hu => by
   obtain ⟨i,c,k,e1,e2,rfl⟩ := flat_inv rs hl j u hu;obtain ⟨g,off,e3,e4⟩ := q3 (by intro e; rw [e] at e1; simp at e1)
   cases e3
   have := e4 i c u k e1 e2;rw [Nat.add_assoc] at this;rw [Addr.add_lit]
   exact this) h1 (by unfold maxLen; omega) (Nat.le_trans (Nat.mul_le_mul hb hby) (by decide)) hbase
  exact ⟨v',w',g0,g1,g2,g3⟩
end
section
theorem fld_set : ∀ {l : List FlS} {j : Nat} {f g : FlS},(l.map FlS.tag).Nodup → l[j]? = some f → g.tag = f.tag → ∀ t,fldOf (l.set j g) t = if t = f.tag then some g else fldOf l t
 | [],j,f,g,_,h,_,_ => by simp at h
 | a :: l,0,f,g,hn,h,e,t => by
  obtain rfl : a = f := by simpa using h
  unfold fldOf;rw [List.set_cons_zero]
  by_cases hA : t = a.tag
  ·rw [if_pos hA,List.find?_cons_of_pos (by simp [e,hA])]
  ·rw [if_neg hA,List.find?_cons_of_neg (by simp [e]; exact fun h => hA h.symm),List.find?_cons_of_neg (by simp; exact fun h => hA h.symm)]
 | a :: l,j + 1,f,g,hn,h,e,t => by
  have h' : l[j]? = some f := by simpa using h
  simp only [List.map_cons,List.nodup_cons] at hn;have ih := fld_set hn.2 h' e t;unfold fldOf at ih ⊢;rw [List.set_cons_succ]
  by_cases hA : a.tag = t
  ·have hne : t ≠ f.tag := fun e2 => hn.1 (by rw [hA,e2]; exact List.mem_map.2 ⟨f,List.mem_of_getElem? h',rfl⟩)
   rw [if_neg hne,List.find?_cons_of_pos (by simp [hA]),List.find?_cons_of_pos (by simp [hA])]
  ·rw [List.find?_cons_of_neg (by simp [hA]),ih,List.find?_cons_of_neg (by simp [hA])]
def setF (m : MsS) (j : Nat) (g : FlS) : MsS := ⟨m.name,m.fields.set j g,m.reserved⟩
theorem setF_ok {mn en : List ByteArray} {m : MsS} {j : Nat} {f g : FlS} (h : msgOk mn en m) (hj : m.fields[j]? = some f) (h1 : g.name = f.name) (h2 : g.tag = f.tag) (h3 : labB g.label = true) (h4 : typeB mn en g.kind g.tname = true) : msgOk mn en (setF m j g) := by
 obtain ⟨q1,q2,q3,q4,q5,q6⟩ := h;have hf := List.mem_of_getElem? hj
 have hmap : ∀ {β : Type} (φ : FlS → β),φ g = φ f → (m.fields.set j g).map φ = m.fields.map φ := fun φ e => by
  apply List.ext_getElem?
  intro i;rw [List.getElem?_map,List.getElem?_map,List.getElem?_set]
  split
  ·rename_i hi
   subst hi;rw [hj,if_pos (List.getElem?_eq_some_iff.1 hj).1]
   simp [e]
  ·rfl
 refine ⟨by simpa [bigM,setF] using q1,q2,q3,fun x hx => ?_,by show ((m.fields.set j g).map FlS.name).Nodup; rw [hmap _ h1]; exact q5,by show ((m.fields.set j g).map FlS.tag).Nodup; rw [hmap _ h2]; exact q6⟩
 rcases List.mem_or_eq_of_mem_set hx with hx | rfl
 ·exact q4 x hx
 ·obtain ⟨⟨r1,r2,r3,r4⟩,r5⟩ := q4 f hf;exact ⟨⟨by rw [h1]; exact r1,by rw [h2]; exact r2,h3,h4⟩,by rw [h2]; exact r5⟩
section
variable {s : ScS} {k j : Nat} {m : MsS} {f : FlS}
theorem brk_cut (hs : OkS s) (hk : s.msgs[k]? = some m) (hj : m.fields[j]? = some f) (hq : ∃ q ∈ s.methods,q.inn = m.name) : evolA s (setM s k (cutF m j)) = (m.name,f.tag,false) := by
 have hmm := List.mem_of_getElem? hk;have htn := (hs.msgs m hmm).2.2.2.2.2.2;have hc := fun t => fld_cut htn hj t
 refine evol_break hs hk (cut_ok (hs.msgs m hmm).2 j) rfl rfl (List.mem_of_getElem? hj) (fun t ht => ?_) (.inl ?_) hq
 ·show fldOf (m.fields.eraseIdx j) t = _
  rw [hc,if_neg ht]
 ·show fldOf (m.fields.eraseIdx j) f.tag = none
  rw [hc,if_pos rfl]
theorem brk_set (hs : OkS s) (hk : s.msgs[k]? = some m) (hj : m.fields[j]? = some f) {g : FlS} (h1 : g.name = f.name) (h2 : g.tag = f.tag) (h3 : labB g.label = true) (h4 : typeB s.mn s.en g.kind g.tname = true) (hb : f.label ≠ g.label ∨ ¬ (f.kind = 1 ∧ g.kind = 2) ∧ f.kind ≠ g.kind) (hq : ∃ q ∈ s.methods,q.inn = m.name) : evolA s (setM s k (setF m j g)) = (m.name,f.tag,false) := by
 have hmm := List.mem_of_getElem? hk;have htn := (hs.msgs m hmm).2.2.2.2.2.2;have hc := fun t => fld_set (g := g) htn hj h2 t
 refine evol_break hs hk (setF_ok (hs.msgs m hmm).2 hj h1 h2 h3 h4) rfl rfl (List.mem_of_getElem? hj) (fun t ht => ?_) (.inr ⟨g,?_,fun h => ?_⟩) hq
 ·show fldOf (m.fields.set j g) t = _
  rw [hc,if_neg ht]
 ·show fldOf (m.fields.set j g) f.tag = _
  rw [hc,if_pos rfl]
 ·rcases hb with hb | ⟨hb1,hb2⟩
  ·exact hb h.1
  ·rcases fits_kind h.2 with h5 | h5
   ·exact hb1 h5
   ·exact hb2 h5
def labF (f : FlS) : FlS := ⟨f.name,f.tag,f.label.tmod 3 + 1,f.kind,f.tname⟩
theorem brk_lab (hs : OkS s) (hk : s.msgs[k]? = some m) (hj : m.fields[j]? = some f) (hq : ∃ q ∈ s.methods,q.inn = m.name) : evolA s (setM s k (setF m j (labF f))) = (m.name,f.tag,false) := by
 have hf := (hs.msgs m (List.mem_of_getElem? hk)).2.2.2.2.1 f (List.mem_of_getElem? hj)
 have hl : 1 ≤ f.label ∧ f.label ≤ 3 := by simpa [labB] using hf.1.2.2.1
 have hc : f.label = 1 ∨ f.label = 2 ∨ f.label = 3 := by omega
 refine brk_set hs hk hj rfl rfl ?_ hf.1.2.2.2 (.inl ?_) hq
 ·rcases hc with e | e | e <;> simp [labF,e,labB]
 ·rcases hc with e | e | e <;> simp [labF,e]
def bytF (f : FlS) : FlS := ⟨f.name,f.tag,f.label,5,⟨#[]⟩⟩
theorem brk_byt (hs : OkS s) (hk : s.msgs[k]? = some m) (hj : m.fields[j]? = some f) (h5 : f.kind ≠ 5) (hq : ∃ q ∈ s.methods,q.inn = m.name) : evolA s (setM s k (setF m j (bytF f))) = (m.name,f.tag,false) := by
 have hf := (hs.msgs m (List.mem_of_getElem? hk)).2.2.2.2.1 f (List.mem_of_getElem? hj);exact brk_set hs hk hj rfl rfl hf.1.2.2.1 (by simp [bytF,typeB]) (.inr ⟨by simp [bytF],h5⟩) hq
def resF (m : MsS) (j : Nat) (t : Int) : MsS := ⟨m.name,m.fields.eraseIdx j,m.reserved ++ [t]⟩
theorem resF_ok {mn en : List ByteArray} (h : msgOk mn en m) (hj : m.fields[j]? = some f) (hl : m.reserved.length + 1 ≤ 32) : msgOk mn en (resF m j f.tag) := by
 obtain ⟨p1,p2,p3,p4,p5,p6⟩ := cut_ok h j;obtain ⟨q1,q2,q3,q4,q5,q6⟩ := h;have hf := q4 f (List.mem_of_getElem? hj);refine ⟨?_,fun n hn => ?_,?_,fun x hx => ⟨(p4 x hx).1,fun hm => ?_⟩,p5,p6⟩
 ·simp only [bigM,decide_eq_false_iff_not] at p1 ⊢
  show ¬ (16 < (m.fields.eraseIdx j).length ∨ 32 < (m.reserved ++ [f.tag]).length)
  rw [List.length_append];simp only [cutF] at p1;simp only [List.length_cons,List.length_nil]
  omega
 ·rcases List.mem_append.1 hn with hn | hn
  ·exact q2 n hn
  ·rw [List.mem_singleton.1 hn]; exact hf.1.2.1
 ·show (m.reserved ++ [f.tag]).Nodup
  rw [List.nodup_append];refine ⟨q3,by simp,fun a ha b hb => ?_⟩;rw [List.mem_singleton.1 hb];exact fun e => hf.2 (e ▸ ha)
 ·rcases List.mem_append.1 hm with hm | hm
  ·exact (p4 x hx).2 hm
  ·have hxt : x.tag = f.tag := List.mem_singleton.1 hm;have hx' : x ∈ m.fields.eraseIdx j := hx;have h1 := fld_at (fs := m.fields.eraseIdx j) p6 hx';rw [fld_cut q6 hj,if_pos hxt] at h1
   cases h1
theorem brk_res (hs : OkS s) (hk : s.msgs[k]? = some m) (hj : m.fields[j]? = some f) (hq : ∃ q ∈ s.methods,q.inn = m.name) : (m.reserved.length + 1 ≤ 32 → evolA s (setM s k (resF m j f.tag)) = (⟨#[]⟩,0,true)) ∧ (evolA (setM s k (resF m j f.tag)) s).2.2 = false := by
 have hmm := List.mem_of_getElem? hk;have hmo := (hs.msgs m hmm).2;have hf := hmo.2.2.2.1 f (List.mem_of_getElem? hj)
 have htg : 1 ≤ f.tag ∧ f.tag ≤ 500 := by simpa [tagR] using hf.1.2.1
 refine ⟨fun hl => evol_ext hs (set_ok hs hk rfl (resF_ok hmo hj hl)) (ext_set hs hk rfl (fun t e => List.mem_append.2 (.inl e)) fun t x hx => ?_),?_⟩
 ·by_cases ht : t = f.tag
  ·exact .inl (List.mem_append.2 (.inr (by simp [ht])))
  ·refine .inr ⟨x,?_,rfl,rfl,rfl⟩
   show fldOf (m.fields.eraseIdx j) t = some x
   rw [fld_cut hmo.2.2.2.2.2 hj,if_neg ht]; exact hx
 ·obtain ⟨q,hqm,hqi⟩ := hq;refine evol_back (A := m.name) (tag := f.tag) ?_ ?_ htg.1 htg.2 ⟨q,hqm,hqi,q,mtOf_mem hs hqm,hqi⟩
  ·unfold msG;rw [msG_set (m' := resF m j f.tag) hs hk rfl,if_pos rfl];exact List.mem_append.2 (.inr (by simp))
  ·unfold msG;rw [msgOf_mem hs hmm];exact hf.2
end
theorem setM_wE {s : ScS} {k : Nat} {m' : MsS} (h : ScW s) (hm : MsW m') : ScW (setM s k m') := by
 refine ⟨h.name,fun x hx => ?_,h.enums,h.meths⟩
 rcases List.mem_or_eq_of_mem_set hx with hx | rfl
 ·exact h.msgs x hx
 ·exact hm
theorem setM_fewE {s : ScS} {k : Nat} {m' : MsS} (h : FewL s) (h1 : m'.fields.length ≤ 20) (h2 : m'.reserved.length ≤ 40) : FewL (setM s k m') := by
 refine ⟨?_,h.enums,h.meths,fun x hx => ?_,h.vals⟩
 ·show (s.msgs.set k _).length ≤ 14
  rw [List.length_set]; exact h.msgs
 ·rcases List.mem_or_eq_of_mem_set hx with hx | rfl
  ·exact h.flds x hx
  ·exact ⟨h1,h2⟩
theorem cutF_w {m : MsS} (h : MsW m) (j : Nat) : MsW (cutF m j) := ⟨h.1,fun f hf => h.2.1 f (List.mem_of_mem_eraseIdx hf),h.2.2⟩
theorem setF_w {m : MsS} (h : MsW m) {j : Nat} {g : FlS} (hg : FlW g) : MsW (setF m j g) := ⟨h.1,fun f hf => by
 rcases List.mem_or_eq_of_mem_set hf with hx | rfl
 ·exact h.2.1 f hx
 ·exact hg,h.2.2⟩
theorem tmod3 (x : Int) : -3 < x.tmod 3 ∧ x.tmod 3 < 3 := by
 have t1 := Int.tmod_lt_of_pos x (b := 3) (by omega);have t2 := Int.lt_tmod_of_pos x (b := 3) (by omega);exact ⟨t2,t1⟩
theorem labF_w {f : FlS} (h : FlW f) : FlW (labF f) := by
 obtain ⟨r1,r2,r3,r4,r5⟩ := h;have := tmod3 f.label;refine ⟨r1,r2,r3,?_,r5⟩
 show -9223372036854775808 ≤ f.label.tmod 3 + 1 ∧ f.label.tmod 3 + 1 ≤ 9223372036854775807
 omega
theorem bytF_w {f : FlS} (h : FlW f) : FlW (bytF f) := by
 obtain ⟨r1,r2,r3,r4,r5⟩ := h;refine ⟨r1,?_,r3,r4,?_⟩
 ·exact Nat.zero_le _
 ·show -9223372036854775808 ≤ (5 : Int) ∧ (5 : Int) ≤ 9223372036854775807
  omega
theorem resF_w {m : MsS} (h : MsW m) (j : Nat) {t : Int} (ht : I64 t) : MsW (resF m j t) := ⟨h.1,fun f hf => h.2.1 f (List.mem_of_mem_eraseIdx hf),fun n hn => by
 rcases List.mem_append.1 hn with hn | hn
 ·exact h.2.2 n hn
 ·rw [List.mem_singleton.1 hn]; exact ht⟩
theorem res_len {s : ScS} (hs : OkS s) {k : Nat} {m : MsS} (hk : s.msgs[k]? = some m) : m.reserved.length ≤ 32 := by
 have h := (hs.msgs m (List.mem_of_getElem? hk)).2.1;simp only [bigM,decide_eq_false_iff_not] at h
 omega
end
section
open Go.ChangeShapes Go.WideShapes Go.ChangeAt Go.RowKit Go.Maps
theorem r7message_any {w : World} {snm nm : ByteArray} {ae at' : Option Addr} {E ce T ct : Nat} {vm : Value} {ms : List MsS} (hr : MsIn w vm ms)  :
  Calls Try.prog 31 #[.agg #[.string snm,vm,.slice ae E ce,.slice at' T ct],.string nm] w fun e w' => ∃ vf vr,e = .returned (.tuple #[.agg #[.string ((ms.find? (fun m => decide (m.name = nm))).getD zeroM).name,vf,vr],.bool (ms.find? (fun m => decide (m.name = nm))).isSome]) ∧ RowG w' vf 5 (flRows ((ms.find? (fun m => decide (m.name = nm))).getD zeroM).fields) ∧ RowG w' vr 1 (inRows ((ms.find? (fun m => decide (m.name = nm))).getD zeroM).reserved) ∧ Below w.heap.size w w' := by
 obtain ⟨a,c,rfl,q1,q2⟩ := hr.form2;have HR : Hid (MsIn w (.slice a ms.length c) ms) := hr;obtain ⟨N,hN⟩ : ∃ N,ms.length = N := ⟨_,rfl⟩;rw [hN] at HR q1 ⊢;have HN : Hid (ms.length = N) := hN;clear hN hr;obtain ⟨A,hA⟩ : ∃ A,(ms.find? (fun m => decide (m.name = nm))) = A := ⟨_,rfl⟩;rw [hA];have HA : Hid (A = ((ms.drop 0).find? (fun m => decide (m.name = nm)))) := hA.symm;clear hA;have BX0 : Blk ((w.alloc (.cells #[.string snm,.slice a N c,.slice ae E ce,.slice at' T ct] 26)).alloc (.cells #[.string ⟨#[]⟩,.slice none 0 0,.slice none 0 0] 40)) w.heap.size #[.string snm,.slice a N c,.slice ae E ce,.slice at' T ct] 26 := (Blk.new w _ _).below ((Below.refl _ _).alloc (Nat.le_refl _) _)
 have BR0 : Blk ((w.alloc (.cells #[.string snm,.slice a N c,.slice ae E ce,.slice at' T ct] 26)).alloc (.cells #[.string ⟨#[]⟩,.slice none 0 0,.slice none 0 0] 40)) (w.heap.size + 1) #[.string ⟨#[]⟩,.slice none 0 0,.slice none 0 0] 40 := by
  have := Blk.new (w.alloc (.cells #[.string snm,.slice a N c,.slice ae E ce,.slice at' T ct] 26)) #[.string ⟨#[]⟩,.slice none 0 0,.slice none 0 0] 40
  rwa [show (w.alloc (.cells #[.string snm,.slice a N c,.slice ae E ce,.slice at' T ct] 26)).heap.size = w.heap.size + 1 by simp] at this
 have hb0 : Below w.heap.size w ((w.alloc (.cells #[.string snm,.slice a N c,.slice ae E ce,.slice at' T ct] 26)).alloc (.cells #[.string ⟨#[]⟩,.slice none 0 0,.slice none 0 0] 40)) := ((Below.refl _ _).alloc (Nat.le_refl _) _).alloc (by simp) _
 go_enter Try.func31,Try.ntmps31
 go_wp2_with fail
 go_loopw [6] (fun iv wr => ∃ k : Nat,iv = .int .i64 (k : Int) ∧ k ≤ N ∧ Hid (A = ((ms.drop k).find? (fun m => decide (m.name = nm)))) ∧ Below w.heap.size w wr ∧ Blk wr (w.heap.size + 1) #[.string ⟨#[]⟩,.slice none 0 0,.slice none 0 0] 40 ∧ Blk wr w.heap.size #[.string snm,.slice a N c,.slice ae E ce,.slice at' T ct] 26) (fun iv _ => N - (intOf iv).toNat)
 case atStart => exact ⟨0,rfl,by omega,HA,hb0,BR0,BX0⟩
 case round =>
  obtain ⟨k,rfl,hk,HAk,hbel,BR,BX⟩ := hrel;clear BX0 BR0 hb0;have hlt2 : w.heap.size + 1 < wr.heap.size := BR.lt;have r0 := (BR.cell 0).trans rfl;have z0 := BR.froz 0;have r1 := (BR.cell 1).trans rfl;have z1 := BR.froz 1;have r2 := (BR.cell 2).trans rfl;have z2 := BR.froz 2;have x1 : wr.cell? ⟨w.heap.size,1,none⟩ = some (.slice a N c) := BX.cell 1
  by_cases hlt : k < N
  ·obtain ⟨f,hf⟩ : ∃ n,ms[k]? = some n := ⟨_,List.getElem?_eq_getElem (by rw [HN.out]; exact hlt)⟩;obtain ⟨g,off,vf,vr,rfl,c0',c1',c2',hrf,hrr⟩ := HR.out.get hf;have c0 := (hbel.cell (World.block_lt_of_cell? _ _ c0')).trans c0';have c1 := (hbel.cell (World.block_lt_of_cell? _ _ c1')).trans c1';have c2 := (hbel.cell (World.block_lt_of_cell? _ _ c2')).trans c2';clear c0' c1' c2';have HF : Hid (RowG w vf 5 (flRows f.fields)) := hrf;have HV : Hid (RowG w vr 1 (inRows f.reserved)) := hrr;obtain ⟨a3,c3,rfl,_,_⟩ := hrf.form2;obtain ⟨a4,c4,rfl,_,_⟩ := hrr.form2;have HF : Hid (RowG w (.slice a3 (flRows f.fields).length c3) 5 (flRows f.fields)) := HF;have HV : Hid (RowG w (.slice a4 (inRows f.reserved).length c4) 1 (inRows f.reserved)) := HV
   have HA2 : Hid (A = if decide (f.name = nm) = true then some f else ((ms.drop (k + 1)).find? (fun m => decide (m.name = nm)))) := by
    show _ = _
    rw [HAk.out,drop_at hf,List.find?_cons]
    cases decide (f.name = nm) <;> rfl
   obtain ⟨f0,ff,fr⟩ := f;simp only at c0 c1 c2 HA2 HF HV;generalize hnF : (flRows ff).length = nF at *;generalize hnR : (inRows fr).length = nR at *;clear hrf hrr hf HAk hnF hnR
   by_cases he : f0 = nm
   ·subst he
    have HA3 : Hid (A = some ⟨f0,ff,fr⟩) := by show _ = _; rw [HA2.out,if_pos (by simp)]
    clear HA2;go_wp2_with fail;refine bodyPost_ret (results_two rfl _ _ _ ⟨w.heap.size + 1,0,none⟩ (.agg #[.string f0,.slice a3 nF c3,.slice a4 nR c4]) (by go_simp) (by go_simp)) rfl ?_;refine ⟨.slice a3 nF c3,.slice a4 nR c4,ret_two (by rw [HA3.out]; rfl) (by rw [HA3.out]; rfl),?_,?_,(Below.setCell (Below.setCell (Below.setCell hbel (by simp) _) (by simp) _) (by simp) _)⟩
    ·rw [HA3.out]; exact HF.out.below (Below.setCell (Below.setCell (Below.setCell hbel (by simp) _) (by simp) _) (by simp) _)
    ·rw [HA3.out]; exact HV.out.below (Below.setCell (Below.setCell (Below.setCell hbel (by simp) _) (by simp) _) (by simp) _)
   ·have hq := bytes_ne he
    have HA3 : Hid (A = ((ms.drop (k + 1)).find? (fun m => decide (m.name = nm)))) := by show _ = _; rw [HA2.out,if_neg (by simpa using he)]
    go_wp2_with fail
    go_roundw
    case rel => exact ⟨k + 1,by go_num,by omega,HA3,hbel,BR,BX⟩
    case measure => simp [intOf]; omega
  ·have HA2 : Hid (A = none) := by show _ = _; rw [HAk.out,drop_end (by rw [HN.out]; omega)]; rfl
   go_wp2_with fail;refine bodyPost_ret (results_two rfl _ _ _ ⟨w.heap.size + 1,0,none⟩ (.agg #[.string ⟨#[]⟩,.slice none 0 0,.slice none 0 0]) (by go_simp) (by go_simp)) rfl ?_;exact ⟨.slice none 0 0,.slice none 0 0,ret_two (by rw [HA2.out]; rfl) (by rw [HA2.out]; rfl),by rw [HA2.out]; exact RowG.nil _ _,by rw [HA2.out]; exact RowG.nil _ _,(Below.setCell (Below.setCell (Below.setCell hbel (by simp) _) (by simp) _) (by simp) _)⟩
theorem r7enum_any {w : World} {snm nm : ByteArray} {am at' : Option Addr} {M cm T ct : Nat} {ve : Value} {ms : List EnS} (hr : EnIn w ve ms)  :
  Calls Try.prog 27 #[.agg #[.string snm,.slice am M cm,ve,.slice at' T ct],.string nm] w fun e w' => ∃ vv,e = .returned (.tuple #[.agg #[.string ((ms.find? (fun m => decide (m.name = nm))).getD zeroN).name,vv],.bool (ms.find? (fun m => decide (m.name = nm))).isSome]) ∧ RowG w' vv 2 (nmRows ((ms.find? (fun m => decide (m.name = nm))).getD zeroN).values) ∧ Below w.heap.size w w' := by
 obtain ⟨a,c,rfl,q1,q2⟩ := hr.form2;have HR : Hid (EnIn w (.slice a ms.length c) ms) := hr;obtain ⟨N,hN⟩ : ∃ N,ms.length = N := ⟨_,rfl⟩;rw [hN] at HR q1 ⊢;have HN : Hid (ms.length = N) := hN;clear hN hr;obtain ⟨A,hA⟩ : ∃ A,(ms.find? (fun m => decide (m.name = nm))) = A := ⟨_,rfl⟩;rw [hA];have HA : Hid (A = ((ms.drop 0).find? (fun m => decide (m.name = nm)))) := hA.symm;clear hA;have BX0 : Blk ((w.alloc (.cells #[.string snm,.slice am M cm,.slice a N c,.slice at' T ct] 26)).alloc (.cells #[.string ⟨#[]⟩,.slice none 0 0] 51)) w.heap.size #[.string snm,.slice am M cm,.slice a N c,.slice at' T ct] 26 := (Blk.new w _ _).below ((Below.refl _ _).alloc (Nat.le_refl _) _)
 have BR0 : Blk ((w.alloc (.cells #[.string snm,.slice am M cm,.slice a N c,.slice at' T ct] 26)).alloc (.cells #[.string ⟨#[]⟩,.slice none 0 0] 51)) (w.heap.size + 1) #[.string ⟨#[]⟩,.slice none 0 0] 51 := by
  have := Blk.new (w.alloc (.cells #[.string snm,.slice am M cm,.slice a N c,.slice at' T ct] 26)) #[.string ⟨#[]⟩,.slice none 0 0] 51
  rwa [show (w.alloc (.cells #[.string snm,.slice am M cm,.slice a N c,.slice at' T ct] 26)).heap.size = w.heap.size + 1 by simp] at this
 have hb0 : Below w.heap.size w ((w.alloc (.cells #[.string snm,.slice am M cm,.slice a N c,.slice at' T ct] 26)).alloc (.cells #[.string ⟨#[]⟩,.slice none 0 0] 51)) := ((Below.refl _ _).alloc (Nat.le_refl _) _).alloc (by simp) _
 go_enter Try.func27,Try.ntmps27
 go_wp2_with fail
 go_loopw [6] (fun iv wr => ∃ k : Nat,iv = .int .i64 (k : Int) ∧ k ≤ N ∧ Hid (A = ((ms.drop k).find? (fun m => decide (m.name = nm)))) ∧ Below w.heap.size w wr ∧ Blk wr (w.heap.size + 1) #[.string ⟨#[]⟩,.slice none 0 0] 51 ∧ Blk wr w.heap.size #[.string snm,.slice am M cm,.slice a N c,.slice at' T ct] 26) (fun iv _ => N - (intOf iv).toNat)
 case atStart => exact ⟨0,rfl,by omega,HA,hb0,BR0,BX0⟩
 case round =>
  obtain ⟨k,rfl,hk,HAk,hbel,BR,BX⟩ := hrel;clear BX0 BR0 hb0;have hlt2 : w.heap.size + 1 < wr.heap.size := BR.lt;have r0 := (BR.cell 0).trans rfl;have z0 := BR.froz 0;have r1 := (BR.cell 1).trans rfl;have z1 := BR.froz 1;have x1 : wr.cell? ⟨w.heap.size,2,none⟩ = some (.slice a N c) := BX.cell 2
  by_cases hlt : k < N
  ·obtain ⟨f,hf⟩ : ∃ n,ms[k]? = some n := ⟨_,List.getElem?_eq_getElem (by rw [HN.out]; exact hlt)⟩;obtain ⟨g,off,vv,rfl,c0',c1',hrf⟩ := HR.out.get hf;have c0 := (hbel.cell (World.block_lt_of_cell? _ _ c0')).trans c0';have c1 := (hbel.cell (World.block_lt_of_cell? _ _ c1')).trans c1';clear c0' c1';have HF : Hid (RowG w vv 2 (nmRows f.values)) := hrf;obtain ⟨a3,c3,rfl,_,_⟩ := hrf.form2;have HF : Hid (RowG w (.slice a3 (nmRows f.values).length c3) 2 (nmRows f.values)) := HF
   have HA2 : Hid (A = if decide (f.name = nm) = true then some f else ((ms.drop (k + 1)).find? (fun m => decide (m.name = nm)))) := by
    show _ = _
    rw [HAk.out,drop_at hf,List.find?_cons]
    cases decide (f.name = nm) <;> rfl
   obtain ⟨f0,ff⟩ := f;simp only at c0 c1 HA2 HF;generalize hnF : (nmRows ff).length = nF at *;clear hrf hf HAk hnF
   by_cases he : f0 = nm
   ·subst he
    have HA3 : Hid (A = some ⟨f0,ff⟩) := by show _ = _; rw [HA2.out,if_pos (by simp)]
    clear HA2;go_wp2_with fail;refine bodyPost_ret (results_two rfl _ _ _ ⟨w.heap.size + 1,0,none⟩ (.agg #[.string f0,.slice a3 nF c3]) (by go_simp) (by go_simp)) rfl ?_;refine ⟨.slice a3 nF c3,ret_two (by rw [HA3.out]; rfl) (by rw [HA3.out]; rfl),?_,(Below.setCell (Below.setCell hbel (by simp) _) (by simp) _)⟩;rw [HA3.out]; exact HF.out.below (Below.setCell (Below.setCell hbel (by simp) _) (by simp) _)
   ·have hq := bytes_ne he
    have HA3 : Hid (A = ((ms.drop (k + 1)).find? (fun m => decide (m.name = nm)))) := by show _ = _; rw [HA2.out,if_neg (by simpa using he)]
    go_wp2_with fail
    go_roundw
    case rel => exact ⟨k + 1,by go_num,by omega,HA3,hbel,BR,BX⟩
    case measure => simp [intOf]; omega
  ·have HA2 : Hid (A = none) := by show _ = _; rw [HAk.out,drop_end (by rw [HN.out]; omega)]; rfl
   go_wp2_with fail;refine bodyPost_ret (results_two rfl _ _ _ ⟨w.heap.size + 1,0,none⟩ (.agg #[.string ⟨#[]⟩,.slice none 0 0]) (by go_simp) (by go_simp)) rfl ?_;exact ⟨.slice none 0 0,ret_two (by rw [HA2.out]; rfl) (by rw [HA2.out]; rfl),by rw [HA2.out]; exact RowG.nil _ _,(Below.setCell (Below.setCell hbel (by simp) _) (by simp) _)⟩
end
section
open Go.ChangeShapes Go.WideShapes Go.ChangeAt Go.RowKit
def tlL : List UInt8 → Int
 | [] => -1
 | a :: _ => if ctU a = true then (a.toNat : Int) - 128 else -1
theorem tl_in (s : ByteArray) (i : Nat) (h : i < s.size) (a : 128 ≤ (s[i].toNat : Int)) (b : (s[i].toNat : Int) ≤ 191) : (s[i].toNat : Int) - 128 = tlL (s.data.toList.drop i) := by
 rw [drop_cons s i h]; simp only [tlL]; rw [if_pos (by simp [ctU]; omega)]
theorem tl_out (s : ByteArray) (i : Nat) (h : i < s.size) (a : (s[i].toNat : Int) < 128 ∨ 191 < (s[i].toNat : Int)) : -1 = tlL (s.data.toList.drop i) := by
 rw [drop_cons s i h]; simp only [tlL]; rw [if_neg (by simp [ctU]; omega)]
theorem tl_end (s : ByteArray) (i : Nat) (h : s.size ≤ i) : -1 = tlL (s.data.toList.drop i) := by
 rw [drop_none s i h]; rfl
theorem tail_any (s : ByteArray) (i : Int) (w : World) (hs : s.size ≤ 140737488351232) (hi : 0 ≤ i) :
  Calls Try.prog 79 #[.string s,.int .i64 i] w fun e w' => e = .returned (.int .i64 (tlL (s.data.toList.drop i.toNat))) ∧ w' = w := by
 by_cases h : i < s.size
 ·have hn : i.toNat < s.size := by omega
  go_enter Try.func79,Try.ntmps79
  go_wp2
  all_goals
   go_ret
   first
   | exact ⟨ret_int (tl_in s i.toNat hn (by omega) (by omega)),rfl⟩
   | exact ⟨ret_int (tl_out s i.toNat hn (by omega)),rfl⟩
 ·go_enter Try.func79,Try.ntmps79
  go_wp2
  go_ret;exact ⟨ret_int (tl_end s i.toNat (by omega)),rfl⟩
theorem rnext_out (s : ByteArray) (i : Int) (w : World) (h : i < 0 ∨ (s.size : Int) ≤ i) :
  Calls Try.prog 66 #[.string s,.int .i64 i] w fun e w' => e = .returned (nxV (nxL (atL s i))) ∧ w' = w := by
 have hx := atL_out s i h;have HX : Hid (nxL (atL s i) = none) := hx;clear hx
 rcases h with h | h
 ·go_enter Try.func66,Try.ntmps66
  go_wp2
  go_ret3
  exact ⟨ret_none HX.out,rfl⟩
 ·by_cases h0 : i < 0
  all_goals
   go_enter Try.func66,Try.ntmps66
   go_wp2
   go_ret3
   exact ⟨ret_none HX.out,rfl⟩
def accv (v0 : Int) (l : List UInt8) : Nat → Int
 | 0 => v0
 | k + 1 => 64 * accv v0 l k + tlL (l.drop (k + 1))
theorem nxL_lead1 (s : ByteArray) (i : Nat) (h : i < s.size) (ha : (s[i].toNat : Int) < 128) : nxL (atL s i) = some (s[i].toNat,1) := by
 rw [atL_in s i (by omega),Int.toNat_natCast,drop_cons s i h];simp only [nxL]; rw [if_pos (by omega)]
theorem nxL_lead0 (s : ByteArray) (i : Nat) (h : i < s.size) (h0 : 128 ≤ (s[i].toNat : Int)) (h1 : (s[i].toNat : Int) < 192 ∨ 248 ≤ (s[i].toNat : Int)) : nxL (atL s i) = none := by
 rw [atL_in s i (by omega),Int.toNat_natCast,drop_cons s i h];simp only [nxL]; rw [if_neg (by omega),if_neg (by omega),if_neg (by omega),if_neg (by omega)]
theorem rnext_lead1 (s : ByteArray) (i : Nat) (w : World) (hs : s.size ≤ 140737488351232) (h : i < s.size) (ha : (s[i].toNat : Int) < 128) :
  Calls Try.prog 66 #[.string s,.int .i64 (i : Int)] w fun e w' => e = .returned (nxV (nxL (atL s i))) ∧ w' = w := by
 have HX : Hid (nxL (atL s i) = some (s[i].toNat,1)) := nxL_lead1 s i h ha
 have hb : 0 ≤ (s[i].toNat : Int) := by omega
 go_enter Try.func66,Try.ntmps66
 go_wp2
 go_ret3
 exact ⟨ret_some _ _ HX.out rfl rfl,rfl⟩
theorem rnext_lead0 (s : ByteArray) (i : Nat) (w : World) (hs : s.size ≤ 140737488351232) (h : i < s.size) (h0 : 128 ≤ (s[i].toNat : Int)) (h1 : (s[i].toNat : Int) < 192 ∨ 248 ≤ (s[i].toNat : Int)) :
  Calls Try.prog 66 #[.string s,.int .i64 (i : Int)] w fun e w' => e = .returned (nxV (nxL (atL s i))) ∧ w' = w := by
 have HX : Hid (nxL (atL s i) = none) := nxL_lead0 s i h h0 h1
 have hb : (s[i].toNat : Int) < 256 := by have := s[i].toNat_lt; omega
 rcases h1 with h1 | h1
 all_goals
  go_enter Try.func66,Try.ntmps66
  go_wp2
  go_ret3
  exact ⟨ret_none HX.out,rfl⟩
theorem tl_neg {r : List UInt8} (h : tlL r < 0) : ∀ b r',r = b :: r' → ctU b = false := by
 rintro b r' rfl
 cases e : ctU b with
 | false => rfl
 | true => simp only [tlL,e,if_true] at h; simp [ctU] at e; omega
theorem tl_pos {r : List UInt8} (h : 0 ≤ tlL r) : ∃ b r',r = b :: r' ∧ ctU b = true ∧ tlL r = (b.toNat : Int) - 128 := by
 match r with
 | [] => simp [tlL] at h
 | b :: r' =>
  cases e : ctU b with
  | false => simp [tlL,e] at h
  | true => exact ⟨b,r',rfl,e,by simp [tlL,e]⟩
theorem tl_bd (r : List UInt8) : -1 ≤ tlL r ∧ tlL r ≤ 63 := by
 match r with
 | [] => simp [tlL]
 | b :: r' =>
  simp only [tlL]
  split
  ·rename_i e; simp [ctU] at e; omega
  ·omega
def okVr (v : Int) : Prop := v ≤ 1114111 ∧ ¬ (55296 ≤ v ∧ v ≤ 57343)
theorem bad_2 {a : UInt8} {r : List UInt8} (h0 : 192 ≤ a.toNat) (h1 : a.toNat < 224) (m : Nat) (hm : 1 ≤ m) (hn : m < 2) (h : tlL ((a :: r).drop m) < 0) : nxL (a :: r) = none := by
 obtain rfl : m = 1 := by omega
 have hc := tl_neg (r := r) h;simp only [nxL];rw [if_neg (by omega),if_pos ⟨h0,h1⟩]
 match r with
 | [] => rfl
 | b :: r' => simp [hc b r' rfl]
theorem bad_3 {a : UInt8} {r : List UInt8} (h0 : 224 ≤ a.toNat) (h1 : a.toNat < 240) (m : Nat) (hm : 1 ≤ m) (hn : m < 3) (h : tlL ((a :: r).drop m) < 0) : nxL (a :: r) = none := by
 simp only [nxL];rw [if_neg (by omega),if_neg (by omega),if_pos ⟨h0,h1⟩]
 match r with
 | [] => rfl
 | [b] => rfl
 | b :: c :: r' =>
  obtain rfl | rfl : m = 1 ∨ m = 2 := by omega
  ·have hc := tl_neg (r := b :: c :: r') h; simp [hc b _ rfl]
  ·have hc := tl_neg (r := c :: r') h; simp [hc c _ rfl]
theorem bad_4 {a : UInt8} {r : List UInt8} (h0 : 240 ≤ a.toNat) (h1 : a.toNat < 248) (m : Nat) (hm : 1 ≤ m) (hn : m < 4) (h : tlL ((a :: r).drop m) < 0) : nxL (a :: r) = none := by
 simp only [nxL];rw [if_neg (by omega),if_neg (by omega),if_neg (by omega),if_pos ⟨h0,h1⟩]
 match r with
 | [] => rfl
 | [b] => rfl
 | [b,c] => rfl
 | b :: c :: d :: r' =>
  obtain rfl | rfl | rfl : m = 1 ∨ m = 2 ∨ m = 3 := by omega
  ·have hc := tl_neg (r := b :: c :: d :: r') h; simp [hc b _ rfl]
  ·have hc := tl_neg (r := c :: d :: r') h; simp [hc c _ rfl]
  ·have hc := tl_neg (r := d :: r') h; simp [hc d _ rfl]
theorem good_2 {a : UInt8} {r : List UInt8} (h0 : 192 ≤ a.toNat) (h1 : a.toNat < 224) (h : ∀ m,1 ≤ m → m < 2 → 0 ≤ tlL ((a :: r).drop m)) :
  ∃ v : Nat,accv ((a.toNat : Int) - 192) (a :: r) 1 = v ∧ v ≤ 1000000000 ∧ (128 ≤ v ∧ okVr v → nxL (a :: r) = some (v,2)) ∧ (¬ (128 ≤ v ∧ okVr v) → nxL (a :: r) = none) := by
 obtain ⟨b,r',rfl,hb,eb⟩ := tl_pos (r := r) (h 1 (by omega) (by omega));have hl := two_lt h1 hb;have hb' := hb;simp only [ctU,Bool.and_eq_true,decide_eq_true_eq] at hb';refine ⟨two a b,?_,by omega,?_,?_⟩
 ·show 64 * ((a.toNat : Int) - 192) + tlL (b :: r') = _
  rw [eb]; simp only [two]; omega
 ·rintro ⟨g,_⟩;simp only [nxL];rw [if_neg (by omega),if_pos ⟨h0,h1⟩,if_pos ⟨hb,g⟩]
 ·intro g;simp only [nxL];rw [if_neg (by omega),if_pos ⟨h0,h1⟩,if_neg (fun x => g ⟨x.2,by simp only [okVr]; omega⟩)]
theorem good_3 {a : UInt8} {r : List UInt8} (h0 : 224 ≤ a.toNat) (h1 : a.toNat < 240) (h : ∀ m,1 ≤ m → m < 3 → 0 ≤ tlL ((a :: r).drop m)) :
  ∃ v : Nat,accv ((a.toNat : Int) - 224) (a :: r) 2 = v ∧ v ≤ 1000000000 ∧ (2048 ≤ v ∧ okVr v → nxL (a :: r) = some (v,3)) ∧ (¬ (2048 ≤ v ∧ okVr v) → nxL (a :: r) = none) := by
 obtain ⟨b,r1,rfl,hb,eb⟩ := tl_pos (r := r) (h 1 (by omega) (by omega));obtain ⟨c,r',rfl,hc,ec⟩ := tl_pos (r := r1) (h 2 (by omega) (by omega));have hl := three_lt h1 hb hc;have hb' := hb;have hc' := hc;simp only [ctU,Bool.and_eq_true,decide_eq_true_eq] at hb' hc';refine ⟨three a b c,?_,by omega,?_,?_⟩
 ·show 64 * (64 * ((a.toNat : Int) - 224) + tlL (b :: c :: r')) + tlL (c :: r') = _
  rw [eb,ec]; simp only [three]; omega
 ·rintro ⟨g,g2⟩;simp only [nxL];rw [if_neg (by omega),if_neg (by omega),if_pos ⟨h0,h1⟩,if_pos ⟨hb,hc,g,by simp only [okVr] at g2; omega⟩]
 ·intro g;simp only [nxL];rw [if_neg (by omega),if_neg (by omega),if_pos ⟨h0,h1⟩,if_neg (fun x => g ⟨x.2.2.1,by simp only [okVr]; omega⟩)]
theorem good_4 {a : UInt8} {r : List UInt8} (h0 : 240 ≤ a.toNat) (h1 : a.toNat < 248) (h : ∀ m,1 ≤ m → m < 4 → 0 ≤ tlL ((a :: r).drop m)) :
  ∃ v : Nat,accv ((a.toNat : Int) - 240) (a :: r) 3 = v ∧ v ≤ 1000000000 ∧ (65536 ≤ v ∧ okVr v → nxL (a :: r) = some (v,4)) ∧ (¬ (65536 ≤ v ∧ okVr v) → nxL (a :: r) = none) := by
 obtain ⟨b,r1,rfl,hb,eb⟩ := tl_pos (r := r) (h 1 (by omega) (by omega));obtain ⟨c,r2,rfl,hc,ec⟩ := tl_pos (r := r1) (h 2 (by omega) (by omega));obtain ⟨d,r',rfl,hd,ed⟩ := tl_pos (r := r2) (h 3 (by omega) (by omega));have hb' := hb;have hc' := hc;have hd' := hd;simp only [ctU,Bool.and_eq_true,decide_eq_true_eq] at hb' hc' hd';refine ⟨four a b c d,?_,by simp only [four]; omega,?_,?_⟩
 ·show 64 * (64 * (64 * ((a.toNat : Int) - 240) + tlL (b :: c :: d :: r')) + tlL (c :: d :: r')) + tlL (d :: r') = _
  rw [eb,ec,ed]; simp only [four]; omega
 ·rintro ⟨g,g2⟩;simp only [nxL];rw [if_neg (by omega),if_neg (by omega),if_neg (by omega),if_pos ⟨h0,h1⟩,if_pos ⟨hb,hc,hd,g,by simp only [okVr] at g2; omega⟩]
 ·intro g;simp only [nxL];rw [if_neg (by omega),if_neg (by omega),if_neg (by omega),if_pos ⟨h0,h1⟩,if_neg (fun x => g ⟨x.2.2.2.1,by simp only [okVr]; omega⟩)]
theorem accv_bd (v0 : Int) (l : List UInt8) (h0 : 0 ≤ v0) (h1 : v0 ≤ 31) (k : Nat) (hk : k ≤ 3) (h : ∀ m,1 ≤ m → m < k + 1 → 0 ≤ tlL (l.drop m)) : 0 ≤ accv v0 l k ∧ accv v0 l k ≤ 10000000 := by
 have b1 := tl_bd (l.drop 1);have b2 := tl_bd (l.drop 2);have b3 := tl_bd (l.drop 3)
 obtain rfl | rfl | rfl | rfl : k = 0 ∨ k = 1 ∨ k = 2 ∨ k = 3 := by omega
 ·simp only [accv]; omega
 ·have := h 1 (by omega) (by omega); simp only [accv,Nat.zero_add,Nat.reduceAdd]; omega
 ·have := h 1 (by omega) (by omega); have := h 2 (by omega) (by omega); simp only [accv,Nat.zero_add,Nat.reduceAdd]; omega
 ·have := h 1 (by omega) (by omega); have := h 2 (by omega) (by omega); have := h 3 (by omega) (by omega); simp only [accv,Nat.zero_add,Nat.reduceAdd]; omega
theorem rest_at (s : ByteArray) (i m : Nat) : s.data.toList.drop ((i : Int) + (m : Int)).toNat = (s.data.toList.drop i).drop m := by
 rw [List.drop_drop]; congr 1
theorem rnext_lead2 (s : ByteArray) (i : Nat) (w : World) (hs : s.size ≤ 140737488351232) (h : i < s.size) (h0 : 192 ≤ (s[i].toNat : Int)) (h1 : (s[i].toNat : Int) < 224) :
  Calls Try.prog 66 #[.string s,.int .i64 (i : Int)] w fun e w' => e = .returned (nxV (nxL (atL s i))) ∧ w' = w := by
 have hl0 : Hid (atL s i = s[i] :: s.data.toList.drop (i + 1)) := by rw [atL_in s i (by omega),Int.toNat_natCast,drop_cons s i h]; rfl
 have hl1 : Hid (atL s i = s.data.toList.drop i) := by rw [atL_in s i (by omega),Int.toNat_natCast]; rfl
 generalize atL s i = l at *
 have hd1 : decide (s.size ≤ i) = false := by simp; omega
 have hd2 : decide ((i : Int) < 0) = false := by simp
 have hd3 : decide ((s[i].toNat : Int) < 128) = false := by simp; omega
 go_enter Try.func66,Try.ntmps66
 go_wp2
 go_loop [9,11] (fun v j => ∃ m : Nat,1 ≤ m ∧ m ≤ 2 ∧ j = .int .i64 m ∧ v = .int .i64 (accv ((s[i].toNat : Int) - 192) l (m - 1)) ∧ Hid (∀ q,1 ≤ q → q < m → 0 ≤ tlL (l.drop q))) (fun _ j => 2 - (intOf j).toNat)
 case atStart => exact ⟨1,by omega,by omega,rfl,rfl,by intro q; omega⟩
 case round =>
  obtain ⟨m,hm1,hm2,rfl,rfl,H⟩ := hrel;have hbd := accv_bd ((s[i].toNat : Int) - 192) l (by omega) (by omega) (m - 1) (by omega) (fun q a b => H.out q a (by omega))
  by_cases hlt : m < 2
  ·have ht := tl_bd (l.drop m)
   have HT : Hid (tlL (s.data.toList.drop ((i : Int) + (m : Int)).toNat) = tlL (l.drop m)) := by rw [rest_at,← hl1.out]; rfl
   have HS : Hid (64 * accv ((s[i].toNat : Int) - 192) l (m - 1) + tlL (l.drop m) = accv ((s[i].toNat : Int) - 192) l m) := by
    obtain ⟨k,rfl⟩ : ∃ k,m = k + 1 := ⟨m - 1,by omega⟩
    rfl
   have HB : Hid (tlL (l.drop m) < 0 → nxL l = none) := fun hh => by
    have hx := hh;rw [hl0.out] at hx ⊢;exact bad_2 (by omega) (by omega) m hm1 hlt hx
   have HN : Hid (0 ≤ tlL (l.drop m) → ∀ q,1 ≤ q → q < m + 1 → 0 ≤ tlL (l.drop q)) := fun hh q a b => by
    by_cases e : q = m
    ·rw [e]; exact hh
    ·exact H.out q a (by omega)
   generalize accv ((s[i].toNat : Int) - 192) l (m - 1) = v at *;go_wp2_with fail;refine (tail_any s _ _ hs (by omega)).mono ?_;rintro e w' ⟨rfl,rfl⟩;rw [HT.out];generalize tlL (l.drop m) = t at *
   by_cases hneg : t < 0
   ·go_wp2
    go_ret3
    exact ⟨ret_none (HB.out hneg),rfl⟩
   ·go_wp2
    go_round
    case rel => exact ⟨m + 1,by omega,by omega,by go_num,by rw [HS.out]; rfl,HN.out (by omega)⟩
    case measure => simp [intOf]; omega
  ·obtain rfl : m = 2 := by omega
   obtain ⟨v,ev,hv,hyes,hno⟩ : ∃ v : Nat,accv ((s[i].toNat : Int) - 192) l (2 - 1) = v ∧ v ≤ 1000000000 ∧ (128 ≤ v ∧ okVr v → nxL l = some (v,2)) ∧ (¬ (128 ≤ v ∧ okVr v) → nxL l = none) := by
    have hg := H.out;rw [hl0.out] at hg ⊢;exact good_2 (by omega) (by omega) hg
   rw [ev];have HY : Hid (128 ≤ v ∧ okVr v → nxL l = some (v,2)) := hyes;have HNO : Hid (¬ (128 ≤ v ∧ okVr v) → nxL l = none) := hno;clear hyes hno ev hbd H
   go_wp2
   all_goals
    go_ret3
    first
    | exact ⟨ret_none (HNO.out (by simp only [okVr]; omega)),rfl⟩
    | exact ⟨ret_some _ _ (HY.out (by simp only [okVr]; omega)) rfl rfl,rfl⟩
theorem rnext_lead3 (s : ByteArray) (i : Nat) (w : World) (hs : s.size ≤ 140737488351232) (h : i < s.size) (h0 : 224 ≤ (s[i].toNat : Int)) (h1 : (s[i].toNat : Int) < 240) :
  Calls Try.prog 66 #[.string s,.int .i64 (i : Int)] w fun e w' => e = .returned (nxV (nxL (atL s i))) ∧ w' = w := by
 have hl0 : Hid (atL s i = s[i] :: s.data.toList.drop (i + 1)) := by rw [atL_in s i (by omega),Int.toNat_natCast,drop_cons s i h]; rfl
 have hl1 : Hid (atL s i = s.data.toList.drop i) := by rw [atL_in s i (by omega),Int.toNat_natCast]; rfl
 generalize atL s i = l at *
 have hd1 : decide (s.size ≤ i) = false := by simp; omega
 have hd2 : decide ((i : Int) < 0) = false := by simp
 have hd3 : decide ((s[i].toNat : Int) < 128) = false := by simp; omega
 go_enter Try.func66,Try.ntmps66
 go_wp2
 go_loop [9,11] (fun v j => ∃ m : Nat,1 ≤ m ∧ m ≤ 3 ∧ j = .int .i64 m ∧ v = .int .i64 (accv ((s[i].toNat : Int) - 224) l (m - 1)) ∧ Hid (∀ q,1 ≤ q → q < m → 0 ≤ tlL (l.drop q))) (fun _ j => 3 - (intOf j).toNat)
 case atStart => exact ⟨1,by omega,by omega,rfl,rfl,by intro q; omega⟩
 case round =>
  obtain ⟨m,hm1,hm2,rfl,rfl,H⟩ := hrel;have hbd := accv_bd ((s[i].toNat : Int) - 224) l (by omega) (by omega) (m - 1) (by omega) (fun q a b => H.out q a (by omega))
  by_cases hlt : m < 3
  ·have ht := tl_bd (l.drop m)
   have HT : Hid (tlL (s.data.toList.drop ((i : Int) + (m : Int)).toNat) = tlL (l.drop m)) := by rw [rest_at,← hl1.out]; rfl
   have HS : Hid (64 * accv ((s[i].toNat : Int) - 224) l (m - 1) + tlL (l.drop m) = accv ((s[i].toNat : Int) - 224) l m) := by
    obtain ⟨k,rfl⟩ : ∃ k,m = k + 1 := ⟨m - 1,by omega⟩
    rfl
   have HB : Hid (tlL (l.drop m) < 0 → nxL l = none) := fun hh => by
    have hx := hh;rw [hl0.out] at hx ⊢;exact bad_3 (by omega) (by omega) m hm1 hlt hx
   have HN : Hid (0 ≤ tlL (l.drop m) → ∀ q,1 ≤ q → q < m + 1 → 0 ≤ tlL (l.drop q)) := fun hh q a b => by
    by_cases e : q = m
    ·rw [e]; exact hh
    ·exact H.out q a (by omega)
   generalize accv ((s[i].toNat : Int) - 224) l (m - 1) = v at *;go_wp2_with fail;refine (tail_any s _ _ hs (by omega)).mono ?_;rintro e w' ⟨rfl,rfl⟩;rw [HT.out];generalize tlL (l.drop m) = t at *
   by_cases hneg : t < 0
   ·go_wp2
    go_ret3
    exact ⟨ret_none (HB.out hneg),rfl⟩
   ·go_wp2
    go_round
    case rel => exact ⟨m + 1,by omega,by omega,by go_num,by rw [HS.out]; rfl,HN.out (by omega)⟩
    case measure => simp [intOf]; omega
  ·obtain rfl : m = 3 := by omega
   obtain ⟨v,ev,hv,hyes,hno⟩ : ∃ v : Nat,accv ((s[i].toNat : Int) - 224) l (3 - 1) = v ∧ v ≤ 1000000000 ∧ (2048 ≤ v ∧ okVr v → nxL l = some (v,3)) ∧ (¬ (2048 ≤ v ∧ okVr v) → nxL l = none) := by
    have hg := H.out;rw [hl0.out] at hg ⊢;exact good_3 (by omega) (by omega) hg
   rw [ev];have HY : Hid (2048 ≤ v ∧ okVr v → nxL l = some (v,3)) := hyes;have HNO : Hid (¬ (2048 ≤ v ∧ okVr v) → nxL l = none) := hno;clear hyes hno ev hbd H
   go_wp2
   all_goals
    go_ret3
    first
    | exact ⟨ret_none (HNO.out (by simp only [okVr]; omega)),rfl⟩
    | exact ⟨ret_some _ _ (HY.out (by simp only [okVr]; omega)) rfl rfl,rfl⟩
theorem rnext_lead4 (s : ByteArray) (i : Nat) (w : World) (hs : s.size ≤ 140737488351232) (h : i < s.size) (h0 : 240 ≤ (s[i].toNat : Int)) (h1 : (s[i].toNat : Int) < 248) :
  Calls Try.prog 66 #[.string s,.int .i64 (i : Int)] w fun e w' => e = .returned (nxV (nxL (atL s i))) ∧ w' = w := by
 have hl0 : Hid (atL s i = s[i] :: s.data.toList.drop (i + 1)) := by rw [atL_in s i (by omega),Int.toNat_natCast,drop_cons s i h]; rfl
 have hl1 : Hid (atL s i = s.data.toList.drop i) := by rw [atL_in s i (by omega),Int.toNat_natCast]; rfl
 generalize atL s i = l at *
 have hd1 : decide (s.size ≤ i) = false := by simp; omega
 have hd2 : decide ((i : Int) < 0) = false := by simp
 have hd3 : decide ((s[i].toNat : Int) < 128) = false := by simp; omega
 go_enter Try.func66,Try.ntmps66
 go_wp2
 go_loop [9,11] (fun v j => ∃ m : Nat,1 ≤ m ∧ m ≤ 4 ∧ j = .int .i64 m ∧ v = .int .i64 (accv ((s[i].toNat : Int) - 240) l (m - 1)) ∧ Hid (∀ q,1 ≤ q → q < m → 0 ≤ tlL (l.drop q))) (fun _ j => 4 - (intOf j).toNat)
 case atStart => exact ⟨1,by omega,by omega,rfl,rfl,by intro q; omega⟩
 case round =>
  obtain ⟨m,hm1,hm2,rfl,rfl,H⟩ := hrel;have hbd := accv_bd ((s[i].toNat : Int) - 240) l (by omega) (by omega) (m - 1) (by omega) (fun q a b => H.out q a (by omega))
  by_cases hlt : m < 4
  ·have ht := tl_bd (l.drop m)
   have HT : Hid (tlL (s.data.toList.drop ((i : Int) + (m : Int)).toNat) = tlL (l.drop m)) := by rw [rest_at,← hl1.out]; rfl
   have HS : Hid (64 * accv ((s[i].toNat : Int) - 240) l (m - 1) + tlL (l.drop m) = accv ((s[i].toNat : Int) - 240) l m) := by
    obtain ⟨k,rfl⟩ : ∃ k,m = k + 1 := ⟨m - 1,by omega⟩
    rfl
   have HB : Hid (tlL (l.drop m) < 0 → nxL l = none) := fun hh => by
    have hx := hh;rw [hl0.out] at hx ⊢;exact bad_4 (by omega) (by omega) m hm1 hlt hx
   have HN : Hid (0 ≤ tlL (l.drop m) → ∀ q,1 ≤ q → q < m + 1 → 0 ≤ tlL (l.drop q)) := fun hh q a b => by
    by_cases e : q = m
    ·rw [e]; exact hh
    ·exact H.out q a (by omega)
   generalize accv ((s[i].toNat : Int) - 240) l (m - 1) = v at *;go_wp2_with fail;refine (tail_any s _ _ hs (by omega)).mono ?_;rintro e w' ⟨rfl,rfl⟩;rw [HT.out];generalize tlL (l.drop m) = t at *
   by_cases hneg : t < 0
   ·go_wp2
    go_ret3
    exact ⟨ret_none (HB.out hneg),rfl⟩
   ·go_wp2
    go_round
    case rel => exact ⟨m + 1,by omega,by omega,by go_num,by rw [HS.out]; rfl,HN.out (by omega)⟩
    case measure => simp [intOf]; omega
  ·obtain rfl : m = 4 := by omega
   obtain ⟨v,ev,hv,hyes,hno⟩ : ∃ v : Nat,accv ((s[i].toNat : Int) - 240) l (4 - 1) = v ∧ v ≤ 1000000000 ∧ (65536 ≤ v ∧ okVr v → nxL l = some (v,4)) ∧ (¬ (65536 ≤ v ∧ okVr v) → nxL l = none) := by
    have hg := H.out;rw [hl0.out] at hg ⊢;exact good_4 (by omega) (by omega) hg
   rw [ev];have HY : Hid (65536 ≤ v ∧ okVr v → nxL l = some (v,4)) := hyes;have HNO : Hid (¬ (65536 ≤ v ∧ okVr v) → nxL l = none) := hno;clear hyes hno ev hbd H
   go_wp2
   all_goals
    go_ret3
    first
    | exact ⟨ret_none (HNO.out (by simp only [okVr]; omega)),rfl⟩
    | exact ⟨ret_some _ _ (HY.out (by simp only [okVr]; omega)) rfl rfl,rfl⟩
theorem rnext_any (s : ByteArray) (i : Int) (w : World) (hs : s.size ≤ 140737488351232) :
  Calls Try.prog 66 #[.string s,.int .i64 i] w fun e w' => e = .returned (nxV (nxL (atL s i))) ∧ w' = w := by
 by_cases h : i < 0 ∨ (s.size : Int) ≤ i
 ·exact rnext_out s i w h
 ·obtain ⟨n,rfl⟩ := Int.eq_ofNat_of_zero_le (a := i) (by omega)
  have hn : n < s.size := by omega
  by_cases h1 : (s[n].toNat : Int) < 128
  ·exact rnext_lead1 s n w hs hn h1
  ·by_cases h2 : (s[n].toNat : Int) < 192 ∨ 248 ≤ (s[n].toNat : Int)
   ·exact rnext_lead0 s n w hs hn (by omega) h2
   ·by_cases h3 : (s[n].toNat : Int) < 224
    ·exact rnext_lead2 s n w hs hn (by omega) h3
    ·by_cases h4 : (s[n].toNat : Int) < 240
     ·exact rnext_lead3 s n w hs hn (by omega) h4
     ·exact rnext_lead4 s n w hs hn (by omega) (by omega)
theorem rdigit_any (r : Int) (w : World) :
  Calls Try.prog 47 #[.int .i32 r] w fun e w' => e = .returned (.bool (digB r)) ∧ w' = w := by
 go_enter Try.func47,Try.ntmps47
 go_wp2
 all_goals
  go_ret;exact ⟨ret_bool (by simp [digB]; try omega),rfl⟩
theorem rletter_any (r : Int) (w : World) :
  Calls Try.prog 45 #[.int .i32 r] w fun e w' => e = .returned (.bool (letB r)) ∧ w' = w := by
 go_enter Try.func45,Try.ntmps45
 go_wp2
 all_goals
  go_ret;refine ⟨ret_bool ?_,rfl⟩;rw [Bool.eq_iff_iff]
  simp [letB]
  try omega
theorem infoRune : (Try.prog.info? 21).map (fun i => (i.zero,i.size,i.bytes)) = some (some (.int .i32 0),1,4) := by kernel_rfl
def runeCells (rs : List Nat) : List Value := rs.map fun (c : Nat) => Value.int .i32 (c : Int)
theorem owns_cast {w : World} {b e : Nat} {v : Value} {n n' : Nat} {xs xs' : List Value} (h : w.ownsRow b e 1 v n xs) (hn : n' = n) (hx : xs' = xs) : w.ownsRow b e 1 v n' xs' := by
 rw [hn,hx]; exact h
theorem all_len {l : List UInt8} {pos c k : Nat} (hn : nxL (l.drop pos) = some (c,k)) (hp : pos ≤ l.length) : pos + k ≤ l.length ∧ 1 ≤ k ∧ k ≤ 4 := by
 obtain ⟨_,_,_,h4,h5,h6,_⟩ := nxL_some _ _ _ hn
 simp at h5
 omega
theorem rall_any (s : ByteArray) (w : World) (hs : s.size ≤ 20000) :
  Calls Try.prog 44 #[.string s] w fun e w' => ∃ v,e = .returned (.tuple #[v,.bool (validB s.data.toList)]) ∧
   w'.ownsRow w.heap.size 21 1 v (countN s.data.toList) (runeCells ((runesOf s.data.toList).getD [])) ∧ Below w.heap.size w w' := by
 obtain ⟨i0,hi,hz0,hz1,hz2⟩ := info_parts infoRune
 go_enter Try.func44,Try.ntmps44
 go_wp2_with fail
 go_loopw [4,5] (fun v at' wr => ∃ (pos : Nat) (acc : List Nat),at' = .int .i64 pos ∧ pos ≤ s.size ∧ acc.length ≤ pos ∧ Hid (Gone s.data.toList pos acc) ∧ wr.ownsRow w.heap.size 21 1 v acc.length (runeCells acc) ∧ Below w.heap.size w wr)
  (fun _ at' _ => s.size - (intOf at').toNat)
 case atStart => exact ⟨0,[],rfl,by omega,by simp,Gone.start _,World.ownsRow_nil _ _ _ _,Below.refl _ _⟩
 case round =>
  obtain ⟨pos,acc,rfl,hps,hap,H,hown,hbel⟩ := hrel
  by_cases hp : pos < s.size
  ·have HA : Hid (atL s pos = s.data.toList.drop pos) := by rw [atL_in s pos (by omega),Int.toNat_natCast]; rfl
   go_wp2_with fail;refine (rnext_any s _ _ (by omega)).mono ?_;rintro e w1 ⟨rfl,rfl⟩;rw [HA.out];generalize hx : nxL (s.data.toList.drop pos) = x
   cases x with
   | none =>
    have HR : Hid (runesOf s.data.toList = none) := H.out.bad (by rw [len_data]; exact hp) hx
    have H1 : Hid (validB s.data.toList = false) := by show _ = _; unfold validB; rw [HR.out]; rfl
    have H2 : Hid (countN s.data.toList = 0) := by show _ = _; unfold countN; rw [HR.out]; rfl
    have H3 : Hid ((runesOf s.data.toList).getD [] = []) := by show _ = _; rw [HR.out]; rfl
    simp only [nxV];clear hx;go_wp2_with fail
    go_ret2
    refine ⟨.slice none 0 0,?_,?_,hbel⟩
    ·rw [H1.out]; rfl
    ·rw [H2.out,H3.out]; exact World.ownsRow_nil _ _ _ _
   | some x =>
    obtain ⟨c,k⟩ := x;obtain ⟨g1,g2,g3⟩ := all_len hx (by rw [len_data]; omega);rw [len_data] at g1;have HG : Hid (Gone s.data.toList (pos + k) (acc ++ [c])) := H.out.step hx;clear hx;simp only [nxV];have hws := hbel.size
    go_wp2_with (first
     | (at_builtin; refine wpList_append_own _ rfl _ _ 97 rfl w.heap.size 21 i0 (.int .i32 0) 1 4 Try.underlying97 hi hz0 hz1 hz2 rfl (by decide) _ _ _ rfl (hown.alloc _) ⟨w1.heap.size,0,none⟩ 1 1 [.int .i32 (c : Int)] rfl rfl ?c1 ?c2 ?c3 ?c4 ?c5 ?_)
     | fail)
    case c1 =>
     intro j u hj
     match j,hj with
     | 0,hj => simp at hj; subst hj; simp [Addr.add]
    case c2 => intro u hu; simp at hu; subst hu; rfl
    case c3 => unfold maxLen; omega
    case c4 => omega
    case c5 => simp; omega
    intro v' w2 hown' hgrow _;have hb2 : Below w.heap.size w w2 := (hbel.alloc hws _).grown hgrow (by simp; omega) (fun k hk => (hown.lt k hk).1)
    have HO : Hid (w2.ownsRow w.heap.size 21 1 v' (acc ++ [c]).length (runeCells (acc ++ [c]))) := by
     have e1 : (acc ++ [c]).length = acc.length + 1 := by simp
     have e2 : runeCells (acc ++ [c]) = runeCells acc ++ [.int .i32 (c : Int)] := by simp [runeCells]
     show World.ownsRow _ _ _ _ _ _ _
     rw [e1,e2];exact hown'
    clear hown hown' hgrow;go_wp2_with fail
    go_roundw
    case rel => exact ⟨pos + k,acc ++ [c],by go_num,by omega,by simp; omega,HG,HO.out,hb2⟩
    case measure => simp [intOf]; omega
  ·have HR : Hid (runesOf s.data.toList = some acc) := H.out.done (by rw [len_data]; omega)
   have H1 : Hid (validB s.data.toList = true) := by show _ = _; unfold validB; rw [HR.out]; rfl
   have H2 : Hid (countN s.data.toList = acc.length) := by show _ = _; unfold countN; rw [HR.out]; rfl
   have H3 : Hid ((runesOf s.data.toList).getD [] = acc) := by show _ = _; rw [HR.out]; rfl
   have HO := owns_cast hown H2.out (congrArg runeCells H3.out);clear hown;go_wp2_with fail
   go_ret2
   exact ⟨_,by rw [H1.out]; rfl,HO,hbel⟩
theorem owns_form {w : World} {base e : Nat} {v : Value} {n : Nat} {xs : List Value} (h : w.ownsRow base e 1 v n xs) :
  ∃ a cap,v = .slice a n cap ∧ (0 < n → ∃ g,a = some ⟨g,0,none⟩ ∧ ∀ j,j < n → w.cell? ⟨g,j,none⟩ = xs[j]?) := by
 have h0 := h;obtain ⟨h1,h2⟩ := h
 rcases h2 with ⟨rfl,rfl⟩ | ⟨g,cap,cur,rfl,_⟩
 ·exact ⟨none,0,rfl,by omega⟩
 ·exact ⟨some ⟨g,0,none⟩,cap,rfl,fun _ => ⟨g,rfl,fun j hj => h0.cellAt j (by omega)⟩⟩
theorem rkey_any (s : ByteArray) (w : World) :
  Calls Try.prog 46 #[.string s] w fun e w' => e = .returned (.bool (keyB s)) ∧ w' = w := by
 go_enter Try.func46,Try.ntmps46
 go_wp2
 all_goals
  go_ret;refine ⟨ret_bool ?_,rfl⟩
  first | (simp [keyB, *]; done) | simp_all
end
end Go.Proofs.Ytdkolhfpfimeoaa

/- Part 9 of what the proof stands on. -/
import Derived.Test.YtdkolhfpfimeoaaPkGAH
namespace Go.Proofs.Ytdkolhfpfimeoaa
set_option maxHeartbeats 8000000
set_option linter.unusedVariables false
set_option linter.unusedSimpArgs false
set_option maxRecDepth 20000
section
open Go.ChangeShapes Go.WideShapes Go.ChangeAt Go.RowKit
theorem own_len {w : World} {B : Nat} {e : TypeId} {s n k c : Nat} {a : Option Addr} {xs : List Value} (h : w.ownsRow B e s (.slice a k c) n xs) : k = n := by
 obtain ⟨a',c',e⟩ := own_form h;simp only [Value.slice.injEq] at e;exact e.2.1
theorem ms_set {ms : List MsS} {ps : List (Value × Value)} {i : Nat} {m m' : MsS} {p p' : Value × Value} (hm : ms[i]? = some m) (hp : ps[i]? = some p) {c : Nat} {u : Value} (hc : c < 3) (he : ([.string m.name,p.1,p.2] : List Value).set c u = [.string m'.name,p'.1,p'.2]) :
  (msRows ms ps).flatten.set (i * 3 + c) u = (msRows (ms.set i m') (ps.set i p')).flatten := by
 have hi := (List.getElem?_eq_some_iff.1 hm).1;have hi2 := (List.getElem?_eq_some_iff.1 hp).1;rw [flat_set (msRows ms ps) (ms_len ms ps) i _ (ms_get hm hp) c u hc,he]
 congr 1
 apply List.ext_getElem?
 intro k;unfold msRows;rw [List.getElem?_set,List.getElem?_zipWith,List.getElem?_zipWith]
 by_cases hk : i = k
 ·subst hk;rw [if_pos rfl,List.getElem?_set_self hi,List.getElem?_set_self hi2,if_pos (by rw [List.length_zipWith]; omega)]
 ·rw [if_neg hk,List.getElem?_set_ne hk,List.getElem?_set_ne hk]
theorem MsO.put {w w1 : World} {B q n cap : Nat} {ms : List MsS} {ps : List (Value × Value)} (h : MsO w B (.slice (some ⟨q,0,none⟩) n cap) ms ps) (ha : ApR ps) {i : Nat} {m m' : MsS} {p p' : Value × Value} (hm : ms[i]? = some m) (hp : ps[i]? = some p)
  (S : Nat → Prop) (hS : ∀ b,S b → p.1.ownBlock = some b ∨ p.2.ownBlock = some b) (hk : Kp S w w1) {c : Nat} {u : Value} (hc : c < 3) (he : ([.string m.name,p.1,p.2] : List Value).set c u = [.string m'.name,p'.1,p'.2])
  (ho1 : w1.ownsRow B 42 5 p'.1 m'.fields.length (flRows m'.fields).flatten) (ho2 : w1.ownsRow B 3 1 p'.2 m'.reserved.length (inRows m'.reserved).flatten)
  (hn1 : ∀ b,p'.1.ownBlock = some b → p.1.ownBlock = some b ∨ w.heap.size ≤ b) (hn2 : ∀ b,p'.2.ownBlock = some b → p.2.ownBlock = some b ∨ w.heap.size ≤ b) :
  MsO (w1.setCell ⟨q,i * 3 + c,none⟩ u) B (.slice (some ⟨q,0,none⟩) n cap) (ms.set i m') (ps.set i p') ∧ ApR (ps.set i p') := by
 have hi := (List.getElem?_eq_some_iff.1 hm).1;have hi2 := (List.getElem?_eq_some_iff.1 hp).1;have hn := own_len h.own;subst hn;have hf := (h.each i m p hm hp).1;have hr := (h.each i m p hm hp).2
 have hown1 : w1.ownsRow B 40 3 (.slice (some ⟨q,0,none⟩) ms.length cap) ms.length (msRows ms ps).flatten := own_kpV h.own hk (fun b hb e => by
  rcases hS b e with e | e
  ·exact own_apart h.own hf (by decide) b hb e
  ·exact own_apart h.own hr (by decide) b hb e)
 obtain ⟨cs,hB⟩ := own_blkE hown1 (g := q) rfl
 have hkq : Kp (fun k => k = q) w1 (w1.setCell ⟨q,i * 3 + c,none⟩ u) := by
  refine Kp.setCell ?_ (fun _ => by simp) _;exact Kp.refl _ _
 refine ⟨⟨by rw [List.length_set,List.length_set]; exact h.len,?_,?_,?_⟩,?_⟩
 ·rw [List.length_set,← ms_set hm hp hc he];exact own_set hown1 u
 ·intro k m2 p2 hm2 hp2
  by_cases hj : i = k
  ·subst hj;rw [List.getElem?_set_self hi] at hm2;rw [List.getElem?_set_self hi2] at hp2
   cases hm2
   cases hp2
   exact ⟨own_blk ho1 hB (by decide) hkq,own_blk ho2 hB (by decide) hkq⟩
  ·rw [List.getElem?_set_ne hj] at hm2 hp2;have g := h.each k m2 p2 hm2 hp2;refine ⟨own_blk (own_kpV g.1 hk fun b hb e => ?_) hB (by decide) hkq,own_blk (own_kpV g.2 hk fun b hb e => ?_) hB (by decide) hkq⟩
   ·rcases hS b e with e | e
    ·exact hj (h.apart i k p p2 b hp hp2 e hb)
    ·exact own_apart g.1 hr (by decide) b hb e
   ·rcases hS b e with e | e
    ·exact own_apart g.2 hf (by decide) b hb e
    ·exact hj (ha i k p p2 b hp hp2 e hb)
 ·intro j k x y b hx hy hxb hyb
  by_cases hj : i = j
  ·subst hj
   by_cases hk2 : i = k
   ·exact hk2
   ·rw [List.getElem?_set_self hi2] at hx;rw [List.getElem?_set_ne hk2] at hy
    cases hx
    rcases hn1 b hxb with e | e
    ·exact h.apart i k p y b hp hy e hyb
    ·have := h.high k y b hy hyb; omega
  ·rw [List.getElem?_set_ne hj] at hx
   by_cases hk2 : i = k
   ·subst hk2;rw [List.getElem?_set_self hi2] at hy
    cases hy
    rcases hn1 b hyb with e | e
    ·exact h.apart j i x p b hx hp hxb e
    ·have := h.high j x b hx hxb; omega
   ·rw [List.getElem?_set_ne hk2] at hy;exact h.apart j k x y b hx hy hxb hyb
 ·intro j k x y b hx hy hxb hyb
  by_cases hj : i = j
  ·subst hj
   by_cases hk2 : i = k
   ·exact hk2
   ·rw [List.getElem?_set_self hi2] at hx;rw [List.getElem?_set_ne hk2] at hy
    cases hx
    rcases hn2 b hxb with e | e
    ·exact ha i k p y b hp hy e hyb
    ·have := h.highR k y b hy hyb; omega
  ·rw [List.getElem?_set_ne hj] at hx
   by_cases hk2 : i = k
   ·subst hk2;rw [List.getElem?_set_self hi2] at hy
    cases hy
    rcases hn2 b hyb with e | e
    ·exact ha j i x p b hx hp hxb e
    ·have := h.highR j x b hx hxb; omega
   ·rw [List.getElem?_set_ne hk2] at hy;exact ha j k x y b hx hy hxb hyb
theorem CpO.put {w w1 : World} {B bt q n cap : Nat} {ve vt : Value} {s : ScS} {ps : List (Value × Value)} {pe : List Value} (h : CpO w B bt (.slice (some ⟨q,0,none⟩) n cap) ve vt s ps pe) (ha : ApR ps) {i : Nat} {m m' : MsS} {p p' : Value × Value} (hm : s.msgs[i]? = some m) (hp : ps[i]? = some p)
  (S : Nat → Prop) (hS : ∀ b,S b → p.1.ownBlock = some b ∨ p.2.ownBlock = some b) (hk : Kp S w w1) {c : Nat} {u : Value} (hc : c < 3) (he : ([.string m.name,p.1,p.2] : List Value).set c u = [.string m'.name,p'.1,p'.2])
  (ho1 : w1.ownsRow B 42 5 p'.1 m'.fields.length (flRows m'.fields).flatten) (ho2 : w1.ownsRow B 3 1 p'.2 m'.reserved.length (inRows m'.reserved).flatten)
  (hn1 : ∀ b,p'.1.ownBlock = some b → p.1.ownBlock = some b ∨ w.heap.size ≤ b) (hn2 : ∀ b,p'.2.ownBlock = some b → p.2.ownBlock = some b ∨ w.heap.size ≤ b) :
  CpO (w1.setCell ⟨q,i * 3 + c,none⟩ u) B bt (.slice (some ⟨q,0,none⟩) n cap) ve vt (setM s i m') (ps.set i p') pe ∧ ApR (ps.set i p') := by
 have g := h.ms.put ha hm hp S hS hk hc he ho1 ho2 hn1 hn2;have hf := (h.ms.each i m p hm hp).1;have hr := (h.ms.each i m p hm hp).2
 have hown1 : w1.ownsRow B 40 3 (.slice (some ⟨q,0,none⟩) n cap) s.msgs.length (msRows s.msgs ps).flatten := own_kpV h.ms.own hk (fun b hb e => by
  rcases hS b e with e | e
  ·exact own_apart h.ms.own hf (by decide) b hb e
  ·exact own_apart h.ms.own hr (by decide) b hb e)
 obtain ⟨cs,hB⟩ := own_blkE hown1 (g := q) rfl
 have hkq : Kp (fun k => k = q) w1 (w1.setCell ⟨q,i * 3 + c,none⟩ u) := by
  refine Kp.setCell ?_ (fun _ => by simp) _;exact Kp.refl _ _
 have keep : ∀ {e : TypeId} {sz n : Nat} {v : Value} {xs : List Value},e ≠ 42 → e ≠ 3 → e ≠ 40 → w.ownsRow B e sz v n xs → (w1.setCell ⟨q,i * 3 + c,none⟩ u).ownsRow B e sz v n xs := fun h1 h2 h3 h4 => own_blk (own_kpV h4 hk fun b hb e => by
  rcases hS b e with e | e
  ·exact own_apart h4 hf h1 b hb e
  ·exact own_apart h4 hr h2 b hb e) hB h3 hkq
 refine ⟨⟨h.lo,?_,g.1,⟨h.es.len,keep (by decide) (by decide) (by decide) h.es.own,fun i m p hm hp => keep (by decide) (by decide) (by decide) (h.es.each i m p hm hp)⟩,keep (by decide) (by decide) (by decide) h.ts⟩,g.2⟩
 have h1 : Blk w1 bt #[.string s.name,.slice (some ⟨q,0,none⟩) n cap,ve,vt] 26 := h.blk.kp hk fun e => by
  rcases hS bt e with e | e
  ·have := own_type hf e h.blk; revert this; decide
  ·have := own_type hr e h.blk; revert this; decide
 exact h1.kp hkq fun e => by
  subst e;have h3 := hB.symm.trans h1;simp only [Option.some.injEq,Obj.cells.injEq] at h3;have h4 := h3.2.1
  revert h4
  decide
theorem CpO.putF {w w1 : World} {B bt q n cap : Nat} {ve vt : Value} {s : ScS} {ps : List (Value × Value)} {pe : List Value} (h : CpO w B bt (.slice (some ⟨q,0,none⟩) n cap) ve vt s ps pe) (ha : ApR ps) {i : Nat} {m : MsS} {p : Value × Value} (hm : s.msgs[i]? = some m) (hp : ps[i]? = some p) {fs : List FlS} {v : Value}
  (hk : Kp (fun b => p.1.ownBlock = some b) w w1) (ho : w1.ownsRow B 42 5 v fs.length (flRows fs).flatten) (hn : ∀ b,v.ownBlock = some b → p.1.ownBlock = some b ∨ w.heap.size ≤ b) :
  CpO (w1.setCell ⟨q,i * 3 + 1,none⟩ v) B bt (.slice (some ⟨q,0,none⟩) n cap) ve vt (setM s i ⟨m.name,fs,m.reserved⟩) (ps.set i (v,p.2)) pe ∧ ApR (ps.set i (v,p.2)) := by
 have g := h.ms.each i m p hm hp;exact h.put ha hm hp (m' := ⟨m.name,fs,m.reserved⟩) (p' := (v,p.2)) (fun b => p.1.ownBlock = some b) (fun b e => .inl e) hk (c := 1) (by decide) rfl ho (own_kpV g.2 hk fun b hb e => own_apart g.2 g.1 (by decide) b hb e) hn (fun b e => .inl e)
theorem CpO.hi {W : World} {B bt q n c : Nat} {ve vt : Value} {s : ScS} {pm : List (Value × Value)} {pe : List Value} (h : CpO W B bt (.slice (some ⟨q,0,none⟩) n c) ve vt s pm pe) : B ≤ q := (World.ownsRow.lt h.ms.own q rfl).1
theorem run_joinF {w : World} (t ty e : TypeId) (size bytes : Nat) (z : Value) (ht : Try.prog.underlying t = some (.slice e)) (hinfo : (Try.prog.info? e).map (fun i => (i.zero,i.size,i.bytes)) = some (some z,size,bytes)) (hzs : z.cells.size = size) (hsz : 0 < size)
  (base : Nat) (v : Value) (n : Nat) (xs : List Value) (hown : w.ownsRow base e size v n xs)
  (xv : Value) (rs : List (List Value)) (hr : RowG w xv size rs) (hl : ∀ r ∈ rs,r.length = size) (h1 : ∀ u ∈ rs.flatten,u.oneCell' = true) (hb : n + rs.length ≤ 1000000) (hby : bytes ≤ 1000) (hbase : base ≤ w.heap.size) :
  ∃ v' w',(Builtin.append_ #[t,t] ty #[v,xv]).run Try.prog w = .ok v' w' ∧ w'.ownsRow base e size v' (n + rs.length) (xs ++ rs.flatten) ∧ w.grownBy w' v.ownBlock ∧ (v'.ownBlock = v.ownBlock ∨ v'.ownBlock = some w.heap.size) := by
 obtain ⟨i0,hi,hz0,hz1,hz2⟩ := info_parts hinfo;obtain ⟨ao,cap,rfl,q1,q2,q0,q3⟩ := hr.form
 cases ao with
 | none =>
  have hrs : rs = [] := by
   cases rs with
   | nil => rfl
   | cons r l => obtain ⟨g,off,e,_⟩ := q3 (by simp); cases e
  subst hrs;have := q0 rfl;subst this;have hrun := run_append_owned_none (P := Try.prog) (w := w) base t ty e i0 size ht hi v n xs hown;refine ⟨v,w,hrun,?_,⟨rfl,rfl,rfl,Nat.le_refl _,fun _ _ _ => rfl⟩,.inl rfl⟩;rw [List.flatten_nil,List.append_nil];exact hown
 | some ad =>
  obtain ⟨v',w',g0,g1,g2,_,g3⟩ := run_append_own_at w base t ty e i0 z size bytes ht hi hz0 hz1 hz2 hzs hsz v _ _ hown ad rs.length cap rs.flatten (by rw [flat_len rs hl]) (fun j u hu => by
   obtain ⟨i,c,k,e1,e2,rfl⟩ := flat_inv rs hl j u hu;obtain ⟨g,off,e3,e4⟩ := q3 (by intro e; rw [e] at e1; simp at e1)
   cases e3
   have := e4 i c u k e1 e2;rw [Nat.add_assoc] at this;rw [Addr.add_lit]
   exact this) h1 (by unfold maxLen; omega) (Nat.le_trans (Nat.mul_le_mul hb hby) (by decide)) hbase
  exact ⟨v',w',g0,g1,g2,g3⟩
end
section
theorem mtOf_mem {s : ScS} (hs : OkS s) {m : MtS} (h : m ∈ s.methods) : mtOf s m.name = some m := by
 unfold mtOf;have hn := hs.tns;unfold ScS.tn at hn;generalize s.methods = l at h hn
 induction l with
 | nil => cases h
 | cons a l ih =>
  simp only [List.map_cons,List.nodup_cons] at hn
  rcases List.mem_cons.1 h with rfl | h
  ·simp
  ·have hne : a.name ≠ m.name := fun e => hn.1 (e ▸ List.mem_map.2 ⟨m,h,rfl⟩)
   rw [List.find?_cons_of_neg (by simpa using hne)];exact ih h hn.2
theorem find_set {α : Type} {nm : α → ByteArray} {x' : α} : ∀ {l : List α} {k : Nat} {x : α},(l.map nm).Nodup → l[k]? = some x → nm x' = nm x → ∀ A,(l.set k x').find? (fun y => decide (nm y = A)) = if A = nm x then some x' else l.find? fun y => decide (nm y = A)
 | [],k,x,_,h,_,_ => by simp at h
 | a :: l,0,x,hn,h,e,A => by
  obtain rfl : a = x := by simpa using h
  rw [List.set_cons_zero]
  by_cases hA : A = nm a
  ·rw [if_pos hA,List.find?_cons_of_pos (by simp [e,hA])]
  ·rw [if_neg hA,List.find?_cons_of_neg (by simp [e]; exact fun h => hA h.symm),List.find?_cons_of_neg (by simp; exact fun h => hA h.symm)]
 | a :: l,k + 1,x,hn,h,e,A => by
  have h' : l[k]? = some x := by simpa using h
  simp only [List.map_cons,List.nodup_cons] at hn;rw [List.set_cons_succ]
  by_cases hA : nm a = A
  ·have hne : A ≠ nm x := fun e2 => hn.1 (by rw [hA,e2]; exact List.mem_map.2 ⟨x,List.mem_of_getElem? h',rfl⟩)
   rw [if_neg hne,List.find?_cons_of_pos (by simp [hA]),List.find?_cons_of_pos (by simp [hA])]
  ·rw [List.find?_cons_of_neg (by simp [hA]),find_set hn.2 h' e A,List.find?_cons_of_neg (by simp [hA])]
theorem msG_set {s : ScS} (hs : OkS s) {k : Nat} {m m' : MsS} (hk : s.msgs[k]? = some m) (hn : m'.name = m.name) (A : ByteArray) : msgOf (setM s k m') A = if A = m.name then some m' else msgOf s A := find_set (nm := MsS.name) hs.names hk hn A
theorem ext_of {s t : ScS} (h1 : ∀ A m,msgOf s A = some m → ∃ m',msgOf t A = some m' ∧ (∀ tag ∈ m.reserved,tag ∈ m'.reserved) ∧ ∀ tag f,fldOf m.fields tag = some f → tag ∈ m'.reserved ∨ ∃ g,fldOf m'.fields tag = some g ∧ g.label = f.label ∧ g.kind = f.kind ∧ g.tname = f.tname)
  (h2 : ∀ m ∈ s.methods,∃ k,mtOf t m.name = some k ∧ k.inn = m.inn ∧ k.out = m.out) (h3 : ∀ nm x,enmOf s nm = some x → ∃ y,enmOf t nm = some y ∧ ∀ v ∈ x.values,v ∈ y.values) : Ext s t := by
 refine ⟨h2,fun A tag e => ?_,fun A tag f hf => ?_,h3⟩
 ·unfold msG at e ⊢
  cases hq : msgOf s A with
  | none => rw [hq] at e; cases e
  | some m =>
   rw [hq] at e;obtain ⟨m',q1,q2, -⟩ := h1 A m hq;rw [q1];exact q2 tag e
 ·unfold msG at hf ⊢
  cases hq : msgOf s A with
  | none => rw [hq] at hf; simp [fldOf,zMs] at hf
  | some m =>
   rw [hq] at hf;obtain ⟨m',q1, -,q3⟩ := h1 A m hq;rw [q1];exact q3 tag f hf
theorem mt_same {s t : ScS} (hs : OkS s) (h : t.methods = s.methods) : ∀ m ∈ s.methods,∃ k,mtOf t m.name = some k ∧ k.inn = m.inn ∧ k.out = m.out := fun m hm => ⟨m,by
 have := mtOf_mem hs hm;unfold mtOf at this ⊢
 rw [h]; exact this,rfl,rfl⟩
theorem en_same {s t : ScS} (h : t.enums = s.enums) : ∀ nm x,enmOf s nm = some x → ∃ y,enmOf t nm = some y ∧ ∀ v ∈ x.values,v ∈ y.values := fun nm x hx => ⟨x,by unfold enmOf at hx ⊢; rw [h]; exact hx,fun _ e => e⟩
theorem ms_same {s t : ScS} (h : t.msgs = s.msgs) : ∀ A m,msgOf s A = some m → ∃ m',msgOf t A = some m' ∧ (∀ tag ∈ m.reserved,tag ∈ m'.reserved) ∧ ∀ tag f,fldOf m.fields tag = some f → tag ∈ m'.reserved ∨ ∃ g,fldOf m'.fields tag = some g ∧ g.label = f.label ∧ g.kind = f.kind ∧ g.tname = f.tname := fun A m hm => ⟨m,by unfold msgOf at hm ⊢; rw [h]; exact hm,fun _ e => e,fun tag f hf => .inr ⟨f,hf,rfl,rfl,rfl⟩⟩
theorem ext_set {s : ScS} (hs : OkS s) {k : Nat} {m m' : MsS} (hk : s.msgs[k]? = some m) (hn : m'.name = m.name) (hr : ∀ tag ∈ m.reserved,tag ∈ m'.reserved) (hf : ∀ tag f,fldOf m.fields tag = some f → tag ∈ m'.reserved ∨ ∃ g,fldOf m'.fields tag = some g ∧ g.label = f.label ∧ g.kind = f.kind ∧ g.tname = f.tname) : Ext s (setM s k m') := by
 refine ext_of (fun A x hx => ?_) (mt_same hs rfl) (en_same rfl);rw [msG_set hs hk hn A]
 by_cases hA : A = m.name
 ·rw [if_pos hA];have h1 := msgOf_mem hs (List.mem_of_getElem? hk);rw [← hA,hx] at h1;obtain rfl := Option.some.inj h1;exact ⟨m',rfl,hr,hf⟩
 ·rw [if_neg hA];exact ⟨x,hx,fun _ e => e,fun tag f hf => .inr ⟨f,hf,rfl,rfl,rfl⟩⟩
theorem fld_app {fs gs : List FlS} {tag : Int} {f : FlS} (h : fldOf fs tag = some f) : fldOf (fs ++ gs) tag = some f := by
 unfold fldOf at h ⊢;rw [List.find?_append,h]; rfl
theorem ext_field {s : ScS} (hs : OkS s) {k : Nat} {m : MsS} (hk : s.msgs[k]? = some m) (g : FlS) : Ext s (setM s k ⟨m.name,m.fields ++ [g],m.reserved⟩) :=
 ext_set hs hk rfl (fun _ e => e) fun tag f hf => .inr ⟨f,fld_app hf,rfl,rfl,rfl⟩
theorem ext_msg {s : ScS} (hs : OkS s) (m : MsS) : Ext s ⟨s.name,s.msgs ++ [m],s.enums,s.methods⟩ :=
 ext_of (fun A x hx => ⟨x,by unfold msgOf at hx ⊢; simp only; rw [List.find?_append,hx]; rfl,fun _ e => e,fun tag f hf => .inr ⟨f,hf,rfl,rfl,rfl⟩⟩) (mt_same hs rfl) (en_same rfl)
theorem ext_mt {s : ScS} (hs : OkS s) (m : MtS) : Ext s ⟨s.name,s.msgs,s.enums,s.methods ++ [m]⟩ :=
 ext_of (ms_same rfl) (fun q hq => ⟨q,by have := mtOf_mem hs hq; unfold mtOf at this ⊢; simp only; rw [List.find?_append,this]; rfl,rfl,rfl⟩) (en_same rfl)
theorem ext_val {s : ScS} (hs : OkS s) {k : Nat} {e : EnS} (hk : s.enums[k]? = some e) (v : NmS) : Ext s ⟨s.name,s.msgs,s.enums.set k ⟨e.name,e.values ++ [v]⟩,s.methods⟩ :=
 ext_of (ms_same rfl) (mt_same hs rfl) fun nm x hx => by
  have h1 := find_set (nm := EnS.name) (x' := ⟨e.name,e.values ++ [v]⟩) hs.enms hk rfl nm;unfold enmOf at hx ⊢;simp only;rw [h1]
  by_cases hA : nm = e.name
  ·rw [if_pos hA];refine ⟨_,rfl,fun q hq => List.mem_append.2 (.inl ?_)⟩
   have h2 : s.enums.find? (fun y => decide (y.name = nm)) = some e := by
    have h3 := find_set (nm := EnS.name) (x' := e) hs.enms hk rfl nm;rw [if_pos hA] at h3
    have h4 : s.enums.set k e = s.enums := by
     apply List.ext_getElem?
     intro i;rw [List.getElem?_set]
     split
     ·rename_i h5
      subst h5
      split
      ·exact hk.symm
      ·rename_i h6
       exact absurd (List.getElem?_eq_some_iff.1 hk).1 h6
     ·rfl
    rw [h4] at h3;exact h3
   rw [h2] at hx;obtain rfl := Option.some.inj hx;exact hq
  ·rw [if_neg hA];exact ⟨x,hx,fun _ e => e⟩
section
variable {s : ScS} {k j : Nat} {m : MsS} {f : FlS}
end
theorem setM_wE {s : ScS} {k : Nat} {m' : MsS} (h : ScW s) (hm : MsW m') : ScW (setM s k m') := by
 refine ⟨h.name,fun x hx => ?_,h.enums,h.meths⟩
 rcases List.mem_or_eq_of_mem_set hx with hx | rfl
 ·exact h.msgs x hx
 ·exact hm
theorem setM_fewE {s : ScS} {k : Nat} {m' : MsS} (h : FewL s) (h1 : m'.fields.length ≤ 20) (h2 : m'.reserved.length ≤ 40) : FewL (setM s k m') := by
 refine ⟨?_,h.enums,h.meths,fun x hx => ?_,h.vals⟩
 ·show (s.msgs.set k _).length ≤ 14
  rw [List.length_set]; exact h.msgs
 ·rcases List.mem_or_eq_of_mem_set hx with hx | rfl
  ·exact h.flds x hx
  ·exact ⟨h1,h2⟩
end
section
open Go.ChangeShapes Go.WideShapes Go.ChangeAt Go.RowKit Go.Maps
theorem r7message_any {w : World} {snm nm : ByteArray} {ae at' : Option Addr} {E ce T ct : Nat} {vm : Value} {ms : List MsS} (hr : MsIn w vm ms)  :
  Calls Try.prog 31 #[.agg #[.string snm,vm,.slice ae E ce,.slice at' T ct],.string nm] w fun e w' => ∃ vf vr,e = .returned (.tuple #[.agg #[.string ((ms.find? (fun m => decide (m.name = nm))).getD zeroM).name,vf,vr],.bool (ms.find? (fun m => decide (m.name = nm))).isSome]) ∧ RowG w' vf 5 (flRows ((ms.find? (fun m => decide (m.name = nm))).getD zeroM).fields) ∧ RowG w' vr 1 (inRows ((ms.find? (fun m => decide (m.name = nm))).getD zeroM).reserved) ∧ Below w.heap.size w w' := by
 obtain ⟨a,c,rfl,q1,q2⟩ := hr.form2;have HR : Hid (MsIn w (.slice a ms.length c) ms) := hr;obtain ⟨N,hN⟩ : ∃ N,ms.length = N := ⟨_,rfl⟩;rw [hN] at HR q1 ⊢;have HN : Hid (ms.length = N) := hN;clear hN hr;obtain ⟨A,hA⟩ : ∃ A,(ms.find? (fun m => decide (m.name = nm))) = A := ⟨_,rfl⟩;rw [hA];have HA : Hid (A = ((ms.drop 0).find? (fun m => decide (m.name = nm)))) := hA.symm;clear hA;have BX0 : Blk ((w.alloc (.cells #[.string snm,.slice a N c,.slice ae E ce,.slice at' T ct] 26)).alloc (.cells #[.string ⟨#[]⟩,.slice none 0 0,.slice none 0 0] 40)) w.heap.size #[.string snm,.slice a N c,.slice ae E ce,.slice at' T ct] 26 := (Blk.new w _ _).below ((Below.refl _ _).alloc (Nat.le_refl _) _)
 have BR0 : Blk ((w.alloc (.cells #[.string snm,.slice a N c,.slice ae E ce,.slice at' T ct] 26)).alloc (.cells #[.string ⟨#[]⟩,.slice none 0 0,.slice none 0 0] 40)) (w.heap.size + 1) #[.string ⟨#[]⟩,.slice none 0 0,.slice none 0 0] 40 := by
  have := Blk.new (w.alloc (.cells #[.string snm,.slice a N c,.slice ae E ce,.slice at' T ct] 26)) #[.string ⟨#[]⟩,.slice none 0 0,.slice none 0 0] 40
  rwa [show (w.alloc (.cells #[.string snm,.slice a N c,.slice ae E ce,.slice at' T ct] 26)).heap.size = w.heap.size + 1 by simp] at this
 have hb0 : Below w.heap.size w ((w.alloc (.cells #[.string snm,.slice a N c,.slice ae E ce,.slice at' T ct] 26)).alloc (.cells #[.string ⟨#[]⟩,.slice none 0 0,.slice none 0 0] 40)) := ((Below.refl _ _).alloc (Nat.le_refl _) _).alloc (by simp) _
 go_enter Try.func31,Try.ntmps31
 go_wp2_with fail
 go_loopw [6] (fun iv wr => ∃ k : Nat,iv = .int .i64 (k : Int) ∧ k ≤ N ∧ Hid (A = ((ms.drop k).find? (fun m => decide (m.name = nm)))) ∧ Below w.heap.size w wr ∧ Blk wr (w.heap.size + 1) #[.string ⟨#[]⟩,.slice none 0 0,.slice none 0 0] 40 ∧ Blk wr w.heap.size #[.string snm,.slice a N c,.slice ae E ce,.slice at' T ct] 26) (fun iv _ => N - (intOf iv).toNat)
 case atStart => exact ⟨0,rfl,by omega,HA,hb0,BR0,BX0⟩
 case round =>
  obtain ⟨k,rfl,hk,HAk,hbel,BR,BX⟩ := hrel;clear BX0 BR0 hb0;have hlt2 : w.heap.size + 1 < wr.heap.size := BR.lt;have r0 := (BR.cell 0).trans rfl;have z0 := BR.froz 0;have r1 := (BR.cell 1).trans rfl;have z1 := BR.froz 1;have r2 := (BR.cell 2).trans rfl;have z2 := BR.froz 2;have x1 : wr.cell? ⟨w.heap.size,1,none⟩ = some (.slice a N c) := BX.cell 1
  by_cases hlt : k < N
  ·obtain ⟨f,hf⟩ : ∃ n,ms[k]? = some n := ⟨_,List.getElem?_eq_getElem (by rw [HN.out]; exact hlt)⟩;obtain ⟨g,off,vf,vr,rfl,c0',c1',c2',hrf,hrr⟩ := HR.out.get hf;have c0 := (hbel.cell (World.block_lt_of_cell? _ _ c0')).trans c0';have c1 := (hbel.cell (World.block_lt_of_cell? _ _ c1')).trans c1';have c2 := (hbel.cell (World.block_lt_of_cell? _ _ c2')).trans c2';clear c0' c1' c2';have HF : Hid (RowG w vf 5 (flRows f.fields)) := hrf;have HV : Hid (RowG w vr 1 (inRows f.reserved)) := hrr;obtain ⟨a3,c3,rfl,_,_⟩ := hrf.form2;obtain ⟨a4,c4,rfl,_,_⟩ := hrr.form2;have HF : Hid (RowG w (.slice a3 (flRows f.fields).length c3) 5 (flRows f.fields)) := HF;have HV : Hid (RowG w (.slice a4 (inRows f.reserved).length c4) 1 (inRows f.reserved)) := HV
   have HA2 : Hid (A = if decide (f.name = nm) = true then some f else ((ms.drop (k + 1)).find? (fun m => decide (m.name = nm)))) := by
    show _ = _
    rw [HAk.out,drop_at hf,List.find?_cons]
    cases decide (f.name = nm) <;> rfl
   obtain ⟨f0,ff,fr⟩ := f;simp only at c0 c1 c2 HA2 HF HV;generalize hnF : (flRows ff).length = nF at *;generalize hnR : (inRows fr).length = nR at *;clear hrf hrr hf HAk hnF hnR
   by_cases he : f0 = nm
   ·subst he
    have HA3 : Hid (A = some ⟨f0,ff,fr⟩) := by show _ = _; rw [HA2.out,if_pos (by simp)]
    clear HA2;go_wp2_with fail;refine bodyPost_ret (results_two rfl _ _ _ ⟨w.heap.size + 1,0,none⟩ (.agg #[.string f0,.slice a3 nF c3,.slice a4 nR c4]) (by go_simp) (by go_simp)) rfl ?_;refine ⟨.slice a3 nF c3,.slice a4 nR c4,ret_two (by rw [HA3.out]; rfl) (by rw [HA3.out]; rfl),?_,?_,(Below.setCell (Below.setCell (Below.setCell hbel (by simp) _) (by simp) _) (by simp) _)⟩
    ·rw [HA3.out]; exact HF.out.below (Below.setCell (Below.setCell (Below.setCell hbel (by simp) _) (by simp) _) (by simp) _)
    ·rw [HA3.out]; exact HV.out.below (Below.setCell (Below.setCell (Below.setCell hbel (by simp) _) (by simp) _) (by simp) _)
   ·have hq := bytes_ne he
    have HA3 : Hid (A = ((ms.drop (k + 1)).find? (fun m => decide (m.name = nm)))) := by show _ = _; rw [HA2.out,if_neg (by simpa using he)]
    go_wp2_with fail
    go_roundw
    case rel => exact ⟨k + 1,by go_num,by omega,HA3,hbel,BR,BX⟩
    case measure => simp [intOf]; omega
  ·have HA2 : Hid (A = none) := by show _ = _; rw [HAk.out,drop_end (by rw [HN.out]; omega)]; rfl
   go_wp2_with fail;refine bodyPost_ret (results_two rfl _ _ _ ⟨w.heap.size + 1,0,none⟩ (.agg #[.string ⟨#[]⟩,.slice none 0 0,.slice none 0 0]) (by go_simp) (by go_simp)) rfl ?_;exact ⟨.slice none 0 0,.slice none 0 0,ret_two (by rw [HA2.out]; rfl) (by rw [HA2.out]; rfl),by rw [HA2.out]; exact RowG.nil _ _,by rw [HA2.out]; exact RowG.nil _ _,(Below.setCell (Below.setCell (Below.setCell hbel (by simp) _) (by simp) _) (by simp) _)⟩
theorem r7enum_any {w : World} {snm nm : ByteArray} {am at' : Option Addr} {M cm T ct : Nat} {ve : Value} {ms : List EnS} (hr : EnIn w ve ms)  :
  Calls Try.prog 27 #[.agg #[.string snm,.slice am M cm,ve,.slice at' T ct],.string nm] w fun e w' => ∃ vv,e = .returned (.tuple #[.agg #[.string ((ms.find? (fun m => decide (m.name = nm))).getD zeroN).name,vv],.bool (ms.find? (fun m => decide (m.name = nm))).isSome]) ∧ RowG w' vv 2 (nmRows ((ms.find? (fun m => decide (m.name = nm))).getD zeroN).values) ∧ Below w.heap.size w w' := by
 obtain ⟨a,c,rfl,q1,q2⟩ := hr.form2;have HR : Hid (EnIn w (.slice a ms.length c) ms) := hr;obtain ⟨N,hN⟩ : ∃ N,ms.length = N := ⟨_,rfl⟩;rw [hN] at HR q1 ⊢;have HN : Hid (ms.length = N) := hN;clear hN hr;obtain ⟨A,hA⟩ : ∃ A,(ms.find? (fun m => decide (m.name = nm))) = A := ⟨_,rfl⟩;rw [hA];have HA : Hid (A = ((ms.drop 0).find? (fun m => decide (m.name = nm)))) := hA.symm;clear hA;have BX0 : Blk ((w.alloc (.cells #[.string snm,.slice am M cm,.slice a N c,.slice at' T ct] 26)).alloc (.cells #[.string ⟨#[]⟩,.slice none 0 0] 51)) w.heap.size #[.string snm,.slice am M cm,.slice a N c,.slice at' T ct] 26 := (Blk.new w _ _).below ((Below.refl _ _).alloc (Nat.le_refl _) _)
 have BR0 : Blk ((w.alloc (.cells #[.string snm,.slice am M cm,.slice a N c,.slice at' T ct] 26)).alloc (.cells #[.string ⟨#[]⟩,.slice none 0 0] 51)) (w.heap.size + 1) #[.string ⟨#[]⟩,.slice none 0 0] 51 := by
  have := Blk.new (w.alloc (.cells #[.string snm,.slice am M cm,.slice a N c,.slice at' T ct] 26)) #[.string ⟨#[]⟩,.slice none 0 0] 51
  rwa [show (w.alloc (.cells #[.string snm,.slice am M cm,.slice a N c,.slice at' T ct] 26)).heap.size = w.heap.size + 1 by simp] at this
 have hb0 : Below w.heap.size w ((w.alloc (.cells #[.string snm,.slice am M cm,.slice a N c,.slice at' T ct] 26)).alloc (.cells #[.string ⟨#[]⟩,.slice none 0 0] 51)) := ((Below.refl _ _).alloc (Nat.le_refl _) _).alloc (by simp) _
 go_enter Try.func27,Try.ntmps27
 go_wp2_with fail
 go_loopw [6] (fun iv wr => ∃ k : Nat,iv = .int .i64 (k : Int) ∧ k ≤ N ∧ Hid (A = ((ms.drop k).find? (fun m => decide (m.name = nm)))) ∧ Below w.heap.size w wr ∧ Blk wr (w.heap.size + 1) #[.string ⟨#[]⟩,.slice none 0 0] 51 ∧ Blk wr w.heap.size #[.string snm,.slice am M cm,.slice a N c,.slice at' T ct] 26) (fun iv _ => N - (intOf iv).toNat)
 case atStart => exact ⟨0,rfl,by omega,HA,hb0,BR0,BX0⟩
 case round =>
  obtain ⟨k,rfl,hk,HAk,hbel,BR,BX⟩ := hrel;clear BX0 BR0 hb0;have hlt2 : w.heap.size + 1 < wr.heap.size := BR.lt;have r0 := (BR.cell 0).trans rfl;have z0 := BR.froz 0;have r1 := (BR.cell 1).trans rfl;have z1 := BR.froz 1;have x1 : wr.cell? ⟨w.heap.size,2,none⟩ = some (.slice a N c) := BX.cell 2
  by_cases hlt : k < N
  ·obtain ⟨f,hf⟩ : ∃ n,ms[k]? = some n := ⟨_,List.getElem?_eq_getElem (by rw [HN.out]; exact hlt)⟩;obtain ⟨g,off,vv,rfl,c0',c1',hrf⟩ := HR.out.get hf;have c0 := (hbel.cell (World.block_lt_of_cell? _ _ c0')).trans c0';have c1 := (hbel.cell (World.block_lt_of_cell? _ _ c1')).trans c1';clear c0' c1';have HF : Hid (RowG w vv 2 (nmRows f.values)) := hrf;obtain ⟨a3,c3,rfl,_,_⟩ := hrf.form2;have HF : Hid (RowG w (.slice a3 (nmRows f.values).length c3) 2 (nmRows f.values)) := HF
   have HA2 : Hid (A = if decide (f.name = nm) = true then some f else ((ms.drop (k + 1)).find? (fun m => decide (m.name = nm)))) := by
    show _ = _
    rw [HAk.out,drop_at hf,List.find?_cons]
    cases decide (f.name = nm) <;> rfl
   obtain ⟨f0,ff⟩ := f;simp only at c0 c1 HA2 HF;generalize hnF : (nmRows ff).length = nF at *;clear hrf hf HAk hnF
   by_cases he : f0 = nm
   ·subst he
    have HA3 : Hid (A = some ⟨f0,ff⟩) := by show _ = _; rw [HA2.out,if_pos (by simp)]
    clear HA2;go_wp2_with fail;refine bodyPost_ret (results_two rfl _ _ _ ⟨w.heap.size + 1,0,none⟩ (.agg #[.string f0,.slice a3 nF c3]) (by go_simp) (by go_simp)) rfl ?_;refine ⟨.slice a3 nF c3,ret_two (by rw [HA3.out]; rfl) (by rw [HA3.out]; rfl),?_,(Below.setCell (Below.setCell hbel (by simp) _) (by simp) _)⟩;rw [HA3.out]; exact HF.out.below (Below.setCell (Below.setCell hbel (by simp) _) (by simp) _)
   ·have hq := bytes_ne he
    have HA3 : Hid (A = ((ms.drop (k + 1)).find? (fun m => decide (m.name = nm)))) := by show _ = _; rw [HA2.out,if_neg (by simpa using he)]
    go_wp2_with fail
    go_roundw
    case rel => exact ⟨k + 1,by go_num,by omega,HA3,hbel,BR,BX⟩
    case measure => simp [intOf]; omega
  ·have HA2 : Hid (A = none) := by show _ = _; rw [HAk.out,drop_end (by rw [HN.out]; omega)]; rfl
   go_wp2_with fail;refine bodyPost_ret (results_two rfl _ _ _ ⟨w.heap.size + 1,0,none⟩ (.agg #[.string ⟨#[]⟩,.slice none 0 0]) (by go_simp) (by go_simp)) rfl ?_;exact ⟨.slice none 0 0,ret_two (by rw [HA2.out]; rfl) (by rw [HA2.out]; rfl),by rw [HA2.out]; exact RowG.nil _ _,(Below.setCell (Below.setCell hbel (by simp) _) (by simp) _)⟩
end
section
open Go.ChangeShapes Go.WideShapes Go.ChangeAt Go.RowKit
def tlL : List UInt8 → Int
 | [] => -1
 | a :: _ => if ctU a = true then (a.toNat : Int) - 128 else -1
theorem tl_in (s : ByteArray) (i : Nat) (h : i < s.size) (a : 128 ≤ (s[i].toNat : Int)) (b : (s[i].toNat : Int) ≤ 191) : (s[i].toNat : Int) - 128 = tlL (s.data.toList.drop i) := by
 rw [drop_cons s i h]; simp only [tlL]; rw [if_pos (by simp [ctU]; omega)]
theorem tl_out (s : ByteArray) (i : Nat) (h : i < s.size) (a : (s[i].toNat : Int) < 128 ∨ 191 < (s[i].toNat : Int)) : -1 = tlL (s.data.toList.drop i) := by
 rw [drop_cons s i h]; simp only [tlL]; rw [if_neg (by simp [ctU]; omega)]
theorem tl_end (s : ByteArray) (i : Nat) (h : s.size ≤ i) : -1 = tlL (s.data.toList.drop i) := by
 rw [drop_none s i h]; rfl
theorem tail_any (s : ByteArray) (i : Int) (w : World) (hs : s.size ≤ 140737488351232) (hi : 0 ≤ i) :
  Calls Try.prog 79 #[.string s,.int .i64 i] w fun e w' => e = .returned (.int .i64 (tlL (s.data.toList.drop i.toNat))) ∧ w' = w := by
 by_cases h : i < s.size
 ·have hn : i.toNat < s.size := by omega
  go_enter Try.func79,Try.ntmps79
  go_wp2
  all_goals
   go_ret
   first
   | exact ⟨ret_int (tl_in s i.toNat hn (by omega) (by omega)),rfl⟩
   | exact ⟨ret_int (tl_out s i.toNat hn (by omega)),rfl⟩
 ·go_enter Try.func79,Try.ntmps79
  go_wp2
  go_ret;exact ⟨ret_int (tl_end s i.toNat (by omega)),rfl⟩
theorem rnext_out (s : ByteArray) (i : Int) (w : World) (h : i < 0 ∨ (s.size : Int) ≤ i) :
  Calls Try.prog 66 #[.string s,.int .i64 i] w fun e w' => e = .returned (nxV (nxL (atL s i))) ∧ w' = w := by
 have hx := atL_out s i h;have HX : Hid (nxL (atL s i) = none) := hx;clear hx
 rcases h with h | h
 ·go_enter Try.func66,Try.ntmps66
  go_wp2
  go_ret3
  exact ⟨ret_none HX.out,rfl⟩
 ·by_cases h0 : i < 0
  all_goals
   go_enter Try.func66,Try.ntmps66
   go_wp2
   go_ret3
   exact ⟨ret_none HX.out,rfl⟩
def accv (v0 : Int) (l : List UInt8) : Nat → Int
 | 0 => v0
 | k + 1 => 64 * accv v0 l k + tlL (l.drop (k + 1))
theorem nxL_lead1 (s : ByteArray) (i : Nat) (h : i < s.size) (ha : (s[i].toNat : Int) < 128) : nxL (atL s i) = some (s[i].toNat,1) := by
 rw [atL_in s i (by omega),Int.toNat_natCast,drop_cons s i h];simp only [nxL]; rw [if_pos (by omega)]
theorem nxL_lead0 (s : ByteArray) (i : Nat) (h : i < s.size) (h0 : 128 ≤ (s[i].toNat : Int)) (h1 : (s[i].toNat : Int) < 192 ∨ 248 ≤ (s[i].toNat : Int)) : nxL (atL s i) = none := by
 rw [atL_in s i (by omega),Int.toNat_natCast,drop_cons s i h];simp only [nxL]; rw [if_neg (by omega),if_neg (by omega),if_neg (by omega),if_neg (by omega)]
theorem rnext_lead1 (s : ByteArray) (i : Nat) (w : World) (hs : s.size ≤ 140737488351232) (h : i < s.size) (ha : (s[i].toNat : Int) < 128) :
  Calls Try.prog 66 #[.string s,.int .i64 (i : Int)] w fun e w' => e = .returned (nxV (nxL (atL s i))) ∧ w' = w := by
 have HX : Hid (nxL (atL s i) = some (s[i].toNat,1)) := nxL_lead1 s i h ha
 have hb : 0 ≤ (s[i].toNat : Int) := by omega
 go_enter Try.func66,Try.ntmps66
 go_wp2
 go_ret3
 exact ⟨ret_some _ _ HX.out rfl rfl,rfl⟩
theorem rnext_lead0 (s : ByteArray) (i : Nat) (w : World) (hs : s.size ≤ 140737488351232) (h : i < s.size) (h0 : 128 ≤ (s[i].toNat : Int)) (h1 : (s[i].toNat : Int) < 192 ∨ 248 ≤ (s[i].toNat : Int)) :
  Calls Try.prog 66 #[.string s,.int .i64 (i : Int)] w fun e w' => e = .returned (nxV (nxL (atL s i))) ∧ w' = w := by
 have HX : Hid (nxL (atL s i) = none) := nxL_lead0 s i h h0 h1
 have hb : (s[i].toNat : Int) < 256 := by have := s[i].toNat_lt; omega
 rcases h1 with h1 | h1
 all_goals
  go_enter Try.func66,Try.ntmps66
  go_wp2
  go_ret3
  exact ⟨ret_none HX.out,rfl⟩
theorem tl_neg {r : List UInt8} (h : tlL r < 0) : ∀ b r',r = b :: r' → ctU b = false := by
 rintro b r' rfl
 cases e : ctU b with
 | false => rfl
 | true => simp only [tlL,e,if_true] at h; simp [ctU] at e; omega
theorem tl_pos {r : List UInt8} (h : 0 ≤ tlL r) : ∃ b r',r = b :: r' ∧ ctU b = true ∧ tlL r = (b.toNat : Int) - 128 := by
 match r with
 | [] => simp [tlL] at h
 | b :: r' =>
  cases e : ctU b with
  | false => simp [tlL,e] at h
  | true => exact ⟨b,r',rfl,e,by simp [tlL,e]⟩
theorem tl_bd (r : List UInt8) : -1 ≤ tlL r ∧ tlL r ≤ 63 := by
 match r with
 | [] => simp [tlL]
 | b :: r' =>
  simp only [tlL]
  split
  ·rename_i e; simp [ctU] at e; omega
  ·omega
def okVr (v : Int) : Prop := v ≤ 1114111 ∧ ¬ (55296 ≤ v ∧ v ≤ 57343)
theorem bad_2 {a : UInt8} {r : List UInt8} (h0 : 192 ≤ a.toNat) (h1 : a.toNat < 224) (m : Nat) (hm : 1 ≤ m) (hn : m < 2) (h : tlL ((a :: r).drop m) < 0) : nxL (a :: r) = none := by
 obtain rfl : m = 1 := by omega
 have hc := tl_neg (r := r) h;simp only [nxL];rw [if_neg (by omega),if_pos ⟨h0,h1⟩]
 match r with
 | [] => rfl
 | b :: r' => simp [hc b r' rfl]
theorem bad_3 {a : UInt8} {r : List UInt8} (h0 : 224 ≤ a.toNat) (h1 : a.toNat < 240) (m : Nat) (hm : 1 ≤ m) (hn : m < 3) (h : tlL ((a :: r).drop m) < 0) : nxL (a :: r) = none := by
 simp only [nxL];rw [if_neg (by omega),if_neg (by omega),if_pos ⟨h0,h1⟩]
 match r with
 | [] => rfl
 | [b] => rfl
 | b :: c :: r' =>
  obtain rfl | rfl : m = 1 ∨ m = 2 := by omega
  ·have hc := tl_neg (r := b :: c :: r') h; simp [hc b _ rfl]
  ·have hc := tl_neg (r := c :: r') h; simp [hc c _ rfl]
theorem bad_4 {a : UInt8} {r : List UInt8} (h0 : 240 ≤ a.toNat) (h1 : a.toNat < 248) (m : Nat) (hm : 1 ≤ m) (hn : m < 4) (h : tlL ((a :: r).drop m) < 0) : nxL (a :: r) = none := by
 simp only [nxL];rw [if_neg (by omega),if_neg (by omega),if_neg (by omega),if_pos ⟨h0,h1⟩]
 match r with
 | [] => rfl
 | [b] => rfl
 | [b,c] => rfl
 | b :: c :: d :: r' =>
  obtain rfl | rfl | rfl : m = 1 ∨ m = 2 ∨ m = 3 := by omega
  ·have hc := tl_neg (r := b :: c :: d :: r') h; simp [hc b _ rfl]
  ·have hc := tl_neg (r := c :: d :: r') h; simp [hc c _ rfl]
  ·have hc := tl_neg (r := d :: r') h; simp [hc d _ rfl]
theorem good_2 {a : UInt8} {r : List UInt8} (h0 : 192 ≤ a.toNat) (h1 : a.toNat < 224) (h : ∀ m,1 ≤ m → m < 2 → 0 ≤ tlL ((a :: r).drop m)) :
  ∃ v : Nat,accv ((a.toNat : Int) - 192) (a :: r) 1 = v ∧ v ≤ 1000000000 ∧ (128 ≤ v ∧ okVr v → nxL (a :: r) = some (v,2)) ∧ (¬ (128 ≤ v ∧ okVr v) → nxL (a :: r) = none) := by
 obtain ⟨b,r',rfl,hb,eb⟩ := tl_pos (r := r) (h 1 (by omega) (by omega));have hl := two_lt h1 hb;have hb' := hb;simp only [ctU,Bool.and_eq_true,decide_eq_true_eq] at hb';refine ⟨two a b,?_,by omega,?_,?_⟩
 ·show 64 * ((a.toNat : Int) - 192) + tlL (b :: r') = _
  rw [eb]; simp only [two]; omega
 ·rintro ⟨g,_⟩;simp only [nxL];rw [if_neg (by omega),if_pos ⟨h0,h1⟩,if_pos ⟨hb,g⟩]
 ·intro g;simp only [nxL];rw [if_neg (by omega),if_pos ⟨h0,h1⟩,if_neg (fun x => g ⟨x.2,by simp only [okVr]; omega⟩)]
theorem good_3 {a : UInt8} {r : List UInt8} (h0 : 224 ≤ a.toNat) (h1 : a.toNat < 240) (h : ∀ m,1 ≤ m → m < 3 → 0 ≤ tlL ((a :: r).drop m)) :
  ∃ v : Nat,accv ((a.toNat : Int) - 224) (a :: r) 2 = v ∧ v ≤ 1000000000 ∧ (2048 ≤ v ∧ okVr v → nxL (a :: r) = some (v,3)) ∧ (¬ (2048 ≤ v ∧ okVr v) → nxL (a :: r) = none) := by
 obtain ⟨b,r1,rfl,hb,eb⟩ := tl_pos (r := r) (h 1 (by omega) (by omega));obtain ⟨c,r',rfl,hc,ec⟩ := tl_pos (r := r1) (h 2 (by omega) (by omega));have hl := three_lt h1 hb hc;have hb' := hb;have hc' := hc;simp only [ctU,Bool.and_eq_true,decide_eq_true_eq] at hb' hc';refine ⟨three a b c,?_,by omega,?_,?_⟩
 ·show 64 * (64 * ((a.toNat : Int) - 224) + tlL (b :: c :: r')) + tlL (c :: r') = _
  rw [eb,ec]; simp only [three]; omega
 ·rintro ⟨g,g2⟩;simp only [nxL];rw [if_neg (by omega),if_neg (by omega),if_pos ⟨h0,h1⟩,if_pos ⟨hb,hc,g,by simp only [okVr] at g2; omega⟩]
 ·intro g;simp only [nxL];rw [if_neg (by omega),if_neg (by omega),if_pos ⟨h0,h1⟩,if_neg (fun x => g ⟨x.2.2.1,by simp only [okVr]; omega⟩)]
theorem good_4 {a : UInt8} {r : List UInt8} (h0 : 240 ≤ a.toNat) (h1 : a.toNat < 248) (h : ∀ m,1 ≤ m → m < 4 → 0 ≤ tlL ((a :: r).drop m)) :
  ∃ v : Nat,accv ((a.toNat : Int) - 240) (a :: r) 3 = v ∧ v ≤ 1000000000 ∧ (65536 ≤ v ∧ okVr v → nxL (a :: r) = some (v,4)) ∧ (¬ (65536 ≤ v ∧ okVr v) → nxL (a :: r) = none) := by
 obtain ⟨b,r1,rfl,hb,eb⟩ := tl_pos (r := r) (h 1 (by omega) (by omega));obtain ⟨c,r2,rfl,hc,ec⟩ := tl_pos (r := r1) (h 2 (by omega) (by omega));obtain ⟨d,r',rfl,hd,ed⟩ := tl_pos (r := r2) (h 3 (by omega) (by omega));have hb' := hb;have hc' := hc;have hd' := hd;simp only [ctU,Bool.and_eq_true,decide_eq_true_eq] at hb' hc' hd';refine ⟨four a b c d,?_,by simp only [four]; omega,?_,?_⟩
 ·show 64 * (64 * (64 * ((a.toNat : Int) - 240) + tlL (b :: c :: d :: r')) + tlL (c :: d :: r')) + tlL (d :: r') = _
  rw [eb,ec,ed]; simp only [four]; omega
 ·rintro ⟨g,g2⟩;simp only [nxL];rw [if_neg (by omega),if_neg (by omega),if_neg (by omega),if_pos ⟨h0,h1⟩,if_pos ⟨hb,hc,hd,g,by simp only [okVr] at g2; omega⟩]
 ·intro g;simp only [nxL];rw [if_neg (by omega),if_neg (by omega),if_neg (by omega),if_pos ⟨h0,h1⟩,if_neg (fun x => g ⟨x.2.2.2.1,by simp only [okVr]; omega⟩)]
theorem accv_bd (v0 : Int) (l : List UInt8) (h0 : 0 ≤ v0) (h1 : v0 ≤ 31) (k : Nat) (hk : k ≤ 3) (h : ∀ m,1 ≤ m → m < k + 1 → 0 ≤ tlL (l.drop m)) : 0 ≤ accv v0 l k ∧ accv v0 l k ≤ 10000000 := by
 have b1 := tl_bd (l.drop 1);have b2 := tl_bd (l.drop 2);have b3 := tl_bd (l.drop 3)
 obtain rfl | rfl | rfl | rfl : k = 0 ∨ k = 1 ∨ k = 2 ∨ k = 3 := by omega
 ·simp only [accv]; omega
 ·have := h 1 (by omega) (by omega); simp only [accv,Nat.zero_add,Nat.reduceAdd]; omega
 ·have := h 1 (by omega) (by omega); have := h 2 (by omega) (by omega); simp only [accv,Nat.zero_add,Nat.reduceAdd]; omega
 ·have := h 1 (by omega) (by omega); have := h 2 (by omega) (by omega); have := h 3 (by omega) (by omega); simp only [accv,Nat.zero_add,Nat.reduceAdd]; omega
theorem rest_at (s : ByteArray) (i m : Nat) : s.data.toList.drop ((i : Int) + (m : Int)).toNat = (s.data.toList.drop i).drop m := by
 rw [List.drop_drop]; congr 1
theorem rnext_lead2 (s : ByteArray) (i : Nat) (w : World) (hs : s.size ≤ 140737488351232) (h : i < s.size) (h0 : 192 ≤ (s[i].toNat : Int)) (h1 : (s[i].toNat : Int) < 224) :
  Calls Try.prog 66 #[.string s,.int .i64 (i : Int)] w fun e w' => e = .returned (nxV (nxL (atL s i))) ∧ w' = w := by
 have hl0 : Hid (atL s i = s[i] :: s.data.toList.drop (i + 1)) := by rw [atL_in s i (by omega),Int.toNat_natCast,drop_cons s i h]; rfl
 have hl1 : Hid (atL s i = s.data.toList.drop i) := by rw [atL_in s i (by omega),Int.toNat_natCast]; rfl
 generalize atL s i = l at *
 have hd1 : decide (s.size ≤ i) = false := by simp; omega
 have hd2 : decide ((i : Int) < 0) = false := by simp
 have hd3 : decide ((s[i].toNat : Int) < 128) = false := by simp; omega
 go_enter Try.func66,Try.ntmps66
 go_wp2
 go_loop [9,11] (fun v j => ∃ m : Nat,1 ≤ m ∧ m ≤ 2 ∧ j = .int .i64 m ∧ v = .int .i64 (accv ((s[i].toNat : Int) - 192) l (m - 1)) ∧ Hid (∀ q,1 ≤ q → q < m → 0 ≤ tlL (l.drop q))) (fun _ j => 2 - (intOf j).toNat)
 case atStart => exact ⟨1,by omega,by omega,rfl,rfl,by intro q; omega⟩
 case round =>
  obtain ⟨m,hm1,hm2,rfl,rfl,H⟩ := hrel;have hbd := accv_bd ((s[i].toNat : Int) - 192) l (by omega) (by omega) (m - 1) (by omega) (fun q a b => H.out q a (by omega))
  by_cases hlt : m < 2
  ·have ht := tl_bd (l.drop m)
   have HT : Hid (tlL (s.data.toList.drop ((i : Int) + (m : Int)).toNat) = tlL (l.drop m)) := by rw [rest_at,← hl1.out]; rfl
   have HS : Hid (64 * accv ((s[i].toNat : Int) - 192) l (m - 1) + tlL (l.drop m) = accv ((s[i].toNat : Int) - 192) l m) := by
    obtain ⟨k,rfl⟩ : ∃ k,m = k + 1 := ⟨m - 1,by omega⟩
    rfl
   have HB : Hid (tlL (l.drop m) < 0 → nxL l = none) := fun hh => by
    have hx := hh;rw [hl0.out] at hx ⊢;exact bad_2 (by omega) (by omega) m hm1 hlt hx
   have HN : Hid (0 ≤ tlL (l.drop m) → ∀ q,1 ≤ q → q < m + 1 → 0 ≤ tlL (l.drop q)) := fun hh q a b => by
    by_cases e : q = m
    ·rw [e]; exact hh
    ·exact H.out q a (by omega)
   generalize accv ((s[i].toNat : Int) - 192) l (m - 1) = v at *;go_wp2_with fail;refine (tail_any s _ _ hs (by omega)).mono ?_;rintro e w' ⟨rfl,rfl⟩;rw [HT.out];generalize tlL (l.drop m) = t at *
   by_cases hneg : t < 0
   ·go_wp2
    go_ret3
    exact ⟨ret_none (HB.out hneg),rfl⟩
   ·go_wp2
    go_round
    case rel => exact ⟨m + 1,by omega,by omega,by go_num,by rw [HS.out]; rfl,HN.out (by omega)⟩
    case measure => simp [intOf]; omega
  ·obtain rfl : m = 2 := by omega
   obtain ⟨v,ev,hv,hyes,hno⟩ : ∃ v : Nat,accv ((s[i].toNat : Int) - 192) l (2 - 1) = v ∧ v ≤ 1000000000 ∧ (128 ≤ v ∧ okVr v → nxL l = some (v,2)) ∧ (¬ (128 ≤ v ∧ okVr v) → nxL l = none) := by
    have hg := H.out;rw [hl0.out] at hg ⊢;exact good_2 (by omega) (by omega) hg
   rw [ev];have HY : Hid (128 ≤ v ∧ okVr v → nxL l = some (v,2)) := hyes;have HNO : Hid (¬ (128 ≤ v ∧ okVr v) → nxL l = none) := hno;clear hyes hno ev hbd H
   go_wp2
   all_goals
    go_ret3
    first
    | exact ⟨ret_none (HNO.out (by simp only [okVr]; omega)),rfl⟩
    | exact ⟨ret_some _ _ (HY.out (by simp only [okVr]; omega)) rfl rfl,rfl⟩
theorem rnext_lead3 (s : ByteArray) (i : Nat) (w : World) (hs : s.size ≤ 140737488351232) (h : i < s.size) (h0 : 224 ≤ (s[i].toNat : Int)) (h1 : (s[i].toNat : Int) < 240) :
  Calls Try.prog 66 #[.string s,.int .i64 (i : Int)] w fun e w' => e = .returned (nxV (nxL (atL s i))) ∧ w' = w := by
 have hl0 : Hid (atL s i = s[i] :: s.data.toList.drop (i + 1)) := by rw [atL_in s i (by omega),Int.toNat_natCast,drop_cons s i h]; rfl
 have hl1 : Hid (atL s i = s.data.toList.drop i) := by rw [atL_in s i (by omega),Int.toNat_natCast]; rfl
 generalize atL s i = l at *
 have hd1 : decide (s.size ≤ i) = false := by simp; omega
 have hd2 : decide ((i : Int) < 0) = false := by simp
 have hd3 : decide ((s[i].toNat : Int) < 128) = false := by simp; omega
 go_enter Try.func66,Try.ntmps66
 go_wp2
 go_loop [9,11] (fun v j => ∃ m : Nat,1 ≤ m ∧ m ≤ 3 ∧ j = .int .i64 m ∧ v = .int .i64 (accv ((s[i].toNat : Int) - 224) l (m - 1)) ∧ Hid (∀ q,1 ≤ q → q < m → 0 ≤ tlL (l.drop q))) (fun _ j => 3 - (intOf j).toNat)
 case atStart => exact ⟨1,by omega,by omega,rfl,rfl,by intro q; omega⟩
 case round =>
  obtain ⟨m,hm1,hm2,rfl,rfl,H⟩ := hrel;have hbd := accv_bd ((s[i].toNat : Int) - 224) l (by omega) (by omega) (m - 1) (by omega) (fun q a b => H.out q a (by omega))
  by_cases hlt : m < 3
  ·have ht := tl_bd (l.drop m)
   have HT : Hid (tlL (s.data.toList.drop ((i : Int) + (m : Int)).toNat) = tlL (l.drop m)) := by rw [rest_at,← hl1.out]; rfl
   have HS : Hid (64 * accv ((s[i].toNat : Int) - 224) l (m - 1) + tlL (l.drop m) = accv ((s[i].toNat : Int) - 224) l m) := by
    obtain ⟨k,rfl⟩ : ∃ k,m = k + 1 := ⟨m - 1,by omega⟩
    rfl
   have HB : Hid (tlL (l.drop m) < 0 → nxL l = none) := fun hh => by
    have hx := hh;rw [hl0.out] at hx ⊢;exact bad_3 (by omega) (by omega) m hm1 hlt hx
   have HN : Hid (0 ≤ tlL (l.drop m) → ∀ q,1 ≤ q → q < m + 1 → 0 ≤ tlL (l.drop q)) := fun hh q a b => by
    by_cases e : q = m
    ·rw [e]; exact hh
    ·exact H.out q a (by omega)
   generalize accv ((s[i].toNat : Int) - 224) l (m - 1) = v at *;go_wp2_with fail;refine (tail_any s _ _ hs (by omega)).mono ?_;rintro e w' ⟨rfl,rfl⟩;rw [HT.out];generalize tlL (l.drop m) = t at *
   by_cases hneg : t < 0
   ·go_wp2
    go_ret3
    exact ⟨ret_none (HB.out hneg),rfl⟩
   ·go_wp2
    go_round
    case rel => exact ⟨m + 1,by omega,by omega,by go_num,by rw [HS.out]; rfl,HN.out (by omega)⟩
    case measure => simp [intOf]; omega
  ·obtain rfl : m = 3 := by omega
   obtain ⟨v,ev,hv,hyes,hno⟩ : ∃ v : Nat,accv ((s[i].toNat : Int) - 224) l (3 - 1) = v ∧ v ≤ 1000000000 ∧ (2048 ≤ v ∧ okVr v → nxL l = some (v,3)) ∧ (¬ (2048 ≤ v ∧ okVr v) → nxL l = none) := by
    have hg := H.out;rw [hl0.out] at hg ⊢;exact good_3 (by omega) (by omega) hg
   rw [ev];have HY : Hid (2048 ≤ v ∧ okVr v → nxL l = some (v,3)) := hyes;have HNO : Hid (¬ (2048 ≤ v ∧ okVr v) → nxL l = none) := hno;clear hyes hno ev hbd H
   go_wp2
   all_goals
    go_ret3
    first
    | exact ⟨ret_none (HNO.out (by simp only [okVr]; omega)),rfl⟩
    | exact ⟨ret_some _ _ (HY.out (by simp only [okVr]; omega)) rfl rfl,rfl⟩
theorem rnext_lead4 (s : ByteArray) (i : Nat) (w : World) (hs : s.size ≤ 140737488351232) (h : i < s.size) (h0 : 240 ≤ (s[i].toNat : Int)) (h1 : (s[i].toNat : Int) < 248) :
  Calls Try.prog 66 #[.string s,.int .i64 (i : Int)] w fun e w' => e = .returned (nxV (nxL (atL s i))) ∧ w' = w := by
 have hl0 : Hid (atL s i = s[i] :: s.data.toList.drop (i + 1)) := by rw [atL_in s i (by omega),Int.toNat_natCast,drop_cons s i h]; rfl
 have hl1 : Hid (atL s i = s.data.toList.drop i) := by rw [atL_in s i (by omega),Int.toNat_natCast]; rfl
 generalize atL s i = l at *
 have hd1 : decide (s.size ≤ i) = false := by simp; omega
 have hd2 : decide ((i : Int) < 0) = false := by simp
 have hd3 : decide ((s[i].toNat : Int) < 128) = false := by simp; omega
 go_enter Try.func66,Try.ntmps66
 go_wp2
 go_loop [9,11] (fun v j => ∃ m : Nat,1 ≤ m ∧ m ≤ 4 ∧ j = .int .i64 m ∧ v = .int .i64 (accv ((s[i].toNat : Int) - 240) l (m - 1)) ∧ Hid (∀ q,1 ≤ q → q < m → 0 ≤ tlL (l.drop q))) (fun _ j => 4 - (intOf j).toNat)
 case atStart => exact ⟨1,by omega,by omega,rfl,rfl,by intro q; omega⟩
 case round =>
  obtain ⟨m,hm1,hm2,rfl,rfl,H⟩ := hrel;have hbd := accv_bd ((s[i].toNat : Int) - 240) l (by omega) (by omega) (m - 1) (by omega) (fun q a b => H.out q a (by omega))
  by_cases hlt : m < 4
  ·have ht := tl_bd (l.drop m)
   have HT : Hid (tlL (s.data.toList.drop ((i : Int) + (m : Int)).toNat) = tlL (l.drop m)) := by rw [rest_at,← hl1.out]; rfl
   have HS : Hid (64 * accv ((s[i].toNat : Int) - 240) l (m - 1) + tlL (l.drop m) = accv ((s[i].toNat : Int) - 240) l m) := by
    obtain ⟨k,rfl⟩ : ∃ k,m = k + 1 := ⟨m - 1,by omega⟩
    rfl
   have HB : Hid (tlL (l.drop m) < 0 → nxL l = none) := fun hh => by
    have hx := hh;rw [hl0.out] at hx ⊢;exact bad_4 (by omega) (by omega) m hm1 hlt hx
   have HN : Hid (0 ≤ tlL (l.drop m) → ∀ q,1 ≤ q → q < m + 1 → 0 ≤ tlL (l.drop q)) := fun hh q a b => by
    by_cases e : q = m
    ·rw [e]; exact hh
    ·exact H.out q a (by omega)
   generalize accv ((s[i].toNat : Int) - 240) l (m - 1) = v at *;go_wp2_with fail;refine (tail_any s _ _ hs (by omega)).mono ?_;rintro e w' ⟨rfl,rfl⟩;rw [HT.out];generalize tlL (l.drop m) = t at *
   by_cases hneg : t < 0
   ·go_wp2
    go_ret3
    exact ⟨ret_none (HB.out hneg),rfl⟩
   ·go_wp2
    go_round
    case rel => exact ⟨m + 1,by omega,by omega,by go_num,by rw [HS.out]; rfl,HN.out (by omega)⟩
    case measure => simp [intOf]; omega
  ·obtain rfl : m = 4 := by omega
   obtain ⟨v,ev,hv,hyes,hno⟩ : ∃ v : Nat,accv ((s[i].toNat : Int) - 240) l (4 - 1) = v ∧ v ≤ 1000000000 ∧ (65536 ≤ v ∧ okVr v → nxL l = some (v,4)) ∧ (¬ (65536 ≤ v ∧ okVr v) → nxL l = none) := by
    have hg := H.out;rw [hl0.out] at hg ⊢;exact good_4 (by omega) (by omega) hg
   rw [ev];have HY : Hid (65536 ≤ v ∧ okVr v → nxL l = some (v,4)) := hyes;have HNO : Hid (¬ (65536 ≤ v ∧ okVr v) → nxL l = none) := hno;clear hyes hno ev hbd H
   go_wp2
   all_goals
    go_ret3
    first
    | exact ⟨ret_none (HNO.out (by simp only [okVr]; omega)),rfl⟩
    | exact ⟨ret_some _ _ (HY.out (by simp only [okVr]; omega)) rfl rfl,rfl⟩
theorem rnext_any (s : ByteArray) (i : Int) (w : World) (hs : s.size ≤ 140737488351232) :
  Calls Try.prog 66 #[.string s,.int .i64 i] w fun e w' => e = .returned (nxV (nxL (atL s i))) ∧ w' = w := by
 by_cases h : i < 0 ∨ (s.size : Int) ≤ i
 ·exact rnext_out s i w h
 ·obtain ⟨n,rfl⟩ := Int.eq_ofNat_of_zero_le (a := i) (by omega)
  have hn : n < s.size := by omega
  by_cases h1 : (s[n].toNat : Int) < 128
  ·exact rnext_lead1 s n w hs hn h1
  ·by_cases h2 : (s[n].toNat : Int) < 192 ∨ 248 ≤ (s[n].toNat : Int)
   ·exact rnext_lead0 s n w hs hn (by omega) h2
   ·by_cases h3 : (s[n].toNat : Int) < 224
    ·exact rnext_lead2 s n w hs hn (by omega) h3
    ·by_cases h4 : (s[n].toNat : Int) < 240
     ·exact rnext_lead3 s n w hs hn (by omega) h4
     ·exact rnext_lead4 s n w hs hn (by omega) (by omega)
theorem rdigit_any (r : Int) (w : World) :
  Calls Try.prog 47 #[.int .i32 r] w fun e w' => e = .returned (.bool (digB r)) ∧ w' = w := by
 go_enter Try.func47,Try.ntmps47
 go_wp2
 all_goals
  go_ret;exact ⟨ret_bool (by simp [digB]; try omega),rfl⟩
theorem rletter_any (r : Int) (w : World) :
  Calls Try.prog 45 #[.int .i32 r] w fun e w' => e = .returned (.bool (letB r)) ∧ w' = w := by
 go_enter Try.func45,Try.ntmps45
 go_wp2
 all_goals
  go_ret;refine ⟨ret_bool ?_,rfl⟩;rw [Bool.eq_iff_iff]
  simp [letB]
  try omega
theorem infoRune : (Try.prog.info? 21).map (fun i => (i.zero,i.size,i.bytes)) = some (some (.int .i32 0),1,4) := by kernel_rfl
def runeCells (rs : List Nat) : List Value := rs.map fun (c : Nat) => Value.int .i32 (c : Int)
theorem owns_cast {w : World} {b e : Nat} {v : Value} {n n' : Nat} {xs xs' : List Value} (h : w.ownsRow b e 1 v n xs) (hn : n' = n) (hx : xs' = xs) : w.ownsRow b e 1 v n' xs' := by
 rw [hn,hx]; exact h
theorem all_len {l : List UInt8} {pos c k : Nat} (hn : nxL (l.drop pos) = some (c,k)) (hp : pos ≤ l.length) : pos + k ≤ l.length ∧ 1 ≤ k ∧ k ≤ 4 := by
 obtain ⟨_,_,_,h4,h5,h6,_⟩ := nxL_some _ _ _ hn
 simp at h5
 omega
theorem rall_any (s : ByteArray) (w : World) (hs : s.size ≤ 20000) :
  Calls Try.prog 44 #[.string s] w fun e w' => ∃ v,e = .returned (.tuple #[v,.bool (validB s.data.toList)]) ∧
   w'.ownsRow w.heap.size 21 1 v (countN s.data.toList) (runeCells ((runesOf s.data.toList).getD [])) ∧ Below w.heap.size w w' := by
 obtain ⟨i0,hi,hz0,hz1,hz2⟩ := info_parts infoRune
 go_enter Try.func44,Try.ntmps44
 go_wp2_with fail
 go_loopw [4,5] (fun v at' wr => ∃ (pos : Nat) (acc : List Nat),at' = .int .i64 pos ∧ pos ≤ s.size ∧ acc.length ≤ pos ∧ Hid (Gone s.data.toList pos acc) ∧ wr.ownsRow w.heap.size 21 1 v acc.length (runeCells acc) ∧ Below w.heap.size w wr)
  (fun _ at' _ => s.size - (intOf at').toNat)
 case atStart => exact ⟨0,[],rfl,by omega,by simp,Gone.start _,World.ownsRow_nil _ _ _ _,Below.refl _ _⟩
 case round =>
  obtain ⟨pos,acc,rfl,hps,hap,H,hown,hbel⟩ := hrel
  by_cases hp : pos < s.size
  ·have HA : Hid (atL s pos = s.data.toList.drop pos) := by rw [atL_in s pos (by omega),Int.toNat_natCast]; rfl
   go_wp2_with fail;refine (rnext_any s _ _ (by omega)).mono ?_;rintro e w1 ⟨rfl,rfl⟩;rw [HA.out];generalize hx : nxL (s.data.toList.drop pos) = x
   cases x with
   | none =>
    have HR : Hid (runesOf s.data.toList = none) := H.out.bad (by rw [len_data]; exact hp) hx
    have H1 : Hid (validB s.data.toList = false) := by show _ = _; unfold validB; rw [HR.out]; rfl
    have H2 : Hid (countN s.data.toList = 0) := by show _ = _; unfold countN; rw [HR.out]; rfl
    have H3 : Hid ((runesOf s.data.toList).getD [] = []) := by show _ = _; rw [HR.out]; rfl
    simp only [nxV];clear hx;go_wp2_with fail
    go_ret2
    refine ⟨.slice none 0 0,?_,?_,hbel⟩
    ·rw [H1.out]; rfl
    ·rw [H2.out,H3.out]; exact World.ownsRow_nil _ _ _ _
   | some x =>
    obtain ⟨c,k⟩ := x;obtain ⟨g1,g2,g3⟩ := all_len hx (by rw [len_data]; omega);rw [len_data] at g1;have HG : Hid (Gone s.data.toList (pos + k) (acc ++ [c])) := H.out.step hx;clear hx;simp only [nxV];have hws := hbel.size
    go_wp2_with (first
     | (at_builtin; refine wpList_append_own _ rfl _ _ 97 rfl w.heap.size 21 i0 (.int .i32 0) 1 4 Try.underlying97 hi hz0 hz1 hz2 rfl (by decide) _ _ _ rfl (hown.alloc _) ⟨w1.heap.size,0,none⟩ 1 1 [.int .i32 (c : Int)] rfl rfl ?c1 ?c2 ?c3 ?c4 ?c5 ?_)
     | fail)
    case c1 =>
     intro j u hj
     match j,hj with
     | 0,hj => simp at hj; subst hj; simp [Addr.add]
    case c2 => intro u hu; simp at hu; subst hu; rfl
    case c3 => unfold maxLen; omega
    case c4 => omega
    case c5 => simp; omega
    intro v' w2 hown' hgrow _;have hb2 : Below w.heap.size w w2 := (hbel.alloc hws _).grown hgrow (by simp; omega) (fun k hk => (hown.lt k hk).1)
    have HO : Hid (w2.ownsRow w.heap.size 21 1 v' (acc ++ [c]).length (runeCells (acc ++ [c]))) := by
     have e1 : (acc ++ [c]).length = acc.length + 1 := by simp
     have e2 : runeCells (acc ++ [c]) = runeCells acc ++ [.int .i32 (c : Int)] := by simp [runeCells]
     show World.ownsRow _ _ _ _ _ _ _
     rw [e1,e2];exact hown'
    clear hown hown' hgrow;go_wp2_with fail
    go_roundw
    case rel => exact ⟨pos + k,acc ++ [c],by go_num,by omega,by simp; omega,HG,HO.out,hb2⟩
    case measure => simp [intOf]; omega
  ·have HR : Hid (runesOf s.data.toList = some acc) := H.out.done (by rw [len_data]; omega)
   have H1 : Hid (validB s.data.toList = true) := by show _ = _; unfold validB; rw [HR.out]; rfl
   have H2 : Hid (countN s.data.toList = acc.length) := by show _ = _; unfold countN; rw [HR.out]; rfl
   have H3 : Hid ((runesOf s.data.toList).getD [] = acc) := by show _ = _; rw [HR.out]; rfl
   have HO := owns_cast hown H2.out (congrArg runeCells H3.out);clear hown;go_wp2_with fail
   go_ret2
   exact ⟨_,by rw [H1.out]; rfl,HO,hbel⟩
theorem owns_form {w : World} {base e : Nat} {v : Value} {n : Nat} {xs : List Value} (h : w.ownsRow base e 1 v n xs) :
  ∃ a cap,v = .slice a n cap ∧ (0 < n → ∃ g,a = some ⟨g,0,none⟩ ∧ ∀ j,j < n → w.cell? ⟨g,j,none⟩ = xs[j]?) := by
 have h0 := h;obtain ⟨h1,h2⟩ := h
 rcases h2 with ⟨rfl,rfl⟩ | ⟨g,cap,cur,rfl,_⟩
 ·exact ⟨none,0,rfl,by omega⟩
 ·exact ⟨some ⟨g,0,none⟩,cap,rfl,fun _ => ⟨g,rfl,fun j hj => h0.cellAt j (by omega)⟩⟩
theorem rkey_any (s : ByteArray) (w : World) :
  Calls Try.prog 46 #[.string s] w fun e w' => e = .returned (.bool (keyB s)) ∧ w' = w := by
 go_enter Try.func46,Try.ntmps46
 go_wp2
 all_goals
  go_ret;refine ⟨ret_bool ?_,rfl⟩
  first | (simp [keyB, *]; done) | simp_all
theorem nameB_some (s : ByteArray) (rs : List Nat) (h : runesOf s.data.toList = some rs) : nameB s = (decide (1 ≤ rs.length ∧ rs.length ≤ 20) && !keyB s && okFrom true rs) := by
 unfold nameB countN; rw [h]; rfl
theorem okFrom_bad {acc rest : List Nat} {c : Nat} (h1 : letB c = false) (h2 : digB c = false) (b : Bool) : okFrom b (acc ++ c :: rest) = false := by
 rw [okFrom_append]; simp [okFrom,h1,h2]
theorem split_at (rs : List Nat) (k : Nat) (h : k < rs.length) : rs = rs.take k ++ rs.getD k 0 :: rs.drop (k + 1) := by
 rw [List.getD_eq_getElem?_getD,List.getElem?_eq_getElem h,Option.getD_some];exact (List.take_append_drop k rs).symm.trans (by rw [List.drop_eq_getElem_cons h])
def okTo (rs : List Nat) (k : Nat) : Prop := okFrom true (rs.take k) = true
theorem okTo_step {rs : List Nat} {k : Nat} (h : okTo rs k) (h1 : 1 ≤ k) (hk : k < rs.length) (hc : letB (rs.getD k 0) = true ∨ digB (rs.getD k 0) = true) : okTo rs (k + 1) := by
  unfold okTo at h ⊢
  have e : rs.take (k + 1) = rs.take k ++ [rs.getD k 0] := by
    rw [List.take_succ_eq_append_getElem hk, List.getD_eq_getElem?_getD, List.getElem?_eq_getElem hk, Option.getD_some]
  rw [e, okFrom_append, h]
  have e2 : (rs.take k).isEmpty = false := by
    cases e3 : rs.take k with
    | nil => have : (rs.take k).length = 0 := by rw [e3]; rfl
             rw [List.length_take] at this; omega
    | cons a r => rfl
  generalize rs.getD k 0 = c at *
  rcases hc with hc | hc <;> simp [okFrom, e2, hc]
theorem okTo_bad {rs : List Nat} {k : Nat} (hk : k < rs.length) (h1 : letB (rs.getD k 0) = false) (h2 : digB (rs.getD k 0) = false) : okFrom true rs = false := by
 rw [split_at rs k hk]; exact okFrom_bad h1 h2 _
theorem rfname_any (s : ByteArray) (w : World) (hs : s.size ≤ 20000) :
  Calls Try.prog 28 #[.string s] w fun e w' => e = .returned (.bool (nameB s)) ∧ Below w.heap.size w w' := by
 cases hr : runesOf s.data.toList with
 | none =>
  have HX : Hid (false = nameB s) := by show false = _; unfold nameB countN; rw [hr]; rfl
  have HV : Hid (validB s.data.toList = false) := by show _ = _; unfold validB; rw [hr]; rfl
  clear hr
  go_enter Try.func28,Try.ntmps28
  go_wp2_with fail;refine (rall_any s _ hs).mono ?_;rintro e w1 ⟨v,rfl,_,h1⟩;rw [HV.out];go_wp2_with fail;go_ret;exact ⟨ret_bool HX.out,h1⟩
 | some rs =>
  have HX : Hid (nameB s = (decide (1 ≤ rs.length ∧ rs.length ≤ 20) && !keyB s && okFrom true rs)) := nameB_some s rs hr
  have HV : Hid (validB s.data.toList = true) := by show _ = _; unfold validB; rw [hr]; rfl
  have HC : Hid (countN s.data.toList = rs.length) := by show _ = _; unfold countN; rw [hr]; rfl
  have HR : Hid ((runesOf s.data.toList).getD [] = rs) := by show _ = _; rw [hr]; rfl
  clear hr
  go_enter Try.func28,Try.ntmps28
  go_wp2_with fail;refine (rall_any s _ hs).mono ?_;rintro e w1 ⟨v,rfl,ho,h1⟩;rw [HV.out];rw [HC.out,HR.out] at ho;obtain ⟨a,cap,rfl,hc⟩ := owns_form ho;clear ho
  by_cases g1 : rs.length < 1
  ·have hd1 : decide ((rs.length : Int) < 1) = true := by simp; omega
   have HF : Hid (false = nameB s) := by show false = _; rw [HX.out]; simp; omega
   generalize rs.length = n at *;clear hc;go_wp2_with fail;go_ret;exact ⟨ret_bool HF.out,h1⟩
  ·have hd1 : decide ((rs.length : Int) < 1) = false := by simp; omega
   by_cases g2 : 20 < rs.length
   ·have hd2 : decide (20 < (rs.length : Int)) = true := by simp; omega
    have HF : Hid (false = nameB s) := by show false = _; rw [HX.out]; simp; omega
    clear hc;generalize rs.length = n at *;go_wp2_with fail;go_ret;exact ⟨ret_bool HF.out,h1⟩
   ·have hd2 : decide (20 < (rs.length : Int)) = false := by simp; omega
    obtain ⟨g,rfl,hcell⟩ := hc (by omega)
    have hcl : ∀ j,j < rs.length → w1.cell? ⟨g,j,none⟩ = some (.int .i32 ((rs.getD j 0 : Nat) : Int)) := fun j hj => by
     rw [hcell j hj]; simp [runeCells,List.getD_eq_getElem?_getD,List.getElem?_eq_getElem hj]
    have HCL : Hid (∀ j,j < rs.length → w1.cell? ⟨g,j,none⟩ = some (.int .i32 ((rs.getD j 0 : Nat) : Int))) := hcl;have hc0 := hcl 0 (by omega);clear hcell hcl hc;have HL : Hid (rs.length = rs.length) := rfl
    have hn1 : 1 ≤ rs.length := by omega
    have hn2 : rs.length ≤ 20 := by omega
    have H0 : Hid (letB ((rs.getD 0 0 : Nat) : Int) = true → okTo rs 1) := fun hh => by
     unfold okTo
     have : rs.take 1 = [rs.getD 0 0] := by
      match rs,hn1 with
      | c :: r,_ => rfl
     rw [this];generalize rs.getD 0 0 = c at *
     simp [okFrom,hh]
    have H0f : Hid (letB ((rs.getD 0 0 : Nat) : Int) = false → okFrom true rs = false) := fun hh => by
     match rs,hn1,hh with
     | c :: r,_,hh => simp only [List.getD_cons_zero] at hh; simp [okFrom,hh]
    have HD : Hid (okTo rs rs.length → okFrom true rs = true) := fun hh => by unfold okTo at hh; simpa using hh
    have HK : Hid (∀ k,k < rs.length → letB ((rs.getD k 0 : Nat) : Int) = false → digB ((rs.getD k 0 : Nat) : Int) = false → okFrom true rs = false) := fun k hk a b => okTo_bad hk a b
    have HS : Hid (∀ k,okTo rs k → 1 ≤ k → k < rs.length → letB ((rs.getD k 0 : Nat) : Int) = true ∨ digB ((rs.getD k 0 : Nat) : Int) = true → okTo rs (k + 1)) := fun k a b c d => okTo_step a b c d
    have HF : Hid (okFrom true rs = false → false = nameB s) := fun hh => by rw [HX.out,hh]; simp
    have HFK : Hid (keyB s = true → false = nameB s) := fun hh => by rw [HX.out,hh]; simp
    have HT : Hid (keyB s = false → okFrom true rs = true → true = nameB s) := fun a b => by rw [HX.out,a,b]; simp; omega
    generalize rs.length = n at *;clear HX HV HC HR HL;generalize hc0e : ((rs.getD 0 0 : Nat) : Int) = c0 at hc0 H0 H0f;clear hc0e;go_wp2_with fail;refine (rletter_any _ _).mono ?_;rintro e w2 ⟨rfl,rfl⟩
    cases hl0 : letB c0 with
    | false =>
     go_wp2_with fail;go_ret;exact ⟨ret_bool (HF.out (H0f.out hl0)),h1⟩
    | true =>
     have HO : Hid (okTo rs 1) := H0.out hl0;go_wp2_with fail;refine (rkey_any _ _).mono ?_;rintro e w3 ⟨rfl,rfl⟩
     cases hk : keyB s with
     | true =>
      go_wp2_with fail;go_ret;exact ⟨ret_bool (HFK.out hk),h1⟩
     | false =>
      have HKF : Hid (keyB s = false) := hk;clear hk hl0 hc0;go_wp2_with fail
      go_loop [5] (fun i => ∃ k : Nat,1 ≤ k ∧ k ≤ n ∧ i = .int .i64 k ∧ Hid (okTo rs k)) (fun i => n - (intOf i).toNat)
      case atStart => exact ⟨1,by omega,by omega,rfl,HO⟩
      case round =>
       obtain ⟨k,hk1,hk2,rfl,HOk⟩ := hrel
       by_cases hlt : k < n
       ·have hck := HCL.out k hlt;have HSk : Hid (letB ((rs.getD k 0 : Nat) : Int) = true ∨ digB ((rs.getD k 0 : Nat) : Int) = true → okTo rs (k + 1)) := HS.out k HOk.out hk1 hlt;have HKk : Hid (letB ((rs.getD k 0 : Nat) : Int) = false → digB ((rs.getD k 0 : Nat) : Int) = false → okFrom true rs = false) := HK.out k hlt;generalize hce : ((rs.getD k 0 : Nat) : Int) = c at hck HSk HKk;clear hce;go_wp2_with fail;refine (rletter_any _ _).mono ?_;rintro e w4 ⟨rfl,rfl⟩
        cases hl : letB c with
        | true =>
         go_wp2_with fail
         go_round
         case rel => exact ⟨k + 1,by omega,by omega,by go_num,HSk.out (.inl hl)⟩
         case measure => simp [intOf]; omega
        | false =>
         go_wp2_with fail;refine (rdigit_any _ _).mono ?_;rintro e w5 ⟨rfl,rfl⟩
         cases hdg : digB c with
         | true =>
          go_wp2_with fail
          go_round
          case rel => exact ⟨k + 1,by omega,by omega,by go_num,HSk.out (.inr hdg)⟩
          case measure => simp [intOf]; omega
         | false =>
          go_wp2_with fail;go_ret;exact ⟨ret_bool (HF.out (HKk.out hl hdg)),h1⟩
       ·obtain rfl : k = n := by omega
        go_wp2_with fail;go_ret;exact ⟨ret_bool (HT.out HKF.out (HD.out HOk.out)),h1⟩
end
section
open Go.ChangeShapes Go.WideShapes Go.ChangeAt Go.RowKit Go.Maps
def stRows (ns : List ByteArray) : List (List Value) := ns.map fun n => [.string n]
theorem memB_cons (x y : ByteArray) (l : List ByteArray) : memB x (y :: l) = (decide (x = y) || memB x l) := by simp [memB]
theorem rfresh_any {w : World} {v : Value} {ns : List ByteArray} (nm : ByteArray) (hs : nm.size ≤ 20000) (hr : RowG w v 1 (stRows ns)) :
  Calls Try.prog 30 #[.string nm,v] w fun e w' => e = .returned (.bool (freshB nm ns)) ∧ Below w.heap.size w w' := by
 obtain ⟨a,c,rfl,q1,q2⟩ := hr.form2
 have hN : (stRows ns).length = ns.length := by simp [stRows]
 rw [hN] at hr q1 ⊢;clear hN;obtain ⟨N,hN⟩ : ∃ N,ns.length = N := ⟨_,rfl⟩;rw [hN] at hr q1 ⊢;have HN : Hid (ns.length = N) := hN;have HR : Hid (RowG w (.slice a N c) 1 (stRows ns)) := hr;clear hN hr;obtain ⟨A,hA⟩ : ∃ A,freshB nm ns = A := ⟨_,rfl⟩;rw [hA];have HA : Hid (A = (nameB nm && !memB nm (ns.drop 0))) := hA.symm;clear hA
 go_enter Try.func30,Try.ntmps30
 go_wp2_with fail
 go_loopw [5] (fun iv wr => ∃ k : Nat,iv = .int .i64 (k : Int) ∧ k ≤ N ∧ Hid (A = (nameB nm && !memB nm (ns.drop k))) ∧ Below w.heap.size w wr) (fun iv _ => N - (intOf iv).toNat)
 case atStart => exact ⟨0,rfl,by omega,HA,Below.refl _ _⟩
 case round =>
  obtain ⟨k,rfl,hk,HAk,hbel⟩ := hrel
  by_cases hlt : k < N
  ·obtain ⟨f,hf⟩ : ∃ n,ns[k]? = some n := ⟨_,List.getElem?_eq_getElem (by rw [HN.out]; exact hlt)⟩
   have hrr : (stRows ns)[k]? = some [.string f] := by simp [stRows,hf]
   obtain ⟨g,off,rfl,c1⟩ := (HR.out.below hbel).get hrr
   have HA2 : Hid (A = (nameB nm && !(decide (nm = f) || memB nm (ns.drop (k + 1))))) := by
    show _ = _
    rw [HAk.out,drop_at hf,memB_cons]
   have p0 := c1 0 _ rfl;simp only [Nat.mul_one,Nat.add_zero] at p0;clear c1 hrr hf HAk
   by_cases he : f = nm
   ·subst he
    have HA3 : Hid (A = false) := by show _ = _; rw [HA2.out,decide_eq_true rfl]; simp
    clear HA2;go_wp2_with fail;go_ret;exact ⟨ret_bool HA3.out.symm,hbel⟩
   ·have hq := bytes_ne he
    have HA3 : Hid (A = (nameB nm && !memB nm (ns.drop (k + 1)))) := by show _ = _; rw [HA2.out,decide_eq_false (Ne.symm he)]; rfl
    go_wp2_with fail
    go_roundw
    case rel => exact ⟨k + 1,by go_num,by omega,HA3,hbel⟩
    case measure => simp [intOf]; omega
  ·have HA2 : Hid (A = nameB nm) := by show _ = _; rw [HAk.out,drop_end (by rw [HN.out]; omega),memB_nil]; simp
   clear HAk;go_wp2_with fail;refine (rfname_any nm _ hs).mono ?_;rintro e w1 ⟨rfl,hb⟩;go_wp2_with fail;go_ret;exact ⟨ret_bool HA2.out.symm,hbel.trans (hb.mono hbel.size)⟩
theorem find_mn (ms : List MsS) (t : ByteArray) : (ms.find? fun m => decide (m.name = t)).isSome = memB t (ms.map MsS.name) := by
 rw [Bool.eq_iff_iff,List.find?_isSome,memB_iff,List.mem_map]
 simp
theorem find_en (ms : List EnS) (t : ByteArray) : (ms.find? fun m => decide (m.name = t)).isSome = memB t (ms.map EnS.name) := by
 rw [Bool.eq_iff_iff,List.find?_isSome,memB_iff,List.mem_map]
 simp
theorem r7kind_any {w : World} {snm t : ByteArray} {am ae at' : Option Addr} {M cm E ce T ct : Nat} {ms : List MsS} {es : List EnS} (k : Int) (hm : MsIn w (.slice am M cm) ms) (he : EnIn w (.slice ae E ce) es) :
  Calls Try.prog 67 #[.agg #[.string snm,.slice am M cm,.slice ae E ce,.slice at' T ct],.agg #[.int .i64 k,.string t]] w fun e w' => e = .returned (.bool (typeB (ms.map MsS.name) (es.map EnS.name) k t)) ∧ Below w.heap.size w w' := by
 have HM : Hid (MsIn w (.slice am M cm) ms) := hm;have HE : Hid (EnIn w (.slice ae E ce) es) := he;clear hm he;have hb0 : Below w.heap.size w ((w.alloc (.cells #[.string snm,.slice am M cm,.slice ae E ce,.slice at' T ct] 26)).alloc (.cells #[.int .i64 k,.string t] 28)) := ((Below.refl _ _).alloc (Nat.le_refl _) _).alloc (by simp) _;obtain ⟨A,hA⟩ : ∃ A,typeB (ms.map MsS.name) (es.map EnS.name) k t = A := ⟨_,rfl⟩;rw [hA];have HA : Hid (A = typeB (ms.map MsS.name) (es.map EnS.name) k t) := hA.symm;clear hA
 by_cases hk : 1 ≤ k ∧ k ≤ 5
 ·have HA2 : Hid (A = decide (t = ⟨#[]⟩)) := by
   show _ = _
   rw [HA.out];unfold typeB;rw [decide_eq_true hk,decide_eq_false (by omega : ¬ k = 6),decide_eq_false (by omega : ¬ k = 7)]
   simp
  clear HA
  have hc : k = 1 ∨ k = 2 ∨ k = 3 ∨ k = 4 ∨ k = 5 := by omega
  clear hk
  by_cases ht : t = ⟨#[]⟩
  ·have HA3 : Hid (A = true) := by show _ = _; rw [HA2.out]; simp [ht]
   clear HA2;subst ht
   rcases hc with rfl | rfl | rfl | rfl | rfl
   all_goals
    go_enter Try.func67,Try.ntmps67
    go_wp2_with fail;go_ret;exact ⟨ret_bool HA3.out.symm,hb0⟩
  ·have HA3 : Hid (A = false) := by show _ = _; rw [HA2.out]; simp [ht]
   have hq : Hid (t.toList.isEmpty = false) := by
    show _ = _
    cases h : t.toList.isEmpty with
    | false => rfl
    | true =>
     rw [List.isEmpty_iff] at h;refine absurd ((bytes_eq_iff _ _).2 ?_) ht;rw [← ByteArray.toList_eq,h]
   clear HA2 ht
   rcases hc with rfl | rfl | rfl | rfl | rfl
   all_goals
    go_enter Try.func67,Try.ntmps67
    go_wp2_with fail;go_ret;exact ⟨ret_bool (hq.out.trans HA3.out.symm),hb0⟩
 by_cases hk6 : k = 6
 ·subst hk6
  have HA2 : Hid (A = (es.find? fun m => decide (m.name = t)).isSome) := by
   show _ = _
   rw [HA.out,find_en];unfold typeB
   simp
  clear HA hk
  go_enter Try.func67,Try.ntmps67
  go_wp2_with fail;refine (r7enum_any (HE.out.below hb0)).mono ?_;rintro e w1 ⟨vv,rfl,h1,hb⟩;obtain ⟨xa,xc,rfl,_,_⟩ := h1.form2;rw [← HA2.out];generalize ((es.find? fun m => decide (m.name = t)).getD zeroN).name = xn at *;generalize (nmRows ((es.find? fun m => decide (m.name = t)).getD zeroN).values).length = xl at *;have hb1 : Below w.heap.size w (w1.alloc (.cells #[.string xn,.slice xa xl xc] 51)) := (hb0.trans (hb.mono hb0.size)).alloc (hb0.trans (hb.mono hb0.size)).size _;clear h1 hb;go_wp2_with fail;go_ret;exact ⟨rfl,hb1⟩
 by_cases hk7 : k = 7
 ·subst hk7
  have HA2 : Hid (A = (ms.find? fun m => decide (m.name = t)).isSome) := by
   show _ = _
   rw [HA.out,find_mn];unfold typeB
   simp
  clear HA hk hk6
  go_enter Try.func67,Try.ntmps67
  go_wp2_with fail;refine (r7message_any (HM.out.below hb0)).mono ?_;rintro e w1 ⟨vf,vr,rfl,h1,h2,hb⟩;obtain ⟨xa,xc,rfl,_,_⟩ := h1.form2;obtain ⟨ya,yc,rfl,_,_⟩ := h2.form2;rw [← HA2.out];generalize ((ms.find? fun m => decide (m.name = t)).getD zeroM).name = xn at *;generalize (flRows ((ms.find? fun m => decide (m.name = t)).getD zeroM).fields).length = xl at *;generalize (inRows ((ms.find? fun m => decide (m.name = t)).getD zeroM).reserved).length = yl at *;have hb1 : Below w.heap.size w (w1.alloc (.cells #[.string xn,.slice xa xl xc,.slice ya yl yc] 40)) := (hb0.trans (hb.mono hb0.size)).alloc (hb0.trans (hb.mono hb0.size)).size _;clear h1 h2 hb;go_wp2_with fail;go_ret;exact ⟨rfl,hb1⟩
 have HA2 : Hid (A = false) := by
  show _ = _
  rw [HA.out];unfold typeB;rw [decide_eq_false hk,decide_eq_false hk6,decide_eq_false hk7]
  simp
 have k1 : (k == 1) = false := by rw [beq_eq_false_iff_ne]; omega
 have k2 : (k == 2) = false := by rw [beq_eq_false_iff_ne]; omega
 have k3 : (k == 3) = false := by rw [beq_eq_false_iff_ne]; omega
 have k4 : (k == 4) = false := by rw [beq_eq_false_iff_ne]; omega
 have k5 : (k == 5) = false := by rw [beq_eq_false_iff_ne]; omega
 have k6 : (k == 6) = false := by rw [beq_eq_false_iff_ne]; omega
 have k7 : (k == 7) = false := by rw [beq_eq_false_iff_ne]; omega
 clear HA hk hk6 hk7
 go_enter Try.func67,Try.ntmps67
 go_wp2_with fail;go_ret;exact ⟨ret_bool HA2.out.symm,hb0⟩
theorem ret_e {a b : Int} (h : a = b) : Ending.returned (.int .i64 a) = .returned (.int .i64 b) := by rw [h]
theorem infoSt : (Try.prog.info? 9).map (fun i => (i.zero,i.size,i.bytes)) = some (some (.string ⟨#[]⟩),1,16) := by kernel_rfl
theorem str_len (ns : List ByteArray) : ∀ r ∈ stRows ns,r.length = 1 := fun r hr => by simp only [stRows,List.mem_map] at hr; obtain ⟨_,_,rfl⟩ := hr; rfl
def Seen (w : World) (B : Nat) (v : Value) (al : List ByteArray) : Prop := w.ownsRow B 9 1 v al.length (stRows al).flatten
theorem Seen.nil (w : World) (B : Nat) : Seen w B (.slice none 0 0) [] := World.ownsRow_nil _ _ _ _
theorem Seen.row {w : World} {B : Nat} {v : Value} {al : List ByteArray} (h : Seen w B v al) : RowG w v 1 (stRows al) := (RowG.own (str_len al) (by decide) h).1
theorem Seen.below {w w' : World} {B : Nat} {v : Value} {al : List ByteArray} (h : Seen w B v al) (hb : Below w.heap.size w w') : Seen w' B v al := own_below h hb
theorem Seen.form {w : World} {B : Nat} {v : Value} {al : List ByteArray} (h : Seen w B v al) : ∃ a c,v = .slice a al.length c := own_form h
theorem Seen.snoc {w : World} {B : Nat} {v : Value} {al : List ByteArray} {x : ByteArray} (h : w.ownsRow B 9 1 v (al.length + 1) ((stRows al).flatten ++ [.string x])) : Seen w B v (al ++ [x]) := by
 show World.ownsRow _ _ _ _ _ _ _
 rw [show (al ++ [x]).length = al.length + 1 by simp,show (stRows (al ++ [x])).flatten = (stRows al).flatten ++ [.string x] by simp [stRows]];exact h
theorem wpList_seen {w : World} {ops : Array Oper} {rest : List Oper} {o : Oper} {a : Act} {Q : Exit → Act → World → Prop} {B : Nat} {v : Value} {al : List ByteArray} {x : ByteArray} (hgd : o.guard = none) (s y : Operand)
  (ho : o.op = .call { callee := .builtin .append,args := #[s,y],argTypes := #[76,76] }) (hs : a.eval s = v) (hy : a.eval y = .slice (some ⟨w.heap.size,0,none⟩) 1 1) (hown : Seen w B v al) (hB : B ≤ w.heap.size) (hn : al.length ≤ 100000)
  (h : ∀ v' w',Seen w' B v' (al ++ [x]) → Kp (fun k => v.ownBlock = some k) w w' → Below B w w' → wpList Try.prog ops Q rest (a.put o.dst v') w') : wpList Try.prog ops Q (o :: rest) a (w.alloc (.cells #[.string x] 9)) := by
 have hba : Below w.heap.size w (w.alloc (.cells #[.string x] 9)) := (Below.refl _ _).alloc (Nat.le_refl _) _;refine wpList_joinG hgd s y 76 9 1 16 _ ho Try.underlying76 infoSt rfl (by decide) B v al.length (stRows al).flatten hs (own_below hown hba) (.slice (some ⟨w.heap.size,0,none⟩) 1 1) [[.string x]] hy (RowG.blk (Blk.new w _ _) rfl (by simp) rfl (by omega)) (by simp) (by simp [Value.oneCell']) (by simp; omega) (by decide) (Nat.le_trans hB hba.size) ?_;intro v' w' ho' hg;refine h v' w' (Seen.snoc (by simpa using ho')) ?_ ?_
 ·exact (Kp.ofBelow hba).trans ((Kp.refl _ _).grown hg (fun k hk _ => hk))
 ·exact ((Below.refl B w).alloc hB _).grown hg (by have := hba.size; omega) (fun k hk => ((own_below hown hba).lt k hk).1)
theorem chkEb_big {e : EnS} (h : 16 < e.values.length) : chkEb e = 4 := by unfold chkEb; rw [if_pos h]
theorem rfenum_any {w : World} {vv : Value} {nm : ByteArray} {vs : List NmS} (hr : RowG w vv 2 (nmRows vs)) (hl : vs.length ≤ 30000) (hw : ∀ f ∈ vs,f.name.size ≤ 20000) :
  Calls Try.prog 49 #[.agg #[.string nm,vv]] w fun e w' => e = .returned (.int .i64 (chkEb ⟨nm,vs⟩)) ∧ Below w.heap.size w w' := by
 obtain ⟨a,c,rfl,q1,q2⟩ := hr.form2
 have hN : (nmRows vs).length = vs.length := by simp [nmRows]
 rw [hN] at q1 hr ⊢;obtain ⟨N,hN2⟩ : ∃ N,vs.length = N := ⟨_,rfl⟩;rw [hN2] at q1 hr hl ⊢;have HN : Hid (vs.length = N) := hN2;have HR : Hid (RowG w (.slice a N c) 2 (nmRows vs)) := hr;have HW : Hid (∀ f ∈ vs,f.name.size ≤ 20000) := hw;clear hr hN hN2 hw;obtain ⟨A,hA⟩ : ∃ A,chkEb ⟨nm,vs⟩ = A := ⟨_,rfl⟩;rw [hA];have HA : Hid (A = chkEb ⟨nm,vs⟩) := hA.symm;clear hA;have hba : Below w.heap.size w (w.alloc (.cells #[.string nm,.slice a N c] 51)) := (Below.refl _ _).alloc (Nat.le_refl _) _;have BX := Blk.new w #[.string nm,.slice a N c] 51
 by_cases hbig : 16 < N
 ·have HA2 : Hid (A = 4) := by show _ = _; rw [HA.out]; exact chkEb_big (by show 16 < vs.length; rw [HN.out]; exact hbig)
  go_enter Try.func49,Try.ntmps49
  go_wp2_with fail;go_ret;exact ⟨ret_e HA2.out.symm,hba⟩
 have HA1 : Hid (A = if zeroV vs = false then 12 else chkVs [] [] vs) := by
  show _ = _
  rw [HA.out]; unfold chkEb;rw [if_neg (by show ¬ 16 < vs.length; rw [HN.out]; exact hbig)]
  rfl
 clear HA
 go_enter Try.func49,Try.ntmps49
 go_wp2_with fail;generalize w.alloc (.cells #[.string nm,.slice a N c] 51) = wb at *
 go_loopw [3,4] (fun zv iv wr => ∃ (k : Nat) (z : Bool),zv = .bool z ∧ iv = .int .i64 (k : Int) ∧ k ≤ N ∧ Hid (zeroV vs = (z || zeroV (vs.drop k))) ∧ wr = wb) (fun _ iv _ => N - (intOf iv).toNat)
 case atStart => exact ⟨0,false,rfl,rfl,by omega,by show _ = _; simp,rfl⟩
 case round =>
  obtain ⟨k,z,rfl,rfl,hk,HZ,rfl⟩ := hrel;have x1 : wr.cell? ⟨w.heap.size,1,none⟩ = some (.slice a N c) := BX.cell 1
  by_cases hlt : k < N
  ·obtain ⟨f,hf⟩ : ∃ n,vs[k]? = some n := ⟨_,List.getElem?_eq_getElem (by rw [HN.out]; exact hlt)⟩
   have hrr : (nmRows vs)[k]? = some f.cells := by simp [nmRows,hf]
   obtain ⟨g,off,rfl,c1⟩ := (HR.out.below hba).get hrr;obtain ⟨f0,f1⟩ := f
   have HZ2 : Hid (zeroV vs = (z || (decide (f1 = 0) || zeroV (vs.drop (k + 1))))) := by
    show _ = _
    rw [HZ.out,drop_at hf]; rfl
   have p1 := c1 1 _ rfl;clear c1 hrr hf HZ
   cases z with
   | true =>
    have HZ3 : Hid (zeroV vs = (true || zeroV (vs.drop (k + 1)))) := by show _ = _; rw [HZ2.out]; rfl
    go_wp2_with fail
    go_roundw
    case rel => exact ⟨k + 1,true,rfl,by go_num,by omega,HZ3,trivial⟩
    case measure => simp [intOf]; omega
   | false =>
    by_cases h0 : f1 = 0
    ·subst h0
     have HZ3 : Hid (zeroV vs = (true || zeroV (vs.drop (k + 1)))) := by show _ = _; rw [HZ2.out]; rfl
     go_wp2_with fail
     go_roundw
     case rel => exact ⟨k + 1,true,rfl,by go_num,by omega,HZ3,trivial⟩
     case measure => simp [intOf]; omega
    ·have hq : (f1 == 0) = false := by rw [beq_eq_false_iff_ne]; exact h0
     have HZ3 : Hid (zeroV vs = (false || zeroV (vs.drop (k + 1)))) := by show _ = _; rw [HZ2.out,decide_eq_false h0]; rfl
     go_wp2_with fail
     go_roundw
     case rel => exact ⟨k + 1,false,rfl,by go_num,by omega,HZ3,trivial⟩
     case measure => simp [intOf]; omega
  ·have HZ2 : Hid (zeroV vs = z) := by show _ = _; rw [HZ.out,drop_end (by rw [HN.out]; omega)]; simp [zeroV]
   clear HZ
   cases z with
   | false =>
    have HA2 : Hid (A = 12) := by show _ = _; rw [HA1.out,HZ2.out]; rfl
    clear HA1 HZ2;go_wp2_with fail;go_ret;exact ⟨ret_e HA2.out.symm,hba⟩
   | true =>
    have HA2 : Hid (A = chkVs [] ((vs.take 0).map NmS.n) (vs.drop 0)) := by show _ = _; rw [HA1.out,HZ2.out]; rfl
    clear HA1 HZ2;go_wp2_with fail;clear x1;have HS0 : Hid (Seen wr w.heap.size (.slice none 0 0) []) := Seen.nil _ _
    go_loopw [5,6] (fun nv iv wr => ∃ (k : Nat) (al : List ByteArray) (sa : Option Addr) (sc : Nat),nv = .slice sa k sc ∧ iv = .int .i64 (k : Int) ∧ k ≤ N ∧ Hid (al.length = k) ∧ Hid (A = chkVs al ((vs.take k).map NmS.n) (vs.drop k)) ∧ Hid (Seen wr w.heap.size (.slice sa k sc) al) ∧ Below w.heap.size w wr ∧ Blk wr w.heap.size #[.string nm,.slice a N c] 51) (fun _ iv _ => N - (intOf iv).toNat)
    case atStart => exact ⟨0,[],none,0,rfl,rfl,by omega,rfl,HA2,HS0,hba,BX⟩
    case round =>
     clear HA2 HS0 hba BX hlt hk;obtain ⟨k,al,sa,sc,rfl,rfl,hk,HK,HAk,HSE,hbel,BX⟩ := hrel;have x1 : wr.cell? ⟨w.heap.size,1,none⟩ = some (.slice a N c) := BX.cell 1
     by_cases hlt : k < N
     ·obtain ⟨f,hf⟩ : ∃ n,vs[k]? = some n := ⟨_,List.getElem?_eq_getElem (by rw [HN.out]; exact hlt)⟩
      have hrr : (nmRows vs)[k]? = some f.cells := by simp [nmRows,hf]
      obtain ⟨g,off,rfl,c1⟩ := (HR.out.below hbel).get hrr;have hsz := HW.out _ (List.mem_of_getElem? hf);obtain ⟨f0,f1⟩ := f;simp only at hsz
      have HA3 : Hid (A = if freshB f0 al = false then 6 else if numB f1 ((vs.take k).map NmS.n) = false then 11 else chkVs (al ++ [f0]) ((vs.take k).map NmS.n ++ [f1]) (vs.drop (k + 1))) := by
       show _ = _
       rw [HAk.out,drop_at hf]; rfl
      have HT : Hid ((vs.take (k + 1)).map NmS.n = (vs.take k).map NmS.n ++ [f1]) := by
       show _ = _
       rw [List.take_add_one,hf]; simp
      have p0 := c1 0 _ rfl;have p1 := c1 1 _ rfl;simp only [Nat.add_zero] at p0 p1;have ha : Below wr.heap.size wr (wr.alloc (.cells #[.string f0,.int .i64 f1] 53)) := (Below.refl _ _).alloc (Nat.le_refl _) _;have BV := Blk.new wr #[.string f0,.int .i64 f1] 53;clear c1 hrr hf HAk;go_wp2_with fail;clear x1 p0 p1;refine (rfresh_any f0 hsz (HSE.out.below ha).row).mono ?_;rintro e w1 ⟨rfl,hb1⟩;have hbw1 : Below w.heap.size w w1 := (hbel.trans (ha.mono hbel.size)).trans (hb1.mono (hbel.trans (ha.mono hbel.size)).size);have HS1 : Hid (Seen w1 w.heap.size (.slice sa k sc) al) := (HSE.out.below ha).below hb1;have BX1 := (BX.below ha).below hb1;have BV1 := BV.below hb1;clear BV ha hb1 HSE
      cases hfr : freshB f0 al with
      | false =>
       have HA4 : Hid (A = 6) := by show _ = _; rw [HA3.out,if_pos hfr]
       clear HA3;go_wp2_with fail;go_ret;exact ⟨ret_e HA4.out.symm,hbw1⟩
      | true =>
       have HA4 : Hid (A = if numB f1 ((vs.take k).map NmS.n) = false then 11 else chkVs (al ++ [f0]) ((vs.take k).map NmS.n ++ [f1]) (vs.drop (k + 1))) := by show _ = _; rw [HA3.out,if_neg (by rw [hfr]; decide)]
       clear HA3 hfr;obtain ⟨bv,hbv⟩ : ∃ n,wr.heap.size = n := ⟨_,rfl⟩;rw [hbv] at BV1 ⊢;clear hbv hbel BX;have v0 : w1.cell? ⟨bv,0,none⟩ = some (.string f0) := BV1.cell 0
       go_wp2_with (first
        | (at_builtin; refine wpList_seen (al := al) (x := f0) rfl _ _ rfl rfl rfl HS1.out ?c1 ?c2 ?_)
        | fail)
       case c1 => exact hbw1.size
       case c2 => rw [HK.out]; omega
       intro v' w2 hS2 hK2 hB2;obtain ⟨ta,tc,rfl⟩ := hS2.form
       have hl2 : (al ++ [f0]).length = k + 1 := by rw [List.length_append,HK.out]; rfl
       rw [hl2] at hS2 ⊢;have HS2 : Hid (Seen w2 w.heap.size (.slice ta (k + 1) tc) (al ++ [f0])) := hS2;have HK2 : Hid ((al ++ [f0]).length = k + 1) := hl2;have hb2 : Below w.heap.size w w2 := hbw1.trans hB2;have BX2 := BX1.kp hK2 (fun e => absurd (own_type HS1.out e BX1) (by decide));have BV2 := BV1.kp hK2 (fun e => absurd (own_type HS1.out e BV1) (by decide));have v1 : w2.cell? ⟨bv,1,none⟩ = some (.int .i64 f1) := BV2.cell 1;clear v0 hS2 hl2 hK2 hB2 BX1 BV1 HS1 hbw1 HK
       by_cases hlo : f1 < 0
       ·have HA5 : Hid (A = 11) := by show _ = _; rw [HA4.out,if_pos (by unfold numB; rw [numR_low hlo]; rfl)]
        clear HA4;go_wp2_with fail;go_ret;exact ⟨ret_e HA5.out.symm,hb2⟩
       by_cases hhi : 2147483647 < f1
       ·have HA5 : Hid (A = 11) := by show _ = _; rw [HA4.out,if_pos (by unfold numB; rw [numR_high hhi]; rfl)]
        clear HA4;go_wp2_with fail;go_ret;exact ⟨ret_e HA5.out.symm,hb2⟩
       have HNR : Hid (numR f1 = true) := numR_in hlo hhi;go_wp2_with fail;clear v1
       go_loopw [8] (fun jv wr => ∃ j : Nat,jv = .int .i64 (j : Int) ∧ j ≤ k ∧ Hid (memI f1 ((vs.take j).map NmS.n) = false) ∧ Below w2.heap.size w2 wr) (fun jv _ => k - (intOf jv).toNat)
       case atStart => exact ⟨0,rfl,by omega,by show _ = _; simp [memI],Below.refl _ _⟩
       case round =>
        obtain ⟨j,rfl,hj,HJ,hb3⟩ := hrel;have hbw3 : Below w.heap.size w wr := hb2.trans (hb3.mono hb2.size)
        by_cases hltj : j < k
        ·obtain ⟨f',hf'⟩ : ∃ n,vs[j]? = some n := ⟨_,List.getElem?_eq_getElem (by rw [HN.out]; omega)⟩
         have hrr : (nmRows vs)[j]? = some f'.cells := by simp [nmRows,hf']
         obtain ⟨g',off',heq,c1⟩ := (HR.out.below hbw3).get hrr;simp only [Option.some.injEq,Addr.mk.injEq,and_true] at heq;obtain ⟨rfl,rfl⟩ := heq;obtain ⟨e0,e1⟩ := f'
         have HJ2 : Hid (memI f1 ((vs.take (j + 1)).map NmS.n) = (memI f1 ((vs.take j).map NmS.n) || decide (f1 = e1))) := by
          show _ = _
          rw [List.take_add_one,hf']; simp only [List.map_append,Option.toList_some,List.map_cons,List.map_nil]; exact memI_snoc _ _ _
         have HJM : Hid (e1 ∈ (vs.take k).map NmS.n) := List.mem_map.2 ⟨⟨e0,e1⟩,List.mem_of_getElem? (i := j) (by rw [List.getElem?_take_of_lt hltj]; exact hf'),rfl⟩;have p1 := c1 1 _ rfl;have x1 : wr.cell? ⟨w.heap.size,1,none⟩ = some (.slice (some ⟨g,off,none⟩) N c) := (BX2.below hb3).cell 1;have v1 : wr.cell? ⟨bv,1,none⟩ = some (.int .i64 f1) := (BV2.below hb3).cell 1;clear c1 hrr hf'
         by_cases he : e1 = f1
         ·subst he
          have HA5 : Hid (A = 11) := by show _ = _; rw [HA4.out,if_pos (by unfold numB memI; rw [decide_eq_true HJM.out]; simp)]
          clear HA4;go_wp2_with fail
          go_quiet (fail)
          go_wp2_with fail;go_ret;exact ⟨ret_e HA5.out.symm,below_drewN nq hbw3⟩
         ·have hq : (e1 == f1) = false := by rw [beq_eq_false_iff_ne]; exact he
          have HJ3 : Hid (memI f1 ((vs.take (j + 1)).map NmS.n) = false) := by show _ = _; rw [HJ2.out,HJ.out,decide_eq_false (Ne.symm he)]; rfl
          go_wp2_with fail
          go_quiet (fail)
          go_wp2_with fail
          go_roundw
          case rel => exact ⟨j + 1,by go_num,by omega,HJ3,below_drewN nq hb3⟩
          case measure => simp [intOf]; omega
        ·have hjk : j = k := by omega
         rw [hjk] at HJ
         have HA5 : Hid (A = chkVs (al ++ [f0]) ((vs.take (k + 1)).map NmS.n) (vs.drop (k + 1))) := by
          show _ = _
          rw [HA4.out,if_neg (by unfold numB; rw [HNR.out,HJ.out]; decide),HT.out]
         have HS3 : Hid (Seen wr w.heap.size (.slice ta (k + 1) tc) (al ++ [f0])) := HS2.out.below hb3;have BX3 := BX2.below hb3;clear hjk HA4 HJ BX2 BV2 HS2 hb3 hb2;go_wp2_with fail
         go_roundw
         case rel => exact ⟨k + 1,al ++ [f0],ta,tc,rfl,by go_num,by omega,HK2,HA5,HS3,hbw3,BX3⟩
         case measure => simp [intOf]; omega
     ·have HA3 : Hid (A = 0) := by show _ = _; rw [HAk.out,drop_end (by rw [HN.out]; omega)]; rfl
      clear HAk;go_wp2_with fail;go_ret;exact ⟨ret_e HA3.out.symm,hbel⟩
end
end Go.Proofs.Ytdkolhfpfimeoaa

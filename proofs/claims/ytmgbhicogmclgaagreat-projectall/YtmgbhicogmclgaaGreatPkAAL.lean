/- Part 12 of what the proof stands on. -/
import Derived.Test.YtmgbhicogmclgaaGreatPkAAK
namespace Go.Proofs.YtmgbhicogmclgaaGreat
set_option maxHeartbeats 8000000
set_option linter.unusedVariables false
set_option linter.unusedSimpArgs false
set_option maxRecDepth 20000
section
open Go.ChangeShapes Go.WideShapes Go.ChangeAt Go.RowKit
theorem own_apart {w : World} {B B' : Nat} {e e' : TypeId} {s s' : Nat} {v v' : Value} {n n' : Nat} {xs xs' : List Value} (h : w.ownsRow B e s v n xs) (h' : w.ownsRow B' e' s' v' n' xs') (hne : e ≠ e') : ∀ k,v.ownBlock = some k → ¬ v'.ownBlock = some k := by
 intro k hk hk'
 rcases h.2 with ⟨rfl,_⟩ | ⟨q,cap,cur,rfl,_,hb,_⟩
 ·cases hk
 ·rcases h'.2 with ⟨rfl,_⟩ | ⟨q',cap',cur',rfl,_,hb',_⟩
  ·cases hk'
  ·simp only [Value.ownBlock,Option.some.injEq] at hk hk';subst hk;subst hk';rw [hb] at hb';simp only [Option.some.injEq,Obj.cells.injEq] at hb';exact hne hb'.2.1
def msRows (ms : List MsS) (ps : List (Value × Value)) : List (List Value) := List.zipWith (fun m p => [.string m.name,p.1,p.2]) ms ps
def enRows (es : List EnS) (ps : List Value) : List (List Value) := List.zipWith (fun m p => [.string m.name,p]) es ps
structure MsO (w : World) (B : Nat) (v : Value) (ms : List MsS) (ps : List (Value × Value)) : Prop where
 len : ps.length = ms.length
 own : w.ownsRow B 52 3 v ms.length (msRows ms ps).flatten
 each : ∀ (i : Nat) (m : MsS) (p : Value × Value),ms[i]? = some m → ps[i]? = some p → w.ownsRow B 56 5 p.1 m.fields.length (flRows m.fields).flatten ∧ w.ownsRow B 3 1 p.2 m.reserved.length (inRows m.reserved).flatten
 apart : ∀ (i j : Nat) (p q : Value × Value) (k : Nat),ps[i]? = some p → ps[j]? = some q → p.1.ownBlock = some k → q.1.ownBlock = some k → i = j
structure EnO (w : World) (B : Nat) (v : Value) (es : List EnS) (ps : List Value) : Prop where
 len : ps.length = es.length
 own : w.ownsRow B 59 2 v es.length (enRows es ps).flatten
 each : ∀ (i : Nat) (e : EnS) (p : Value),es[i]? = some e → ps[i]? = some p → w.ownsRow B 61 2 p e.values.length (nmRows e.values).flatten
theorem MsO.nil (w : World) (B : Nat) : MsO w B (.slice none 0 0) [] [] := ⟨rfl,World.ownsRow_nil _ _ _ _,fun i m p h => by simp at h,fun i j p q k h => by simp at h⟩
theorem EnO.nil (w : World) (B : Nat) : EnO w B (.slice none 0 0) [] [] := ⟨rfl,World.ownsRow_nil _ _ _ _,fun i m p h => by simp at h⟩
theorem MsO.kp {S : Nat → Prop} {w w1 : World} {B : Nat} {v : Value} {ms : List MsS} {ps : List (Value × Value)} (h : MsO w B v ms ps) (hk : Kp S w w1) (hs : ∀ k,B ≤ k → ¬ S k) : MsO w1 B v ms ps :=
 ⟨h.len,own_kp h.own hk hs,fun i m p hm hp => ⟨own_kp (h.each i m p hm hp).1 hk hs,own_kp (h.each i m p hm hp).2 hk hs⟩,h.apart⟩
theorem EnO.kp {S : Nat → Prop} {w w1 : World} {B : Nat} {v : Value} {ms : List EnS} {ps : List Value} (h : EnO w B v ms ps) (hk : Kp S w w1) (hs : ∀ k,B ≤ k → ¬ S k) : EnO w1 B v ms ps :=
 ⟨h.len,own_kp h.own hk hs,fun i m p hm hp => own_kp (h.each i m p hm hp) hk hs⟩
theorem MsO.beside {w w1 : World} {B B' : Nat} {v u : Value} {ms : List MsS} {ps : List (Value × Value)} {e : TypeId} {s n : Nat} {xs : List Value} (h : MsO w B v ms ps) (hu : w.ownsRow B' e s u n xs) (h1 : e ≠ 52) (h2 : e ≠ 56) (h3 : e ≠ 3) (hk : Kp (fun k => u.ownBlock = some k) w w1) : MsO w1 B v ms ps :=
 ⟨h.len,own_kpV h.own hk (fun k hk hu' => own_apart hu h.own h1 k hu' hk),fun i m p hm hp => ⟨own_kpV (h.each i m p hm hp).1 hk (fun k hk hu' => own_apart hu (h.each i m p hm hp).1 h2 k hu' hk),own_kpV (h.each i m p hm hp).2 hk (fun k hk hu' => own_apart hu (h.each i m p hm hp).2 h3 k hu' hk)⟩,h.apart⟩
theorem get_snoc {α : Type} {l : List α} {x y : α} {i : Nat} (h : (l ++ [x])[i]? = some y) : (i < l.length ∧ l[i]? = some y) ∨ (i = l.length ∧ y = x) := by
 rcases Nat.lt_or_ge i l.length with hi | hi
 ·rw [List.getElem?_append_left hi] at h; exact .inl ⟨hi,h⟩
 ·rw [List.getElem?_append_right hi] at h
  have : i - l.length = 0 := by
   rcases Nat.eq_zero_or_pos (i - l.length) with e | e
   ·exact e
   ·have : [x].length ≤ i - l.length := by simp; omega
    rw [List.getElem?_eq_none this] at h; cases h
  rw [this] at h
  simp at h
  exact .inr ⟨by omega,h.symm⟩
theorem ms_snoc {ms : List MsS} {ps : List (Value × Value)} (hl : ps.length = ms.length) (m : MsS) (p : Value × Value) : (msRows (ms ++ [m]) (ps ++ [p])).flatten = (msRows ms ps).flatten ++ [.string m.name,p.1,p.2] := by
 unfold msRows;rw [List.zipWith_append hl.symm]
 simp
theorem en_snoc {ms : List EnS} {ps : List Value} (hl : ps.length = ms.length) (m : EnS) (p : Value) : (enRows (ms ++ [m]) (ps ++ [p])).flatten = (enRows ms ps).flatten ++ [.string m.name,p] := by
 unfold enRows;rw [List.zipWith_append hl.symm]
 simp
theorem MsO.snoc {w w1 : World} {B H : Nat} {v v' vf vr : Value} {ms : List MsS} {ps : List (Value × Value)} {m : MsS} (h : MsO w B v ms ps) (hH : ∀ (i : Nat) (p : Value × Value) (k : Nat),ps[i]? = some p → p.1.ownBlock = some k → k < H) (hBH : B ≤ H) (hf : w.ownsRow H 56 5 vf m.fields.length (flRows m.fields).flatten) (hr : w.ownsRow H 3 1 vr m.reserved.length (inRows m.reserved).flatten)
  (ho : w1.ownsRow B 52 3 v' (ms.length + 1) ((msRows ms ps).flatten ++ [.string m.name,vf,vr])) (hk : Kp (fun k => v.ownBlock = some k) w w1) : MsO w1 B v' (ms ++ [m]) (ps ++ [(vf,vr)]) := by
 have kf : ∀ {B' : Nat} {u : Value} {n : Nat} {xs : List Value},w.ownsRow B' 56 5 u n xs → w1.ownsRow B' 56 5 u n xs := fun hu => own_kpV hu hk (fun k hk hv => own_apart h.own hu (by decide) k hv hk)
 have kr : ∀ {B' : Nat} {u : Value} {n : Nat} {xs : List Value},w.ownsRow B' 3 1 u n xs → w1.ownsRow B' 3 1 u n xs := fun hu => own_kpV hu hk (fun k hk hv => own_apart h.own hu (by decide) k hv hk)
 refine ⟨by simp [h.len],?_,?_,?_⟩
 ·rw [ms_snoc h.len,List.length_append]; exact ho
 ·intro i m' p hm hp
  rcases get_snoc hm with ⟨hi,hm⟩ | ⟨hi,rfl⟩
  ·rcases get_snoc hp with ⟨_,hp⟩ | ⟨hi',_⟩
   ·exact ⟨kf (h.each i m' p hm hp).1,kr (h.each i m' p hm hp).2⟩
   ·have := h.len; omega
  ·rcases get_snoc hp with ⟨hi',_⟩ | ⟨_,rfl⟩
   ·have := h.len; omega
   ·exact ⟨own_base (kf hf) hBH,own_base (kr hr) hBH⟩
 ·intro i j p q k hp hq hpk hqk
  rcases get_snoc hp with ⟨hi,hp⟩ | ⟨hi,rfl⟩
  ·rcases get_snoc hq with ⟨hj,hq⟩ | ⟨hj,rfl⟩
   ·exact h.apart i j p q k hp hq hpk hqk
   ·have a1 := hH i p k hp hpk;have a2 := (hf.lt k hqk).1
    omega
  ·rcases get_snoc hq with ⟨hj,hq⟩ | ⟨hj,rfl⟩
   ·have a1 := hH j q k hq hqk;have a2 := (hf.lt k hpk).1
    omega
   ·omega
theorem EnO.snoc {w w1 : World} {B H : Nat} {v v' vv : Value} {ms : List EnS} {ps : List Value} {m : EnS} (h : EnO w B v ms ps) (hBH : B ≤ H) (hf : w.ownsRow H 61 2 vv m.values.length (nmRows m.values).flatten)
  (ho : w1.ownsRow B 59 2 v' (ms.length + 1) ((enRows ms ps).flatten ++ [.string m.name,vv])) (hk : Kp (fun k => v.ownBlock = some k) w w1) : EnO w1 B v' (ms ++ [m]) (ps ++ [vv]) := by
 have kf : ∀ {B' : Nat} {u : Value} {n : Nat} {xs : List Value},w.ownsRow B' 61 2 u n xs → w1.ownsRow B' 61 2 u n xs := fun hu => own_kpV hu hk (fun k hk hv => own_apart h.own hu (by decide) k hv hk)
 refine ⟨by simp [h.len],?_,?_⟩
 ·rw [en_snoc h.len,List.length_append]; exact ho
 ·intro i m' p hm hp
  rcases get_snoc hm with ⟨hi,hm⟩ | ⟨hi,rfl⟩
  ·rcases get_snoc hp with ⟨_,hp⟩ | ⟨hi',_⟩
   ·exact kf (h.each i m' p hm hp)
   ·have := h.len; omega
  ·rcases get_snoc hp with ⟨hi',_⟩ | ⟨_,rfl⟩
   ·have := h.len; omega
   ·exact own_base (kf hf) hBH
theorem MsO.high {w : World} {B : Nat} {v : Value} {ms : List MsS} {ps : List (Value × Value)} (h : MsO w B v ms ps) : ∀ (i : Nat) (p : Value × Value) (k : Nat),ps[i]? = some p → p.1.ownBlock = some k → k < w.heap.size := by
 intro i p k hp hk
 have hi : i < ms.length := by rw [← h.len]; exact (List.getElem?_eq_some_iff.1 hp).1
 exact ((h.each i _ p (List.getElem?_eq_getElem hi) hp).1.lt k hk).2
theorem fl_len (fs : List FlS) : ∀ r ∈ flRows fs,r.length = 5 := by intro r hr; simp only [flRows,List.mem_map] at hr; obtain ⟨f,_,rfl⟩ := hr; rfl
theorem en_len (es : List EnS) (ps : List Value) : ∀ r ∈ enRows es ps,r.length = 2 := by
 intro r hr;unfold enRows at hr;rw [List.mem_iff_getElem?] at hr;obtain ⟨i,hi⟩ := hr;rw [List.getElem?_zipWith] at hi
 split at hi <;> simp at hi
 rw [← hi]; rfl
theorem ms_len (es : List MsS) (ps : List (Value × Value)) : ∀ r ∈ msRows es ps,r.length = 3 := by
 intro r hr;unfold msRows at hr;rw [List.mem_iff_getElem?] at hr;obtain ⟨i,hi⟩ := hr;rw [List.getElem?_zipWith] at hi
 split at hi <;> simp at hi
 rw [← hi]; rfl
theorem en_get {es : List EnS} {ps : List Value} {i : Nat} {e : EnS} {p : Value} (he : es[i]? = some e) (hp : ps[i]? = some p) : (enRows es ps)[i]? = some [.string e.name,p] := by
 unfold enRows;rw [List.getElem?_zipWith,he,hp]
theorem ms_get {es : List MsS} {ps : List (Value × Value)} {i : Nat} {e : MsS} {p : Value × Value} (he : es[i]? = some e) (hp : ps[i]? = some p) : (msRows es ps)[i]? = some [.string e.name,p.1,p.2] := by
 unfold msRows;rw [List.getElem?_zipWith,he,hp]
theorem MsO.below {w w1 : World} {B : Nat} {v : Value} {ms : List MsS} {ps : List (Value × Value)} (h : MsO w B v ms ps) (hk : Below w.heap.size w w1) : MsO w1 B v ms ps :=
 ⟨h.len,own_below h.own hk,fun i m p hm hp => ⟨own_below (h.each i m p hm hp).1 hk,own_below (h.each i m p hm hp).2 hk⟩,h.apart⟩
theorem EnO.below {w w1 : World} {B : Nat} {v : Value} {ms : List EnS} {ps : List Value} (h : EnO w B v ms ps) (hk : Below w.heap.size w w1) : EnO w1 B v ms ps :=
 ⟨h.len,own_below h.own hk,fun i m p hm hp => own_below (h.each i m p hm hp) hk⟩
theorem MsO.to_in {w : World} {B : Nat} {v : Value} {ms : List MsS} {ps : List (Value × Value)} (h : MsO w B v ms ps) : MsIn w v ms := by
 obtain ⟨h1,h2⟩ := RowG.own (ms_len ms ps) (by decide) h.own;refine ⟨msRows ms ps,h1,h2.symm,fun i m hm => ?_⟩;have hi := (List.getElem?_eq_some_iff.1 hm).1;obtain ⟨p,hp⟩ : ∃ p,ps[i]? = some p := ⟨_,List.getElem?_eq_getElem (by rw [h.len]; exact hi)⟩;exact ⟨p.1,p.2,ms_get hm hp,(RowG.own (fl_len m.fields) (by decide) (h.each i m p hm hp).1).1,(RowG.own (fun r hr => by simp only [inRows,List.mem_map] at hr; obtain ⟨_,_,rfl⟩ := hr; rfl) (by decide) (h.each i m p hm hp).2).1⟩
theorem EnO.to_in {w : World} {B : Nat} {v : Value} {ms : List EnS} {ps : List Value} (h : EnO w B v ms ps) : EnIn w v ms := by
 obtain ⟨h1,h2⟩ := RowG.own (en_len ms ps) (by decide) h.own;refine ⟨enRows ms ps,h1,h2.symm,fun i m hm => ?_⟩;have hi := (List.getElem?_eq_some_iff.1 hm).1;obtain ⟨p,hp⟩ : ∃ p,ps[i]? = some p := ⟨_,List.getElem?_eq_getElem (by rw [h.len]; exact hi)⟩;exact ⟨p,en_get hm hp,(RowG.own (fun r hr => by simp only [nmRows,List.mem_map] at hr; obtain ⟨_,_,rfl⟩ := hr; rfl) (by decide) (h.each i m p hm hp)).1⟩
theorem own_type {w : World} {B : Nat} {e : TypeId} {sz : Nat} {v : Value} {n : Nat} {xs : List Value} {k : Nat} {cs : Array Value} {t : TypeId} (h : w.ownsRow B e sz v n xs) (hk : v.ownBlock = some k) (hb : Blk w k cs t) : e = t := by
 rcases h.2 with ⟨rfl,_⟩ | ⟨q,cap,cur,rfl,_,hq,_⟩
 ·cases hk
 ·simp only [Value.ownBlock,Option.some.injEq] at hk;subst hk;unfold Blk at hb;rw [hq] at hb;simp only [Option.some.injEq,Obj.cells.injEq] at hb;exact hb.2.1
theorem own_blk {w w1 : World} {B : Nat} {e : TypeId} {sz n b : Nat} {v : Value} {xs : List Value} {cs : Array Value} {t : TypeId} (h : w.ownsRow B e sz v n xs) (hb : Blk w b cs t) (ht : e ≠ t) (hk : Kp (fun k => k = b) w w1) : w1.ownsRow B e sz v n xs :=
 own_kpV h hk (fun k hv e' => by subst e'; exact ht (own_type h hv hb))
theorem MsO.base {w : World} {B B' : Nat} {v : Value} {ms : List MsS} {ps : List (Value × Value)} (h : MsO w B v ms ps) (hb : B' ≤ B) : MsO w B' v ms ps :=
 ⟨h.len,own_base h.own hb,fun i m p hm hp => ⟨own_base (h.each i m p hm hp).1 hb,own_base (h.each i m p hm hp).2 hb⟩,h.apart⟩
theorem EnO.base {w : World} {B B' : Nat} {v : Value} {ms : List EnS} {ps : List Value} (h : EnO w B v ms ps) (hb : B' ≤ B) : EnO w B' v ms ps :=
 ⟨h.len,own_base h.own hb,fun i m p hm hp => own_base (h.each i m p hm hp) hb⟩
end
section
open Go.ChangeShapes Go.WideShapes Go.ChangeAt Go.RowKit Go.Maps
theorem ret_e {a b : Int} (h : a = b) : Ending.returned (.int .i64 a) = .returned (.int .i64 b) := by rw [h]
theorem infoSt : (Tryz.prog.info? 9).map (fun i => (i.zero,i.size,i.bytes)) = some (some (.string ⟨#[]⟩),1,16) := by kernel_rfl
theorem str_len (ns : List ByteArray) : ∀ r ∈ stRows ns,r.length = 1 := fun r hr => by simp only [stRows,List.mem_map] at hr; obtain ⟨_,_,rfl⟩ := hr; rfl
def Seen (w : World) (B : Nat) (v : Value) (al : List ByteArray) : Prop := w.ownsRow B 9 1 v al.length (stRows al).flatten
theorem Seen.nil (w : World) (B : Nat) : Seen w B (.slice none 0 0) [] := World.ownsRow_nil _ _ _ _
theorem Seen.row {w : World} {B : Nat} {v : Value} {al : List ByteArray} (h : Seen w B v al) : RowG w v 1 (stRows al) := (RowG.own (str_len al) (by decide) h).1
theorem Seen.below {w w' : World} {B : Nat} {v : Value} {al : List ByteArray} (h : Seen w B v al) (hb : Below w.heap.size w w') : Seen w' B v al := own_below h hb
theorem Seen.form {w : World} {B : Nat} {v : Value} {al : List ByteArray} (h : Seen w B v al) : ∃ a c,v = .slice a al.length c := own_form h
theorem Seen.snoc {w : World} {B : Nat} {v : Value} {al : List ByteArray} {x : ByteArray} (h : w.ownsRow B 9 1 v (al.length + 1) ((stRows al).flatten ++ [.string x])) : Seen w B v (al ++ [x]) := by
 show World.ownsRow _ _ _ _ _ _ _
 rw [show (al ++ [x]).length = al.length + 1 by simp,show (stRows (al ++ [x])).flatten = (stRows al).flatten ++ [.string x] by simp [stRows]];exact h
theorem wpList_seen {w : World} {ops : Array Oper} {rest : List Oper} {o : Oper} {a : Act} {Q : Exit → Act → World → Prop} {B : Nat} {v : Value} {al : List ByteArray} {x : ByteArray} (hgd : o.guard = none) (s y : Operand)
  (ho : o.op = .call { callee := .builtin .append,args := #[s,y],argTypes := #[81,81] }) (hs : a.eval s = v) (hy : a.eval y = .slice (some ⟨w.heap.size,0,none⟩) 1 1) (hown : Seen w B v al) (hB : B ≤ w.heap.size) (hn : al.length ≤ 100000)
  (h : ∀ v' w',Seen w' B v' (al ++ [x]) → Kp (fun k => v.ownBlock = some k) w w' → Below B w w' → wpList Tryz.prog ops Q rest (a.put o.dst v') w') : wpList Tryz.prog ops Q (o :: rest) a (w.alloc (.cells #[.string x] 9)) := by
 have hba : Below w.heap.size w (w.alloc (.cells #[.string x] 9)) := (Below.refl _ _).alloc (Nat.le_refl _) _;refine wpList_joinG hgd s y 81 9 1 16 _ ho Tryz.underlying81 infoSt rfl (by decide) B v al.length (stRows al).flatten hs (own_below hown hba) (.slice (some ⟨w.heap.size,0,none⟩) 1 1) [[.string x]] hy (RowG.blk (Blk.new w _ _) rfl (by simp) rfl (by omega)) (by simp) (by simp [Value.oneCell']) (by simp; omega) (by decide) (Nat.le_trans hB hba.size) ?_;intro v' w' ho' hg;refine h v' w' (Seen.snoc (by simpa using ho')) ?_ ?_
 ·exact (Kp.ofBelow hba).trans ((Kp.refl _ _).grown hg (fun k hk _ => hk))
 ·exact ((Below.refl B w).alloc hB _).grown hg (by have := hba.size; omega) (fun k hk => ((own_below hown hba).lt k hk).1)
theorem chkEb_big {e : EnS} (h : 16 < e.values.length) : chkEb e = 4 := by unfold chkEb; rw [if_pos h]
theorem rfenum_any {w : World} {vv : Value} {nm : ByteArray} {vs : List NmS} (hr : RowG w vv 2 (nmRows vs)) (hl : vs.length ≤ 30000) (hw : ∀ f ∈ vs,f.name.size ≤ 20000) :
  Calls Tryz.prog 58 #[.agg #[.string nm,vv]] w fun e w' => e = .returned (.int .i64 (chkEb ⟨nm,vs⟩)) ∧ Below w.heap.size w w' := by
 obtain ⟨a,c,rfl,q1,q2⟩ := hr.form2
 have hN : (nmRows vs).length = vs.length := by simp [nmRows]
 rw [hN] at q1 hr ⊢;obtain ⟨N,hN2⟩ : ∃ N,vs.length = N := ⟨_,rfl⟩;rw [hN2] at q1 hr hl ⊢;have HN : Hid (vs.length = N) := hN2;have HR : Hid (RowG w (.slice a N c) 2 (nmRows vs)) := hr;have HW : Hid (∀ f ∈ vs,f.name.size ≤ 20000) := hw;clear hr hN hN2 hw;obtain ⟨A,hA⟩ : ∃ A,chkEb ⟨nm,vs⟩ = A := ⟨_,rfl⟩;rw [hA];have HA : Hid (A = chkEb ⟨nm,vs⟩) := hA.symm;clear hA;have hba : Below w.heap.size w (w.alloc (.cells #[.string nm,.slice a N c] 59)) := (Below.refl _ _).alloc (Nat.le_refl _) _;have BX := Blk.new w #[.string nm,.slice a N c] 59
 by_cases hbig : 16 < N
 ·have HA2 : Hid (A = 4) := by show _ = _; rw [HA.out]; exact chkEb_big (by show 16 < vs.length; rw [HN.out]; exact hbig)
  go_enter Tryz.func58,Tryz.ntmps58
  go_wp2_with fail;go_ret;exact ⟨ret_e HA2.out.symm,hba⟩
 have HA1 : Hid (A = if zeroV vs = false then 12 else chkVs [] [] vs) := by
  show _ = _
  rw [HA.out]; unfold chkEb;rw [if_neg (by show ¬ 16 < vs.length; rw [HN.out]; exact hbig)]
  rfl
 clear HA
 go_enter Tryz.func58,Tryz.ntmps58
 go_wp2_with fail;generalize w.alloc (.cells #[.string nm,.slice a N c] 59) = wb at *
 go_loopw [3,4] (fun zv iv wr => ∃ (k : Nat) (z : Bool),zv = .bool z ∧ iv = .int .i64 (k : Int) ∧ k ≤ N ∧ Hid (zeroV vs = (z || zeroV (vs.drop k))) ∧ wr = wb) (fun _ iv _ => N - (intOf iv).toNat)
 case atStart => exact ⟨0,false,rfl,rfl,by omega,by show _ = _; simp,rfl⟩
 case round =>
  obtain ⟨k,z,rfl,rfl,hk,HZ,rfl⟩ := hrel;have x1 : wr.cell? ⟨w.heap.size,1,none⟩ = some (.slice a N c) := BX.cell 1
  by_cases hlt : k < N
  ·obtain ⟨f,hf⟩ : ∃ n,vs[k]? = some n := ⟨_,List.getElem?_eq_getElem (by rw [HN.out]; exact hlt)⟩
   have hrr : (nmRows vs)[k]? = some f.cells := by simp [nmRows,hf]
   obtain ⟨g,off,rfl,c1⟩ := (HR.out.below hba).get hrr;obtain ⟨f0,f1⟩ := f
   have HZ2 : Hid (zeroV vs = (z || (decide (f1 = 0) || zeroV (vs.drop (k + 1))))) := by
    show _ = _
    rw [HZ.out,drop_at hf]; rfl
   have p1 := c1 1 _ rfl;clear c1 hrr hf HZ
   cases z with
   | true =>
    have HZ3 : Hid (zeroV vs = (true || zeroV (vs.drop (k + 1)))) := by show _ = _; rw [HZ2.out]; rfl
    go_wp2_with fail
    go_roundw
    case rel => exact ⟨k + 1,true,rfl,by go_num,by omega,HZ3,trivial⟩
    case measure => simp [intOf]; omega
   | false =>
    by_cases h0 : f1 = 0
    ·subst h0
     have HZ3 : Hid (zeroV vs = (true || zeroV (vs.drop (k + 1)))) := by show _ = _; rw [HZ2.out]; rfl
     go_wp2_with fail
     go_roundw
     case rel => exact ⟨k + 1,true,rfl,by go_num,by omega,HZ3,trivial⟩
     case measure => simp [intOf]; omega
    ·have hq : (f1 == 0) = false := by rw [beq_eq_false_iff_ne]; exact h0
     have HZ3 : Hid (zeroV vs = (false || zeroV (vs.drop (k + 1)))) := by show _ = _; rw [HZ2.out,decide_eq_false h0]; rfl
     go_wp2_with fail
     go_roundw
     case rel => exact ⟨k + 1,false,rfl,by go_num,by omega,HZ3,trivial⟩
     case measure => simp [intOf]; omega
  ·have HZ2 : Hid (zeroV vs = z) := by show _ = _; rw [HZ.out,drop_end (by rw [HN.out]; omega)]; simp [zeroV]
   clear HZ
   cases z with
   | false =>
    have HA2 : Hid (A = 12) := by show _ = _; rw [HA1.out,HZ2.out]; rfl
    clear HA1 HZ2;go_wp2_with fail;go_ret;exact ⟨ret_e HA2.out.symm,hba⟩
   | true =>
    have HA2 : Hid (A = chkVs [] ((vs.take 0).map NmS.n) (vs.drop 0)) := by show _ = _; rw [HA1.out,HZ2.out]; rfl
    clear HA1 HZ2;go_wp2_with fail;clear x1;have HS0 : Hid (Seen wr w.heap.size (.slice none 0 0) []) := Seen.nil _ _
    go_loopw [5,6] (fun nv iv wr => ∃ (k : Nat) (al : List ByteArray) (sa : Option Addr) (sc : Nat),nv = .slice sa k sc ∧ iv = .int .i64 (k : Int) ∧ k ≤ N ∧ Hid (al.length = k) ∧ Hid (A = chkVs al ((vs.take k).map NmS.n) (vs.drop k)) ∧ Hid (Seen wr w.heap.size (.slice sa k sc) al) ∧ Below w.heap.size w wr ∧ Blk wr w.heap.size #[.string nm,.slice a N c] 59) (fun _ iv _ => N - (intOf iv).toNat)
    case atStart => exact ⟨0,[],none,0,rfl,rfl,by omega,rfl,HA2,HS0,hba,BX⟩
    case round =>
     clear HA2 HS0 hba BX hlt hk;obtain ⟨k,al,sa,sc,rfl,rfl,hk,HK,HAk,HSE,hbel,BX⟩ := hrel;have x1 : wr.cell? ⟨w.heap.size,1,none⟩ = some (.slice a N c) := BX.cell 1
     by_cases hlt : k < N
     ·obtain ⟨f,hf⟩ : ∃ n,vs[k]? = some n := ⟨_,List.getElem?_eq_getElem (by rw [HN.out]; exact hlt)⟩
      have hrr : (nmRows vs)[k]? = some f.cells := by simp [nmRows,hf]
      obtain ⟨g,off,rfl,c1⟩ := (HR.out.below hbel).get hrr;have hsz := HW.out _ (List.mem_of_getElem? hf);obtain ⟨f0,f1⟩ := f;simp only at hsz
      have HA3 : Hid (A = if freshB f0 al = false then 6 else if numB f1 ((vs.take k).map NmS.n) = false then 11 else chkVs (al ++ [f0]) ((vs.take k).map NmS.n ++ [f1]) (vs.drop (k + 1))) := by
       show _ = _
       rw [HAk.out,drop_at hf]; rfl
      have HT : Hid ((vs.take (k + 1)).map NmS.n = (vs.take k).map NmS.n ++ [f1]) := by
       show _ = _
       rw [List.take_add_one,hf]; simp
      have p0 := c1 0 _ rfl;have p1 := c1 1 _ rfl;simp only [Nat.add_zero] at p0 p1;have ha : Below wr.heap.size wr (wr.alloc (.cells #[.string f0,.int .i64 f1] 61)) := (Below.refl _ _).alloc (Nat.le_refl _) _;have BV := Blk.new wr #[.string f0,.int .i64 f1] 61;clear c1 hrr hf HAk;go_wp2_with fail;clear x1 p0 p1;refine (rfresh_any f0 hsz (HSE.out.below ha).row).mono ?_;rintro e w1 ⟨rfl,hb1⟩;have hbw1 : Below w.heap.size w w1 := (hbel.trans (ha.mono hbel.size)).trans (hb1.mono (hbel.trans (ha.mono hbel.size)).size);have HS1 : Hid (Seen w1 w.heap.size (.slice sa k sc) al) := (HSE.out.below ha).below hb1;have BX1 := (BX.below ha).below hb1;have BV1 := BV.below hb1;clear BV ha hb1 HSE
      cases hfr : freshB f0 al with
      | false =>
       have HA4 : Hid (A = 6) := by show _ = _; rw [HA3.out,if_pos hfr]
       clear HA3;go_wp2_with fail;go_ret;exact ⟨ret_e HA4.out.symm,hbw1⟩
      | true =>
       have HA4 : Hid (A = if numB f1 ((vs.take k).map NmS.n) = false then 11 else chkVs (al ++ [f0]) ((vs.take k).map NmS.n ++ [f1]) (vs.drop (k + 1))) := by show _ = _; rw [HA3.out,if_neg (by rw [hfr]; decide)]
       clear HA3 hfr;obtain ⟨bv,hbv⟩ : ∃ n,wr.heap.size = n := ⟨_,rfl⟩;rw [hbv] at BV1 ⊢;clear hbv hbel BX;have v0 : w1.cell? ⟨bv,0,none⟩ = some (.string f0) := BV1.cell 0
       go_wp2_with (first
        | (at_builtin; refine wpList_seen (al := al) (x := f0) rfl _ _ rfl rfl rfl HS1.out ?c1 ?c2 ?_)
        | fail)
       case c1 => exact hbw1.size
       case c2 => rw [HK.out]; omega
       intro v' w2 hS2 hK2 hB2;obtain ⟨ta,tc,rfl⟩ := hS2.form
       have hl2 : (al ++ [f0]).length = k + 1 := by rw [List.length_append,HK.out]; rfl
       rw [hl2] at hS2 ⊢;have HS2 : Hid (Seen w2 w.heap.size (.slice ta (k + 1) tc) (al ++ [f0])) := hS2;have HK2 : Hid ((al ++ [f0]).length = k + 1) := hl2;have hb2 : Below w.heap.size w w2 := hbw1.trans hB2;have BX2 := BX1.kp hK2 (fun e => absurd (own_type HS1.out e BX1) (by decide));have BV2 := BV1.kp hK2 (fun e => absurd (own_type HS1.out e BV1) (by decide));have v1 : w2.cell? ⟨bv,1,none⟩ = some (.int .i64 f1) := BV2.cell 1;clear v0 hS2 hl2 hK2 hB2 BX1 BV1 HS1 hbw1 HK
       by_cases hlo : f1 < 0
       ·have HA5 : Hid (A = 11) := by show _ = _; rw [HA4.out,if_pos (by unfold numB; rw [numR_low hlo]; rfl)]
        clear HA4;go_wp2_with fail;go_ret;exact ⟨ret_e HA5.out.symm,hb2⟩
       by_cases hhi : 2147483647 < f1
       ·have HA5 : Hid (A = 11) := by show _ = _; rw [HA4.out,if_pos (by unfold numB; rw [numR_high hhi]; rfl)]
        clear HA4;go_wp2_with fail;go_ret;exact ⟨ret_e HA5.out.symm,hb2⟩
       have HNR : Hid (numR f1 = true) := numR_in hlo hhi;go_wp2_with fail;clear v1
       go_loopw [8] (fun jv wr => ∃ j : Nat,jv = .int .i64 (j : Int) ∧ j ≤ k ∧ Hid (memI f1 ((vs.take j).map NmS.n) = false) ∧ Below w2.heap.size w2 wr) (fun jv _ => k - (intOf jv).toNat)
       case atStart => exact ⟨0,rfl,by omega,by show _ = _; simp [memI],Below.refl _ _⟩
       case round =>
        obtain ⟨j,rfl,hj,HJ,hb3⟩ := hrel;have hbw3 : Below w.heap.size w wr := hb2.trans (hb3.mono hb2.size)
        by_cases hltj : j < k
        ·obtain ⟨f',hf'⟩ : ∃ n,vs[j]? = some n := ⟨_,List.getElem?_eq_getElem (by rw [HN.out]; omega)⟩
         have hrr : (nmRows vs)[j]? = some f'.cells := by simp [nmRows,hf']
         obtain ⟨g',off',heq,c1⟩ := (HR.out.below hbw3).get hrr;simp only [Option.some.injEq,Addr.mk.injEq,and_true] at heq;obtain ⟨rfl,rfl⟩ := heq;obtain ⟨e0,e1⟩ := f'
         have HJ2 : Hid (memI f1 ((vs.take (j + 1)).map NmS.n) = (memI f1 ((vs.take j).map NmS.n) || decide (f1 = e1))) := by
          show _ = _
          rw [List.take_add_one,hf']; simp only [List.map_append,Option.toList_some,List.map_cons,List.map_nil]; exact memI_snoc _ _ _
         have HJM : Hid (e1 ∈ (vs.take k).map NmS.n) := List.mem_map.2 ⟨⟨e0,e1⟩,List.mem_of_getElem? (i := j) (by rw [List.getElem?_take_of_lt hltj]; exact hf'),rfl⟩;have p1 := c1 1 _ rfl;have x1 : wr.cell? ⟨w.heap.size,1,none⟩ = some (.slice (some ⟨g,off,none⟩) N c) := (BX2.below hb3).cell 1;have v1 : wr.cell? ⟨bv,1,none⟩ = some (.int .i64 f1) := (BV2.below hb3).cell 1;clear c1 hrr hf'
         by_cases he : e1 = f1
         ·subst he
          have HA5 : Hid (A = 11) := by show _ = _; rw [HA4.out,if_pos (by unfold numB memI; rw [decide_eq_true HJM.out]; simp)]
          clear HA4;go_wp2_with fail
          go_quiet (fail)
          go_wp2_with fail;go_ret;exact ⟨ret_e HA5.out.symm,below_drewN nq hbw3⟩
         ·have hq : (e1 == f1) = false := by rw [beq_eq_false_iff_ne]; exact he
          have HJ3 : Hid (memI f1 ((vs.take (j + 1)).map NmS.n) = false) := by show _ = _; rw [HJ2.out,HJ.out,decide_eq_false (Ne.symm he)]; rfl
          go_wp2_with fail
          go_quiet (fail)
          go_wp2_with fail
          go_roundw
          case rel => exact ⟨j + 1,by go_num,by omega,HJ3,below_drewN nq hb3⟩
          case measure => simp [intOf]; omega
        ·have hjk : j = k := by omega
         rw [hjk] at HJ
         have HA5 : Hid (A = chkVs (al ++ [f0]) ((vs.take (k + 1)).map NmS.n) (vs.drop (k + 1))) := by
          show _ = _
          rw [HA4.out,if_neg (by unfold numB; rw [HNR.out,HJ.out]; decide),HT.out]
         have HS3 : Hid (Seen wr w.heap.size (.slice ta (k + 1) tc) (al ++ [f0])) := HS2.out.below hb3;have BX3 := BX2.below hb3;clear hjk HA4 HJ BX2 BV2 HS2 hb3 hb2;go_wp2_with fail
         go_roundw
         case rel => exact ⟨k + 1,al ++ [f0],ta,tc,rfl,by go_num,by omega,HK2,HA5,HS3,hbw3,BX3⟩
         case measure => simp [intOf]; omega
     ·have HA3 : Hid (A = 0) := by show _ = _; rw [HAk.out,drop_end (by rw [HN.out]; omega)]; rfl
      clear HAk;go_wp2_with fail;go_ret;exact ⟨ret_e HA3.out.symm,hbel⟩
theorem memI_cons' (x y : Int) (l : List Int) : memI x (y :: l) = (decide (x = y) || memI x l) := by simp [memI,Bool.decide_or]
theorem rreserved_any {w : World} {v : Value} {ns : List Int} {snm : ByteArray} {af : Option Addr} {F cf : Nat} (t : Int) (hr : RowG w v 1 (inRows ns)) :
  Calls Tryz.prog 93 #[.agg #[.string snm,.slice af F cf,v],.int .i64 t] w fun e w' => e = .returned (.bool (memI t ns)) ∧ Below w.heap.size w w' := by
 obtain ⟨a,c,rfl,q1,q2⟩ := hr.form2
 have hN : (inRows ns).length = ns.length := by simp [inRows]
 rw [hN] at hr q1 ⊢;clear hN;obtain ⟨N,hN⟩ : ∃ N,ns.length = N := ⟨_,rfl⟩;rw [hN] at hr q1 ⊢;have HN : Hid (ns.length = N) := hN;have HR : Hid (RowG w (.slice a N c) 1 (inRows ns)) := hr;clear hN hr;obtain ⟨A,hA⟩ : ∃ A,memI t ns = A := ⟨_,rfl⟩;rw [hA];have HA : Hid (A = memI t ns) := hA.symm;clear hA;have hb0 : Below w.heap.size w (w.alloc (.cells #[.string snm,.slice af F cf,.slice a N c] 52)) := (Below.refl _ _).alloc (Nat.le_refl _) _;have BX0 := Blk.new w #[.string snm,.slice af F cf,.slice a N c] 52
 go_enter Tryz.func93,Tryz.ntmps93
 go_wp2_with fail
 go_loopw [5] (fun iv wr => ∃ k : Nat,iv = .int .i64 (k : Int) ∧ k ≤ N ∧ Hid (A = memI t (ns.drop k)) ∧ Below w.heap.size w wr ∧ Blk wr w.heap.size #[.string snm,.slice af F cf,.slice a N c] 52) (fun iv _ => N - (intOf iv).toNat)
 case atStart => exact ⟨0,rfl,by omega,HA,hb0,BX0⟩
 case round =>
  obtain ⟨k,rfl,hk,HAk,hbel,BX⟩ := hrel;clear hb0 BX0;have b2 : wr.cell? ⟨w.heap.size,2,none⟩ = some (.slice a N c) := BX.cell 2
  by_cases hlt : k < N
  ·obtain ⟨f,hf⟩ : ∃ n,ns[k]? = some n := ⟨_,List.getElem?_eq_getElem (by rw [HN.out]; exact hlt)⟩
   have hrr : (inRows ns)[k]? = some [.int .i64 f] := by simp [inRows,hf]
   obtain ⟨g,off,rfl,c1⟩ := (HR.out.below hbel).get hrr
   have HA2 : Hid (A = (decide (t = f) || memI t (ns.drop (k + 1)))) := by
    show _ = _
    rw [HAk.out,drop_at hf,memI_cons']
   have p0 := c1 0 _ rfl;simp only [Nat.mul_one,Nat.add_zero] at p0;clear c1 hrr hf HAk
   by_cases he : t = f
   ·subst he
    have HA3 : Hid (A = true) := by show _ = _; rw [HA2.out,decide_eq_true rfl]; rfl
    clear HA2;go_wp2_with fail;go_ret;exact ⟨ret_bool HA3.out.symm,hbel⟩
   ·have hq : (f == t) = false := by simpa using Ne.symm he
    have HA3 : Hid (A = memI t (ns.drop (k + 1))) := by show _ = _; rw [HA2.out,decide_eq_false he]; rfl
    go_wp2_with fail
    go_roundw
    case rel => exact ⟨k + 1,by go_num,by omega,HA3,hbel,BX⟩
    case measure => simp [intOf]; omega
  ·go_wp2_with fail;go_ret;exact ⟨ret_bool (by rw [HAk.out,drop_end (by rw [HN.out]; omega)]; rfl),hbel⟩
end
section
theorem rg_ca3 {P : Program} {md : Region.Mode} {ops : Array Oper} {Q : Exit → Act → World → Prop} {S : World → Prop} {fuel : Nat} {listed : Array Bool} {a : Act} {w : World} {oi oj o1 o2 o3 : Oper} (i j k1 k2 k3 di dj d1 d2 d3 f : Nat) (vals : Array Value) (z : World → Value) (N : World → World) (F1 F2 F3 : Value → Value) (U : Value → Prop) (C : Value → Value → World → Prop)
  (hi : ops[i]? = some oi) (hj : ops[j]? = some oj) (h1 : ops[k1]? = some o1) (h2 : ops[k2]? = some o2) (h3 : ops[k3]? = some o3) (hdi : oi.dst = some di) (hdj : oj.dst = some dj) (hd1 : o1.dst = some d1) (hd2 : o2.dst = some d2) (hd3 : o3.dst = some d3)
  (ij : j ≠ i) (j1 : j ≠ k1) (j2 : j ≠ k2) (j3 : j ≠ k3) (dij : dj ≠ di) (dj1 : dj ≠ d1) (dj2 : dj ≠ d2) (dj3 : dj ≠ d3)
  (hr : Region.ready md ops listed = [i,j]) (hrj : Region.ready md ops (listed.setIfInBounds j true) = [i]) (hs : Region.noSelect ops = true)
  (fA1 : Region.free md ops (listed.setIfInBounds i true) k1 = true) (rA1 : (Region.ready md ops (listed.setIfInBounds i true)).contains k1 = true)
  (fA2 : Region.free md ops ((listed.setIfInBounds i true).setIfInBounds k1 true) k2 = true) (rA2 : (Region.ready md ops ((listed.setIfInBounds i true).setIfInBounds k1 true)).contains k2 = true)
  (fA3 : Region.free md ops (((listed.setIfInBounds i true).setIfInBounds k1 true).setIfInBounds k2 true) k3 = true) (rA3 : (Region.ready md ops (((listed.setIfInBounds i true).setIfInBounds k1 true).setIfInBounds k2 true)).contains k3 = true)
  (rA4 : Region.ready md ops ((((listed.setIfInBounds i true).setIfInBounds k1 true).setIfInBounds k2 true).setIfInBounds k3 true) = [j])
  (fB1 : Region.free md ops ((listed.setIfInBounds j true).setIfInBounds i true) k1 = true) (rB1 : (Region.ready md ops ((listed.setIfInBounds j true).setIfInBounds i true)).contains k1 = true)
  (fB2 : Region.free md ops (((listed.setIfInBounds j true).setIfInBounds i true).setIfInBounds k1 true) k2 = true) (rB2 : (Region.ready md ops (((listed.setIfInBounds j true).setIfInBounds i true).setIfInBounds k1 true)).contains k2 = true)
  (fB3 : Region.free md ops ((((listed.setIfInBounds j true).setIfInBounds i true).setIfInBounds k1 true).setIfInBounds k2 true) k3 = true) (rB3 : (Region.ready md ops ((((listed.setIfInBounds j true).setIfInBounds i true).setIfInBounds k1 true).setIfInBounds k2 true)).contains k3 = true)
  (hwi : ∀ t,Region.wanted oi t = true) (hwj : ∀ t,Region.wanted oj t = true) (hw1 : ∀ t,Region.wanted o1 t = true) (hw2 : ∀ t,Region.wanted o2 t = true) (hw3 : ∀ t,Region.wanted o3 t = true)
  (hQ : ∀ (d : Option Nat) v c a w,Q (.panic c) (Act.put a d v) w → Q (.panic c) a w)
  (hxj : ∀ (a' : Act) w',(execOp a'.eval oj).run P w' = .ok (.value (z w')) (N w'))
  (hxi : ∀ w',(execOp a.eval oi).run P w' = .ok (.enter f vals) w') (hxi' : ∀ v w',(execOp (a.put (some dj) v).eval oi).run P w' = .ok (.enter f vals) w')
  (x1 : ∀ v w',U v → (execOp (a.put (some di) v).eval o1).run P w' = .ok (.value (F1 v)) w') (x1' : ∀ v p w',U v → (execOp ((a.put (some dj) p).put (some di) v).eval o1).run P w' = .ok (.value (F1 v)) w')
  (x2 : ∀ v w',U v → (execOp ((a.put (some di) v).put (some d1) (F1 v)).eval o2).run P w' = .ok (.value (F2 v)) w') (x2' : ∀ v p w',U v → (execOp (((a.put (some dj) p).put (some di) v).put (some d1) (F1 v)).eval o2).run P w' = .ok (.value (F2 v)) w')
  (x3 : ∀ v w',U v → (execOp (((a.put (some di) v).put (some d1) (F1 v)).put (some d2) (F2 v)).eval o3).run P w' = .ok (.value (F3 v)) w') (x3' : ∀ v p w',U v → (execOp ((((a.put (some dj) p).put (some di) v).put (some d1) (F1 v)).put (some d2) (F2 v)).eval o3).run P w' = .ok (.value (F3 v)) w')
  (hA : Calls P f vals w fun e w' => ∃ v,e = .returned v ∧ U v ∧ S w' ∧ S (N w') ∧ C v (z w') (N w'))
  (hB : S (N w) ∧ Calls P f vals (N w) fun e w' => ∃ v,e = .returned v ∧ U v ∧ S w' ∧ C v (z w) w')
  (h : ∀ v p w',U v → S w' → C v p w' → wpAnyH P md ops Q S fuel (((((listed.setIfInBounds i true).setIfInBounds k1 true).setIfInBounds k2 true).setIfInBounds k3 true).setIfInBounds j true) { a with tmps := ((((a.tmps.setIfInBounds di v).setIfInBounds d1 (F1 v)).setIfInBounds d2 (F2 v)).setIfInBounds d3 (F3 v)).setIfInBounds dj p } w') :
  wpAnyH P md ops Q S (fuel + 5) listed a w := by
 refine wpAnyH_ready (rs := [i,j]) hr (by simp) (AllReadyH.cons hi (fun K hK => ?_) (AllReadyH.cons hj (fun K hK => ?_) AllReadyH.nil))
 ·rw [if_pos (hwi _)];unfold Oper.wp;rw [hxi];refine Calls.mono hA ?_;rintro e w1 ⟨v,rfl,u,s1,s2,c⟩;refine hK.out _ _ s1 (fun _ => ?_);rw [hdi];refine rg_take k1 d1 (F1 v) _ h1 hd1 hs fA1 rA1 (fun c a w => hQ _ _ c a w) (hw1 _) (fun w' _ => x1 v w' u) s1 rfl rfl ?_;refine rg_take k2 d2 (F2 v) _ h2 hd2 hs fA2 rA2 (fun c a w => hQ _ _ c a w) (hw2 _) (fun w' _ => x2 v w' u) s1 rfl rfl ?_;refine rg_take k3 d3 (F3 v) _ h3 hd3 hs fA3 rA3 (fun c a w => hQ _ _ c a w) (hw3 _) (fun w' _ => x3 v w' u) s1 rfl rfl ?_;exact rg_run j dj (z w1) (N w1) hj hdj rA4 (hwj _) rfl (hxj _ w1) s2 (h v (z w1) (N w1) u s2 c)
 ·rw [if_pos (hwj _)];unfold Oper.wp;rw [hxj];refine hK.out _ _ hB.1 (fun _ => ?_);rw [hdj];refine rg_call i di f vals hi hdi hrj (hwi _) rfl (fun W => hxi' (z w) W) ?_;refine Calls.mono hB.2 ?_;rintro e w1 ⟨v,rfl,u,s1,c⟩;refine ⟨v,rfl,s1,?_⟩;refine rg_take k1 d1 (F1 v) _ h1 hd1 hs fB1 rB1 (fun c a w => hQ _ _ c a w) (hw1 _) (fun w' _ => x1' v (z w) w' u) s1 rfl rfl ?_;refine rg_take k2 d2 (F2 v) _ h2 hd2 hs fB2 rB2 (fun c a w => hQ _ _ c a w) (hw2 _) (fun w' _ => x2' v (z w) w' u) s1 rfl rfl ?_;refine rg_take k3 d3 (F3 v) _ h3 hd3 hs fB3 rB3 (fun c a w => hQ _ _ c a w) (hw3 _) (fun w' _ => x3' v (z w) w' u) s1 rfl rfl ?_;have hh := h v (z w) w1 u s1 c;rw [set_comm2 _ (Ne.symm j3),set_comm2 _ (Ne.symm j2),set_comm2 _ (Ne.symm j1),set_comm2 _ (Ne.symm ij),set_comm2 _ (Ne.symm dj3),set_comm2 _ (Ne.symm dj2),set_comm2 _ (Ne.symm dj1),set_comm2 _ (Ne.symm dij)] at hh;exact hh
end
section
open Go.ChangeShapes Go.WideShapes Go.ChangeAt Go.RowKit
theorem kept_cell {w : World} {a : Addr} {u : Value} (h : w.cell? a = some u) (x : Kept w.heap.size w) : x.w.cell? a = some u := by
 rw [x.below.cell (World.block_lt_of_cell? _ _ h)]; exact h
end
end Go.Proofs.YtmgbhicogmclgaaGreat

/- Part 8 of what the proof stands on. -/
import Derived.Test.YtdkolhfpfimeoaaPkFAG
import Derived.SizedLaws
import Derived.Deep.Slices
import Derived.Deep.Strs
import Derived.Lib.SmallJoins
namespace Go.Proofs.Ytdkolhfpfimeoaa
set_option maxHeartbeats 8000000
set_option linter.unusedVariables false
set_option linter.unusedSimpArgs false
set_option maxRecDepth 20000
section
open Go.ChangeShapes Go.WideShapes Go.ChangeAt Go.RowKit
theorem ints_any {w : World} {v : Value} {fs : List Int} (hr : RowG w v 1 (inRows fs)) (hl : fs.length ≤ 100) :
  Calls Try.prog 22 #[v] w fun e w' => ∃ r,e = .returned r ∧ w'.ownsRow w.heap.size 3 1 r fs.length (inRows fs).flatten ∧ Below w.heap.size w w' := by
 have hN : (inRows fs).length = fs.length := by simp [inRows]
 have HN : Hid ((inRows fs).length = fs.length) := hN;have HR : Hid (RowG w v 1 (inRows fs)) := hr;have HL : Hid (fs.length ≤ 100) := hl;clear hr hN hl
 go_enter Try.func22,Try.ntmps22
 go_wp2_with (first
  | (at_builtin; refine wpList_joinG rfl _ _ 38 3 1 8 _ rfl Try.underlying38 infoIn rfl (by decide) w.heap.size (.slice none 0 0) 0 [] rfl (World.ownsRow_nil _ _ _ _) v (inRows fs) rfl HR.out (inr_len fs) (inr_one fs) ?c1 (by decide) (Nat.le_refl _) ?_)
  | fail)
 case c1 => have h1 := HN.out; have h2 := HL.out; omega
 intro r w1 ho hg;have hb : Below w.heap.size w w1 := (Below.refl _ _).grown hg (Nat.le_refl _) (fun k hk => by cases hk)
 have HO : Hid (w1.ownsRow w.heap.size 3 1 r fs.length (inRows fs).flatten) := by
  show World.ownsRow _ _ _ _ _ _ _
  rw [HN.out] at ho;exact ho
 clear hg ho;go_wp2_with fail;go_ret;exact ⟨_,rfl,HO.out,hb⟩
theorem own_apart {w : World} {B B' : Nat} {e e' : TypeId} {s s' : Nat} {v v' : Value} {n n' : Nat} {xs xs' : List Value} (h : w.ownsRow B e s v n xs) (h' : w.ownsRow B' e' s' v' n' xs') (hne : e ≠ e') : ∀ k,v.ownBlock = some k → ¬ v'.ownBlock = some k := by
 intro k hk hk'
 rcases h.2 with ⟨rfl,_⟩ | ⟨q,cap,cur,rfl,_,hb,_⟩
 ·cases hk
 ·rcases h'.2 with ⟨rfl,_⟩ | ⟨q',cap',cur',rfl,_,hb',_⟩
  ·cases hk'
  ·simp only [Value.ownBlock,Option.some.injEq] at hk hk';subst hk;subst hk';rw [hb] at hb';simp only [Option.some.injEq,Obj.cells.injEq] at hb';exact hne hb'.2.1
def msRows (ms : List MsS) (ps : List (Value × Value)) : List (List Value) := List.zipWith (fun m p => [.string m.name,p.1,p.2]) ms ps
def enRows (es : List EnS) (ps : List Value) : List (List Value) := List.zipWith (fun m p => [.string m.name,p]) es ps
structure MsO (w : World) (B : Nat) (v : Value) (ms : List MsS) (ps : List (Value × Value)) : Prop where
 len : ps.length = ms.length
 own : w.ownsRow B 40 3 v ms.length (msRows ms ps).flatten
 each : ∀ (i : Nat) (m : MsS) (p : Value × Value),ms[i]? = some m → ps[i]? = some p → w.ownsRow B 42 5 p.1 m.fields.length (flRows m.fields).flatten ∧ w.ownsRow B 3 1 p.2 m.reserved.length (inRows m.reserved).flatten
 apart : ∀ (i j : Nat) (p q : Value × Value) (k : Nat),ps[i]? = some p → ps[j]? = some q → p.1.ownBlock = some k → q.1.ownBlock = some k → i = j
structure EnO (w : World) (B : Nat) (v : Value) (es : List EnS) (ps : List Value) : Prop where
 len : ps.length = es.length
 own : w.ownsRow B 51 2 v es.length (enRows es ps).flatten
 each : ∀ (i : Nat) (e : EnS) (p : Value),es[i]? = some e → ps[i]? = some p → w.ownsRow B 53 2 p e.values.length (nmRows e.values).flatten
theorem MsO.nil (w : World) (B : Nat) : MsO w B (.slice none 0 0) [] [] := ⟨rfl,World.ownsRow_nil _ _ _ _,fun i m p h => by simp at h,fun i j p q k h => by simp at h⟩
theorem EnO.nil (w : World) (B : Nat) : EnO w B (.slice none 0 0) [] [] := ⟨rfl,World.ownsRow_nil _ _ _ _,fun i m p h => by simp at h⟩
theorem MsO.kp {S : Nat → Prop} {w w1 : World} {B : Nat} {v : Value} {ms : List MsS} {ps : List (Value × Value)} (h : MsO w B v ms ps) (hk : Kp S w w1) (hs : ∀ k,B ≤ k → ¬ S k) : MsO w1 B v ms ps :=
 ⟨h.len,own_kp h.own hk hs,fun i m p hm hp => ⟨own_kp (h.each i m p hm hp).1 hk hs,own_kp (h.each i m p hm hp).2 hk hs⟩,h.apart⟩
theorem EnO.kp {S : Nat → Prop} {w w1 : World} {B : Nat} {v : Value} {ms : List EnS} {ps : List Value} (h : EnO w B v ms ps) (hk : Kp S w w1) (hs : ∀ k,B ≤ k → ¬ S k) : EnO w1 B v ms ps :=
 ⟨h.len,own_kp h.own hk hs,fun i m p hm hp => own_kp (h.each i m p hm hp) hk hs⟩
theorem MsO.beside {w w1 : World} {B B' : Nat} {v u : Value} {ms : List MsS} {ps : List (Value × Value)} {e : TypeId} {s n : Nat} {xs : List Value} (h : MsO w B v ms ps) (hu : w.ownsRow B' e s u n xs) (h1 : e ≠ 40) (h2 : e ≠ 42) (h3 : e ≠ 3) (hk : Kp (fun k => u.ownBlock = some k) w w1) : MsO w1 B v ms ps :=
 ⟨h.len,own_kpV h.own hk (fun k hk hu' => own_apart hu h.own h1 k hu' hk),fun i m p hm hp => ⟨own_kpV (h.each i m p hm hp).1 hk (fun k hk hu' => own_apart hu (h.each i m p hm hp).1 h2 k hu' hk),own_kpV (h.each i m p hm hp).2 hk (fun k hk hu' => own_apart hu (h.each i m p hm hp).2 h3 k hu' hk)⟩,h.apart⟩
theorem get_snoc {α : Type} {l : List α} {x y : α} {i : Nat} (h : (l ++ [x])[i]? = some y) : (i < l.length ∧ l[i]? = some y) ∨ (i = l.length ∧ y = x) := by
 rcases Nat.lt_or_ge i l.length with hi | hi
 ·rw [List.getElem?_append_left hi] at h; exact .inl ⟨hi,h⟩
 ·rw [List.getElem?_append_right hi] at h
  have : i - l.length = 0 := by
   rcases Nat.eq_zero_or_pos (i - l.length) with e | e
   ·exact e
   ·have : [x].length ≤ i - l.length := by simp; omega
    rw [List.getElem?_eq_none this] at h; cases h
  rw [this] at h
  simp at h
  exact .inr ⟨by omega,h.symm⟩
theorem ms_snoc {ms : List MsS} {ps : List (Value × Value)} (hl : ps.length = ms.length) (m : MsS) (p : Value × Value) : (msRows (ms ++ [m]) (ps ++ [p])).flatten = (msRows ms ps).flatten ++ [.string m.name,p.1,p.2] := by
 unfold msRows;rw [List.zipWith_append hl.symm]
 simp
theorem en_snoc {ms : List EnS} {ps : List Value} (hl : ps.length = ms.length) (m : EnS) (p : Value) : (enRows (ms ++ [m]) (ps ++ [p])).flatten = (enRows ms ps).flatten ++ [.string m.name,p] := by
 unfold enRows;rw [List.zipWith_append hl.symm]
 simp
theorem MsO.snoc {w w1 : World} {B H : Nat} {v v' vf vr : Value} {ms : List MsS} {ps : List (Value × Value)} {m : MsS} (h : MsO w B v ms ps) (hH : ∀ (i : Nat) (p : Value × Value) (k : Nat),ps[i]? = some p → p.1.ownBlock = some k → k < H) (hBH : B ≤ H) (hf : w.ownsRow H 42 5 vf m.fields.length (flRows m.fields).flatten) (hr : w.ownsRow H 3 1 vr m.reserved.length (inRows m.reserved).flatten)
  (ho : w1.ownsRow B 40 3 v' (ms.length + 1) ((msRows ms ps).flatten ++ [.string m.name,vf,vr])) (hk : Kp (fun k => v.ownBlock = some k) w w1) : MsO w1 B v' (ms ++ [m]) (ps ++ [(vf,vr)]) := by
 have kf : ∀ {B' : Nat} {u : Value} {n : Nat} {xs : List Value},w.ownsRow B' 42 5 u n xs → w1.ownsRow B' 42 5 u n xs := fun hu => own_kpV hu hk (fun k hk hv => own_apart h.own hu (by decide) k hv hk)
 have kr : ∀ {B' : Nat} {u : Value} {n : Nat} {xs : List Value},w.ownsRow B' 3 1 u n xs → w1.ownsRow B' 3 1 u n xs := fun hu => own_kpV hu hk (fun k hk hv => own_apart h.own hu (by decide) k hv hk)
 refine ⟨by simp [h.len],?_,?_,?_⟩
 ·rw [ms_snoc h.len,List.length_append]; exact ho
 ·intro i m' p hm hp
  rcases get_snoc hm with ⟨hi,hm⟩ | ⟨hi,rfl⟩
  ·rcases get_snoc hp with ⟨_,hp⟩ | ⟨hi',_⟩
   ·exact ⟨kf (h.each i m' p hm hp).1,kr (h.each i m' p hm hp).2⟩
   ·have := h.len; omega
  ·rcases get_snoc hp with ⟨hi',_⟩ | ⟨_,rfl⟩
   ·have := h.len; omega
   ·exact ⟨own_base (kf hf) hBH,own_base (kr hr) hBH⟩
 ·intro i j p q k hp hq hpk hqk
  rcases get_snoc hp with ⟨hi,hp⟩ | ⟨hi,rfl⟩
  ·rcases get_snoc hq with ⟨hj,hq⟩ | ⟨hj,rfl⟩
   ·exact h.apart i j p q k hp hq hpk hqk
   ·have a1 := hH i p k hp hpk;have a2 := (hf.lt k hqk).1
    omega
  ·rcases get_snoc hq with ⟨hj,hq⟩ | ⟨hj,rfl⟩
   ·have a1 := hH j q k hq hqk;have a2 := (hf.lt k hpk).1
    omega
   ·omega
theorem EnO.snoc {w w1 : World} {B H : Nat} {v v' vv : Value} {ms : List EnS} {ps : List Value} {m : EnS} (h : EnO w B v ms ps) (hBH : B ≤ H) (hf : w.ownsRow H 53 2 vv m.values.length (nmRows m.values).flatten)
  (ho : w1.ownsRow B 51 2 v' (ms.length + 1) ((enRows ms ps).flatten ++ [.string m.name,vv])) (hk : Kp (fun k => v.ownBlock = some k) w w1) : EnO w1 B v' (ms ++ [m]) (ps ++ [vv]) := by
 have kf : ∀ {B' : Nat} {u : Value} {n : Nat} {xs : List Value},w.ownsRow B' 53 2 u n xs → w1.ownsRow B' 53 2 u n xs := fun hu => own_kpV hu hk (fun k hk hv => own_apart h.own hu (by decide) k hv hk)
 refine ⟨by simp [h.len],?_,?_⟩
 ·rw [en_snoc h.len,List.length_append]; exact ho
 ·intro i m' p hm hp
  rcases get_snoc hm with ⟨hi,hm⟩ | ⟨hi,rfl⟩
  ·rcases get_snoc hp with ⟨_,hp⟩ | ⟨hi',_⟩
   ·exact kf (h.each i m' p hm hp)
   ·have := h.len; omega
  ·rcases get_snoc hp with ⟨hi',_⟩ | ⟨_,rfl⟩
   ·have := h.len; omega
   ·exact own_base (kf hf) hBH
theorem MsO.high {w : World} {B : Nat} {v : Value} {ms : List MsS} {ps : List (Value × Value)} (h : MsO w B v ms ps) : ∀ (i : Nat) (p : Value × Value) (k : Nat),ps[i]? = some p → p.1.ownBlock = some k → k < w.heap.size := by
 intro i p k hp hk
 have hi : i < ms.length := by rw [← h.len]; exact (List.getElem?_eq_some_iff.1 hp).1
 exact ((h.each i _ p (List.getElem?_eq_getElem hi) hp).1.lt k hk).2
theorem own_at {w : World} {B e size q n cap : Nat} {rs : List (List Value)} (hl : ∀ r ∈ rs,r.length = size) (h : w.ownsRow B e size (.slice (some ⟨q,0,none⟩) n cap) n rs.flatten) {i : Nat} {c : List Value} (hc : rs[i]? = some c) {j : Nat} {u : Value} (hu : c[j]? = some u) : w.cell? ⟨q,i * size + j,none⟩ = some u := by
 have := h.cells (g := q) rfl (i * size + j) u (flat_get rs hl i c hc j u hu);rw [Addr.add_lit,Nat.zero_add] at this;exact this
theorem own_froz {w : World} {B e size q n cap : Nat} {xs : List Value} (h : w.ownsRow B e size (.slice (some ⟨q,0,none⟩) n cap) n xs) (i : Nat) : w.frozen? ⟨q,i,none⟩ = false := by
 rcases h.2 with ⟨h,_⟩ | ⟨q',cap',cur,h1,h2,h3,_⟩
 ·cases h
 ·simp only [Value.slice.injEq,Option.some.injEq,Addr.mk.injEq] at h1;obtain ⟨⟨rfl,_⟩,_⟩ := h1;exact block_froz h3 i
theorem own_addr {w : World} {B e size n : Nat} {v : Value} {xs : List Value} (h : w.ownsRow B e size v n xs) (hn : 0 < n) : ∃ q cap,v = .slice (some ⟨q,0,none⟩) n cap ∧ n ≤ cap ∧ cap ≤ maxLen ∧ B ≤ q ∧ q < w.heap.size := by
 rcases h.2 with ⟨_,h⟩ | ⟨q',cap',cur,h1,h2,h3,h4,h5,_⟩
 ·omega
 ·exact ⟨q',cap',h1,h4,h5,h2,(Array.getElem?_eq_some_iff.1 h3).1⟩
theorem own_set {w : World} {B e size q n cap : Nat} {xs : List Value} (h : w.ownsRow B e size (.slice (some ⟨q,0,none⟩) n cap) n xs) {j : Nat} (u : Value) : (w.setCell ⟨q,j,none⟩ u).ownsRow B e size (.slice (some ⟨q,0,none⟩) n cap) n (xs.set j u) := by
 refine ⟨by rw [List.length_set]; exact h.1,?_⟩
 rcases h.2 with ⟨h,_⟩ | ⟨q',cap',cur,h1,h2,h3,h4,h5,h6,h7⟩
 ·cases h
 ·simp only [Value.slice.injEq,Option.some.injEq,Addr.mk.injEq] at h1;obtain ⟨⟨rfl,_⟩,_,rfl⟩ := h1;refine .inr ⟨q,cap,cur.setIfInBounds j u,rfl,h2,block_set h3 j u,h4,h5,by simpa using h6,?_⟩;rw [Array.toList_setIfInBounds,List.take_set,h7]
theorem fl_len (fs : List FlS) : ∀ r ∈ flRows fs,r.length = 5 := by intro r hr; simp only [flRows,List.mem_map] at hr; obtain ⟨f,_,rfl⟩ := hr; rfl
theorem en_len (es : List EnS) (ps : List Value) : ∀ r ∈ enRows es ps,r.length = 2 := by
 intro r hr;unfold enRows at hr;rw [List.mem_iff_getElem?] at hr;obtain ⟨i,hi⟩ := hr;rw [List.getElem?_zipWith] at hi
 split at hi <;> simp at hi
 rw [← hi]; rfl
theorem ms_len (es : List MsS) (ps : List (Value × Value)) : ∀ r ∈ msRows es ps,r.length = 3 := by
 intro r hr;unfold msRows at hr;rw [List.mem_iff_getElem?] at hr;obtain ⟨i,hi⟩ := hr;rw [List.getElem?_zipWith] at hi
 split at hi <;> simp at hi
 rw [← hi]; rfl
theorem en_get {es : List EnS} {ps : List Value} {i : Nat} {e : EnS} {p : Value} (he : es[i]? = some e) (hp : ps[i]? = some p) : (enRows es ps)[i]? = some [.string e.name,p] := by
 unfold enRows;rw [List.getElem?_zipWith,he,hp]
theorem ms_get {es : List MsS} {ps : List (Value × Value)} {i : Nat} {e : MsS} {p : Value × Value} (he : es[i]? = some e) (hp : ps[i]? = some p) : (msRows es ps)[i]? = some [.string e.name,p.1,p.2] := by
 unfold msRows;rw [List.getElem?_zipWith,he,hp]
theorem fl_get {fs : List FlS} {i : Nat} {f : FlS} (h : fs[i]? = some f) : (flRows fs)[i]? = some f.cells := by simp [flRows,h]
theorem MsO.below {w w1 : World} {B : Nat} {v : Value} {ms : List MsS} {ps : List (Value × Value)} (h : MsO w B v ms ps) (hk : Below w.heap.size w w1) : MsO w1 B v ms ps :=
 ⟨h.len,own_below h.own hk,fun i m p hm hp => ⟨own_below (h.each i m p hm hp).1 hk,own_below (h.each i m p hm hp).2 hk⟩,h.apart⟩
theorem EnO.below {w w1 : World} {B : Nat} {v : Value} {ms : List EnS} {ps : List Value} (h : EnO w B v ms ps) (hk : Below w.heap.size w w1) : EnO w1 B v ms ps :=
 ⟨h.len,own_below h.own hk,fun i m p hm hp => own_below (h.each i m p hm hp) hk⟩
theorem MsO.to_in {w : World} {B : Nat} {v : Value} {ms : List MsS} {ps : List (Value × Value)} (h : MsO w B v ms ps) : MsIn w v ms := by
 obtain ⟨h1,h2⟩ := RowG.own (ms_len ms ps) (by decide) h.own;refine ⟨msRows ms ps,h1,h2.symm,fun i m hm => ?_⟩;have hi := (List.getElem?_eq_some_iff.1 hm).1;obtain ⟨p,hp⟩ : ∃ p,ps[i]? = some p := ⟨_,List.getElem?_eq_getElem (by rw [h.len]; exact hi)⟩;exact ⟨p.1,p.2,ms_get hm hp,(RowG.own (fl_len m.fields) (by decide) (h.each i m p hm hp).1).1,(RowG.own (fun r hr => by simp only [inRows,List.mem_map] at hr; obtain ⟨_,_,rfl⟩ := hr; rfl) (by decide) (h.each i m p hm hp).2).1⟩
theorem EnO.to_in {w : World} {B : Nat} {v : Value} {ms : List EnS} {ps : List Value} (h : EnO w B v ms ps) : EnIn w v ms := by
 obtain ⟨h1,h2⟩ := RowG.own (en_len ms ps) (by decide) h.own;refine ⟨enRows ms ps,h1,h2.symm,fun i m hm => ?_⟩;have hi := (List.getElem?_eq_some_iff.1 hm).1;obtain ⟨p,hp⟩ : ∃ p,ps[i]? = some p := ⟨_,List.getElem?_eq_getElem (by rw [h.len]; exact hi)⟩;exact ⟨p,en_get hm hp,(RowG.own (fun r hr => by simp only [nmRows,List.mem_map] at hr; obtain ⟨_,_,rfl⟩ := hr; rfl) (by decide) (h.each i m p hm hp)).1⟩
theorem own_type {w : World} {B : Nat} {e : TypeId} {sz : Nat} {v : Value} {n : Nat} {xs : List Value} {k : Nat} {cs : Array Value} {t : TypeId} (h : w.ownsRow B e sz v n xs) (hk : v.ownBlock = some k) (hb : Blk w k cs t) : e = t := by
 rcases h.2 with ⟨rfl,_⟩ | ⟨q,cap,cur,rfl,_,hq,_⟩
 ·cases hk
 ·simp only [Value.ownBlock,Option.some.injEq] at hk;subst hk;unfold Blk at hb;rw [hq] at hb;simp only [Option.some.injEq,Obj.cells.injEq] at hb;exact hb.2.1
theorem own_blk {w w1 : World} {B : Nat} {e : TypeId} {sz n b : Nat} {v : Value} {xs : List Value} {cs : Array Value} {t : TypeId} (h : w.ownsRow B e sz v n xs) (hb : Blk w b cs t) (ht : e ≠ t) (hk : Kp (fun k => k = b) w w1) : w1.ownsRow B e sz v n xs :=
 own_kpV h hk (fun k hv e' => by subst e'; exact ht (own_type h hv hb))
theorem MsO.base {w : World} {B B' : Nat} {v : Value} {ms : List MsS} {ps : List (Value × Value)} (h : MsO w B v ms ps) (hb : B' ≤ B) : MsO w B' v ms ps :=
 ⟨h.len,own_base h.own hb,fun i m p hm hp => ⟨own_base (h.each i m p hm hp).1 hb,own_base (h.each i m p hm hp).2 hb⟩,h.apart⟩
theorem EnO.base {w : World} {B B' : Nat} {v : Value} {ms : List EnS} {ps : List Value} (h : EnO w B v ms ps) (hb : B' ≤ B) : EnO w B' v ms ps :=
 ⟨h.len,own_base h.own hb,fun i m p hm hp => own_base (h.each i m p hm hp) hb⟩
def ApR (ps : List (Value × Value)) : Prop := ∀ (i j : Nat) (p q : Value × Value) (k : Nat),ps[i]? = some p → ps[j]? = some q → p.2.ownBlock = some k → q.2.ownBlock = some k → i = j
def ApE (ps : List Value) : Prop := ∀ (i j : Nat) (p q : Value) (k : Nat),ps[i]? = some p → ps[j]? = some q → p.ownBlock = some k → q.ownBlock = some k → i = j
theorem ApR.nil : ApR [] := fun i j p q k hp => by simp at hp
theorem ApE.nil : ApE [] := fun i j p q k hp => by simp at hp
theorem ApR.snoc {ps : List (Value × Value)} {vf vr : Value} {H : Nat} (h : ApR ps) (hH : ∀ (i : Nat) (p : Value × Value) (k : Nat),ps[i]? = some p → p.2.ownBlock = some k → k < H) (hr : ∀ k,vr.ownBlock = some k → H ≤ k) : ApR (ps ++ [(vf,vr)]) := by
 intro i j p q k hp hq hpk hqk
 rcases get_snoc hp with ⟨hi,hp⟩ | ⟨hi,rfl⟩
 ·rcases get_snoc hq with ⟨hj,hq⟩ | ⟨hj,rfl⟩
  ·exact h i j p q k hp hq hpk hqk
  ·have a1 := hH i p k hp hpk;have a2 := hr k hqk
   omega
 ·rcases get_snoc hq with ⟨hj,hq⟩ | ⟨hj,rfl⟩
  ·have a1 := hH j q k hq hqk;have a2 := hr k hpk
   omega
  ·omega
theorem ApE.snoc {ps : List Value} {vr : Value} {H : Nat} (h : ApE ps) (hH : ∀ (i : Nat) (p : Value) (k : Nat),ps[i]? = some p → p.ownBlock = some k → k < H) (hr : ∀ k,vr.ownBlock = some k → H ≤ k) : ApE (ps ++ [vr]) := by
 intro i j p q k hp hq hpk hqk
 rcases get_snoc hp with ⟨hi,hp1⟩ | ⟨hi,ep⟩
 ·rcases get_snoc hq with ⟨hj,hq1⟩ | ⟨hj,eq⟩
  ·exact h i j p q k hp1 hq1 hpk hqk
  ·have a1 := hH i p k hp1 hpk;rw [eq] at hqk;have a2 := hr k hqk
   omega
 ·rcases get_snoc hq with ⟨hj,hq1⟩ | ⟨hj,eq⟩
  ·have a1 := hH j q k hq1 hqk;rw [ep] at hpk;have a2 := hr k hpk
   omega
  ·omega
theorem MsO.highR {w : World} {B : Nat} {v : Value} {ms : List MsS} {ps : List (Value × Value)} (h : MsO w B v ms ps) : ∀ (i : Nat) (p : Value × Value) (k : Nat),ps[i]? = some p → p.2.ownBlock = some k → k < w.heap.size := by
 intro i p k hp hk
 have hi : i < ms.length := by rw [← h.len]; exact (List.getElem?_eq_some_iff.1 hp).1
 exact ((h.each i _ p (List.getElem?_eq_getElem hi) hp).2.lt k hk).2
theorem EnO.highE {w : World} {B : Nat} {v : Value} {ms : List EnS} {ps : List Value} (h : EnO w B v ms ps) : ∀ (i : Nat) (p : Value) (k : Nat),ps[i]? = some p → p.ownBlock = some k → k < w.heap.size := by
 intro i p k hp hk
 have hi : i < ms.length := by rw [← h.len]; exact (List.getElem?_eq_some_iff.1 hp).1
 exact ((h.each i _ p (List.getElem?_eq_getElem hi) hp).lt k hk).2
theorem schema_ap {w : World} {v : Value} {s : ScS} (hr : ScIn w v s) (hf : FewL s) :
  Calls Try.prog 12 #[v] w fun e w' => ∃ vm ve vt pm pe,e = .returned (.agg #[.string s.name,vm,ve,vt]) ∧ MsO w' w.heap.size vm s.msgs pm ∧ EnO w' w.heap.size ve s.enums pe ∧ w'.ownsRow w.heap.size 47 3 vt s.methods.length (mtRows s.methods).flatten ∧ Below w.heap.size w w' ∧ ApR pm ∧ ApE pe := by
 obtain ⟨vm0,ve0,vt0,rfl,hm,he,ht⟩ := hr;obtain ⟨am,cm,rfl,qm1,qm2⟩ := hm.form2;obtain ⟨ae,ce,rfl,qe1,qe2⟩ := he.form2;obtain ⟨at',ct,rfl,qt1,qt2⟩ := ht.form2
 have hT : (mtRows s.methods).length = s.methods.length := by simp [mtRows]
 rw [hT] at ht qt1 ⊢;clear hT;have HM : Hid (MsIn w (.slice am s.msgs.length cm) s.msgs) := hm;have HE : Hid (EnIn w (.slice ae s.enums.length ce) s.enums) := he;have HT : Hid (RowG w (.slice at' s.methods.length ct) 3 (mtRows s.methods)) := ht;have HF : Hid (FewL s) := hf;have h1 := hf.msgs;have h2 := hf.enums;have h3 := hf.meths;obtain ⟨nm,ms,es,ts⟩ := s;simp only at *;have HM : Hid (MsIn w (.slice am ms.length cm) ms) := HM;have HE : Hid (EnIn w (.slice ae es.length ce) es) := HE;have HT : Hid (RowG w (.slice at' ts.length ct) 3 (mtRows ts)) := HT;obtain ⟨M,hM⟩ : ∃ N,ms.length = N := ⟨_,rfl⟩;obtain ⟨E,hE⟩ : ∃ N,es.length = N := ⟨_,rfl⟩;obtain ⟨T,hT⟩ : ∃ N,ts.length = N := ⟨_,rfl⟩;rw [hM] at HM qm1 h1 ⊢;rw [hE] at HE qe1 h2 ⊢;rw [hT] at HT qt1 h3 ⊢;have HNM : Hid (ms.length = M) := hM;have HNE : Hid (es.length = E) := hE;have HNT : Hid (ts.length = T) := hT
 have HNR : Hid ((mtRows ts).length = T) := by show _ = _; simp [mtRows,hT]
 clear hM hE hT hf hm he ht
 go_enter Try.func12,Try.ntmps12
 go_wp2_with fail;refine M_region (T := fun W => W.cell? ⟨w.heap.size,0,none⟩ = some (.string nm) ∧ W.cell? ⟨w.heap.size,3,none⟩ = some (.slice at' T ct)) (m := 7) (by kernel_rfl) ?_;have HB0 : Hid (Below w.heap.size w ((w.alloc (.cells #[.string nm,.slice am M cm,.slice ae E ce,.slice at' T ct] 26)).alloc (.cells #[.string ⟨#[]⟩,.slice none 0 0,.slice none 0 0,.slice none 0 0] 26)).drew) := below_drewN 1 (((Below.refl _ _).alloc (Nat.le_refl _) _).alloc (by simp) _);have HX0 : Hid (Blk ((w.alloc (.cells #[.string nm,.slice am M cm,.slice ae E ce,.slice at' T ct] 26)).alloc (.cells #[.string ⟨#[]⟩,.slice none 0 0,.slice none 0 0,.slice none 0 0] 26)).drew w.heap.size #[.string nm,.slice am M cm,.slice ae E ce,.slice at' T ct] 26) := (Blk.new w _ _).below (below_drewN 1 ((Below.refl _ _).alloc (Nat.le_refl _) _))
 have HR0 : Hid (Blk ((w.alloc (.cells #[.string nm,.slice am M cm,.slice ae E ce,.slice at' T ct] 26)).alloc (.cells #[.string ⟨#[]⟩,.slice none 0 0,.slice none 0 0,.slice none 0 0] 26)).drew (w.heap.size + 1) #[.string ⟨#[]⟩,.slice none 0 0,.slice none 0 0,.slice none 0 0] 26) := by
  have := Blk.new (w.alloc (.cells #[.string nm,.slice am M cm,.slice ae E ce,.slice at' T ct] 26)) #[.string ⟨#[]⟩,.slice none 0 0,.slice none 0 0,.slice none 0 0] 26;rw [show (w.alloc (.cells #[.string nm,.slice am M cm,.slice ae E ce,.slice at' T ct] 26)).heap.size = w.heap.size + 1 by simp] at this;exact this
 have HS0 : Hid (((w.alloc (.cells #[.string nm,.slice am M cm,.slice ae E ce,.slice at' T ct] 26)).alloc (.cells #[.string ⟨#[]⟩,.slice none 0 0,.slice none 0 0,.slice none 0 0] 26)).drew.heap.size = w.heap.size + 2) := by show _ = _; simp [World.drew]
 generalize ((w.alloc (.cells #[.string nm,.slice am M cm,.slice ae E ce,.slice at' T ct] 26)).alloc (.cells #[.string ⟨#[]⟩,.slice none 0 0,.slice none 0 0,.slice none 0 0] 26)).drew = W0 at *;have hT : W0.cell? ⟨w.heap.size,0,none⟩ = some (.string nm) ∧ W0.cell? ⟨w.heap.size,3,none⟩ = some (.slice at' T ct) := ⟨HX0.out.cell 0,HX0.out.cell 3⟩;obtain ⟨b0,hb0⟩ : ∃ n,w.heap.size = n := ⟨_,rfl⟩;rw [hb0] at HX0 HR0 HS0 hT ⊢;have HBZ : Hid (w.heap.size = b0) := hb0;clear hb0;refine M_take 0 7 (.pointer (some ⟨b0,0,none⟩)) _ rfl rfl (by kernel_rfl) (by kernel_rfl) (by kernel_rfl) (by kernel_rfl) (by kernel_rfl) (fun _ _ _ h => h) (by rfl) (fun w' hw' => ?_) hT (listed' := bts 8 1) (by kernel_rfl) rfl ?_
 ·obtain ⟨g0,g3⟩ := hw'; go_simp
 simp only [zsA,zsZ,zsS];refine M_take 2 9 (.pointer (some ⟨b0,3,none⟩)) _ rfl rfl (by kernel_rfl) (by kernel_rfl) (by kernel_rfl) (by kernel_rfl) (by kernel_rfl) (fun _ _ _ h => h) (by rfl) (fun w' hw' => ?_) hT (listed' := bts 8 5) (by kernel_rfl) rfl ?_
 ·obtain ⟨g0,g3⟩ := hw'; go_simp
 simp only [zsA,zsZ,zsS];refine M_take 1 8 (.string nm) _ rfl rfl (by kernel_rfl) (by kernel_rfl) (by kernel_rfl) (by kernel_rfl) (by kernel_rfl) (fun _ _ _ h => h) (by rfl) (fun w' hw' => ?_) hT (listed' := bts 8 7) (by kernel_rfl) rfl ?_
 ·obtain ⟨g0,g3⟩ := hw'; go_simp
 simp only [zsA,zsZ,zsS];refine M_take 3 10 (.slice at' T ct) _ rfl rfl (by kernel_rfl) (by kernel_rfl) (by kernel_rfl) (by kernel_rfl) (by kernel_rfl) (fun _ _ _ h => h) (by rfl) (fun w' hw' => ?_) hT (listed' := bts 8 15) (by kernel_rfl) rfl ?_
 ·obtain ⟨g0,g3⟩ := hw'; go_simp
 simp only [zsA,zsZ,zsS]
 have HAPP : Hid (∀ W : World,Below W0.heap.size W0 W → ∃ u W1,(Builtin.append_ #[24,24] 24 #[.slice none 0 0,.slice at' T ct]).run Try.prog W = .ok u W1 ∧ (∃ a c,u = .slice a T c) ∧ W1.ownsRow (b0 + 2) 47 3 u T (mtRows ts).flatten ∧ Below W.heap.size W W1) := fun W hW => by
  obtain ⟨u,W1,r1,r2,r3⟩ := run_joinG (w := W) 24 24 47 3 48 _ Try.underlying24 infoMt rfl (by decide) (b0 + 2) (.slice none 0 0) 0 [] (World.ownsRow_nil _ _ _ _) (.slice at' T ct) (mtRows ts) (HT.out.below (HB0.out.trans (hW.mono HB0.out.size))) (mtr_len ts) (mtr_one ts) (by have := HNR.out; omega) (by decide) (by have := hW.size; have := HS0.out; omega);rw [List.nil_append,HNR.out,Nat.zero_add] at r2;exact ⟨u,W1,r1,own_form r2,r2,(Below.refl _ _).grown r3 (Nat.le_refl _) (fun k hk => by cases hk)⟩
 have hTb : ∀ W,Below W0.heap.size W0 W → W.cell? ⟨b0,0,none⟩ = some (.string nm) ∧ W.cell? ⟨b0,3,none⟩ = some (.slice at' T ct) := fun W hW => ⟨(HX0.out.below hW).cell 0,(HX0.out.below hW).cell 3⟩
 have hAl : ∀ W : World,Below W.heap.size W (W.alloc (.cells #[.string ⟨#[]⟩,.slice none 0 0,.slice none 0 0,.slice none 0 0] 26)) := fun W => (Below.refl _ _).alloc (Nat.le_refl _) _
 refine M_aa 4 6 5 11 3 12 (fun W => .pointer (some ⟨W.heap.size,0,none⟩)) (fun W => W.alloc (.cells #[.string ⟨#[]⟩,.slice none 0 0,.slice none 0 0,.slice none 0 0] 26)) (fun u => .agg #[.string nm,.slice none 0 0,.slice none 0 0,u]) (fun u => ∃ a c,u = .slice a T c)
  (fun u p W => ∃ bt,p = .pointer (some ⟨bt,0,none⟩) ∧ b0 + 2 ≤ bt ∧ Blk W bt #[.string ⟨#[]⟩,.slice none 0 0,.slice none 0 0,.slice none 0 0] 26 ∧ W.ownsRow (b0 + 2) 47 3 u T (mtRows ts).flatten ∧ Below W0.heap.size W0 W)
  rfl rfl rfl rfl rfl rfl (by decide) (by decide) (by decide) (by decide) (by kernel_rfl) (by kernel_rfl) (by kernel_rfl) (by kernel_rfl) (by kernel_rfl) (fun _ => rfl) (fun _ => rfl) (fun _ => rfl) (by kernel_rfl) (by kernel_rfl) (by kernel_rfl) (by kernel_rfl) (fun _ _ _ _ h => h) ?x2 ?hA ?hB ?xk ?xk' ?_
 case x2 => intro a' W'; go_simp
 case hA =>
  obtain ⟨u,W1,r1,r2,r3,r4⟩ := HAPP.out W0 (Below.refl _ _);have r5 : Below W0.heap.size W0 (W1.alloc (.cells #[.string ⟨#[]⟩,.slice none 0 0,.slice none 0 0,.slice none 0 0] 26)) := r4.trans ((hAl W1).mono r4.size);exact ⟨u,W1,append_run rfl rfl rfl r1,r2,hTb W1 r4,hTb _ r5,W1.heap.size,rfl,by have := r4.size; have := HS0.out; omega,Blk.new W1 _ _,own_below r3 (hAl W1),r5⟩
 case hB =>
  refine ⟨hTb _ (hAl W0),?_⟩;obtain ⟨u,W1,r1,r2,r3,r4⟩ := HAPP.out _ (hAl W0);have r5 : Below W0.heap.size W0 W1 := (hAl W0).trans (r4.mono (hAl W0).size);exact ⟨u,W1,append_run rfl rfl rfl r1,r2,hTb W1 r5,W0.heap.size,rfl,by have := HS0.out; omega,(Blk.new W0 _ _).below r4,r3,r5⟩
 case xk => rintro u W' ⟨a,c,rfl⟩; go_simp
 case xk' => rintro u v W' ⟨a,c,rfl⟩; go_simp
 rintro u p W1 ⟨ua,uc,rfl⟩ _ ⟨bt,rfl,hbt,BT,ho,hbel⟩;simp only [zsA,zsZ,zsS];have HO : Hid (W1.ownsRow (b0 + 2) 47 3 (.slice ua T uc) T (mtRows ts).flatten) := ho;have HX1 := HX0.out.below hbel;have HR1 := HR0.out.below hbel;have hbw : Below w.heap.size w W1 := HB0.out.trans (hbel.mono HB0.out.size);have t0 := (BT.cell 0).trans rfl;have t1 := (BT.cell 1).trans rfl;have t2 := (BT.cell 2).trans rfl;have t3 := (BT.cell 3).trans rfl;have z0 := BT.froz 0;have z1 := BT.froz 1;have z2 := BT.froz 2;have z3 := BT.froz 3;refine M_store 7 ((((W1.setCell ⟨bt,0,none⟩ (.string nm)).setCell ⟨bt,1,none⟩ (.slice none 0 0)).setCell ⟨bt,2,none⟩ (.slice none 0 0)).setCell ⟨bt,3,none⟩ (.slice ua T uc)) rfl rfl (by kernel_rfl) (by rfl) (listed' := bts 8 255) (by kernel_rfl) (by go_simp) (by kernel_rfl) ?_;refine M_done (by kernel_rfl) ?_ _
 have KS : Kp (fun k => k = bt) W1 ((((W1.setCell ⟨bt,0,none⟩ (.string nm)).setCell ⟨bt,1,none⟩ (.slice none 0 0)).setCell ⟨bt,2,none⟩ (.slice none 0 0)).setCell ⟨bt,3,none⟩ (.slice ua T uc)) := by
  refine Kp.setCell ?_ (fun _ => by simp) _;refine Kp.setCell ?_ (fun _ => by simp) _;refine Kp.setCell ?_ (fun _ => by simp) _;refine Kp.setCell ?_ (fun _ => by simp) _;exact Kp.refl _ _
 have BA : Blk (W1.setCell ⟨bt,0,none⟩ (.string nm)) bt #[.string nm,.slice none 0 0,.slice none 0 0,.slice none 0 0] 26 := BT.set 0 (.string nm) rfl;have BB : Blk ((W1.setCell ⟨bt,0,none⟩ (.string nm)).setCell ⟨bt,1,none⟩ (.slice none 0 0)) bt #[.string nm,.slice none 0 0,.slice none 0 0,.slice none 0 0] 26 := BA.set 1 (.slice none 0 0) rfl;have BC : Blk (((W1.setCell ⟨bt,0,none⟩ (.string nm)).setCell ⟨bt,1,none⟩ (.slice none 0 0)).setCell ⟨bt,2,none⟩ (.slice none 0 0)) bt #[.string nm,.slice none 0 0,.slice none 0 0,.slice none 0 0] 26 := BB.set 2 (.slice none 0 0) rfl;have BT2 : Blk ((((W1.setCell ⟨bt,0,none⟩ (.string nm)).setCell ⟨bt,1,none⟩ (.slice none 0 0)).setCell ⟨bt,2,none⟩ (.slice none 0 0)).setCell ⟨bt,3,none⟩ (.slice ua T uc)) bt #[.string nm,.slice none 0 0,.slice none 0 0,.slice ua T uc] 26 := BC.set 3 (.slice ua T uc) rfl;clear BA BB BC;have HO2 : Hid (((((W1.setCell ⟨bt,0,none⟩ (.string nm)).setCell ⟨bt,1,none⟩ (.slice none 0 0)).setCell ⟨bt,2,none⟩ (.slice none 0 0)).setCell ⟨bt,3,none⟩ (.slice ua T uc)).ownsRow (b0 + 2) 47 3 (.slice ua T uc) T (mtRows ts).flatten) := own_blk HO.out BT (by decide) KS;have BX2 := HX1.kp KS (by omega);have BR2 := HR1.kp KS (by omega);have hb2 : Below w.heap.size w ((((W1.setCell ⟨bt,0,none⟩ (.string nm)).setCell ⟨bt,1,none⟩ (.slice none 0 0)).setCell ⟨bt,2,none⟩ (.slice none 0 0)).setCell ⟨bt,3,none⟩ (.slice ua T uc)) := hbw.trans (KS.toBelow hbw.size (fun k e => by have := HBZ.out; omega));generalize ((((W1.setCell ⟨bt,0,none⟩ (.string nm)).setCell ⟨bt,1,none⟩ (.slice none 0 0)).setCell ⟨bt,2,none⟩ (.slice none 0 0)).setCell ⟨bt,3,none⟩ (.slice ua T uc)) = W2 at *;have hbt2 : bt < W2.heap.size := BT2.lt;clear t0 t1 t2 t3 z0 z1 z2 z3 KS HO HX1 HR1 hbw BT ho hbel hT hTb HAPP HB0 HX0 HR0 HS0 hAl;have HMS0 : Hid (MsO W2 (bt + 1) (.slice none 0 0) (ms.take 0) []) := MsO.nil W2 (bt + 1);go_wp2_with fail
 go_loopw [4] (fun iv wr => ∃ (k : Nat) (va : Option Addr) (vc : Nat) (pm : List (Value × Value)),iv = .int .i64 (k : Int) ∧ k ≤ M ∧ Hid (MsO wr (bt + 1) (.slice va k vc) (ms.take k) pm) ∧ Hid (ApR pm) ∧ Blk wr bt #[.string nm,.slice va k vc,.slice none 0 0,.slice ua T uc] 26 ∧ Hid (wr.ownsRow (b0 + 2) 47 3 (.slice ua T uc) T (mtRows ts).flatten) ∧ Blk wr b0 #[.string nm,.slice am M cm,.slice ae E ce,.slice at' T ct] 26 ∧ Blk wr (b0 + 1) #[.string ⟨#[]⟩,.slice none 0 0,.slice none 0 0,.slice none 0 0] 26 ∧ Below w.heap.size w wr) (fun iv _ => M - (intOf iv).toNat)
 case atStart => exact ⟨0,none,0,[],rfl,by omega,HMS0,ApR.nil,BT2,HO2,BX2,BR2,hb2⟩
 case round =>
  obtain ⟨k,va,vc,pm,rfl,hk,HMS,HAR,BT,HO,BX,BR,hbel⟩ := hrel;clear HMS0 BT2 HO2 BX2 BR2 hb2 hbt2;have hbtw : bt < wr.heap.size := BT.lt;have x1 : wr.cell? ⟨b0,1,none⟩ = some (.slice am M cm) := BX.cell 1
  by_cases hlt : k < M
  ·obtain ⟨m,hm⟩ : ∃ n,ms[k]? = some n := ⟨_,List.getElem?_eq_getElem (by rw [HNM.out]; exact hlt)⟩;obtain ⟨g,off,vf,vr,rfl,c0,c1,c2,hrf,hrr⟩ := (HM.out.below hbel).get hm;have HFf : Hid (RowG wr vf 5 (flRows m.fields)) := hrf;have HRr : Hid (RowG wr vr 1 (inRows m.reserved)) := hrr;obtain ⟨a3,c3,rfl,_,_⟩ := hrf.form2;obtain ⟨a4,c4,rfl,_,_⟩ := hrr.form2;have HFl : Hid (m.fields.length ≤ 20 ∧ m.reserved.length ≤ 40) := HF.out.flds m (List.mem_of_getElem? hm);have HTK : Hid (ms.take (k + 1) = ms.take k ++ [m]) := take_at hm
   have HLK : Hid ((ms.take k).length = k) := by show _ = _; rw [List.length_take,HNM.out]; omega
   obtain ⟨m0,mf,mr⟩ := m;simp only at c0 c1 c2 HFl HTK;have HFf : Hid (RowG wr (.slice a3 (flRows mf).length c3) 5 (flRows mf)) := HFf;have HRr : Hid (RowG wr (.slice a4 (inRows mr).length c4) 1 (inRows mr)) := HRr;generalize hnF : (flRows mf).length = nF at *;generalize hnR : (inRows mr).length = nR at *;clear hrf hrr hm hnF hnR
   have HLF : Hid ((flRows mf).length = mf.length) := by show _ = _; simp [flRows]
   go_wp2_with fail;clear c0 c1 c2 x1;refine M_region (T := fun W => W.cell? ⟨bt,1,none⟩ = some (.slice va k vc) ∧ W.cell? ⟨wr.heap.size,0,none⟩ = some (.string m0) ∧ W.cell? ⟨wr.heap.size,1,none⟩ = some (.slice a3 nF c3) ∧ W.cell? ⟨wr.heap.size,2,none⟩ = some (.slice a4 nR c4)) (m := 14) (by kernel_rfl) ?_;have hb0 : Below wr.heap.size wr (wr.alloc (.cells #[.string m0,.slice a3 nF c3,.slice a4 nR c4] 40)).drew := below_drewN 1 ((Below.refl _ _).alloc (Nat.le_refl _) _);have BM0 : Blk (wr.alloc (.cells #[.string m0,.slice a3 nF c3,.slice a4 nR c4] 40)).drew wr.heap.size #[.string m0,.slice a3 nF c3,.slice a4 nR c4] 40 := Blk.new wr #[.string m0,.slice a3 nF c3,.slice a4 nR c4] 40;generalize (wr.alloc (.cells #[.string m0,.slice a3 nF c3,.slice a4 nR c4] 40)).drew = W0 at *;have BT0 := BT.below hb0;have BX0 := BX.below hb0;have BR0 := BR.below hb0;have HMS0 : Hid (MsO W0 (bt + 1) (.slice va k vc) (ms.take k) pm) := HMS.out.below hb0;have HO0 : Hid (W0.ownsRow (b0 + 2) 47 3 (.slice ua T uc) T (mtRows ts).flatten) := own_below HO.out hb0;have HF0 : Hid (RowG W0 (.slice a3 nF c3) 5 (flRows mf)) := HFf.out.below hb0;have HR0 : Hid (RowG W0 (.slice a4 nR c4) 1 (inRows mr)) := HRr.out.below hb0;have hbel0 : Below w.heap.size w W0 := hbel.trans (hb0.mono hbel.size);have HOB : Hid (∀ q,(Value.slice va k vc).ownBlock = some q → q < wr.heap.size) := fun q hq => (HMS.out.own.lt q hq).2
   obtain ⟨bm,hbm⟩ : ∃ n,wr.heap.size = n := ⟨_,rfl⟩;rw [hbm] at BM0 hbtw HOB ⊢;clear hbm BT BX BR HMS HO HFf HRr hb0 hbel;have hTW : ∀ W,Below W0.heap.size W0 W → W.cell? ⟨bt,1,none⟩ = some (.slice va k vc) ∧ W.cell? ⟨bm,0,none⟩ = some (.string m0) ∧ W.cell? ⟨bm,1,none⟩ = some (.slice a3 nF c3) ∧ W.cell? ⟨bm,2,none⟩ = some (.slice a4 nR c4) := fun W hW => ⟨(BT0.below hW).cell 1,(BM0.below hW).cell 0,(BM0.below hW).cell 1,(BM0.below hW).cell 2⟩
   have hT := hTW W0 (Below.refl _ _);refine M_take 0 25 (.pointer (some ⟨bt,1,none⟩)) _ rfl rfl (by kernel_rfl) (by kernel_rfl) (by kernel_rfl) (by kernel_rfl) (by kernel_rfl) (fun _ _ _ h => h) (by rfl) (fun w' hw' => ?_) hT (listed' := bts 15 1) (by kernel_rfl) rfl ?_
   ·obtain ⟨g0,g1,g2,g3⟩ := hw'; go_simp
   simp only [zsA,zsZ,zsS];refine M_take 2 27 (.pointer (some ⟨bm,0,none⟩)) _ rfl rfl (by kernel_rfl) (by kernel_rfl) (by kernel_rfl) (by kernel_rfl) (by kernel_rfl) (fun _ _ _ h => h) (by rfl) (fun w' hw' => ?_) hT (listed' := bts 15 5) (by kernel_rfl) rfl ?_
   ·obtain ⟨g0,g1,g2,g3⟩ := hw'; go_simp
   simp only [zsA,zsZ,zsS];refine M_take 4 29 (.pointer (some ⟨bm,1,none⟩)) _ rfl rfl (by kernel_rfl) (by kernel_rfl) (by kernel_rfl) (by kernel_rfl) (by kernel_rfl) (fun _ _ _ h => h) (by rfl) (fun w' hw' => ?_) hT (listed' := bts 15 21) (by kernel_rfl) rfl ?_
   ·obtain ⟨g0,g1,g2,g3⟩ := hw'; go_simp
   simp only [zsA,zsZ,zsS];refine M_take 7 32 (.pointer (some ⟨bm,2,none⟩)) _ rfl rfl (by kernel_rfl) (by kernel_rfl) (by kernel_rfl) (by kernel_rfl) (by kernel_rfl) (fun _ _ _ h => h) (by rfl) (fun w' hw' => ?_) hT (listed' := bts 15 149) (by kernel_rfl) rfl ?_
   ·obtain ⟨g0,g1,g2,g3⟩ := hw'; go_simp
   simp only [zsA,zsZ,zsS];refine M_take 1 26 (.slice va k vc) _ rfl rfl (by kernel_rfl) (by kernel_rfl) (by kernel_rfl) (by kernel_rfl) (by kernel_rfl) (fun _ _ _ h => h) (by rfl) (fun w' hw' => ?_) hT (listed' := bts 15 151) (by kernel_rfl) rfl ?_
   ·obtain ⟨g0,g1,g2,g3⟩ := hw'; go_simp
   simp only [zsA,zsZ,zsS];refine M_take 3 28 (.string m0) _ rfl rfl (by kernel_rfl) (by kernel_rfl) (by kernel_rfl) (by kernel_rfl) (by kernel_rfl) (fun _ _ _ h => h) (by rfl) (fun w' hw' => ?_) hT (listed' := bts 15 159) (by kernel_rfl) rfl ?_
   ·obtain ⟨g0,g1,g2,g3⟩ := hw'; go_simp
   simp only [zsA,zsZ,zsS];refine M_take 5 30 (.slice a3 nF c3) _ rfl rfl (by kernel_rfl) (by kernel_rfl) (by kernel_rfl) (by kernel_rfl) (by kernel_rfl) (fun _ _ _ h => h) (by rfl) (fun w' hw' => ?_) hT (listed' := bts 15 191) (by kernel_rfl) rfl ?_
   ·obtain ⟨g0,g1,g2,g3⟩ := hw'; go_simp
   simp only [zsA,zsZ,zsS];refine M_take 8 33 (.slice a4 nR c4) _ rfl rfl (by kernel_rfl) (by kernel_rfl) (by kernel_rfl) (by kernel_rfl) (by kernel_rfl) (fun _ _ _ h => h) (by rfl) (fun w' hw' => ?_) hT (listed' := bts 15 447) (by kernel_rfl) rfl ?_
   ·obtain ⟨g0,g1,g2,g3⟩ := hw'; go_simp
   simp only [zsA,zsZ,zsS];obtain ⟨vf,W1,r1,r2,r3⟩ := run_joinG (w := W0) 37 37 42 5 56 _ Try.underlying37 infoFl rfl (by decide) W0.heap.size (.slice none 0 0) 0 [] (World.ownsRow_nil _ _ _ _) (.slice a3 nF c3) (flRows mf) HF0.out (flr_len mf) (flr_one mf) (by have := HLF.out; have := HFl.out; omega) (by decide) (Nat.le_refl _);rw [List.nil_append,HLF.out,Nat.zero_add] at r2;have hb1 : Below W0.heap.size W0 W1 := (Below.refl _ _).grown r3 (Nat.le_refl _) (fun k hk => by cases hk);obtain ⟨fa,fc,rfl⟩ := own_form r2;have HO1 : Hid (W1.ownsRow W0.heap.size 42 5 (.slice fa mf.length fc) mf.length (flRows mf).flatten) := r2;have HRUN : Hid _ := r1;clear r1 r2 r3;refine M_run 6 31 (.slice fa mf.length fc) (W1) rfl rfl (by kernel_rfl) (by rfl) (listed' := bts 15 511) (by kernel_rfl) (append_run rfl rfl rfl HRUN.out) (hTW W1 hb1) ?_;simp only [zsA,zsZ,zsS];clear HRUN;refine M_call 9 34 22 #[.slice a4 nR c4] rfl rfl (by kernel_rfl) (by rfl) (listed' := bts 15 1023) (by kernel_rfl) (fun W => by go_simp) ?_;refine (ints_any (HR0.out.below hb1) (by have := HFl.out; omega)).mono ?_;rintro e W2 ⟨vr,rfl,ho2,hb2⟩;have hb02 : Below W0.heap.size W0 W2 := hb1.trans (hb2.mono hb1.size);have hT := hTW W2 hb02;obtain ⟨ra,rc,hrv⟩ := own_form ho2;subst hrv;refine ⟨_,rfl,hT,?_⟩;simp only [zsA,zsZ,zsS];have HO2 : Hid (W2.ownsRow W0.heap.size 3 1 (.slice ra mr.length rc) mr.length (inRows mr).flatten) := own_base ho2 hb1.size;have HAR5 : Hid (ApR (pm ++ [(.slice fa mf.length fc,.slice ra mr.length rc)])) := HAR.out.snoc HMS0.out.highR (fun k hk => (HO2.out.lt k hk).1);have HO1 : Hid (W2.ownsRow W0.heap.size 42 5 (.slice fa mf.length fc) mf.length (flRows mf).flatten) := own_below HO1.out hb2;clear ho2 hb2 hb1;refine M_take 10 35 (.agg #[.string m0,.slice fa mf.length fc,.slice ra mr.length rc]) _ rfl rfl (by kernel_rfl) (by kernel_rfl) (by kernel_rfl) (by kernel_rfl) (by kernel_rfl) (fun _ _ _ h => h) (by rfl) (fun w' hw' => ?_) hT (listed' := bts 15 2047) (by kernel_rfl) rfl ?_
   ·obtain ⟨g0,g1,g2,g3⟩ := hw'; go_simp
   simp only [zsA,zsZ,zsS];have hal : Below W2.heap.size W2 (W2.alloc (.cells #[.string m0,.slice fa mf.length fc,.slice ra mr.length rc] 40)) := (Below.refl _ _).alloc (Nat.le_refl _) _;have hb03 : Below W0.heap.size W0 (W2.alloc (.cells #[.string m0,.slice fa mf.length fc,.slice ra mr.length rc] 40)) := hb02.trans (hal.mono hb02.size);have BE := Blk.new W2 #[.string m0,.slice fa mf.length fc,.slice ra mr.length rc] 40;have HO1 : Hid ((W2.alloc (.cells #[.string m0,.slice fa mf.length fc,.slice ra mr.length rc] 40)).ownsRow W0.heap.size 42 5 (.slice fa mf.length fc) mf.length (flRows mf).flatten) := own_below HO1.out hal;have HO2 : Hid ((W2.alloc (.cells #[.string m0,.slice fa mf.length fc,.slice ra mr.length rc] 40)).ownsRow W0.heap.size 3 1 (.slice ra mr.length rc) mr.length (inRows mr).flatten) := own_below HO2.out hal;obtain ⟨bz,hbz⟩ : ∃ n,W2.heap.size = n := ⟨_,rfl⟩;refine M_run 11 36 (.slice (some ⟨W2.heap.size,0,none⟩) 1 1) (W2.alloc (.cells #[.string m0,.slice fa mf.length fc,.slice ra mr.length rc] 40)) rfl rfl (by kernel_rfl) (by rfl) (listed' := bts 15 4095) (by kernel_rfl) (by go_simp) (hTW _ hb03) ?_;simp only [zsA,zsZ,zsS];rw [hbz] at BE ⊢;generalize (W2.alloc (.cells #[.string m0,.slice fa mf.length fc,.slice ra mr.length rc] 40)) = W3 at *;clear hbz hal hb02;have HMS3 : Hid (MsO W3 (bt + 1) (.slice va k vc) (ms.take k) pm) := HMS0.out.below hb03;obtain ⟨i0,hi0,hz0,hz1,hz2⟩ := info_parts infoMs;have hown := HMS3.out.own;rw [HLK.out] at hown
   obtain ⟨v',W4,r1,r2,r3,_⟩ := run_append_own W3 (bt + 1) 22 22 40 i0 _ 3 64 Try.underlying22 hi0 hz0 hz1 hz2 rfl (by decide) (.slice va k vc) k _ hown ⟨bz,0,none⟩ 1 1 [.string m0,.slice fa mf.length fc,.slice ra mr.length rc] rfl (fun j u hu => by
    have := BE.cell j;rw [Addr.add_lit,Nat.zero_add,this]
    simpa using hu) (fun u hu => by
    simp only [List.mem_cons,List.not_mem_nil,or_false] at hu
    rcases hu with rfl | rfl | rfl <;> rfl) (by unfold maxLen; omega) (by omega) (by have := hb03.size; have := BT0.lt; omega)
   have HRUN : Hid _ := r1;have KA : Kp (fun q => (Value.slice va k vc).ownBlock = some q) W3 W4 := (Kp.refl _ _).grown r3 (fun q hq _ => hq)
   have HMS4 : Hid (MsO W4 (bt + 1) v' (ms.take (k + 1)) (pm ++ [(.slice fa mf.length fc,.slice ra mr.length rc)])) := by
    show MsO _ _ _ _ _
    rw [HTK.out];refine MsO.snoc (m := ⟨m0,mf,mr⟩) HMS3.out HMS0.out.high (by have := BT0.lt; omega) HO1.out HO2.out ?_ KA;rw [HLK.out]; exact r2
   obtain ⟨na,nc,hv'⟩ := own_form r2;subst hv';have HMS4 : Hid (MsO W4 (bt + 1) (.slice na (k + 1) nc) (ms.take (k + 1)) (pm ++ [(.slice fa mf.length fc,.slice ra mr.length rc)])) := HMS4;have hnob : ∀ b cs t,Blk W3 b cs t → t ≠ 40 → ¬ (Value.slice va k vc).ownBlock = some b := fun b cs t hb ht hq => ht (own_type hown hq hb).symm
   have BT4 := (BT0.below hb03).kp KA (hnob _ _ _ (BT0.below hb03) (by decide));have BX4 := (BX0.below hb03).kp KA (hnob _ _ _ (BX0.below hb03) (by decide));have BR4 := (BR0.below hb03).kp KA (hnob _ _ _ (BR0.below hb03) (by decide));have BMb := BM0.below hb03;have HO4 : Hid (W4.ownsRow (b0 + 2) 47 3 (.slice ua T uc) T (mtRows ts).flatten) := own_kpV (own_below HO0.out hb03) KA (fun q hv hq => own_apart hown (own_below HO0.out hb03) (by decide) q hq hv);have hb4 : Below w.heap.size w W4 := (hbel0.trans (hb03.mono hbel0.size)).grown r3 (by have := hb03.size; have := hbel0.size; omega) (fun q hq => by have := (hown.lt q hq).1; have := HBZ.out; omega)
   have hTm : W4.cell? ⟨bt,1,none⟩ = some (.slice va k vc) ∧ W4.cell? ⟨bm,0,none⟩ = some (.string m0) ∧ W4.cell? ⟨bm,1,none⟩ = some (.slice a3 nF c3) ∧ W4.cell? ⟨bm,2,none⟩ = some (.slice a4 nR c4) := by
    have hq : ¬ (Value.slice va k vc).ownBlock = some bm := fun hq => by
     have := HOB.out bm hq
     omega
    exact ⟨BT4.cell 1,(BMb.kp KA hq).cell 0,(BMb.kp KA hq).cell 1,(BMb.kp KA hq).cell 2⟩
   clear r1 r2 r3 hown;refine M_run 12 37 (.slice na (k + 1) nc) (W4) rfl rfl (by kernel_rfl) (by rfl) (listed' := bts 15 8191) (by kernel_rfl) (append_run rfl rfl rfl HRUN.out) hTm ?_;simp only [zsA,zsZ,zsS];clear HRUN;have hT := hTm;refine M_take 13 38 (.pointer (some ⟨bt,1,none⟩)) _ rfl rfl (by kernel_rfl) (by kernel_rfl) (by kernel_rfl) (by kernel_rfl) (by kernel_rfl) (fun _ _ _ h => h) (by rfl) (fun w' hw' => ?_) hT (listed' := bts 15 16383) (by kernel_rfl) rfl ?_
   ·obtain ⟨g0,g1,g2,g3⟩ := hw'; go_simp
   simp only [zsA,zsZ,zsS];have y1 := (BT4.cell 1).trans rfl;have z1 := BT4.froz 1;refine M_store 14 (W4.setCell ⟨bt,1,none⟩ (.slice na (k + 1) nc)) rfl rfl (by kernel_rfl) (by rfl) (listed' := bts 15 32767) (by kernel_rfl) (by go_simp) (by kernel_rfl) ?_;refine M_done (by kernel_rfl) ?_ _
   have KS : Kp (fun q => q = bt) W4 (W4.setCell ⟨bt,1,none⟩ (.slice na (k + 1) nc)) := by
    refine Kp.setCell ?_ (fun _ => by simp) _;exact Kp.refl _ _
   have BT5 : Blk (W4.setCell ⟨bt,1,none⟩ (.slice na (k + 1) nc)) bt #[.string nm,.slice na (k + 1) nc,.slice none 0 0,.slice ua T uc] 26 := BT4.set 1 _ rfl;have BX5 := BX4.kp KS (by omega);have BR5 := BR4.kp KS (by omega);have HMS5 : Hid (MsO (W4.setCell ⟨bt,1,none⟩ (.slice na (k + 1) nc)) (bt + 1) (.slice na (k + 1) nc) (ms.take (k + 1)) (pm ++ [(.slice fa mf.length fc,.slice ra mr.length rc)])) := HMS4.out.kp KS (fun q h1 h2 => by omega);have HO5 : Hid ((W4.setCell ⟨bt,1,none⟩ (.slice na (k + 1) nc)).ownsRow (b0 + 2) 47 3 (.slice ua T uc) T (mtRows ts).flatten) := own_blk HO4.out BT4 (by decide) KS;have hb5 : Below w.heap.size w (W4.setCell ⟨bt,1,none⟩ (.slice na (k + 1) nc)) := hb4.trans (KS.toBelow hb4.size (fun q e => by have := HBZ.out; omega));generalize (W4.setCell ⟨bt,1,none⟩ (.slice na (k + 1) nc)) = W5 at *;clear y1 z1 KS BT4 BX4 BR4 HMS4 HO4 hb4 hT hTm hTW BM0 BT0 BX0 BR0 HMS0 HO0 HF0 HR0 hbel0 HMS3 KA BE hb03 HO1 HO2 hnob BMb;go_wp2_with fail
   go_roundw
   case rel => exact ⟨k + 1,_,_,_,by go_num,by omega,HMS5,HAR5,BT5,HO5,BX5,BR5,hb5⟩
   case measure => simp [intOf]; omega
  ·obtain rfl : k = M := by omega
   have HMS0 : Hid (MsO wr (bt + 1) (.slice va k vc) ms pm) := by
    have := HMS.out;rw [List.take_of_length_le (by rw [HNM.out]; omega)] at this;exact this
   have HES0 : Hid (EnO wr (bt + 1) (.slice none 0 0) (es.take 0) []) := EnO.nil wr (bt + 1);clear HMS;go_wp2_with fail;clear x1
   go_loopw [6] (fun iv wr => ∃ (i : Nat) (na : Option Addr) (nc : Nat) (pe : List Value),iv = .int .i64 (i : Int) ∧ i ≤ E ∧ Hid (EnO wr (bt + 1) (.slice na i nc) (es.take i) pe) ∧ Hid (ApE pe) ∧ Hid (MsO wr (bt + 1) (.slice va k vc) ms pm) ∧ Blk wr bt #[.string nm,.slice va k vc,.slice na i nc,.slice ua T uc] 26 ∧ Hid (wr.ownsRow (b0 + 2) 47 3 (.slice ua T uc) T (mtRows ts).flatten) ∧ Blk wr b0 #[.string nm,.slice am k cm,.slice ae E ce,.slice at' T ct] 26 ∧ Blk wr (b0 + 1) #[.string ⟨#[]⟩,.slice none 0 0,.slice none 0 0,.slice none 0 0] 26 ∧ Below w.heap.size w wr) (fun iv _ => E - (intOf iv).toNat)
   case atStart => exact ⟨0,none,0,[],rfl,by omega,HES0,ApE.nil,HMS0,BT,HO,BX,BR,hbel⟩
   case round =>
    obtain ⟨i,na,nc,pe,rfl,hi,HES,HAE,HMS,BT,HO,BX,BR,hbel⟩ := hrel;clear HES0 HMS0;have hbtw : bt < wr.heap.size := BT.lt;have x2 : wr.cell? ⟨b0,2,none⟩ = some (.slice ae E ce) := BX.cell 2
    by_cases hlt : i < E
    ·obtain ⟨m,hm⟩ : ∃ n,es[i]? = some n := ⟨_,List.getElem?_eq_getElem (by rw [HNE.out]; exact hlt)⟩;obtain ⟨g,off,vv,rfl,c0,c1,hrf⟩ := (HE.out).get hm;have HFf : Hid (RowG w vv 2 (nmRows m.values)) := hrf;obtain ⟨a3,c3,rfl,_,_⟩ := hrf.form2;have HFl : Hid (m.values.length ≤ 24) := HF.out.vals m (List.mem_of_getElem? hm);have HTK : Hid (es.take (i + 1) = es.take i ++ [m]) := take_at hm
     have HLK : Hid ((es.take i).length = i) := by show _ = _; rw [List.length_take,HNE.out]; omega
     obtain ⟨m0,mf⟩ := m;simp only at c0 c1 HFl HTK;have HFf : Hid (RowG w (.slice a3 (nmRows mf).length c3) 2 (nmRows mf)) := HFf;generalize hnF : (nmRows mf).length = nF at *;clear hrf hm hnF
     have HLF : Hid ((nmRows mf).length = mf.length) := by show _ = _; simp [nmRows]
     have hgb : g < b0 := by have h9 : g < w.heap.size := World.block_lt_of_cell? _ _ c0; have := HBZ.out; omega
     have C0 : Hid (w.cell? ⟨g,off + i * 2,none⟩ = some (.string m0)) := c0;have C1 : Hid (w.cell? ⟨g,off + i * 2 + 1,none⟩ = some (.slice a3 nF c3)) := c1;clear c0 c1;go_wp2_with fail;clear x2;refine M_region (T := fun W => W.cell? ⟨bt,2,none⟩ = some (.slice na i nc) ∧ W.cell? ⟨b0,2,none⟩ = some (.slice (some ⟨g,off,none⟩) E ce) ∧ W.cell? ⟨g,off + i * 2,none⟩ = some (.string m0) ∧ W.cell? ⟨g,off + i * 2 + 1,none⟩ = some (.slice a3 nF c3)) (m := 19) (by kernel_rfl) ?_;have hb0 : Below wr.heap.size wr wr.drew := below_drewN 1 (Below.refl _ _);generalize wr.drew = W0 at *;have BT0 := BT.below hb0;have BX0 := BX.below hb0;have BR0 := BR.below hb0;have HES0 : Hid (EnO W0 (bt + 1) (.slice na i nc) (es.take i) pe) := HES.out.below hb0;have HMS0 : Hid (MsO W0 (bt + 1) (.slice va k vc) ms pm) := HMS.out.below hb0;have HO0 : Hid (W0.ownsRow (b0 + 2) 47 3 (.slice ua T uc) T (mtRows ts).flatten) := own_below HO.out hb0;have hbel0 : Below w.heap.size w W0 := hbel.trans (hb0.mono hbel.size);have hbtw : bt < W0.heap.size := BT0.lt;clear BT BX BR HES HMS HO hb0 hbel
     have hTW : ∀ W,Below W0.heap.size W0 W → W.cell? ⟨bt,2,none⟩ = some (.slice na i nc) ∧ W.cell? ⟨b0,2,none⟩ = some (.slice (some ⟨g,off,none⟩) E ce) ∧ W.cell? ⟨g,off + i * 2,none⟩ = some (.string m0) ∧ W.cell? ⟨g,off + i * 2 + 1,none⟩ = some (.slice a3 nF c3) := fun W hW => by
      have hwW : Below w.heap.size w W := hbel0.trans (hW.mono hbel0.size);exact ⟨(BT0.below hW).cell 2,(BX0.below hW).cell 2,(hwW.cell (World.block_lt_of_cell? _ _ C0.out)).trans C0.out,(hwW.cell (World.block_lt_of_cell? _ _ C1.out)).trans C1.out⟩
     have hT := hTW W0 (Below.refl _ _);refine M_take 0 46 (.pointer (some ⟨bt,2,none⟩)) _ rfl rfl (by kernel_rfl) (by kernel_rfl) (by kernel_rfl) (by kernel_rfl) (by kernel_rfl) (fun _ _ _ h => h) (by rfl) (fun w' hw' => ?_) hT (listed' := bts 20 1) (by kernel_rfl) rfl ?_
     ·obtain ⟨g0,g1,g2,g3⟩ := hw'; go_simp
     simp only [zsA,zsZ,zsS];refine M_take 2 48 (.pointer (some ⟨b0,2,none⟩)) _ rfl rfl (by kernel_rfl) (by kernel_rfl) (by kernel_rfl) (by kernel_rfl) (by kernel_rfl) (fun _ _ _ h => h) (by rfl) (fun w' hw' => ?_) hT (listed' := bts 20 5) (by kernel_rfl) rfl ?_
     ·obtain ⟨g0,g1,g2,g3⟩ := hw'; go_simp
     simp only [zsA,zsZ,zsS];refine M_take 4 50 (.int .i64 (i : Int)) _ rfl rfl (by kernel_rfl) (by kernel_rfl) (by kernel_rfl) (by kernel_rfl) (by kernel_rfl) (fun _ _ _ h => h) (by rfl) (fun w' hw' => ?_) hT (listed' := bts 20 21) (by kernel_rfl) rfl ?_
     ·obtain ⟨g0,g1,g2,g3⟩ := hw'; go_simp
     simp only [zsA,zsZ,zsS];refine M_take 8 54 (.pointer (some ⟨b0,2,none⟩)) _ rfl rfl (by kernel_rfl) (by kernel_rfl) (by kernel_rfl) (by kernel_rfl) (by kernel_rfl) (fun _ _ _ h => h) (by rfl) (fun w' hw' => ?_) hT (listed' := bts 20 277) (by kernel_rfl) rfl ?_
     ·obtain ⟨g0,g1,g2,g3⟩ := hw'; go_simp
     simp only [zsA,zsZ,zsS];refine M_take 10 56 (.int .i64 (i : Int)) _ rfl rfl (by kernel_rfl) (by kernel_rfl) (by kernel_rfl) (by kernel_rfl) (by kernel_rfl) (fun _ _ _ h => h) (by rfl) (fun w' hw' => ?_) hT (listed' := bts 20 1301) (by kernel_rfl) rfl ?_
     ·obtain ⟨g0,g1,g2,g3⟩ := hw'; go_simp
     simp only [zsA,zsZ,zsS];refine M_take 1 47 (.slice na i nc) _ rfl rfl (by kernel_rfl) (by kernel_rfl) (by kernel_rfl) (by kernel_rfl) (by kernel_rfl) (fun _ _ _ h => h) (by rfl) (fun w' hw' => ?_) hT (listed' := bts 20 1303) (by kernel_rfl) rfl ?_
     ·obtain ⟨g0,g1,g2,g3⟩ := hw'; go_simp
     simp only [zsA,zsZ,zsS];refine M_take 3 49 (.slice (some ⟨g,off,none⟩) E ce) _ rfl rfl (by kernel_rfl) (by kernel_rfl) (by kernel_rfl) (by kernel_rfl) (by kernel_rfl) (fun _ _ _ h => h) (by rfl) (fun w' hw' => ?_) hT (listed' := bts 20 1311) (by kernel_rfl) rfl ?_
     ·obtain ⟨g0,g1,g2,g3⟩ := hw'; go_simp
     simp only [zsA,zsZ,zsS];refine M_take 9 55 (.slice (some ⟨g,off,none⟩) E ce) _ rfl rfl (by kernel_rfl) (by kernel_rfl) (by kernel_rfl) (by kernel_rfl) (by kernel_rfl) (fun _ _ _ h => h) (by rfl) (fun w' hw' => ?_) hT (listed' := bts 20 1823) (by kernel_rfl) rfl ?_
     ·obtain ⟨g0,g1,g2,g3⟩ := hw'; go_simp
     simp only [zsA,zsZ,zsS];refine M_take 5 51 (.pointer (some ⟨g,off + i * 2,none⟩)) _ rfl rfl (by kernel_rfl) (by kernel_rfl) (by kernel_rfl) (by kernel_rfl) (by kernel_rfl) (fun _ _ _ h => h) (by rfl) (fun w' hw' => ?_) hT (listed' := bts 20 1855) (by kernel_rfl) rfl ?_
     ·obtain ⟨g0,g1,g2,g3⟩ := hw'; go_simp
     simp only [zsA,zsZ,zsS];refine M_take 11 57 (.pointer (some ⟨g,off + i * 2,none⟩)) _ rfl rfl (by kernel_rfl) (by kernel_rfl) (by kernel_rfl) (by kernel_rfl) (by kernel_rfl) (fun _ _ _ h => h) (by rfl) (fun w' hw' => ?_) hT (listed' := bts 20 3903) (by kernel_rfl) rfl ?_
     ·obtain ⟨g0,g1,g2,g3⟩ := hw'; go_simp
     simp only [zsA,zsZ,zsS];refine M_take 6 52 (.pointer (some ⟨g,off + i * 2,none⟩)) _ rfl rfl (by kernel_rfl) (by kernel_rfl) (by kernel_rfl) (by kernel_rfl) (by kernel_rfl) (fun _ _ _ h => h) (by rfl) (fun w' hw' => ?_) hT (listed' := bts 20 3967) (by kernel_rfl) rfl ?_
     ·obtain ⟨g0,g1,g2,g3⟩ := hw'; go_simp
     simp only [zsA,zsZ,zsS];refine M_take 12 58 (.pointer (some ⟨g,off + i * 2 + 1,none⟩)) _ rfl rfl (by kernel_rfl) (by kernel_rfl) (by kernel_rfl) (by kernel_rfl) (by kernel_rfl) (fun _ _ _ h => h) (by rfl) (fun w' hw' => ?_) hT (listed' := bts 20 8063) (by kernel_rfl) rfl ?_
     ·obtain ⟨g0,g1,g2,g3⟩ := hw'; go_simp
     simp only [zsA,zsZ,zsS];refine M_take 7 53 (.string m0) _ rfl rfl (by kernel_rfl) (by kernel_rfl) (by kernel_rfl) (by kernel_rfl) (by kernel_rfl) (fun _ _ _ h => h) (by rfl) (fun w' hw' => ?_) hT (listed' := bts 20 8191) (by kernel_rfl) rfl ?_
     ·obtain ⟨g0,g1,g2,g3⟩ := hw'; go_simp
     simp only [zsA,zsZ,zsS];refine M_take 13 59 (.slice a3 nF c3) _ rfl rfl (by kernel_rfl) (by kernel_rfl) (by kernel_rfl) (by kernel_rfl) (by kernel_rfl) (fun _ _ _ h => h) (by rfl) (fun w' hw' => ?_) hT (listed' := bts 20 16383) (by kernel_rfl) rfl ?_
     ·obtain ⟨g0,g1,g2,g3⟩ := hw'; go_simp
     simp only [zsA,zsZ,zsS];obtain ⟨vf,W1,r1,r2,r3⟩ := run_joinG (w := W0) 49 49 53 2 24 _ Try.underlying49 infoNm rfl (by decide) W0.heap.size (.slice none 0 0) 0 [] (World.ownsRow_nil _ _ _ _) (.slice a3 nF c3) (nmRows mf) (HFf.out.below hbel0) (nmr_len mf) (nmr_one mf) (by have := HLF.out; have := HFl.out; omega) (by decide) (Nat.le_refl _);rw [List.nil_append,HLF.out,Nat.zero_add] at r2;have hb1 : Below W0.heap.size W0 W1 := (Below.refl _ _).grown r3 (Nat.le_refl _) (fun k hk => by cases hk);obtain ⟨fa,fc,rfl⟩ := own_form r2;have HO1 : Hid (W1.ownsRow W0.heap.size 53 2 (.slice fa mf.length fc) mf.length (nmRows mf).flatten) := r2;have HAE5 : Hid (ApE (pe ++ [.slice fa mf.length fc])) := HAE.out.snoc HES0.out.highE (fun k hk => (HO1.out.lt k hk).1);have HRUN : Hid _ := r1;have hT := hTW W1 hb1;clear r1 r2 r3;refine M_run 14 60 (.slice fa mf.length fc) (W1) rfl rfl (by kernel_rfl) (by rfl) (listed' := bts 20 32767) (by kernel_rfl) (append_run rfl rfl rfl HRUN.out) hT ?_;simp only [zsA,zsZ,zsS];clear HRUN;refine M_take 15 61 (.agg #[.string m0,.slice fa mf.length fc]) _ rfl rfl (by kernel_rfl) (by kernel_rfl) (by kernel_rfl) (by kernel_rfl) (by kernel_rfl) (fun _ _ _ h => h) (by rfl) (fun w' hw' => ?_) hT (listed' := bts 20 65535) (by kernel_rfl) rfl ?_
     ·obtain ⟨g0,g1,g2,g3⟩ := hw'; go_simp
     simp only [zsA,zsZ,zsS];have hal : Below W1.heap.size W1 (W1.alloc (.cells #[.string m0,.slice fa mf.length fc] 51)) := (Below.refl _ _).alloc (Nat.le_refl _) _;have hb03 : Below W0.heap.size W0 (W1.alloc (.cells #[.string m0,.slice fa mf.length fc] 51)) := hb1.trans (hal.mono hb1.size);have BE := Blk.new W1 #[.string m0,.slice fa mf.length fc] 51;have HO1 : Hid ((W1.alloc (.cells #[.string m0,.slice fa mf.length fc] 51)).ownsRow W0.heap.size 53 2 (.slice fa mf.length fc) mf.length (nmRows mf).flatten) := own_below HO1.out hal;obtain ⟨bz,hbz⟩ : ∃ n,W1.heap.size = n := ⟨_,rfl⟩;refine M_run 16 62 (.slice (some ⟨W1.heap.size,0,none⟩) 1 1) (W1.alloc (.cells #[.string m0,.slice fa mf.length fc] 51)) rfl rfl (by kernel_rfl) (by rfl) (listed' := bts 20 131071) (by kernel_rfl) (by go_simp) (hTW _ hb03) ?_;simp only [zsA,zsZ,zsS];rw [hbz] at BE ⊢;generalize (W1.alloc (.cells #[.string m0,.slice fa mf.length fc] 51)) = W3 at *;clear hbz hal hb1;have HES3 : Hid (EnO W3 (bt + 1) (.slice na i nc) (es.take i) pe) := HES0.out.below hb03;obtain ⟨i0,hi0,hz0,hz1,hz2⟩ := info_parts infoEn;have hown := HES3.out.own;rw [HLK.out] at hown
     obtain ⟨v',W4,r1,r2,r3,_⟩ := run_append_own W3 (bt + 1) 23 23 51 i0 _ 2 40 Try.underlying23 hi0 hz0 hz1 hz2 rfl (by decide) (.slice na i nc) i _ hown ⟨bz,0,none⟩ 1 1 [.string m0,.slice fa mf.length fc] rfl (fun j u hu => by
      have := BE.cell j;rw [Addr.add_lit,Nat.zero_add,this]
      simpa using hu) (fun u hu => by
      simp only [List.mem_cons,List.not_mem_nil,or_false] at hu
      rcases hu with rfl | rfl <;> rfl) (by unfold maxLen; omega) (by omega) (by have := hb03.size; omega)
     have HRUN : Hid _ := r1;have KA : Kp (fun q => (Value.slice na i nc).ownBlock = some q) W3 W4 := (Kp.refl _ _).grown r3 (fun q hq _ => hq)
     have HES4 : Hid (EnO W4 (bt + 1) v' (es.take (i + 1)) (pe ++ [.slice fa mf.length fc])) := by
      show EnO _ _ _ _ _
      rw [HTK.out];refine EnO.snoc (m := ⟨m0,mf⟩) HES3.out (H := W0.heap.size) (by omega) HO1.out ?_ KA;rw [HLK.out]; exact r2
     obtain ⟨oa,oc,hv'⟩ := own_form r2;subst hv';have HES4 : Hid (EnO W4 (bt + 1) (.slice oa (i + 1) oc) (es.take (i + 1)) (pe ++ [.slice fa mf.length fc])) := HES4;have hnob : ∀ b cs t,Blk W3 b cs t → t ≠ 51 → ¬ (Value.slice na i nc).ownBlock = some b := fun b cs t hb ht hq => ht (own_type hown hq hb).symm
     have BT4 := (BT0.below hb03).kp KA (hnob _ _ _ (BT0.below hb03) (by decide));have BX4 := (BX0.below hb03).kp KA (hnob _ _ _ (BX0.below hb03) (by decide));have BR4 := (BR0.below hb03).kp KA (hnob _ _ _ (BR0.below hb03) (by decide));have HMS4 : Hid (MsO W4 (bt + 1) (.slice va k vc) ms pm) := (HMS0.out.below hb03).beside hown (by decide) (by decide) (by decide) KA;have HO4 : Hid (W4.ownsRow (b0 + 2) 47 3 (.slice ua T uc) T (mtRows ts).flatten) := own_kpV (own_below HO0.out hb03) KA (fun q hv hq => own_apart hown (own_below HO0.out hb03) (by decide) q hq hv);have hb4 : Below w.heap.size w W4 := (hbel0.trans (hb03.mono hbel0.size)).grown r3 (by have := hb03.size; have := hbel0.size; omega) (fun q hq => by have := (hown.lt q hq).1; have := HBZ.out; omega)
     have hTm : W4.cell? ⟨bt,2,none⟩ = some (.slice na i nc) ∧ W4.cell? ⟨b0,2,none⟩ = some (.slice (some ⟨g,off,none⟩) E ce) ∧ W4.cell? ⟨g,off + i * 2,none⟩ = some (.string m0) ∧ W4.cell? ⟨g,off + i * 2 + 1,none⟩ = some (.slice a3 nF c3) :=
      ⟨BT4.cell 2,BX4.cell 2,(hb4.cell (World.block_lt_of_cell? _ _ C0.out)).trans C0.out,(hb4.cell (World.block_lt_of_cell? _ _ C1.out)).trans C1.out⟩
     clear r1 r2 r3 hown;refine M_run 17 63 (.slice oa (i + 1) oc) (W4) rfl rfl (by kernel_rfl) (by rfl) (listed' := bts 20 262143) (by kernel_rfl) (append_run rfl rfl rfl HRUN.out) hTm ?_;simp only [zsA,zsZ,zsS];clear HRUN;have hT := hTm;refine M_take 18 64 (.pointer (some ⟨bt,2,none⟩)) _ rfl rfl (by kernel_rfl) (by kernel_rfl) (by kernel_rfl) (by kernel_rfl) (by kernel_rfl) (fun _ _ _ h => h) (by rfl) (fun w' hw' => ?_) hT (listed' := bts 20 524287) (by kernel_rfl) rfl ?_
     ·obtain ⟨g0,g1,g2,g3⟩ := hw'; go_simp
     simp only [zsA,zsZ,zsS];have y1 := (BT4.cell 2).trans rfl;have z1 := BT4.froz 2;refine M_store 19 (W4.setCell ⟨bt,2,none⟩ (.slice oa (i + 1) oc)) rfl rfl (by kernel_rfl) (by rfl) (listed' := bts 20 1048575) (by kernel_rfl) (by go_simp) (by kernel_rfl) ?_;refine M_done (by kernel_rfl) ?_ _
     have KS : Kp (fun q => q = bt) W4 (W4.setCell ⟨bt,2,none⟩ (.slice oa (i + 1) oc)) := by
      refine Kp.setCell ?_ (fun _ => by simp) _;exact Kp.refl _ _
     have BT5 : Blk (W4.setCell ⟨bt,2,none⟩ (.slice oa (i + 1) oc)) bt #[.string nm,.slice va k vc,.slice oa (i + 1) oc,.slice ua T uc] 26 := BT4.set 2 _ rfl;have BX5 := BX4.kp KS (by omega);have BR5 := BR4.kp KS (by omega);have HES5 : Hid (EnO (W4.setCell ⟨bt,2,none⟩ (.slice oa (i + 1) oc)) (bt + 1) (.slice oa (i + 1) oc) (es.take (i + 1)) (pe ++ [.slice fa mf.length fc])) := HES4.out.kp KS (fun q h1 h2 => by omega);have HMS5 : Hid (MsO (W4.setCell ⟨bt,2,none⟩ (.slice oa (i + 1) oc)) (bt + 1) (.slice va k vc) ms pm) := HMS4.out.kp KS (fun q h1 h2 => by omega);have HO5 : Hid ((W4.setCell ⟨bt,2,none⟩ (.slice oa (i + 1) oc)).ownsRow (b0 + 2) 47 3 (.slice ua T uc) T (mtRows ts).flatten) := own_blk HO4.out BT4 (by decide) KS;have hb5 : Below w.heap.size w (W4.setCell ⟨bt,2,none⟩ (.slice oa (i + 1) oc)) := hb4.trans (KS.toBelow hb4.size (fun q e => by have := HBZ.out; omega));generalize (W4.setCell ⟨bt,2,none⟩ (.slice oa (i + 1) oc)) = W5 at *;clear y1 z1 KS BT4 BX4 BR4 HMS4 HES4 HO4 hb4 hT hTm hTW BT0 BX0 BR0 HMS0 HES0 HO0 hbel0 HES3 KA BE hb03 HO1 hnob;go_wp2_with fail
     go_roundw
     case rel => exact ⟨i + 1,_,_,_,by go_num,by omega,HES5,HAE5,HMS5,BT5,HO5,BX5,BR5,hb5⟩
     case measure => simp [intOf]; omega
    ·have HES1 : Hid (EnO wr (bt + 1) (.slice na i nc) es pe) := by
      have := HES.out;rw [List.take_of_length_le (by rw [HNE.out]; omega)] at this;exact this
     have t0 : wr.cell? ⟨bt,0,none⟩ = some (.string nm) := BT.cell 0;have t1 : wr.cell? ⟨bt,1,none⟩ = some (.slice va k vc) := BT.cell 1;have t2 : wr.cell? ⟨bt,2,none⟩ = some (.slice na i nc) := BT.cell 2;have t3 : wr.cell? ⟨bt,3,none⟩ = some (.slice ua T uc) := BT.cell 3;have r0 := (BR.cell 0).trans rfl;have r1 := (BR.cell 1).trans rfl;have r2 := (BR.cell 2).trans rfl;have r3 := (BR.cell 3).trans rfl;have z0 := BR.froz 0;have z1 := BR.froz 1;have z2 := BR.froz 2;have z3 := BR.froz 3;go_wp2_with fail;refine bodyPost_ret (results_cell rfl _ _ _ ⟨b0 + 1,0,none⟩ (.agg #[.string nm,.slice va k vc,.slice na i nc,.slice ua T uc]) (by go_simp) (by go_simp)) rfl ?_
     have KS : Kp (fun q => q = b0 + 1) wr ((((wr.setCell ⟨b0 + 1,0,none⟩ (.string nm)).setCell ⟨b0 + 1,1,none⟩ (.slice va k vc)).setCell ⟨b0 + 1,2,none⟩ (.slice na i nc)).setCell ⟨b0 + 1,3,none⟩ (.slice ua T uc)) := by
      refine Kp.setCell ?_ (fun _ => by simp) _;refine Kp.setCell ?_ (fun _ => by simp) _;refine Kp.setCell ?_ (fun _ => by simp) _;refine Kp.setCell ?_ (fun _ => by simp) _;exact Kp.refl _ _
     refine ⟨_,_,_,pm,pe,rfl,?_,?_,?_,?_,HAR.out,HAE.out⟩
     ·exact (HMS.out.kp KS (fun q h1 h2 => by omega)).base (by have := HBZ.out; omega)
     ·exact (HES1.out.kp KS (fun q h1 h2 => by omega)).base (by have := HBZ.out; omega)
     ·exact own_base (own_kp HO.out KS (fun q h1 h2 => by omega)) (by have := HBZ.out; omega)
     ·exact hbel.trans (KS.toBelow hbel.size (fun q e => by have := HBZ.out; omega))
theorem schema_any {w : World} {v : Value} {s : ScS} (hr : ScIn w v s) (hf : FewL s) :
  Calls Try.prog 12 #[v] w fun e w' => ∃ vm ve vt pm pe,e = .returned (.agg #[.string s.name,vm,ve,vt]) ∧ MsO w' w.heap.size vm s.msgs pm ∧ EnO w' w.heap.size ve s.enums pe ∧ w'.ownsRow w.heap.size 47 3 vt s.methods.length (mtRows s.methods).flatten ∧ Below w.heap.size w w' :=
 (schema_ap hr hf).mono fun e w' ⟨vm,ve,vt,pm,pe,h1,h2,h3,h4,h5,_⟩ => ⟨vm,ve,vt,pm,pe,h1,h2,h3,h4,h5⟩
def Lite {H : Type} (t : TypeId) (d : DataW H) : Prop := ∀ n ∈ d.weights Try.prog t,n ≤ 140737488351232
theorem lite_all {H : Type} {e : TypeId} : ∀ {l : List (DataW H)} {d : DataW H},d ∈ l → ∀ n ∈ d.weights Try.prog e,n ∈ DataW.weightsAll Try.prog e l
 | x :: l,d,h,n,hn => by
  simp only [DataW.weightsAll,List.mem_append]
  rcases List.mem_cons.1 h with rfl | h
  ·exact .inl hn
  ·exact .inr (lite_all h n hn)
theorem lite_each {H : Type} {ts : List TypeId} {ds : List (DataW H)} (h : ∀ n ∈ DataW.weightsEach Try.prog ts ds,n ≤ 140737488351232) {j : Nat} {t : TypeId} {d : DataW H} (ht : ts[j]? = some t) (hd : ds[j]? = some d) : Lite t d :=
 fun n hn => h n (DataW.weights_mem_each ht hd n hn)
theorem lite_str {H : Type} {t : TypeId} {l : List UInt8} (h : Lite t (.lit (.string l) : DataW H)) : l.length ≤ 140737488351232 := h _ (by simp [DataW.weights])
section
variable {H : Type} {enc : TypeId × Value → H} {W : World} {base : Nat} {spare : Nat → Bool} {held : Bool}
theorem lite_struct {t : TypeId} {fs : Array Field} {ds : List (DataW H)} (hu : Try.prog.underlying t = some (.struct fs)) (h : Lite t (.agg ds : DataW H)) {j : Nat} {u : TypeId} {d : DataW H} (ht : (fs.toList.map (·.type))[j]? = some u) (hd : ds[j]? = some d) : Lite u d := by
 refine lite_each (ts := fs.toList.map (·.type)) (ds := ds) (fun n hn => h n ?_) ht hd;simp only [DataW.weights,hu];exact hn
theorem row_in {α : Type} {t e : TypeId} {size : Nat} (hc : Try.prog.cellsOf e = size) (hpos : 0 < size) (ht : Try.prog.underlying t = some (.slice e)) (cells : α → List Value) (hcl : ∀ r,(cells r).length = size) (P : α → Prop) (dflt : α)
  {fuel : Nat} {a : Option Addr} {len cap : Nat} {x : DataW H × List MemPlace} (h : DataW.trod enc Try.prog W base spare held fuel t [.slice a len cap] = some x) (hl : Lite t x.1)
  (one : ∀ n cs' y,DataW.trod enc Try.prog W base spare held n e cs' = some y → Lite e y.1 → ∃ r,cs' = cells r ∧ P r) :
  ∃ rs : List α,rs.length = len ∧ RowG W (.slice a len cap) size (rs.map cells) ∧ ∀ r ∈ rs,P r := by
 rcases Deep.open_slice ht h with ⟨hcs, -⟩ | ⟨ad,len',cap',m,n,D,Pl,hcs, -,hle,hm,hmm,hx0,hx⟩
 ·simp only [List.cons.injEq,Value.slice.injEq,and_true] at hcs;obtain ⟨rfl,rfl,rfl⟩ := hcs;exact ⟨[],rfl,RowG.nil _ _,by simp⟩
 ·simp only [List.cons.injEq,Value.slice.injEq,and_true] at hcs;obtain ⟨rfl,rfl,rfl⟩ := hcs;subst hx0
  have hml : len ≤ m := by rw [hmm]; split <;> omega
  rw [hc] at hx
  have each : ∀ i,i < len → ∃ r : α,W.cells? base (ad.add (i * size)) size = some (cells r) ∧ P r := fun i hi => by
   obtain ⟨cs',h1,h2⟩ := hx i (by omega)
   obtain ⟨r,rfl,hp⟩ := one n cs' _ h2 (fun k hk => hl k (by
    simp only [DataW.weights,ht,List.mem_cons,List.mem_append]
    exact .inr (.inl (lite_all (List.mem_map.2 ⟨i,List.mem_range.2 hi,rfl⟩) k hk))))
   exact ⟨r,h1,hp⟩
  obtain ⟨f,hf⟩ : ∃ f : Nat → α,∀ i,i < len → W.cells? base (ad.add (i * size)) size = some (cells (f i)) ∧ P (f i) :=
   ⟨fun i => if h : i < len then Classical.choose (each i h) else dflt,fun i hi => by simp only [dif_pos hi]; exact Classical.choose_spec (each i hi)⟩
  refine ⟨(List.range len).map f,by simp,?_,?_⟩
  ·refine ⟨some ad,cap,by simp,by simpa using hle,hm,(fun e => by cases e),fun hne => ?_⟩
   have hlen : 0 < len := by
    rcases Nat.eq_zero_or_pos len with h0 | h0
    ·subst h0; simp at hne
    ·exact h0
   have hcell : ∀ i,i < len → ∀ c,c < size → W.cell? ((ad.add (i * size)).add c) = (cells (f i))[c]? := fun i hi => (World.cells?_some (hf i hi).1).2.2
   obtain ⟨g,off,spot⟩ := ad
   have hspot : spot = none := by
    have h1 := hcell 0 hlen 0 hpos;obtain ⟨u,hu⟩ : ∃ u,(cells (f 0))[0]? = some u := ⟨_,List.getElem?_eq_getElem (by rw [hcl]; exact hpos)⟩;rw [hu] at h1
    simpa [Addr.add] using World.cell?_spot h1
   subst hspot;refine ⟨g,off,rfl,fun i c u j hi hj => ?_⟩;simp only [List.map_map,List.getElem?_map,Option.map_eq_some_iff,Function.comp_apply] at hi;obtain ⟨i',hi',rfl⟩ := hi;obtain ⟨hil,hie⟩ := List.getElem?_eq_some_iff.1 hi'
   simp at hie
   subst hie;simp only [List.length_range] at hil
   have hjs : j < size := by rw [← hcl (f i)]; exact (List.getElem?_eq_some_iff.1 hj).1
   have h2 := hcell i hil j hjs;rw [hj,Deep.add_add,Addr.add_lit] at h2;rw [Nat.add_assoc];exact h2
  ·intro r hr;simp only [List.mem_map,List.mem_range] at hr;obtain ⟨i,hi,rfl⟩ := hr;exact (hf i hi).2
theorem i64_ofS {n : Int} (h : (Lit.int .i64 n).wf = true) : I64 n := bounds_i64 h
theorem cellsIn : Try.prog.cellsOf 3 = 1 := by kernel_rfl
theorem cellsSt : Try.prog.cellsOf 9 = 1 := by kernel_rfl
theorem cellsTy : Try.prog.cellsOf 28 = 2 := by kernel_rfl
theorem cellsFl : Try.prog.cellsOf 42 = 5 := by kernel_rfl
theorem cellsNm : Try.prog.cellsOf 53 = 2 := by kernel_rfl
theorem cellsMt : Try.prog.cellsOf 47 = 3 := by kernel_rfl
theorem cellsMs : Try.prog.cellsOf 40 = 3 := by kernel_rfl
theorem cellsEn : Try.prog.cellsOf 51 = 2 := by kernel_rfl
theorem cellsSc : Try.prog.cellsOf 26 = 4 := by kernel_rfl
theorem cellsSl : Try.prog.cellsOf 37 = 1 ∧ Try.prog.cellsOf 38 = 1 ∧ Try.prog.cellsOf 49 = 1 ∧ Try.prog.cellsOf 22 = 1 ∧ Try.prog.cellsOf 23 = 1 ∧ Try.prog.cellsOf 24 = 1 := ⟨by kernel_rfl,by kernel_rfl,by kernel_rfl,by kernel_rfl,by kernel_rfl,by kernel_rfl⟩
theorem str_in {n : Nat} {c : Value} {y : DataW H × List MemPlace} (h : DataW.trod enc Try.prog W base spare held n 9 [c] = some y) (hl : Lite 9 y.1) : ∃ b : ByteArray,c = .string b ∧ b.size ≤ 140737488351232 := by
 obtain ⟨b,e,hy,w⟩ := DataW.trod_string Try.underlying9 h;simp only [List.cons.injEq,and_true] at e;subst e hy;exact ⟨b,rfl,lite_str hl⟩
theorem int_in {n : Nat} {c : Value} {y : DataW H × List MemPlace} (h : DataW.trod enc Try.prog W base spare held n 3 [c] = some y) : ∃ b : Int,c = .int .i64 b ∧ I64 b := by
 obtain ⟨b,e,hy,w⟩ := DataW.trod_int Try.underlying3 h;simp only [List.cons.injEq,and_true] at e;subst e;exact ⟨b,rfl,i64_ofS w⟩
theorem sfield_in : ∀ n cs' y,DataW.trod enc Try.prog W base spare held n 42 cs' = some y → Lite 42 y.1 → ∃ r : FlS,cs' = r.cells ∧ FlW r := by
 intro n cs y h hl;obtain ⟨y0,y1,y2,y3,m,hy,hc,h0,h1,h2,h3⟩ := _root_.Go.Joins.trod_struct4 Try.underlying42 h;rw [cellsFl] at hc
 match cs,hc with
 | [c0,c1,c2,c3,c4],_ =>
  rw [cellsIn] at h1 h2;rw [cellsSt] at h0;rw [cellsTy] at h3;simp only [List.drop_zero,List.drop_succ_cons,List.take_succ_cons,List.take_zero] at h0 h1 h2 h3;subst hy;obtain ⟨z0,z1,k,hz,hcz,g0,g1⟩ := trod_struct2 Try.underlying28 h3;rw [cellsIn] at g0;rw [cellsSt] at g1;simp only [List.drop_zero,List.drop_succ_cons,List.take_succ_cons,List.take_zero] at g0 g1;have l3 : Lite 28 y3.1 := lite_struct Try.underlying42 hl (j := 3) rfl rfl;subst hz;obtain ⟨b0,rfl,s0⟩ := str_in h0 (lite_struct Try.underlying42 hl (j := 0) rfl rfl);obtain ⟨b1,rfl,s1⟩ := int_in h1;obtain ⟨b2,rfl,s2⟩ := int_in h2;obtain ⟨b3,rfl,s3⟩ := int_in g0;obtain ⟨b4,rfl,s4⟩ := str_in g1 (lite_struct Try.underlying28 l3 (j := 1) rfl rfl);exact ⟨⟨b0,b1,b2,b3,b4⟩,rfl,s0,s4,s1,s2,s3⟩
theorem named_in : ∀ n cs' y,DataW.trod enc Try.prog W base spare held n 53 cs' = some y → Lite 53 y.1 → ∃ r : NmS,cs' = r.cells ∧ NmW r := by
 intro n cs y h hl;obtain ⟨y0,y1,m,hy,hc,h0,h1⟩ := trod_struct2 Try.underlying53 h;rw [cellsNm] at hc
 match cs,hc with
 | [c0,c1],_ =>
  rw [cellsIn] at h1;rw [cellsSt] at h0;simp only [List.drop_zero,List.drop_succ_cons,List.take_succ_cons,List.take_zero] at h0 h1;subst hy;obtain ⟨b0,rfl,s0⟩ := str_in h0 (lite_struct Try.underlying53 hl (j := 0) rfl rfl);obtain ⟨b1,rfl,s1⟩ := int_in h1;exact ⟨⟨b0,b1⟩,rfl,s0,s1⟩
theorem method_in : ∀ n cs' y,DataW.trod enc Try.prog W base spare held n 47 cs' = some y → Lite 47 y.1 → ∃ r : MtS,cs' = r.cells ∧ MtW r := by
 intro n cs y h hl;obtain ⟨y0,y1,y2,m,hy,hc,h0,h1,h2⟩ := Deep.trod_struct3 Try.underlying47 h;rw [cellsMt] at hc
 match cs,hc with
 | [c0,c1,c2],_ =>
  rw [cellsSt] at h0 h1 h2;simp only [List.drop_zero,List.drop_succ_cons,List.take_succ_cons,List.take_zero] at h0 h1 h2;subst hy;obtain ⟨b0,rfl,s0⟩ := str_in h0 (lite_struct Try.underlying47 hl (j := 0) rfl rfl);obtain ⟨b1,rfl,s1⟩ := str_in h1 (lite_struct Try.underlying47 hl (j := 1) rfl rfl);obtain ⟨b2,rfl,s2⟩ := str_in h2 (lite_struct Try.underlying47 hl (j := 2) rfl rfl);exact ⟨⟨b0,b1,b2⟩,rfl,s0,s1,s2⟩
theorem slice_form {t e : TypeId} {n : Nat} {c : Value} {y : DataW H × List MemPlace} (ht : Try.prog.underlying t = some (.slice e)) (h : DataW.trod enc Try.prog W base spare held n t [c] = some y) : ∃ a len cap,c = .slice a len cap := by
 rcases Deep.open_slice ht h with ⟨hcs, -⟩ | ⟨ad,len',cap',m,n,D,Pl,hcs, -⟩
 ·simp only [List.cons.injEq,and_true] at hcs; exact ⟨_,_,_,hcs⟩
 ·simp only [List.cons.injEq,and_true] at hcs; exact ⟨_,_,_,hcs⟩
theorem ints_in {n : Nat} {c : Value} {y : DataW H × List MemPlace} (h : DataW.trod enc Try.prog W base spare held n 38 [c] = some y) (hl : Lite 38 y.1) : ∃ ns : List Int,RowG W c 1 (inRows ns) ∧ ∀ x ∈ ns,I64 x := by
 obtain ⟨a,len,cap,rfl⟩ := slice_form Try.underlying38 h
 obtain ⟨rs,h1,h2,h3⟩ := row_in cellsIn (by decide) Try.underlying38 (fun x : Int => [.int .i64 x]) (fun _ => rfl) I64 0 h hl (fun n cs' y h _ => by
  obtain ⟨b,e,_,w⟩ := DataW.trod_int Try.underlying3 h
  exact ⟨b,e,i64_ofS w⟩)
 exact ⟨rs,h2,h3⟩
def msC (p : MsS × Value × Value) : List Value := [.string p.1.name,p.2.1,p.2.2]
def msP (W : World) (p : MsS × Value × Value) : Prop := RowG W p.2.1 5 (flRows p.1.fields) ∧ RowG W p.2.2 1 (inRows p.1.reserved) ∧ MsW p.1
theorem message_in : ∀ n cs' y,DataW.trod enc Try.prog W base spare held n 40 cs' = some y → Lite 40 y.1 → ∃ r : MsS × Value × Value,cs' = msC r ∧ msP W r := by
 intro n cs y h hl;obtain ⟨y0,y1,y2,m,hy,hc,h0,h1,h2⟩ := Deep.trod_struct3 Try.underlying40 h;rw [cellsMs] at hc
 match cs,hc with
 | [c0,c1,c2],_ =>
  rw [cellsSt] at h0;rw [cellsSl.1] at h1;rw [cellsSl.2.1] at h2;simp only [List.drop_zero,List.drop_succ_cons,List.take_succ_cons,List.take_zero] at h0 h1 h2;subst hy;obtain ⟨b0,rfl,s0⟩ := str_in h0 (lite_struct Try.underlying40 hl (j := 0) rfl rfl);obtain ⟨a,len,cap,rfl⟩ := slice_form Try.underlying37 h1;obtain ⟨fs, -,f2,f3⟩ := row_in cellsFl (by decide) Try.underlying37 FlS.cells (fun _ => rfl) FlW ⟨⟨#[]⟩,0,0,0,⟨#[]⟩⟩ h1 (lite_struct Try.underlying40 hl (j := 1) rfl rfl) sfield_in;obtain ⟨ns,n2,n3⟩ := ints_in h2 (lite_struct Try.underlying40 hl (j := 2) rfl rfl);exact ⟨(⟨b0,fs,ns⟩,_,_),rfl,f2,n2,s0,f3,n3⟩
def enC (p : EnS × Value) : List Value := [.string p.1.name,p.2]
def enP (W : World) (p : EnS × Value) : Prop := RowG W p.2 2 (nmRows p.1.values) ∧ EnW p.1
theorem enumer_in : ∀ n cs' y,DataW.trod enc Try.prog W base spare held n 51 cs' = some y → Lite 51 y.1 → ∃ r : EnS × Value,cs' = enC r ∧ enP W r := by
 intro n cs y h hl;obtain ⟨y0,y1,m,hy,hc,h0,h1⟩ := trod_struct2 Try.underlying51 h;rw [cellsEn] at hc
 match cs,hc with
 | [c0,c1],_ =>
  rw [cellsSt] at h0;rw [cellsSl.2.2.1] at h1;simp only [List.drop_zero,List.drop_succ_cons,List.take_succ_cons,List.take_zero] at h0 h1;subst hy;obtain ⟨b0,rfl,s0⟩ := str_in h0 (lite_struct Try.underlying51 hl (j := 0) rfl rfl);obtain ⟨a,len,cap,rfl⟩ := slice_form Try.underlying49 h1;obtain ⟨fs, -,f2,f3⟩ := row_in cellsNm (by decide) Try.underlying49 NmS.cells (fun _ => rfl) NmW ⟨⟨#[]⟩,0⟩ h1 (lite_struct Try.underlying51 hl (j := 1) rfl rfl) named_in;exact ⟨(⟨b0,fs⟩,_),rfl,f2,s0,f3⟩
theorem schema_in {r : Reach} {b0 : Nat} {v : Value} {d : DataW H} {p : List MemPlace} (hv : Value.okWide Try.prog W r b0 26 v) (h : DataW.Trod enc Try.prog W base spare held 26 v d p) (hl : Lite 26 d) : ∃ s : ScS,ScIn W v s ∧ ScW s := by
 obtain ⟨cs,rfl,hsz⟩ := okWide_struct Try.underlying26 hv;obtain ⟨fuel,hf⟩ := h;obtain ⟨y0,y1,y2,y3,m,hy,hc,h0,h1,h2,h3⟩ := _root_.Go.Joins.trod_struct4 Try.underlying26 hf;rw [cellsSc] at hc;obtain ⟨l⟩ := cs;simp only [Value.cells] at h0 h1 h2 h3 hc
 match l,hc with
 | [c0,c1,c2,c3],_ =>
  rw [cellsSt] at h0;rw [cellsSl.2.2.2.1] at h1;rw [cellsSl.2.2.2.2.1] at h2;rw [cellsSl.2.2.2.2.2] at h3;simp only [List.drop_zero,List.drop_succ_cons,List.take_succ_cons,List.take_zero] at h0 h1 h2 h3;have hd : d = .agg [y0.1,y1.1,y2.1,y3.1] := congrArg Prod.fst hy;subst hd;obtain ⟨b0,rfl,s0⟩ := str_in h0 (lite_struct Try.underlying26 hl (j := 0) rfl rfl);obtain ⟨a1,len1,cap1,rfl⟩ := slice_form Try.underlying22 h1;obtain ⟨a2,len2,cap2,rfl⟩ := slice_form Try.underlying23 h2;obtain ⟨a3,len3,cap3,rfl⟩ := slice_form Try.underlying24 h3;obtain ⟨ms,m1,m2,m3⟩ := row_in cellsMs (by decide) Try.underlying22 msC (fun _ => rfl) (msP W) (⟨⟨#[]⟩,[],[]⟩,.bool false,.bool false) h1 (lite_struct Try.underlying26 hl (j := 1) rfl rfl) message_in;obtain ⟨es,e1,e2,e3⟩ := row_in cellsEn (by decide) Try.underlying23 enC (fun _ => rfl) (enP W) (⟨⟨#[]⟩,[]⟩,.bool false) h2 (lite_struct Try.underlying26 hl (j := 2) rfl rfl) enumer_in;obtain ⟨ts,t1,t2,t3⟩ := row_in cellsMt (by decide) Try.underlying24 MtS.cells (fun _ => rfl) MtW ⟨⟨#[]⟩,⟨#[]⟩,⟨#[]⟩⟩ h3 (lite_struct Try.underlying26 hl (j := 3) rfl rfl) method_in;refine ⟨⟨b0,ms.map (·.1),es.map (·.1),ts⟩,⟨_,_,_,rfl,⟨ms.map msC,m2,by simp,fun i m hm => ?_⟩,⟨es.map enC,e2,by simp,fun i m hm => ?_⟩,t2⟩,s0,fun m hm => ?_,fun m hm => ?_,t3⟩
  ·simp only [List.getElem?_map,Option.map_eq_some_iff] at hm;obtain ⟨q,hq,rfl⟩ := hm;obtain ⟨g1,g2,_⟩ := m3 q (List.mem_of_getElem? hq);exact ⟨q.2.1,q.2.2,by simp [hq,msC],g1,g2⟩
  ·simp only [List.getElem?_map,Option.map_eq_some_iff] at hm;obtain ⟨q,hq,rfl⟩ := hm;obtain ⟨g1,_⟩ := e3 q (List.mem_of_getElem? hq);exact ⟨q.2,by simp [hq,enC],g1⟩
  ·obtain ⟨q,hq,rfl⟩ := List.mem_map.1 hm;exact (m3 q hq).2.2
  ·obtain ⟨q,hq,rfl⟩ := List.mem_map.1 hm;exact (e3 q hq).2
end
theorem mtr_lenE (ms : List MtS) : ∀ r ∈ mtRows ms,r.length = 3 := fun r hr => by
 simp only [mtRows,List.mem_map] at hr;obtain ⟨_,_,rfl⟩ := hr
 rfl
theorem schemaE_any {w : World} {v : Value} {s : ScS} (h : SIn w v s) : Calls Try.prog 12 #[v] w fun e w' => ∃ r,e = .returned r ∧ SIn w' r s ∧ Below w.heap.size w w' :=
 (schema_any h.row h.few).mono fun e w' ⟨vm,ve,vt,pm,pe,h1,h2,h3,h4,h5⟩ => ⟨_,h1,⟨⟨vm,ve,vt,rfl,h2.to_in,h3.to_in,(RowG.own (mtr_lenE _) (by decide) h4).1⟩,h.wf,h.few⟩,h5⟩
end
section
def cutF (m : MsS) (j : Nat) : MsS := ⟨m.name,m.fields.eraseIdx j,m.reserved⟩
def setM (s : ScS) (k : Nat) (m : MsS) : ScS := ⟨s.name,s.msgs.set k m,s.enums,s.methods⟩
theorem set_names {s : ScS} {k : Nat} {m m' : MsS} (hk : s.msgs[k]? = some m) (hn : m'.name = m.name) : (setM s k m').mn = s.mn := by
 unfold ScS.mn setM;simp only
 apply List.ext_getElem?
 intro i;simp only [List.getElem?_map,List.getElem?_set]
 by_cases h : k = i
 ·subst h;have hl : k < s.msgs.length := (List.getElem?_eq_some_iff.1 hk).1;have hg : s.msgs[k] = m := (List.getElem?_eq_some_iff.1 hk).2
  simp [hl,hn,hg]
 ·simp [h]
theorem cut_ok {mn en : List ByteArray} {m : MsS} (h : msgOk mn en m) (j : Nat) : msgOk mn en (cutF m j) := by
 have hs : (m.fields.eraseIdx j).Sublist m.fields := List.eraseIdx_sublist _ _;obtain ⟨h1,h2,h3,h4,h5,h6⟩ := h;refine ⟨?_,h2,h3,fun f hf => h4 f (hs.subset hf),h5.sublist (hs.map _),h6.sublist (hs.map _)⟩;unfold bigM at h1 ⊢;have := hs.length_le;simp only [decide_eq_false_iff_not] at h1 ⊢
 show ¬ (16 < (m.fields.eraseIdx j).length ∨ 32 < m.reserved.length)
 omega
theorem msgOf_mem {s : ScS} (hs : OkS s) {m : MsS} (hm : m ∈ s.msgs) : msgOf s m.name = some m := by
 unfold msgOf;have hn : (s.msgs.map MsS.name).Nodup := hs.names;generalize s.msgs = l at hm hn
 induction l with
 | nil => cases hm
 | cons a l ih =>
  simp only [List.map_cons,List.nodup_cons] at hn
  rcases List.mem_cons.1 hm with rfl | hm
  ·simp
  ·have : a.name ≠ m.name := fun e => hn.1 (by rw [e]; exact List.mem_map.2 ⟨m,hm,rfl⟩)
   rw [List.find?_cons_of_neg (by simpa using this)];exact ih hm hn.2
theorem fld_cut {fs : List FlS} (hn : (fs.map FlS.tag).Nodup) {j : Nat} {g : FlS} (hj : fs[j]? = some g) (t : Int) : fldOf (fs.eraseIdx j) t = if t = g.tag then none else fldOf fs t := by
 induction fs generalizing j with
 | nil => simp at hj
 | cons a l ih =>
  simp only [List.map_cons,List.nodup_cons] at hn
  cases j with
  | zero =>
   obtain rfl : a = g := by simpa using hj
   simp only [List.eraseIdx_cons_zero]
   split
   ·rename_i h
    subst h;unfold fldOf;rw [List.find?_eq_none];intro x hx;simp only [decide_eq_true_eq];exact fun e => hn.1 (by rw [← e]; exact List.mem_map.2 ⟨x,hx,rfl⟩)
   ·rename_i h
    unfold fldOf;rw [List.find?_cons_of_neg (by simpa using fun e => h e.symm)]
  | succ j =>
   simp only [List.eraseIdx_cons_succ];have hg : g ∈ l := List.mem_of_getElem? (by simpa using hj)
   by_cases ha : a.tag = t
   ·have hne : t ≠ g.tag := fun e => hn.1 (by rw [ha,e]; exact List.mem_map.2 ⟨g,hg,rfl⟩)
    rw [if_neg hne];unfold fldOf;rw [List.find?_cons_of_pos (by simpa using ha),List.find?_cons_of_pos (by simpa using ha)]
   ·have h1 := ih hn.2 (by simpa using hj);unfold fldOf at h1 ⊢;rw [List.find?_cons_of_neg (by simpa using ha),List.find?_cons_of_neg (by simpa using ha)];exact h1
end
section
open Go.ChangeShapes Go.WideShapes Go.ChangeAt Go.RowKit
theorem flat_set {size : Nat} : ∀ (rs : List (List Value)),(∀ r ∈ rs,r.length = size) → ∀ (j : Nat) (r : List Value),rs[j]? = some r → ∀ (c : Nat) (u : Value),c < size → rs.flatten.set (j * size + c) u = (rs.set j (r.set c u)).flatten
 | [],_,j,r,h,_,_,_ => by simp at h
 | x :: l,hl,0,r,h,c,u,hc => by
  obtain rfl : x = r := by simpa using h
  have hx := hl x (List.mem_cons_self ..);rw [List.flatten_cons,Nat.zero_mul,Nat.zero_add,List.set_append_left _ _ (by omega),List.set_cons_zero,List.flatten_cons]
 | x :: l,hl,j + 1,r,h,c,u,hc => by
  have hx := hl x (List.mem_cons_self ..);have ih := flat_set l (fun r hr => hl r (List.mem_cons_of_mem _ hr)) j r (by simpa using h) c u hc;rw [List.flatten_cons,List.set_append_right _ _ (by rw [hx,Nat.add_mul]; omega),List.set_cons_succ,List.flatten_cons,← ih]
  congr 2
  rw [hx,Nat.add_mul]; omega
end
end Go.Proofs.Ytdkolhfpfimeoaa

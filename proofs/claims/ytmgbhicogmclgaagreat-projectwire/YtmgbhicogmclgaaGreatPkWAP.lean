/- Part 16 of what the proof stands on. -/
import Derived.Test.YtmgbhicogmclgaaGreatPkWAO
import Derived.Laws.MakeOwn
namespace Go.Proofs.YtmgbhicogmclgaaGreat
set_option maxHeartbeats 8000000
set_option linter.unusedVariables false
set_option linter.unusedSimpArgs false
set_option maxRecDepth 20000
section
open Go.ChangeShapes Go.WideShapes Go.ChangeAt Go.RowKit
section
variable {n B bR bm c : Nat} {K : List KE} {vr : Value} {rest : List Fd} {w : World}
end
section
variable {n B bR bm c : Nat} {K : List KE} {vr : Value} {rest : List Fd} {w w0 : World} {i : Nat} {ve : Value} {rows : List (List Value)} {bss : List (List Nat)}
end
theorem DtrP.alloc {n : Nat} {R : Tr × Int} {w : World} {e : Ending} {W : World} (h : DtrP n R w e W) (o : Obj) : DtrP n R w e (W.alloc o) := by
 obtain ⟨r,bs,he,ht,ha,hb⟩ := h;have al : Below W.heap.size W (W.alloc o) := bra _;exact ⟨r,bs,he,ht.sm (Sm.below al fun k hk => (ha.2 k hk).2),ha.mono al.size,hb.trans (al.mono hb.size)⟩
end
section
theorem digs_pos (a : Nat) : 1 ≤ (digs a).length := List.length_pos_iff.2 (digs_ne a)
theorem sum_leF {α : Type} {f g : α → Nat} {l : List α} (h : ∀ x ∈ l,f x ≤ g x) : (l.map f).sum ≤ (l.map g).sum := by
 induction l with
 | nil => simp
 | cons a l ih =>
  have h1 := h a (List.mem_cons_self ..);have h2 := ih fun x hx => h x (List.mem_cons_of_mem _ hx)
  simp only [List.map_cons,List.sum_cons]; omega
theorem cnt_ents (n : Nat) (B : Tr → List Nat × Nat) : ∀ (es : List (Int × List Tr)),(∀ e ∈ es,∀ x ∈ e.2,cntN n x ≤ (fieldN (flE B e.1 x).1).length) → ((subs es).map (cntN n)).sum ≤ widE B es
 | [],_ => by simp [subs]
 | e :: es,h => by
  have ih := cnt_ents n B es fun e' he => h e' (List.mem_cons_of_mem _ he)
  have h1 := sum_leF (f := cntN n) (g := fun x => (fieldN (flE B e.1 x).1).length) (l := e.2) (h e (List.mem_cons_self ..))
  have e1 : wid ((enE B e).map (·.1)) = (e.2.map fun x => (fieldN (flE B e.1 x).1).length).sum := by
   simp [wid,enE,List.map_map,Function.comp_def]
  rw [widE_one,e1];simp only [subs,List.flatMap_cons,List.map_append,List.sum_append] at ih ⊢
  omega
theorem fieldN_two (r : Fd) (hw : r.wire = 0 ∨ r.wire = 1) : 2 ≤ (fieldN r).length ∧ (r.wire = 1 → r.b.size + 2 ≤ (fieldN r).length) := by
 have h1 := digs_pos
 rcases hw with h | h
 ·refine ⟨?_,fun e => absurd e (by omega)⟩;have := h1 ((2 * r.tag + r.wire).toNat);simp only [fieldN,h,List.length_append]
  simp
  have a := h1 ((2 * r.tag).toNat);have b := h1 (zigN r.n).toNat
  omega
 ·have a := h1 ((2 * r.tag + 1).toNat);have b := h1 r.b.size;have c := bytesN_len r.b;simp only [fieldN,h,List.length_append]
  simp
  omega
theorem flE_ok {B : Tr → List Nat × Nat} {tag : Int} {x : Tr} (h : (flE B tag x).2 = 0) :
  (x.kind = 1 → (flE B tag x).1 = ⟨tag,0,x.n,⟨#[]⟩⟩) ∧ (x.kind = 2 → x.s.size ≤ 4096 ∧ (flE B tag x).1 = ⟨tag,1,0,x.s⟩) ∧ (x.kind = 3 → (B x).2 = 0 ∧ (flE B tag x).1 = ⟨tag,1,0,strN (B x).1⟩) := by
 refine ⟨fun hk => by rw [flE,if_pos hk],fun hk => ?_,fun hk => ?_⟩
 ·have h1 : ¬ x.kind = 1 := by omega
  by_cases hs : 4096 < x.s.size
  ·rw [flE,if_neg h1,if_pos hk,if_pos hs] at h; exact absurd h (by decide)
  ·rw [flE,if_neg h1,if_pos hk,if_neg hs]; exact ⟨by omega,rfl⟩
 ·have h1 : ¬ x.kind = 1 := by omega
  have h2 : ¬ x.kind = 2 := by omega
  by_cases hs : (B x).2 ≠ 0
  ·rw [flE,if_neg h1,if_neg h2,if_pos hs] at h; exact absurd h hs
  ·rw [flE,if_neg h1,if_neg h2,if_neg hs]; exact ⟨by omega,rfl⟩
theorem cnt_leaf (n : Nat) (k v : Int) (b : ByteArray) : cntN n ⟨k,v,b,[],[]⟩ ≤ 1 := by
 cases n with
 | zero => simp [cntN]
 | succ n => simp [cntN,subs]
theorem byt_inv {n : Nat} {t : Tr} (hb : (bytE (n + 1) t).2 = 0) : errE (fsE (bytE n) t.es) = 0 ∧ (∀ r ∈ t.rest,okF r = true) ∧ (bytE (n + 1) t).1.length = widE (bytE n) t.es + wid t.rest ∧ (bytE (n + 1) t).1.length ≤ 4096 := by
 have he : errE (fsE (bytE n) t.es) = 0 := by
  simp only [bytE,ofR] at hb
  by_cases e : errE (fsE (bytE n) t.es) = 0
  ·exact e
  ·unfold rwE at hb;rw [if_pos e] at hb;rw [if_pos (by exact e)] at hb;exact absurd hb e
 have eb : bytE (n + 1) t = putL (sortF ((fsE (bytE n) t.es).map (·.1) ++ t.rest)) := by
  simp only [bytE,ofR,rwE_ok he];rw [if_neg (by simp)]
 rw [eb] at hb ⊢;obtain ⟨ho,hl,hp⟩ := putL_inv hb;rw [hp];refine ⟨he,fun r hr => List.all_eq_true.1 ho r ((sortF_perm _).mem_iff.2 (List.mem_append.2 (.inr hr))),?_,hl⟩;simp only;rw [wid_flat,wid_perm (sortF_perm _),wid_app]
 rfl
theorem okF_wire {r : Fd} (h : okF r = true) : r.wire = 0 ∨ r.wire = 1 := by
 simp only [okF,okV,Bool.and_eq_true,Bool.or_eq_true,decide_eq_true_eq,beq_iff_eq] at h
 rcases h.2 with h | h
 ·exact .inl h.1
 ·exact .inr h.1.1
theorem fit_cnt : ∀ (k n : Nat) (s : ScS) (nm : ByteArray) (t : Tr),DFit k s nm t → (bytE n t).2 = 0 → cntN n t ≤ 1 + (bytE n t).1.length
 | 0,_,_,_,_,h,_ => h.elim
 | _,0,_,_,_,_,_ => by simp [cntN]
 | k + 1,n + 1,s,nm,t,h,hb => by
  obtain ⟨m,hm,hk3,hr,hes,h1,h2⟩ := h;obtain ⟨he,_,hlen,_⟩ := byt_inv hb;have hall := errE_all he
  have hx : ∀ e ∈ t.es,∀ x ∈ e.2,cntN n x ≤ (fieldN (flE (bytE n) e.1 x).1).length := fun e he' x hx => by
   obtain ⟨f,_,_,_,hxs⟩ := hes e he';have h0 : (flE (bytE n) e.1 x).2 = 0 := hall _ (List.mem_flatMap.2 ⟨e,he',List.mem_map.2 ⟨x,hx,rfl⟩⟩);obtain ⟨g1,g2,g3⟩ := flE_ok h0
   rcases (hxs x hx).1 with ⟨_,hq,_⟩ | ⟨_,hq,_⟩ | ⟨_,hq⟩
   ·have hk : x.kind = 1 := by rw [hq]
    have := (fieldN_two ⟨e.1,0,x.n,⟨#[]⟩⟩ (.inl rfl)).1
    have hc : cntN n x ≤ 1 := by rw [hq]; exact cnt_leaf _ _ _ _
    rw [g1 hk]; omega
   ·have hk : x.kind = 2 := by rw [hq]
    have := (fieldN_two ⟨e.1,1,0,x.s⟩ (.inr rfl)).1
    have hc : cntN n x ≤ 1 := by rw [hq]; exact cnt_leaf _ _ _ _
    rw [(g2 hk).2]; omega
   ·obtain ⟨g4,g5⟩ := g3 hq.kind;have := (fieldN_two ⟨e.1,1,0,strN (bytE n x).1⟩ (.inr rfl)).2 rfl;have hc := fit_cnt k n s _ x hq g4;have h3 : (strN (bytE n x).1).size = (bytE n x).1.length := strN_size _;simp only at this;rw [g5]; omega
  have hsum := cnt_ents n (bytE n) t.es hx;simp only [cntN]
  omega
theorem ris_len : ∀ {es : List (Int × List Tr)} (lo hi : Int),RisE es → (∀ e ∈ es,lo < e.1 ∧ e.1 ≤ hi) → (es.length : Int) ≤ max 0 (hi - lo)
 | [],lo,hi,_,_ => by simp only [List.length_nil]; omega
 | e :: l,lo,hi,hr,h => by
  have h0 := h e (List.mem_cons_self ..);rw [RisE,List.pairwise_cons] at hr;have ih := ris_len e.1 hi hr.2 fun x hx => ⟨hr.1 x hx,(h x (List.mem_cons_of_mem _ hx)).2⟩
  simp only [List.length_cons]
  omega
theorem wid_len : ∀ (l : List Fd),(∀ r ∈ l,okF r = true) → 2 * l.length ≤ wid l
 | [],_ => by simp
 | r :: l,h => by
  have ih := wid_len l fun x hx => h x (List.mem_cons_of_mem _ hx)
  have := (fieldN_two r (okF_wire (h r (List.mem_cons_self ..)))).1;simp only [wid,List.map_cons,List.sum_cons,List.length_cons] at ih ⊢
  omega
theorem fit_small : ∀ (k n : Nat) (s : ScS) (nm : ByteArray) (t : Tr),OkS s → DFit k s nm t → k < n → (bytE n t).2 = 0 → SmN n t
 | 0,_,_,_,_,_,h,_,_ => h.elim
 | _,0,_,_,_,_,_,h,_ => absurd h (by omega)
 | k + 1,n + 1,s,nm,t,hs,h,hkn,hb => by
  obtain ⟨m,hm,hk3,hr,hes,h1,h2⟩ := h;obtain ⟨he,hro,hlen,hle⟩ := byt_inv hb;have hall := errE_all he;refine ⟨?_,?_,?_,fun f hf => ?_,fun e he' => ?_⟩
  ·rw [hk3.2.2]; show (0 : Nat) ≤ 5000; omega
  ·have := wid_len t.rest hro; omega
  ·have hl := ris_len 0 500 hr fun e he' => by
    obtain ⟨f,hf,_⟩ := hes e he';have ho := (ok_field hs hm hf).2.1
    have ht : f.tag = e.1 := by simpa using List.find?_some hf
    simp only [tagR,decide_eq_true_eq] at ho
    omega
   omega
  ·rcases okF_wire (hro f hf) with hw | hw
   ·rw [ok_num (hro f hf) hw]; show (0 : Nat) ≤ 5000; omega
   ·have := (ok_txt (hro f hf) hw).2; omega
  ·obtain ⟨f,_,_,hl,hxs⟩ := hes e he';refine ⟨by split at hl <;> omega,fun x hx => ?_⟩;have h0 : (flE (bytE n) e.1 x).2 = 0 := hall _ (List.mem_flatMap.2 ⟨e,he',List.mem_map.2 ⟨x,hx,rfl⟩⟩);obtain ⟨g1,g2,g3⟩ := flE_ok h0
   have hn : n = n - 1 + 1 := by omega
   rcases (hxs x hx).1 with ⟨_,hq,_⟩ | ⟨_,hq,_⟩ | ⟨_,hq⟩
   ·rw [hn,hq];refine ⟨?_,?_,?_,by simp,by simp⟩
    ·show (0 : Nat) ≤ 5000; omega
    ·simp
    ·simp
   ·have hk : x.kind = 2 := by rw [hq]
    have := (g2 hk).1;rw [hn,hq];refine ⟨?_,?_,?_,by simp,by simp⟩
    ·show x.s.size ≤ 5000; omega
    ·simp
    ·simp
   ·exact fit_small k n s _ x hs hq (by omega) (g3 hq.kind).1
theorem dec_small {k n : Nat} {s : ScS} {nm : ByteArray} {ns : List Nat} (hs : OkS s) (hk : k < n) (hb : ∀ b ∈ ns,b < 256) (h : (decM k s nm ns).2 = 0) : SmN n (decM k s nm ns).1 ∧ cntN n (decM k s nm ns).1 ≤ 4097 := by
 obtain ⟨h1,h2⟩ := dcd_len k n s nm ns hk hb h;obtain ⟨h3,_⟩ := dec_fit k s nm ns hb h;refine ⟨fit_small k n s nm _ hs h3 hk h1,?_⟩;have h4 := fit_cnt k n s nm _ h3 h1;have h5 : (bytE n (decM k s nm ns).1).1.length ≤ 4096 := bytE_le n _
 omega
end
section
open Go.ChangeShapes Go.WideShapes Go.ChangeAt Go.RowKit
theorem all_take_snoc {rs : List Fd} {i : Nat} {r : Fd} (h : rs[i]? = some r) : rs.take (i + 1) = rs.take i ++ [r] := by
 rw [List.take_add_one,h]; rfl
theorem all_bad {rs : List Fd} {i : Nat} {r : Fd} (h : rs[i]? = some r) (hr : okF r = false) : rs.all okF = false := by
 rw [List.all_eq_false];exact ⟨r,List.mem_of_getElem? h,by simp [hr]⟩
theorem flat_take_le (rs : List Fd) (i : Nat) : (flatN (rs.take i)).length ≤ (flatN rs).length := by
 conv => rhs; rw [← List.take_append_drop i rs,flatN_app,List.length_append]
 omega
def RawsAt (B : Nat) (w : World) (v : Value) (rs : List Fd) : Prop := ∃ a cap,v = .slice a rs.length cap ∧ ((a = none ∧ rs = [] ∧ cap = 0) ∨ ∃ g,a = some ⟨g,0,none⟩ ∧ B ≤ g ∧ g < w.heap.size) ∧ rs.length ≤ cap ∧ cap ≤ maxLen ∧ HoldsR w a rs
theorem RawsAt.own {B : Nat} {w : World} {v : Value} {n : Nat} {rs : List Fd} (h : w.ownsRow B 79 4 v n (rawCells rs)) : RawsAt B w v rs := by
 obtain ⟨a,cap,h1,_,h2,h3,h4,h5⟩ := own_openR h;exact ⟨a,cap,h1,h2,h3,h4,h5⟩
theorem RawsAt.nil (B : Nat) (w : World) : RawsAt B w (.slice none 0 0) [] := ⟨none,0,rfl,.inl ⟨rfl,rfl,rfl⟩,Nat.le_refl _,by decide,HoldsR.nil⟩
def FdsOk (rs : List Fd) : Prop := rs.length ≤ 1000000 ∧ ∀ r ∈ rs,Is64 r.n
theorem subs_len {es : List (Int × List Tr)} (h : ∀ e ∈ es,e.2.length ≤ 70) : (subs es).length ≤ 70 * es.length := by
 induction es with
 | nil => simp [subs]
 | cons e l ih =>
  have h1 := ih fun e he => h e (List.mem_cons_of_mem _ he)
  have h2 := h e (List.mem_cons_self ..);unfold subs at *;rw [List.flatMap_cons,List.length_append,List.length_cons]
  omega
theorem uptE_len {B : Tr → List Nat × Nat} {es : List (Int × List Tr)} (h : ∀ e ∈ es,e.2.length ≤ 70) (h2 : es.length ≤ 500) (i k : Nat) : (uptE B es i k).length ≤ 35070 := by
 unfold uptE;rw [List.length_append,fsE_len];have h3 : (subs (es.take i)).length ≤ 70 * (es.take i).length := subs_len fun e he => h e (List.mem_of_mem_take he)
 have h4 : (es.take i).length ≤ 500 := by rw [List.length_take]; omega
 cases hi : es[i]? with
 | none => simp; omega
 | some e =>
  have h5 := h e (List.mem_of_getElem? hi);simp only [Option.map_some,Option.getD_some,List.length_map,List.length_take]
  omega
theorem rawCells_snoc' (acc : List Fd) (r : Fd) : (acc ++ [r]).length = acc.length + 1 ∧ rawCells (acc ++ [r]) = rawCells acc ++ r.cells := by
 constructor
 ·simp
 ·rw [rawCells_app,rawCells_cons,rawCells_nil,List.append_nil]
def RwsP (R : List Fd × Nat) (w : World) (e : Ending) (w' : World) : Prop := ∃ r,e = .returned (.tuple #[r,.int .i64 (R.2 : Int)]) ∧ RawsAt w.heap.size w' r R.1 ∧ FdsOk R.1 ∧ Below w.heap.size w w'
def EncP (R : List Nat × Nat) (w : World) (e : Ending) (w' : World) : Prop := ∃ r,e = .returned (.tuple #[r,.int .i64 (R.2 : Int)]) ∧ w'.ownsRow w.heap.size 5 1 r R.1.length (byteCells R.1) ∧ Below w.heap.size w w'
theorem EncP.no {R : List Nat × Nat} {w w' : World} {er : Nat} (h : R = ([],er)) (h2 : Below w.heap.size w w') : EncP R w (.returned (.tuple #[.slice none 0 0,.int .i64 (er : Int)])) w' := by
 subst h;exact ⟨.slice none 0 0,rfl,World.ownsRow_nil _ _ _ _,h2⟩
theorem RowG.blk {w : World} {b : Nat} {cs : Array Value} {t : TypeId} {size n : Nat} {rs : List (List Value)} (h : Blk w b cs t) (hc : cs.toList = rs.flatten) (hl : ∀ r ∈ rs,r.length = size) (hn : rs.length = n) (hm : n ≤ 1000000) : RowG w (.slice (some ⟨b,0,none⟩) n n) size rs := by
 subst hn;refine ⟨some ⟨b,0,none⟩,rs.length,rfl,Nat.le_refl _,by unfold maxLen; omega,(fun e => by cases e),fun _ => ⟨b,0,rfl,fun i c u j hi hj => ?_⟩⟩;rw [h.cell,← Array.getElem?_toList,hc,Nat.zero_add];exact flat_get rs hl i c hi j u hj
theorem Blk.newAt {w : World} {b : Nat} {cs : Array Value} {t : TypeId} (h : w.heap.size = b) : Blk (w.alloc (.cells cs t)) b cs t := by subst h; exact Blk.new w cs t
theorem Blk.up {w : World} {b : Nat} {cs : Array Value} {t : TypeId} (h : Blk w b cs t) (o : Obj) : Blk (w.alloc o) b cs t := h.below (bra _)
theorem row_sliceD {w : World} {v : Value} {size : Nat} {rs : List (List Value)} (h : RowG w v size rs) : ∃ a n c,v = .slice a n c := by
 obtain ⟨a,c,e,_⟩ := h.form;exact ⟨a,_,c,e⟩
theorem ByS.own {B : Nat} {w : World} {v : Value} {n : Nat} {ns : List Nat} (ho : w.ownsRow B 5 1 v n (byteCells ns)) (hb : ∀ k ∈ ns,k < 256) : ByS w v ns := by
 obtain ⟨a,cap,rfl, -,h1,h2,h3,h4⟩ := own_open ho;exact ⟨a,cap,rfl,h4,hb,h2,h3,own_adr h1⟩
theorem dblk2 (w : World) (c1 c2 : Array Value) (t1 t2 : TypeId) : Blk ((w.alloc (Obj.cells c1 t1)).alloc (Obj.cells c2 t2)) w.heap.size c1 t1 ∧ Blk ((w.alloc (Obj.cells c1 t1)).alloc (Obj.cells c2 t2)) (w.heap.size + 1) c2 t2 ∧ Below w.heap.size w ((w.alloc (Obj.cells c1 t1)).alloc (Obj.cells c2 t2)) := by
 have al : ∀ (W : World) (x : Obj),Below W.heap.size W (W.alloc x) := fun W x => bra _
 have b2 := Blk.new (w.alloc (Obj.cells c1 t1)) c2 t2;rw [World.size_alloc] at b2;exact ⟨(Blk.new w c1 t1).below (al _ _),b2,((Below.refl _ w).alloc (Nat.le_refl _) _).alloc (by simp) _⟩
def canA (s : ScS) (nm : ByteArray) (ns : List Nat) : Bool := decide ((decA s nm ns).2 = 0) && decide ((encA 11 (decA s nm ns).1).2 = 0) && decide ((encA 11 (decA s nm ns).1).1 = ns)
theorem dcA_small {s : ScS} {nm : ByteArray} {ns : List Nat} (hb : ∀ k ∈ ns,k < 256) (h : (decA s nm ns).2 = 0) : OkS s ∧ decA s nm ns = decM 10 s nm ns ∧ SmN 11 (decA s nm ns).1 ∧ cntN 11 (decA s nm ns).1 ≤ 4097 := by
 unfold decA at h ⊢
 by_cases hc : checkA s ≠ 0
 ·rw [if_pos hc] at h; exact absurd h (by decide)
 ·rw [if_neg hc] at h ⊢;have hs : OkS s := (checkA_ok s).1 (by omega);obtain ⟨h1,h2⟩ := dec_small (n := 11) hs (by decide) hb h;exact ⟨hs,rfl,h1,h2⟩
theorem encA_bytes (n : Nat) (t : Tr) : ∀ k ∈ (encA n t).1,k < 256 := fun k hk => by
 unfold encA ofR at hk
 split at hk
 ·simp at hk
 ·unfold putL at hk
  split at hk
  ·split at hk
   ·exact flatN_lt _ k hk
   ·simp at hk
  ·simp at hk
end
section
open Go.ChangeShapes Go.WideShapes Go.ChangeAt Go.RowKit Go.Maps
theorem r7message_any {w : World} {snm nm : ByteArray} {ae at' : Option Addr} {E ce T ct : Nat} {vm : Value} {ms : List MsS} (hr : MsIn w vm ms)  :
  Calls Tryz.prog 25 #[.agg #[.string snm,vm,.slice ae E ce,.slice at' T ct],.string nm] w fun e w' => ∃ vf vr,e = .returned (.tuple #[.agg #[.string ((ms.find? (fun m => decide (m.name = nm))).getD zeroM).name,vf,vr],.bool (ms.find? (fun m => decide (m.name = nm))).isSome]) ∧ RowG w' vf 5 (flRows ((ms.find? (fun m => decide (m.name = nm))).getD zeroM).fields) ∧ RowG w' vr 1 (inRows ((ms.find? (fun m => decide (m.name = nm))).getD zeroM).reserved) ∧ Below w.heap.size w w' := by
 obtain ⟨a,c,rfl,q1,q2⟩ := hr.form2;have HR : Hid (MsIn w (.slice a ms.length c) ms) := hr;obtain ⟨N,hN⟩ : ∃ N,ms.length = N := ⟨_,rfl⟩;rw [hN] at HR q1 ⊢;have HN : Hid (ms.length = N) := hN;clear hN hr;obtain ⟨A,hA⟩ : ∃ A,(ms.find? (fun m => decide (m.name = nm))) = A := ⟨_,rfl⟩;rw [hA];have HA : Hid (A = ((ms.drop 0).find? (fun m => decide (m.name = nm)))) := hA.symm;clear hA;have BX0 : Blk ((w.alloc (.cells #[.string snm,.slice a N c,.slice ae E ce,.slice at' T ct] 26)).alloc (.cells #[.string ⟨#[]⟩,.slice none 0 0,.slice none 0 0] 52)) w.heap.size #[.string snm,.slice a N c,.slice ae E ce,.slice at' T ct] 26 := (Blk.new w _ _).below (bra _)
 have BR0 : Blk ((w.alloc (.cells #[.string snm,.slice a N c,.slice ae E ce,.slice at' T ct] 26)).alloc (.cells #[.string ⟨#[]⟩,.slice none 0 0,.slice none 0 0] 52)) (w.heap.size + 1) #[.string ⟨#[]⟩,.slice none 0 0,.slice none 0 0] 52 := by
  have := Blk.new (w.alloc (.cells #[.string snm,.slice a N c,.slice ae E ce,.slice at' T ct] 26)) #[.string ⟨#[]⟩,.slice none 0 0,.slice none 0 0] 52
  rwa [show (w.alloc (.cells #[.string snm,.slice a N c,.slice ae E ce,.slice at' T ct] 26)).heap.size = w.heap.size + 1 by simp] at this
 have hb0 : Below w.heap.size w ((w.alloc (.cells #[.string snm,.slice a N c,.slice ae E ce,.slice at' T ct] 26)).alloc (.cells #[.string ⟨#[]⟩,.slice none 0 0,.slice none 0 0] 52)) := (bra _).alloc (by simp) _
 go_enter Tryz.func25,Tryz.ntmps25
 go_wp2_with fail
 go_loopw [6] (fun iv wr => ∃ k : Nat,iv = .int .i64 (k : Int) ∧ k ≤ N ∧ Hid (A = ((ms.drop k).find? (fun m => decide (m.name = nm)))) ∧ Below w.heap.size w wr ∧ Blk wr (w.heap.size + 1) #[.string ⟨#[]⟩,.slice none 0 0,.slice none 0 0] 52 ∧ Blk wr w.heap.size #[.string snm,.slice a N c,.slice ae E ce,.slice at' T ct] 26) (fun iv _ => N - (intOf iv).toNat)
 case atStart => exact ⟨0,rfl,by omega,HA,hb0,BR0,BX0⟩
 case round =>
  obtain ⟨k,rfl,hk,HAk,hbel,BR,BX⟩ := hrel;clear BX0 BR0 hb0;have hlt2 : w.heap.size + 1 < wr.heap.size := BR.lt;have r0 := (BR.cell 0).trans rfl;have z0 := BR.froz 0;have r1 := (BR.cell 1).trans rfl;have z1 := BR.froz 1;have r2 := (BR.cell 2).trans rfl;have z2 := BR.froz 2;have x1 : wr.cell? ⟨w.heap.size,1,none⟩ = some (.slice a N c) := BX.cell 1
  by_cases hlt : k < N
  ·obtain ⟨f,hf⟩ : ∃ n,ms[k]? = some n := ⟨_,List.getElem?_eq_getElem (by rw [HN.out]; exact hlt)⟩;obtain ⟨g,off,vf,vr,rfl,c0',c1',c2',hrf,hrr⟩ := HR.out.get hf;have c0 := (hbel.cell (World.block_lt_of_cell? _ _ c0')).trans c0';have c1 := (hbel.cell (World.block_lt_of_cell? _ _ c1')).trans c1';have c2 := (hbel.cell (World.block_lt_of_cell? _ _ c2')).trans c2';clear c0' c1' c2';have HF : Hid (RowG w vf 5 (flRows f.fields)) := hrf;have HV : Hid (RowG w vr 1 (inRows f.reserved)) := hrr;obtain ⟨a3,c3,rfl,_,_⟩ := hrf.form2;obtain ⟨a4,c4,rfl,_,_⟩ := hrr.form2;have HF : Hid (RowG w (.slice a3 (flRows f.fields).length c3) 5 (flRows f.fields)) := HF;have HV : Hid (RowG w (.slice a4 (inRows f.reserved).length c4) 1 (inRows f.reserved)) := HV
   have HA2 : Hid (A = if decide (f.name = nm) = true then some f else ((ms.drop (k + 1)).find? (fun m => decide (m.name = nm)))) := by
    show _ = _
    rw [HAk.out,drop_at hf,List.find?_cons]
    cases decide (f.name = nm) <;> rfl
   obtain ⟨f0,ff,fr⟩ := f;simp only at c0 c1 c2 HA2 HF HV;generalize hnF : (flRows ff).length = nF at *;generalize hnR : (inRows fr).length = nR at *;clear hrf hrr hf HAk hnF hnR
   by_cases he : f0 = nm
   ·subst he
    have HA3 : Hid (A = some ⟨f0,ff,fr⟩) := by show _ = _; rw [HA2.out,if_pos (by simp)]
    clear HA2;go_wp2_with fail;refine bodyPost_ret (results_two rfl _ _ _ ⟨w.heap.size + 1,0,none⟩ (.agg #[.string f0,.slice a3 nF c3,.slice a4 nR c4]) (by go_simp) (by go_simp)) rfl ?_;refine ⟨.slice a3 nF c3,.slice a4 nR c4,ret_two (by rw [HA3.out]; rfl) (by rw [HA3.out]; rfl),?_,?_,(Below.setCell (Below.setCell (Below.setCell hbel (by simp) _) (by simp) _) (by simp) _)⟩
    ·rw [HA3.out]; exact HF.out.below (Below.setCell (Below.setCell (Below.setCell hbel (by simp) _) (by simp) _) (by simp) _)
    ·rw [HA3.out]; exact HV.out.below (Below.setCell (Below.setCell (Below.setCell hbel (by simp) _) (by simp) _) (by simp) _)
   ·have hq := bytes_ne he
    have HA3 : Hid (A = ((ms.drop (k + 1)).find? (fun m => decide (m.name = nm)))) := by show _ = _; rw [HA2.out,if_neg (by simpa using he)]
    go_wp2_with fail
    go_roundw
    case rel => exact ⟨k + 1,by go_num,by omega,HA3,hbel,BR,BX⟩
    case measure => simp [intOf]; omega
  ·have HA2 : Hid (A = none) := by show _ = _; rw [HAk.out,drop_end (by rw [HN.out]; omega)]; rfl
   go_wp2_with fail;refine bodyPost_ret (results_two rfl _ _ _ ⟨w.heap.size + 1,0,none⟩ (.agg #[.string ⟨#[]⟩,.slice none 0 0,.slice none 0 0]) (by go_simp) (by go_simp)) rfl ?_;exact ⟨.slice none 0 0,.slice none 0 0,ret_two (by rw [HA2.out]; rfl) (by rw [HA2.out]; rfl),by rw [HA2.out]; exact RowG.nil _ _,by rw [HA2.out]; exact RowG.nil _ _,(Below.setCell (Below.setCell (Below.setCell hbel (by simp) _) (by simp) _) (by simp) _)⟩
theorem r7enum_any {w : World} {snm nm : ByteArray} {am at' : Option Addr} {M cm T ct : Nat} {ve : Value} {ms : List EnS} (hr : EnIn w ve ms)  :
  Calls Tryz.prog 117 #[.agg #[.string snm,.slice am M cm,ve,.slice at' T ct],.string nm] w fun e w' => ∃ vv,e = .returned (.tuple #[.agg #[.string ((ms.find? (fun m => decide (m.name = nm))).getD zeroN).name,vv],.bool (ms.find? (fun m => decide (m.name = nm))).isSome]) ∧ RowG w' vv 2 (nmRows ((ms.find? (fun m => decide (m.name = nm))).getD zeroN).values) ∧ Below w.heap.size w w' := by
 obtain ⟨a,c,rfl,q1,q2⟩ := hr.form2;have HR : Hid (EnIn w (.slice a ms.length c) ms) := hr;obtain ⟨N,hN⟩ : ∃ N,ms.length = N := ⟨_,rfl⟩;rw [hN] at HR q1 ⊢;have HN : Hid (ms.length = N) := hN;clear hN hr;obtain ⟨A,hA⟩ : ∃ A,(ms.find? (fun m => decide (m.name = nm))) = A := ⟨_,rfl⟩;rw [hA];have HA : Hid (A = ((ms.drop 0).find? (fun m => decide (m.name = nm)))) := hA.symm;clear hA;have BX0 : Blk ((w.alloc (.cells #[.string snm,.slice am M cm,.slice a N c,.slice at' T ct] 26)).alloc (.cells #[.string ⟨#[]⟩,.slice none 0 0] 59)) w.heap.size #[.string snm,.slice am M cm,.slice a N c,.slice at' T ct] 26 := (Blk.new w _ _).below (bra _)
 have BR0 : Blk ((w.alloc (.cells #[.string snm,.slice am M cm,.slice a N c,.slice at' T ct] 26)).alloc (.cells #[.string ⟨#[]⟩,.slice none 0 0] 59)) (w.heap.size + 1) #[.string ⟨#[]⟩,.slice none 0 0] 59 := by
  have := Blk.new (w.alloc (.cells #[.string snm,.slice am M cm,.slice a N c,.slice at' T ct] 26)) #[.string ⟨#[]⟩,.slice none 0 0] 59
  rwa [show (w.alloc (.cells #[.string snm,.slice am M cm,.slice a N c,.slice at' T ct] 26)).heap.size = w.heap.size + 1 by simp] at this
 have hb0 : Below w.heap.size w ((w.alloc (.cells #[.string snm,.slice am M cm,.slice a N c,.slice at' T ct] 26)).alloc (.cells #[.string ⟨#[]⟩,.slice none 0 0] 59)) := (bra _).alloc (by simp) _
 go_enter Tryz.func117,Tryz.ntmps117
 go_wp2_with fail
 go_loopw [6] (fun iv wr => ∃ k : Nat,iv = .int .i64 (k : Int) ∧ k ≤ N ∧ Hid (A = ((ms.drop k).find? (fun m => decide (m.name = nm)))) ∧ Below w.heap.size w wr ∧ Blk wr (w.heap.size + 1) #[.string ⟨#[]⟩,.slice none 0 0] 59 ∧ Blk wr w.heap.size #[.string snm,.slice am M cm,.slice a N c,.slice at' T ct] 26) (fun iv _ => N - (intOf iv).toNat)
 case atStart => exact ⟨0,rfl,by omega,HA,hb0,BR0,BX0⟩
 case round =>
  obtain ⟨k,rfl,hk,HAk,hbel,BR,BX⟩ := hrel;clear BX0 BR0 hb0;have hlt2 : w.heap.size + 1 < wr.heap.size := BR.lt;have r0 := (BR.cell 0).trans rfl;have z0 := BR.froz 0;have r1 := (BR.cell 1).trans rfl;have z1 := BR.froz 1;have x1 : wr.cell? ⟨w.heap.size,2,none⟩ = some (.slice a N c) := BX.cell 2
  by_cases hlt : k < N
  ·obtain ⟨f,hf⟩ : ∃ n,ms[k]? = some n := ⟨_,List.getElem?_eq_getElem (by rw [HN.out]; exact hlt)⟩;obtain ⟨g,off,vv,rfl,c0',c1',hrf⟩ := HR.out.get hf;have c0 := (hbel.cell (World.block_lt_of_cell? _ _ c0')).trans c0';have c1 := (hbel.cell (World.block_lt_of_cell? _ _ c1')).trans c1';clear c0' c1';have HF : Hid (RowG w vv 2 (nmRows f.values)) := hrf;obtain ⟨a3,c3,rfl,_,_⟩ := hrf.form2;have HF : Hid (RowG w (.slice a3 (nmRows f.values).length c3) 2 (nmRows f.values)) := HF
   have HA2 : Hid (A = if decide (f.name = nm) = true then some f else ((ms.drop (k + 1)).find? (fun m => decide (m.name = nm)))) := by
    show _ = _
    rw [HAk.out,drop_at hf,List.find?_cons]
    cases decide (f.name = nm) <;> rfl
   obtain ⟨f0,ff⟩ := f;simp only at c0 c1 HA2 HF;generalize hnF : (nmRows ff).length = nF at *;clear hrf hf HAk hnF
   by_cases he : f0 = nm
   ·subst he
    have HA3 : Hid (A = some ⟨f0,ff⟩) := by show _ = _; rw [HA2.out,if_pos (by simp)]
    clear HA2;go_wp2_with fail;refine bodyPost_ret (results_two rfl _ _ _ ⟨w.heap.size + 1,0,none⟩ (.agg #[.string f0,.slice a3 nF c3]) (by go_simp) (by go_simp)) rfl ?_;refine ⟨.slice a3 nF c3,ret_two (by rw [HA3.out]; rfl) (by rw [HA3.out]; rfl),?_,(Below.setCell (Below.setCell hbel (by simp) _) (by simp) _)⟩;rw [HA3.out]; exact HF.out.below (Below.setCell (Below.setCell hbel (by simp) _) (by simp) _)
   ·have hq := bytes_ne he
    have HA3 : Hid (A = ((ms.drop (k + 1)).find? (fun m => decide (m.name = nm)))) := by show _ = _; rw [HA2.out,if_neg (by simpa using he)]
    go_wp2_with fail
    go_roundw
    case rel => exact ⟨k + 1,by go_num,by omega,HA3,hbel,BR,BX⟩
    case measure => simp [intOf]; omega
  ·have HA2 : Hid (A = none) := by show _ = _; rw [HAk.out,drop_end (by rw [HN.out]; omega)]; rfl
   go_wp2_with fail;refine bodyPost_ret (results_two rfl _ _ _ ⟨w.heap.size + 1,0,none⟩ (.agg #[.string ⟨#[]⟩,.slice none 0 0]) (by go_simp) (by go_simp)) rfl ?_;exact ⟨.slice none 0 0,ret_two (by rw [HA2.out]; rfl) (by rw [HA2.out]; rfl),by rw [HA2.out]; exact RowG.nil _ _,(Below.setCell (Below.setCell hbel (by simp) _) (by simp) _)⟩
end
section
open Go.ChangeShapes Go.WideShapes Go.ChangeAt Go.RowKit
theorem rkey_any (s : ByteArray) (w : World) :
  Calls Tryz.prog 55 #[.string s] w fun e w' => e = .returned (.bool (keyB s)) ∧ w' = w := by
 go_enter Tryz.func55,Tryz.ntmps55
 go_wp2
 all_goals
  go_ret;refine ⟨ret_bool ?_,rfl⟩
  first | (simp [keyB, *]; done) | simp_all
theorem nameB_some (s : ByteArray) (rs : List Nat) (h : runesOf s.data.toList = some rs) : nameB s = (decide (1 ≤ rs.length ∧ rs.length ≤ 20) && !keyB s && okFrom true rs) := by
 unfold nameB countN; rw [h]; rfl
theorem okFrom_bad {acc rest : List Nat} {c : Nat} (h1 : letB c = false) (h2 : digB c = false) (b : Bool) : okFrom b (acc ++ c :: rest) = false := by
 rw [okFrom_append]; simp [okFrom,h1,h2]
theorem split_at (rs : List Nat) (k : Nat) (h : k < rs.length) : rs = rs.take k ++ rs.getD k 0 :: rs.drop (k + 1) := by
 rw [List.getD_eq_getElem?_getD,List.getElem?_eq_getElem h,Option.getD_some];exact (List.take_append_drop k rs).symm.trans (by rw [List.drop_eq_getElem_cons h])
def okTo (rs : List Nat) (k : Nat) : Prop := okFrom true (rs.take k) = true
theorem okTo_step {rs : List Nat} {k : Nat} (h : okTo rs k) (h1 : 1 ≤ k) (hk : k < rs.length) (hc : letB (rs.getD k 0) = true ∨ digB (rs.getD k 0) = true) : okTo rs (k + 1) := by
  unfold okTo at h ⊢
  have e : rs.take (k + 1) = rs.take k ++ [rs.getD k 0] := by
    rw [List.take_succ_eq_append_getElem hk, List.getD_eq_getElem?_getD, List.getElem?_eq_getElem hk, Option.getD_some]
  rw [e, okFrom_append, h]
  have e2 : (rs.take k).isEmpty = false := by
    cases e3 : rs.take k with
    | nil => have : (rs.take k).length = 0 := by rw [e3]; rfl
             rw [List.length_take] at this; omega
    | cons a r => rfl
  generalize rs.getD k 0 = c at *
  rcases hc with hc | hc <;> simp [okFrom, e2, hc]
theorem okTo_bad {rs : List Nat} {k : Nat} (hk : k < rs.length) (h1 : letB (rs.getD k 0) = false) (h2 : digB (rs.getD k 0) = false) : okFrom true rs = false := by
 rw [split_at rs k hk]; exact okFrom_bad h1 h2 _
theorem rfname_any (s : ByteArray) (w : World) (hs : s.size ≤ 20000) :
  Calls Tryz.prog 28 #[.string s] w fun e w' => e = .returned (.bool (nameB s)) ∧ Below w.heap.size w w' := by
 cases hr : runesOf s.data.toList with
 | none =>
  have HX : Hid (false = nameB s) := by show false = _; unfold nameB countN; rw [hr]; rfl
  have HV : Hid (validB s.data.toList = false) := by show _ = _; unfold validB; rw [hr]; rfl
  clear hr
  go_enter Tryz.func28,Tryz.ntmps28
  go_wp2_with fail;refine (rall_any s _ hs).mono ?_;rintro e w1 ⟨v,rfl,_,h1⟩;rw [HV.out];go_wp2_with fail;go_ret;exact ⟨ret_bool HX.out,h1⟩
 | some rs =>
  have HX : Hid (nameB s = (decide (1 ≤ rs.length ∧ rs.length ≤ 20) && !keyB s && okFrom true rs)) := nameB_some s rs hr
  have HV : Hid (validB s.data.toList = true) := by show _ = _; unfold validB; rw [hr]; rfl
  have HC : Hid (countN s.data.toList = rs.length) := by show _ = _; unfold countN; rw [hr]; rfl
  have HR : Hid ((runesOf s.data.toList).getD [] = rs) := by show _ = _; rw [hr]; rfl
  clear hr
  go_enter Tryz.func28,Tryz.ntmps28
  go_wp2_with fail;refine (rall_any s _ hs).mono ?_;rintro e w1 ⟨v,rfl,ho,h1⟩;rw [HV.out];rw [HC.out,HR.out] at ho;obtain ⟨a,cap,rfl,hc⟩ := owns_form ho;clear ho
  by_cases g1 : rs.length < 1
  ·have hd1 : decide ((rs.length : Int) < 1) = true := by simp; omega
   have HF : Hid (false = nameB s) := by show false = _; rw [HX.out]; simp; omega
   generalize rs.length = n at *;clear hc;go_wp2_with fail;go_ret;exact ⟨ret_bool HF.out,h1⟩
  ·have hd1 : decide ((rs.length : Int) < 1) = false := by simp; omega
   by_cases g2 : 20 < rs.length
   ·have hd2 : decide (20 < (rs.length : Int)) = true := by simp; omega
    have HF : Hid (false = nameB s) := by show false = _; rw [HX.out]; simp; omega
    clear hc;generalize rs.length = n at *;go_wp2_with fail;go_ret;exact ⟨ret_bool HF.out,h1⟩
   ·have hd2 : decide (20 < (rs.length : Int)) = false := by simp; omega
    obtain ⟨g,rfl,hcell⟩ := hc (by omega)
    have hcl : ∀ j,j < rs.length → w1.cell? ⟨g,j,none⟩ = some (.int .i32 ((rs.getD j 0 : Nat) : Int)) := fun j hj => by
     rw [hcell j hj]; simp [runeCells,List.getD_eq_getElem?_getD,List.getElem?_eq_getElem hj]
    have HCL : Hid (∀ j,j < rs.length → w1.cell? ⟨g,j,none⟩ = some (.int .i32 ((rs.getD j 0 : Nat) : Int))) := hcl;have hc0 := hcl 0 (by omega);clear hcell hcl hc;have HL : Hid (rs.length = rs.length) := rfl
    have hn1 : 1 ≤ rs.length := by omega
    have hn2 : rs.length ≤ 20 := by omega
    have H0 : Hid (letB ((rs.getD 0 0 : Nat) : Int) = true → okTo rs 1) := fun hh => by
     unfold okTo
     have : rs.take 1 = [rs.getD 0 0] := by
      match rs,hn1 with
      | c :: r,_ => rfl
     rw [this];generalize rs.getD 0 0 = c at *
     simp [okFrom,hh]
    have H0f : Hid (letB ((rs.getD 0 0 : Nat) : Int) = false → okFrom true rs = false) := fun hh => by
     match rs,hn1,hh with
     | c :: r,_,hh => simp only [List.getD_cons_zero] at hh; simp [okFrom,hh]
    have HD : Hid (okTo rs rs.length → okFrom true rs = true) := fun hh => by unfold okTo at hh; simpa using hh
    have HK : Hid (∀ k,k < rs.length → letB ((rs.getD k 0 : Nat) : Int) = false → digB ((rs.getD k 0 : Nat) : Int) = false → okFrom true rs = false) := fun k hk a b => okTo_bad hk a b
    have HS : Hid (∀ k,okTo rs k → 1 ≤ k → k < rs.length → letB ((rs.getD k 0 : Nat) : Int) = true ∨ digB ((rs.getD k 0 : Nat) : Int) = true → okTo rs (k + 1)) := fun k a b c d => okTo_step a b c d
    have HF : Hid (okFrom true rs = false → false = nameB s) := fun hh => by rw [HX.out,hh]; simp
    have HFK : Hid (keyB s = true → false = nameB s) := fun hh => by rw [HX.out,hh]; simp
    have HT : Hid (keyB s = false → okFrom true rs = true → true = nameB s) := fun a b => by rw [HX.out,a,b]; simp; omega
    generalize rs.length = n at *;clear HX HV HC HR HL;generalize hc0e : ((rs.getD 0 0 : Nat) : Int) = c0 at hc0 H0 H0f;clear hc0e;go_wp2_with fail;refine (rletter_any _ _).mono ?_;rintro e w2 ⟨rfl,rfl⟩
    cases hl0 : letB c0 with
    | false =>
     go_wp2_with fail;go_ret;exact ⟨ret_bool (HF.out (H0f.out hl0)),h1⟩
    | true =>
     have HO : Hid (okTo rs 1) := H0.out hl0;go_wp2_with fail;refine (rkey_any _ _).mono ?_;rintro e w3 ⟨rfl,rfl⟩
     cases hk : keyB s with
     | true =>
      go_wp2_with fail;go_ret;exact ⟨ret_bool (HFK.out hk),h1⟩
     | false =>
      have HKF : Hid (keyB s = false) := hk;clear hk hl0 hc0;go_wp2_with fail
      go_loop [5] (fun i => ∃ k : Nat,1 ≤ k ∧ k ≤ n ∧ i = .int .i64 k ∧ Hid (okTo rs k)) (fun i => n - (intOf i).toNat)
      case atStart => exact ⟨1,by omega,by omega,rfl,HO⟩
      case round =>
       obtain ⟨k,hk1,hk2,rfl,HOk⟩ := hrel
       by_cases hlt : k < n
       ·have hck := HCL.out k hlt;have HSk : Hid (letB ((rs.getD k 0 : Nat) : Int) = true ∨ digB ((rs.getD k 0 : Nat) : Int) = true → okTo rs (k + 1)) := HS.out k HOk.out hk1 hlt;have HKk : Hid (letB ((rs.getD k 0 : Nat) : Int) = false → digB ((rs.getD k 0 : Nat) : Int) = false → okFrom true rs = false) := HK.out k hlt;generalize hce : ((rs.getD k 0 : Nat) : Int) = c at hck HSk HKk;clear hce;go_wp2_with fail;refine (rletter_any _ _).mono ?_;rintro e w4 ⟨rfl,rfl⟩
        cases hl : letB c with
        | true =>
         go_wp2_with fail
         go_round
         case rel => exact ⟨k + 1,by omega,by omega,by go_num,HSk.out (.inl hl)⟩
         case measure => simp [intOf]; omega
        | false =>
         go_wp2_with fail;refine (rdigit_any _ _).mono ?_;rintro e w5 ⟨rfl,rfl⟩
         cases hdg : digB c with
         | true =>
          go_wp2_with fail
          go_round
          case rel => exact ⟨k + 1,by omega,by omega,by go_num,HSk.out (.inr hdg)⟩
          case measure => simp [intOf]; omega
         | false =>
          go_wp2_with fail;go_ret;exact ⟨ret_bool (HF.out (HKk.out hl hdg)),h1⟩
       ·obtain rfl : k = n := by omega
        go_wp2_with fail;go_ret;exact ⟨ret_bool (HT.out HKF.out (HD.out HOk.out)),h1⟩
end
section
open Go.ChangeShapes Go.WideShapes Go.ChangeAt Go.RowKit Go.Maps
def stRows (ns : List ByteArray) : List (List Value) := ns.map fun n => [.string n]
theorem memB_cons (x y : ByteArray) (l : List ByteArray) : memB x (y :: l) = (decide (x = y) || memB x l) := by simp [memB]
theorem rfresh_any {w : World} {v : Value} {ns : List ByteArray} (nm : ByteArray) (hs : nm.size ≤ 20000) (hr : RowG w v 1 (stRows ns)) :
  Calls Tryz.prog 30 #[.string nm,v] w fun e w' => e = .returned (.bool (freshB nm ns)) ∧ Below w.heap.size w w' := by
 obtain ⟨a,c,rfl,q1,q2⟩ := hr.form2
 have hN : (stRows ns).length = ns.length := by simp [stRows]
 rw [hN] at hr q1 ⊢;clear hN;obtain ⟨N,hN⟩ : ∃ N,ns.length = N := ⟨_,rfl⟩;rw [hN] at hr q1 ⊢;have HN : Hid (ns.length = N) := hN;have HR : Hid (RowG w (.slice a N c) 1 (stRows ns)) := hr;clear hN hr;obtain ⟨A,hA⟩ : ∃ A,freshB nm ns = A := ⟨_,rfl⟩;rw [hA];have HA : Hid (A = (nameB nm && !memB nm (ns.drop 0))) := hA.symm;clear hA
 go_enter Tryz.func30,Tryz.ntmps30
 go_wp2_with fail
 go_loopw [5] (fun iv wr => ∃ k : Nat,iv = .int .i64 (k : Int) ∧ k ≤ N ∧ Hid (A = (nameB nm && !memB nm (ns.drop k))) ∧ Below w.heap.size w wr) (fun iv _ => N - (intOf iv).toNat)
 case atStart => exact ⟨0,rfl,by omega,HA,Below.refl _ _⟩
 case round =>
  obtain ⟨k,rfl,hk,HAk,hbel⟩ := hrel
  by_cases hlt : k < N
  ·obtain ⟨f,hf⟩ : ∃ n,ns[k]? = some n := ⟨_,List.getElem?_eq_getElem (by rw [HN.out]; exact hlt)⟩
   have hrr : (stRows ns)[k]? = some [.string f] := by simp [stRows,hf]
   obtain ⟨g,off,rfl,c1⟩ := (HR.out.below hbel).get hrr
   have HA2 : Hid (A = (nameB nm && !(decide (nm = f) || memB nm (ns.drop (k + 1))))) := by
    show _ = _
    rw [HAk.out,drop_at hf,memB_cons]
   have p0 := c1 0 _ rfl;simp only [Nat.mul_one,Nat.add_zero] at p0;clear c1 hrr hf HAk
   by_cases he : f = nm
   ·subst he
    have HA3 : Hid (A = false) := by show _ = _; rw [HA2.out,decide_eq_true rfl]; simp
    clear HA2;go_wp2_with fail;go_ret;exact ⟨ret_bool HA3.out.symm,hbel⟩
   ·have hq := bytes_ne he
    have HA3 : Hid (A = (nameB nm && !memB nm (ns.drop (k + 1)))) := by show _ = _; rw [HA2.out,decide_eq_false (Ne.symm he)]; rfl
    go_wp2_with fail
    go_roundw
    case rel => exact ⟨k + 1,by go_num,by omega,HA3,hbel⟩
    case measure => simp [intOf]; omega
  ·have HA2 : Hid (A = nameB nm) := by show _ = _; rw [HAk.out,drop_end (by rw [HN.out]; omega),memB_nil]; simp
   clear HAk;go_wp2_with fail;refine (rfname_any nm _ hs).mono ?_;rintro e w1 ⟨rfl,hb⟩;go_wp2_with fail;go_ret;exact ⟨ret_bool HA2.out.symm,hbel.trans (hb.mono hbel.size)⟩
theorem find_mn (ms : List MsS) (t : ByteArray) : (ms.find? fun m => decide (m.name = t)).isSome = memB t (ms.map MsS.name) := by
 rw [Bool.eq_iff_iff,List.find?_isSome,memB_iff,List.mem_map]
 simp
theorem find_en (ms : List EnS) (t : ByteArray) : (ms.find? fun m => decide (m.name = t)).isSome = memB t (ms.map EnS.name) := by
 rw [Bool.eq_iff_iff,List.find?_isSome,memB_iff,List.mem_map]
 simp
theorem r7kind_any {w : World} {snm t : ByteArray} {am ae at' : Option Addr} {M cm E ce T ct : Nat} {ms : List MsS} {es : List EnS} (k : Int) (hm : MsIn w (.slice am M cm) ms) (he : EnIn w (.slice ae E ce) es) :
  Calls Tryz.prog 94 #[.agg #[.string snm,.slice am M cm,.slice ae E ce,.slice at' T ct],.agg #[.int .i64 k,.string t]] w fun e w' => e = .returned (.bool (typeB (ms.map MsS.name) (es.map EnS.name) k t)) ∧ Below w.heap.size w w' := by
 have HM : Hid (MsIn w (.slice am M cm) ms) := hm;have HE : Hid (EnIn w (.slice ae E ce) es) := he;clear hm he;have hb0 : Below w.heap.size w ((w.alloc (.cells #[.string snm,.slice am M cm,.slice ae E ce,.slice at' T ct] 26)).alloc (.cells #[.int .i64 k,.string t] 54)) := (bra _).alloc (by simp) _;obtain ⟨A,hA⟩ : ∃ A,typeB (ms.map MsS.name) (es.map EnS.name) k t = A := ⟨_,rfl⟩;rw [hA];have HA : Hid (A = typeB (ms.map MsS.name) (es.map EnS.name) k t) := hA.symm;clear hA
 by_cases hk : 1 ≤ k ∧ k ≤ 5
 ·have HA2 : Hid (A = decide (t = ⟨#[]⟩)) := by
   show _ = _
   rw [HA.out];unfold typeB;rw [decide_eq_true hk,decide_eq_false (by omega : ¬ k = 6),decide_eq_false (by omega : ¬ k = 7)]
   simp
  clear HA
  have hc : k = 1 ∨ k = 2 ∨ k = 3 ∨ k = 4 ∨ k = 5 := by omega
  clear hk
  by_cases ht : t = ⟨#[]⟩
  ·have HA3 : Hid (A = true) := by show _ = _; rw [HA2.out]; simp [ht]
   clear HA2;subst ht
   rcases hc with rfl | rfl | rfl | rfl | rfl
   all_goals
    go_enter Tryz.func94,Tryz.ntmps94
    go_wp2_with fail;go_ret;exact ⟨ret_bool HA3.out.symm,hb0⟩
  ·have HA3 : Hid (A = false) := by show _ = _; rw [HA2.out]; simp [ht]
   have hq : Hid (t.toList.isEmpty = false) := by
    show _ = _
    cases h : t.toList.isEmpty with
    | false => rfl
    | true =>
     rw [List.isEmpty_iff] at h;refine absurd ((bytes_eq_iff _ _).2 ?_) ht;rw [← ByteArray.toList_eq,h]
   clear HA2 ht
   rcases hc with rfl | rfl | rfl | rfl | rfl
   all_goals
    go_enter Tryz.func94,Tryz.ntmps94
    go_wp2_with fail;go_ret;exact ⟨ret_bool (hq.out.trans HA3.out.symm),hb0⟩
 by_cases hk6 : k = 6
 ·subst hk6
  have HA2 : Hid (A = (es.find? fun m => decide (m.name = t)).isSome) := by
   show _ = _
   rw [HA.out,find_en];unfold typeB
   simp
  clear HA hk
  go_enter Tryz.func94,Tryz.ntmps94
  go_wp2_with fail;refine (r7enum_any (HE.out.below hb0)).mono ?_;rintro e w1 ⟨vv,rfl,h1,hb⟩;obtain ⟨xa,xc,rfl,_,_⟩ := h1.form2;rw [← HA2.out];generalize ((es.find? fun m => decide (m.name = t)).getD zeroN).name = xn at *;generalize (nmRows ((es.find? fun m => decide (m.name = t)).getD zeroN).values).length = xl at *;have hb1 : Below w.heap.size w (w1.alloc (.cells #[.string xn,.slice xa xl xc] 59)) := (hb0.trans (hb.mono hb0.size)).alloc (hb0.trans (hb.mono hb0.size)).size _;clear h1 hb;go_wp2_with fail;go_ret;exact ⟨rfl,hb1⟩
 by_cases hk7 : k = 7
 ·subst hk7
  have HA2 : Hid (A = (ms.find? fun m => decide (m.name = t)).isSome) := by
   show _ = _
   rw [HA.out,find_mn];unfold typeB
   simp
  clear HA hk hk6
  go_enter Tryz.func94,Tryz.ntmps94
  go_wp2_with fail;refine (r7message_any (HM.out.below hb0)).mono ?_;rintro e w1 ⟨vf,vr,rfl,h1,h2,hb⟩;obtain ⟨xa,xc,rfl,_,_⟩ := h1.form2;obtain ⟨ya,yc,rfl,_,_⟩ := h2.form2;rw [← HA2.out];generalize ((ms.find? fun m => decide (m.name = t)).getD zeroM).name = xn at *;generalize (flRows ((ms.find? fun m => decide (m.name = t)).getD zeroM).fields).length = xl at *;generalize (inRows ((ms.find? fun m => decide (m.name = t)).getD zeroM).reserved).length = yl at *;have hb1 : Below w.heap.size w (w1.alloc (.cells #[.string xn,.slice xa xl xc,.slice ya yl yc] 52)) := (hb0.trans (hb.mono hb0.size)).alloc (hb0.trans (hb.mono hb0.size)).size _;clear h1 h2 hb;go_wp2_with fail;go_ret;exact ⟨rfl,hb1⟩
 have HA2 : Hid (A = false) := by
  show _ = _
  rw [HA.out];unfold typeB;rw [decide_eq_false hk,decide_eq_false hk6,decide_eq_false hk7]
  simp
 have k1 : (k == 1) = false := by rw [beq_eq_false_iff_ne]; omega
 have k2 : (k == 2) = false := by rw [beq_eq_false_iff_ne]; omega
 have k3 : (k == 3) = false := by rw [beq_eq_false_iff_ne]; omega
 have k4 : (k == 4) = false := by rw [beq_eq_false_iff_ne]; omega
 have k5 : (k == 5) = false := by rw [beq_eq_false_iff_ne]; omega
 have k6 : (k == 6) = false := by rw [beq_eq_false_iff_ne]; omega
 have k7 : (k == 7) = false := by rw [beq_eq_false_iff_ne]; omega
 clear HA hk hk6 hk7
 go_enter Tryz.func94,Tryz.ntmps94
 go_wp2_with fail;go_ret;exact ⟨ret_bool HA2.out.symm,hb0⟩
end
section
open Go.ChangeShapes Go.WideShapes Go.ChangeAt Go.RowKit
theorem own_apart {w : World} {B B' : Nat} {e e' : TypeId} {s s' : Nat} {v v' : Value} {n n' : Nat} {xs xs' : List Value} (h : w.ownsRow B e s v n xs) (h' : w.ownsRow B' e' s' v' n' xs') (hne : e ≠ e') : ∀ k,v.ownBlock = some k → ¬ v'.ownBlock = some k := by
 intro k hk hk'
 rcases h.2 with ⟨rfl,_⟩ | ⟨q,cap,cur,rfl,_,hb,_⟩
 ·cases hk
 ·rcases h'.2 with ⟨rfl,_⟩ | ⟨q',cap',cur',rfl,_,hb',_⟩
  ·cases hk'
  ·simp only [Value.ownBlock,Option.some.injEq] at hk hk';subst hk;subst hk';rw [hb] at hb';simp only [Option.some.injEq,Obj.cells.injEq] at hb';exact hne hb'.2.1
def msRows (ms : List MsS) (ps : List (Value × Value)) : List (List Value) := List.zipWith (fun m p => [.string m.name,p.1,p.2]) ms ps
def enRows (es : List EnS) (ps : List Value) : List (List Value) := List.zipWith (fun m p => [.string m.name,p]) es ps
structure MsO (w : World) (B : Nat) (v : Value) (ms : List MsS) (ps : List (Value × Value)) : Prop where
 len : ps.length = ms.length
 own : w.ownsRow B 52 3 v ms.length (msRows ms ps).flatten
 each : ∀ (i : Nat) (m : MsS) (p : Value × Value),ms[i]? = some m → ps[i]? = some p → w.ownsRow B 56 5 p.1 m.fields.length (flRows m.fields).flatten ∧ w.ownsRow B 3 1 p.2 m.reserved.length (inRows m.reserved).flatten
 apart : ∀ (i j : Nat) (p q : Value × Value) (k : Nat),ps[i]? = some p → ps[j]? = some q → p.1.ownBlock = some k → q.1.ownBlock = some k → i = j
structure EnO (w : World) (B : Nat) (v : Value) (es : List EnS) (ps : List Value) : Prop where
 len : ps.length = es.length
 own : w.ownsRow B 59 2 v es.length (enRows es ps).flatten
 each : ∀ (i : Nat) (e : EnS) (p : Value),es[i]? = some e → ps[i]? = some p → w.ownsRow B 61 2 p e.values.length (nmRows e.values).flatten
theorem MsO.nil (w : World) (B : Nat) : MsO w B (.slice none 0 0) [] [] := ⟨rfl,World.ownsRow_nil _ _ _ _,fun i m p h => by simp at h,fun i j p q k h => by simp at h⟩
theorem EnO.nil (w : World) (B : Nat) : EnO w B (.slice none 0 0) [] [] := ⟨rfl,World.ownsRow_nil _ _ _ _,fun i m p h => by simp at h⟩
theorem MsO.kp {S : Nat → Prop} {w w1 : World} {B : Nat} {v : Value} {ms : List MsS} {ps : List (Value × Value)} (h : MsO w B v ms ps) (hk : Kp S w w1) (hs : ∀ k,B ≤ k → ¬ S k) : MsO w1 B v ms ps :=
 ⟨h.len,own_kp h.own hk hs,fun i m p hm hp => ⟨own_kp (h.each i m p hm hp).1 hk hs,own_kp (h.each i m p hm hp).2 hk hs⟩,h.apart⟩
theorem EnO.kp {S : Nat → Prop} {w w1 : World} {B : Nat} {v : Value} {ms : List EnS} {ps : List Value} (h : EnO w B v ms ps) (hk : Kp S w w1) (hs : ∀ k,B ≤ k → ¬ S k) : EnO w1 B v ms ps :=
 ⟨h.len,own_kp h.own hk hs,fun i m p hm hp => own_kp (h.each i m p hm hp) hk hs⟩
theorem MsO.beside {w w1 : World} {B B' : Nat} {v u : Value} {ms : List MsS} {ps : List (Value × Value)} {e : TypeId} {s n : Nat} {xs : List Value} (h : MsO w B v ms ps) (hu : w.ownsRow B' e s u n xs) (h1 : e ≠ 52) (h2 : e ≠ 56) (h3 : e ≠ 3) (hk : Kp (fun k => u.ownBlock = some k) w w1) : MsO w1 B v ms ps :=
 ⟨h.len,own_kpV h.own hk (fun k hk hu' => own_apart hu h.own h1 k hu' hk),fun i m p hm hp => ⟨own_kpV (h.each i m p hm hp).1 hk (fun k hk hu' => own_apart hu (h.each i m p hm hp).1 h2 k hu' hk),own_kpV (h.each i m p hm hp).2 hk (fun k hk hu' => own_apart hu (h.each i m p hm hp).2 h3 k hu' hk)⟩,h.apart⟩
theorem get_snoc {α : Type} {l : List α} {x y : α} {i : Nat} (h : (l ++ [x])[i]? = some y) : (i < l.length ∧ l[i]? = some y) ∨ (i = l.length ∧ y = x) := by
 rcases Nat.lt_or_ge i l.length with hi | hi
 ·rw [List.getElem?_append_left hi] at h; exact .inl ⟨hi,h⟩
 ·rw [List.getElem?_append_right hi] at h
  have : i - l.length = 0 := by
   rcases Nat.eq_zero_or_pos (i - l.length) with e | e
   ·exact e
   ·have : [x].length ≤ i - l.length := by simp; omega
    rw [List.getElem?_eq_none this] at h; cases h
  rw [this] at h
  simp at h
  exact .inr ⟨by omega,h.symm⟩
theorem ms_snoc {ms : List MsS} {ps : List (Value × Value)} (hl : ps.length = ms.length) (m : MsS) (p : Value × Value) : (msRows (ms ++ [m]) (ps ++ [p])).flatten = (msRows ms ps).flatten ++ [.string m.name,p.1,p.2] := by
 unfold msRows;rw [List.zipWith_append hl.symm]
 simp
theorem en_snoc {ms : List EnS} {ps : List Value} (hl : ps.length = ms.length) (m : EnS) (p : Value) : (enRows (ms ++ [m]) (ps ++ [p])).flatten = (enRows ms ps).flatten ++ [.string m.name,p] := by
 unfold enRows;rw [List.zipWith_append hl.symm]
 simp
theorem MsO.snoc {w w1 : World} {B H : Nat} {v v' vf vr : Value} {ms : List MsS} {ps : List (Value × Value)} {m : MsS} (h : MsO w B v ms ps) (hH : ∀ (i : Nat) (p : Value × Value) (k : Nat),ps[i]? = some p → p.1.ownBlock = some k → k < H) (hBH : B ≤ H) (hf : w.ownsRow H 56 5 vf m.fields.length (flRows m.fields).flatten) (hr : w.ownsRow H 3 1 vr m.reserved.length (inRows m.reserved).flatten)
  (ho : w1.ownsRow B 52 3 v' (ms.length + 1) ((msRows ms ps).flatten ++ [.string m.name,vf,vr])) (hk : Kp (fun k => v.ownBlock = some k) w w1) : MsO w1 B v' (ms ++ [m]) (ps ++ [(vf,vr)]) := by
 have kf : ∀ {B' : Nat} {u : Value} {n : Nat} {xs : List Value},w.ownsRow B' 56 5 u n xs → w1.ownsRow B' 56 5 u n xs := fun hu => own_kpV hu hk (fun k hk hv => own_apart h.own hu (by decide) k hv hk)
 have kr : ∀ {B' : Nat} {u : Value} {n : Nat} {xs : List Value},w.ownsRow B' 3 1 u n xs → w1.ownsRow B' 3 1 u n xs := fun hu => own_kpV hu hk (fun k hk hv => own_apart h.own hu (by decide) k hv hk)
 refine ⟨by simp [h.len],?_,?_,?_⟩
 ·rw [ms_snoc h.len,List.length_append]; exact ho
 ·intro i m' p hm hp
  rcases get_snoc hm with ⟨hi,hm⟩ | ⟨hi,rfl⟩
  ·rcases get_snoc hp with ⟨_,hp⟩ | ⟨hi',_⟩
   ·exact ⟨kf (h.each i m' p hm hp).1,kr (h.each i m' p hm hp).2⟩
   ·have := h.len; omega
  ·rcases get_snoc hp with ⟨hi',_⟩ | ⟨_,rfl⟩
   ·have := h.len; omega
   ·exact ⟨own_base (kf hf) hBH,own_base (kr hr) hBH⟩
 ·intro i j p q k hp hq hpk hqk
  rcases get_snoc hp with ⟨hi,hp⟩ | ⟨hi,rfl⟩
  ·rcases get_snoc hq with ⟨hj,hq⟩ | ⟨hj,rfl⟩
   ·exact h.apart i j p q k hp hq hpk hqk
   ·have a1 := hH i p k hp hpk;have a2 := (hf.lt k hqk).1
    omega
  ·rcases get_snoc hq with ⟨hj,hq⟩ | ⟨hj,rfl⟩
   ·have a1 := hH j q k hq hqk;have a2 := (hf.lt k hpk).1
    omega
   ·omega
theorem EnO.snoc {w w1 : World} {B H : Nat} {v v' vv : Value} {ms : List EnS} {ps : List Value} {m : EnS} (h : EnO w B v ms ps) (hBH : B ≤ H) (hf : w.ownsRow H 61 2 vv m.values.length (nmRows m.values).flatten)
  (ho : w1.ownsRow B 59 2 v' (ms.length + 1) ((enRows ms ps).flatten ++ [.string m.name,vv])) (hk : Kp (fun k => v.ownBlock = some k) w w1) : EnO w1 B v' (ms ++ [m]) (ps ++ [vv]) := by
 have kf : ∀ {B' : Nat} {u : Value} {n : Nat} {xs : List Value},w.ownsRow B' 61 2 u n xs → w1.ownsRow B' 61 2 u n xs := fun hu => own_kpV hu hk (fun k hk hv => own_apart h.own hu (by decide) k hv hk)
 refine ⟨by simp [h.len],?_,?_⟩
 ·rw [en_snoc h.len,List.length_append]; exact ho
 ·intro i m' p hm hp
  rcases get_snoc hm with ⟨hi,hm⟩ | ⟨hi,rfl⟩
  ·rcases get_snoc hp with ⟨_,hp⟩ | ⟨hi',_⟩
   ·exact kf (h.each i m' p hm hp)
   ·have := h.len; omega
  ·rcases get_snoc hp with ⟨hi',_⟩ | ⟨_,rfl⟩
   ·have := h.len; omega
   ·exact own_base (kf hf) hBH
theorem MsO.high {w : World} {B : Nat} {v : Value} {ms : List MsS} {ps : List (Value × Value)} (h : MsO w B v ms ps) : ∀ (i : Nat) (p : Value × Value) (k : Nat),ps[i]? = some p → p.1.ownBlock = some k → k < w.heap.size := by
 intro i p k hp hk
 have hi : i < ms.length := by rw [← h.len]; exact (List.getElem?_eq_some_iff.1 hp).1
 exact ((h.each i _ p (List.getElem?_eq_getElem hi) hp).1.lt k hk).2
theorem fl_len (fs : List FlS) : ∀ r ∈ flRows fs,r.length = 5 := by intro r hr; simp only [flRows,List.mem_map] at hr; obtain ⟨f,_,rfl⟩ := hr; rfl
theorem en_len (es : List EnS) (ps : List Value) : ∀ r ∈ enRows es ps,r.length = 2 := by
 intro r hr;unfold enRows at hr;rw [List.mem_iff_getElem?] at hr;obtain ⟨i,hi⟩ := hr;rw [List.getElem?_zipWith] at hi
 split at hi <;> simp at hi
 rw [← hi]; rfl
theorem ms_len (es : List MsS) (ps : List (Value × Value)) : ∀ r ∈ msRows es ps,r.length = 3 := by
 intro r hr;unfold msRows at hr;rw [List.mem_iff_getElem?] at hr;obtain ⟨i,hi⟩ := hr;rw [List.getElem?_zipWith] at hi
 split at hi <;> simp at hi
 rw [← hi]; rfl
theorem en_get {es : List EnS} {ps : List Value} {i : Nat} {e : EnS} {p : Value} (he : es[i]? = some e) (hp : ps[i]? = some p) : (enRows es ps)[i]? = some [.string e.name,p] := by
 unfold enRows;rw [List.getElem?_zipWith,he,hp]
theorem ms_get {es : List MsS} {ps : List (Value × Value)} {i : Nat} {e : MsS} {p : Value × Value} (he : es[i]? = some e) (hp : ps[i]? = some p) : (msRows es ps)[i]? = some [.string e.name,p.1,p.2] := by
 unfold msRows;rw [List.getElem?_zipWith,he,hp]
theorem MsO.below {w w1 : World} {B : Nat} {v : Value} {ms : List MsS} {ps : List (Value × Value)} (h : MsO w B v ms ps) (hk : Below w.heap.size w w1) : MsO w1 B v ms ps :=
 ⟨h.len,own_below h.own hk,fun i m p hm hp => ⟨own_below (h.each i m p hm hp).1 hk,own_below (h.each i m p hm hp).2 hk⟩,h.apart⟩
theorem EnO.below {w w1 : World} {B : Nat} {v : Value} {ms : List EnS} {ps : List Value} (h : EnO w B v ms ps) (hk : Below w.heap.size w w1) : EnO w1 B v ms ps :=
 ⟨h.len,own_below h.own hk,fun i m p hm hp => own_below (h.each i m p hm hp) hk⟩
theorem MsO.to_in {w : World} {B : Nat} {v : Value} {ms : List MsS} {ps : List (Value × Value)} (h : MsO w B v ms ps) : MsIn w v ms := by
 obtain ⟨h1,h2⟩ := RowG.own (ms_len ms ps) (by decide) h.own;refine ⟨msRows ms ps,h1,h2.symm,fun i m hm => ?_⟩;have hi := (List.getElem?_eq_some_iff.1 hm).1;obtain ⟨p,hp⟩ : ∃ p,ps[i]? = some p := ⟨_,List.getElem?_eq_getElem (by rw [h.len]; exact hi)⟩;exact ⟨p.1,p.2,ms_get hm hp,(RowG.own (fl_len m.fields) (by decide) (h.each i m p hm hp).1).1,(RowG.own (fun r hr => by simp only [inRows,List.mem_map] at hr; obtain ⟨_,_,rfl⟩ := hr; rfl) (by decide) (h.each i m p hm hp).2).1⟩
theorem EnO.to_in {w : World} {B : Nat} {v : Value} {ms : List EnS} {ps : List Value} (h : EnO w B v ms ps) : EnIn w v ms := by
 obtain ⟨h1,h2⟩ := RowG.own (en_len ms ps) (by decide) h.own;refine ⟨enRows ms ps,h1,h2.symm,fun i m hm => ?_⟩;have hi := (List.getElem?_eq_some_iff.1 hm).1;obtain ⟨p,hp⟩ : ∃ p,ps[i]? = some p := ⟨_,List.getElem?_eq_getElem (by rw [h.len]; exact hi)⟩;exact ⟨p,en_get hm hp,(RowG.own (fun r hr => by simp only [nmRows,List.mem_map] at hr; obtain ⟨_,_,rfl⟩ := hr; rfl) (by decide) (h.each i m p hm hp)).1⟩
theorem own_type {w : World} {B : Nat} {e : TypeId} {sz : Nat} {v : Value} {n : Nat} {xs : List Value} {k : Nat} {cs : Array Value} {t : TypeId} (h : w.ownsRow B e sz v n xs) (hk : v.ownBlock = some k) (hb : Blk w k cs t) : e = t := by
 rcases h.2 with ⟨rfl,_⟩ | ⟨q,cap,cur,rfl,_,hq,_⟩
 ·cases hk
 ·simp only [Value.ownBlock,Option.some.injEq] at hk;subst hk;unfold Blk at hb;rw [hq] at hb;simp only [Option.some.injEq,Obj.cells.injEq] at hb;exact hb.2.1
theorem own_blk {w w1 : World} {B : Nat} {e : TypeId} {sz n b : Nat} {v : Value} {xs : List Value} {cs : Array Value} {t : TypeId} (h : w.ownsRow B e sz v n xs) (hb : Blk w b cs t) (ht : e ≠ t) (hk : Kp (fun k => k = b) w w1) : w1.ownsRow B e sz v n xs :=
 own_kpV h hk (fun k hv e' => by subst e'; exact ht (own_type h hv hb))
theorem MsO.base {w : World} {B B' : Nat} {v : Value} {ms : List MsS} {ps : List (Value × Value)} (h : MsO w B v ms ps) (hb : B' ≤ B) : MsO w B' v ms ps :=
 ⟨h.len,own_base h.own hb,fun i m p hm hp => ⟨own_base (h.each i m p hm hp).1 hb,own_base (h.each i m p hm hp).2 hb⟩,h.apart⟩
theorem EnO.base {w : World} {B B' : Nat} {v : Value} {ms : List EnS} {ps : List Value} (h : EnO w B v ms ps) (hb : B' ≤ B) : EnO w B' v ms ps :=
 ⟨h.len,own_base h.own hb,fun i m p hm hp => own_base (h.each i m p hm hp) hb⟩
end
section
open Go.ChangeShapes Go.WideShapes Go.ChangeAt Go.RowKit Go.Maps
theorem ret_e {a b : Int} (h : a = b) : Ending.returned (.int .i64 a) = .returned (.int .i64 b) := by rw [h]
theorem infoSt : (Tryz.prog.info? 9).map (fun i => (i.zero,i.size,i.bytes)) = some (some (.string ⟨#[]⟩),1,16) := by kernel_rfl
theorem str_len (ns : List ByteArray) : ∀ r ∈ stRows ns,r.length = 1 := fun r hr => by simp only [stRows,List.mem_map] at hr; obtain ⟨_,_,rfl⟩ := hr; rfl
def Seen (w : World) (B : Nat) (v : Value) (al : List ByteArray) : Prop := w.ownsRow B 9 1 v al.length (stRows al).flatten
theorem Seen.nil (w : World) (B : Nat) : Seen w B (.slice none 0 0) [] := World.ownsRow_nil _ _ _ _
theorem Seen.row {w : World} {B : Nat} {v : Value} {al : List ByteArray} (h : Seen w B v al) : RowG w v 1 (stRows al) := (RowG.own (str_len al) (by decide) h).1
theorem Seen.below {w w' : World} {B : Nat} {v : Value} {al : List ByteArray} (h : Seen w B v al) (hb : Below w.heap.size w w') : Seen w' B v al := own_below h hb
theorem Seen.form {w : World} {B : Nat} {v : Value} {al : List ByteArray} (h : Seen w B v al) : ∃ a c,v = .slice a al.length c := own_form h
theorem Seen.snoc {w : World} {B : Nat} {v : Value} {al : List ByteArray} {x : ByteArray} (h : w.ownsRow B 9 1 v (al.length + 1) ((stRows al).flatten ++ [.string x])) : Seen w B v (al ++ [x]) := by
 show World.ownsRow _ _ _ _ _ _ _
 rw [show (al ++ [x]).length = al.length + 1 by simp,show (stRows (al ++ [x])).flatten = (stRows al).flatten ++ [.string x] by simp [stRows]];exact h
theorem wpList_seen {w : World} {ops : Array Oper} {rest : List Oper} {o : Oper} {a : Act} {Q : Exit → Act → World → Prop} {B : Nat} {v : Value} {al : List ByteArray} {x : ByteArray} (hgd : o.guard = none) (s y : Operand)
  (ho : o.op = .call { callee := .builtin .append,args := #[s,y],argTypes := #[81,81] }) (hs : a.eval s = v) (hy : a.eval y = .slice (some ⟨w.heap.size,0,none⟩) 1 1) (hown : Seen w B v al) (hB : B ≤ w.heap.size) (hn : al.length ≤ 100000)
  (h : ∀ v' w',Seen w' B v' (al ++ [x]) → Kp (fun k => v.ownBlock = some k) w w' → Below B w w' → wpList Tryz.prog ops Q rest (a.put o.dst v') w') : wpList Tryz.prog ops Q (o :: rest) a (w.alloc (.cells #[.string x] 9)) := by
 have hba : Below w.heap.size w (w.alloc (.cells #[.string x] 9)) := bra _;refine wpList_joinG hgd s y 81 9 1 16 _ ho Tryz.underlying81 infoSt rfl (by decide) B v al.length (stRows al).flatten hs (own_below hown hba) (.slice (some ⟨w.heap.size,0,none⟩) 1 1) [[.string x]] hy (RowG.blk (Blk.new w _ _) rfl (by simp) rfl (by omega)) (by simp) (by simp [Value.oneCell']) (by simp; omega) (by decide) (Nat.le_trans hB hba.size) ?_;intro v' w' ho' hg;refine h v' w' (Seen.snoc (by simpa using ho')) ?_ ?_
 ·exact (Kp.ofBelow hba).trans ((Kp.refl _ _).grown hg (fun k hk _ => hk))
 ·exact ((Below.refl B w).alloc hB _).grown hg (by have := hba.size; omega) (fun k hk => ((own_below hown hba).lt k hk).1)
theorem chkEb_big {e : EnS} (h : 16 < e.values.length) : chkEb e = 4 := by unfold chkEb; rw [if_pos h]
theorem rfenum_any {w : World} {vv : Value} {nm : ByteArray} {vs : List NmS} (hr : RowG w vv 2 (nmRows vs)) (hl : vs.length ≤ 30000) (hw : ∀ f ∈ vs,f.name.size ≤ 20000) :
  Calls Tryz.prog 58 #[.agg #[.string nm,vv]] w fun e w' => e = .returned (.int .i64 (chkEb ⟨nm,vs⟩)) ∧ Below w.heap.size w w' := by
 obtain ⟨a,c,rfl,q1,q2⟩ := hr.form2
 have hN : (nmRows vs).length = vs.length := by simp [nmRows]
 rw [hN] at q1 hr ⊢;obtain ⟨N,hN2⟩ : ∃ N,vs.length = N := ⟨_,rfl⟩;rw [hN2] at q1 hr hl ⊢;have HN : Hid (vs.length = N) := hN2;have HR : Hid (RowG w (.slice a N c) 2 (nmRows vs)) := hr;have HW : Hid (∀ f ∈ vs,f.name.size ≤ 20000) := hw;clear hr hN hN2 hw;obtain ⟨A,hA⟩ : ∃ A,chkEb ⟨nm,vs⟩ = A := ⟨_,rfl⟩;rw [hA];have HA : Hid (A = chkEb ⟨nm,vs⟩) := hA.symm;clear hA;have hba : Below w.heap.size w (w.alloc (.cells #[.string nm,.slice a N c] 59)) := bra _;have BX := Blk.new w #[.string nm,.slice a N c] 59
 by_cases hbig : 16 < N
 ·have HA2 : Hid (A = 4) := by show _ = _; rw [HA.out]; exact chkEb_big (by show 16 < vs.length; rw [HN.out]; exact hbig)
  go_enter Tryz.func58,Tryz.ntmps58
  go_wp2_with fail;go_ret;exact ⟨ret_e HA2.out.symm,hba⟩
 have HA1 : Hid (A = if zeroV vs = false then 12 else chkVs [] [] vs) := by
  show _ = _
  rw [HA.out]; unfold chkEb;rw [if_neg (by show ¬ 16 < vs.length; rw [HN.out]; exact hbig)]
  rfl
 clear HA
 go_enter Tryz.func58,Tryz.ntmps58
 go_wp2_with fail;generalize w.alloc (.cells #[.string nm,.slice a N c] 59) = wb at *
 go_loopw [3,4] (fun zv iv wr => ∃ (k : Nat) (z : Bool),zv = .bool z ∧ iv = .int .i64 (k : Int) ∧ k ≤ N ∧ Hid (zeroV vs = (z || zeroV (vs.drop k))) ∧ wr = wb) (fun _ iv _ => N - (intOf iv).toNat)
 case atStart => exact ⟨0,false,rfl,rfl,by omega,by show _ = _; simp,rfl⟩
 case round =>
  obtain ⟨k,z,rfl,rfl,hk,HZ,rfl⟩ := hrel;have x1 : wr.cell? ⟨w.heap.size,1,none⟩ = some (.slice a N c) := BX.cell 1
  by_cases hlt : k < N
  ·obtain ⟨f,hf⟩ : ∃ n,vs[k]? = some n := ⟨_,List.getElem?_eq_getElem (by rw [HN.out]; exact hlt)⟩
   have hrr : (nmRows vs)[k]? = some f.cells := by simp [nmRows,hf]
   obtain ⟨g,off,rfl,c1⟩ := (HR.out.below hba).get hrr;obtain ⟨f0,f1⟩ := f
   have HZ2 : Hid (zeroV vs = (z || (decide (f1 = 0) || zeroV (vs.drop (k + 1))))) := by
    show _ = _
    rw [HZ.out,drop_at hf]; rfl
   have p1 := c1 1 _ rfl;clear c1 hrr hf HZ
   cases z with
   | true =>
    have HZ3 : Hid (zeroV vs = (true || zeroV (vs.drop (k + 1)))) := by show _ = _; rw [HZ2.out]; rfl
    go_wp2_with fail
    go_roundw
    case rel => exact ⟨k + 1,true,rfl,by go_num,by omega,HZ3,trivial⟩
    case measure => simp [intOf]; omega
   | false =>
    by_cases h0 : f1 = 0
    ·subst h0
     have HZ3 : Hid (zeroV vs = (true || zeroV (vs.drop (k + 1)))) := by show _ = _; rw [HZ2.out]; rfl
     go_wp2_with fail
     go_roundw
     case rel => exact ⟨k + 1,true,rfl,by go_num,by omega,HZ3,trivial⟩
     case measure => simp [intOf]; omega
    ·have hq : (f1 == 0) = false := by rw [beq_eq_false_iff_ne]; exact h0
     have HZ3 : Hid (zeroV vs = (false || zeroV (vs.drop (k + 1)))) := by show _ = _; rw [HZ2.out,decide_eq_false h0]; rfl
     go_wp2_with fail
     go_roundw
     case rel => exact ⟨k + 1,false,rfl,by go_num,by omega,HZ3,trivial⟩
     case measure => simp [intOf]; omega
  ·have HZ2 : Hid (zeroV vs = z) := by show _ = _; rw [HZ.out,drop_end (by rw [HN.out]; omega)]; simp [zeroV]
   clear HZ
   cases z with
   | false =>
    have HA2 : Hid (A = 12) := by show _ = _; rw [HA1.out,HZ2.out]; rfl
    clear HA1 HZ2;go_wp2_with fail;go_ret;exact ⟨ret_e HA2.out.symm,hba⟩
   | true =>
    have HA2 : Hid (A = chkVs [] ((vs.take 0).map NmS.n) (vs.drop 0)) := by show _ = _; rw [HA1.out,HZ2.out]; rfl
    clear HA1 HZ2;go_wp2_with fail;clear x1;have HS0 : Hid (Seen wr w.heap.size (.slice none 0 0) []) := Seen.nil _ _
    go_loopw [5,6] (fun nv iv wr => ∃ (k : Nat) (al : List ByteArray) (sa : Option Addr) (sc : Nat),nv = .slice sa k sc ∧ iv = .int .i64 (k : Int) ∧ k ≤ N ∧ Hid (al.length = k) ∧ Hid (A = chkVs al ((vs.take k).map NmS.n) (vs.drop k)) ∧ Hid (Seen wr w.heap.size (.slice sa k sc) al) ∧ Below w.heap.size w wr ∧ Blk wr w.heap.size #[.string nm,.slice a N c] 59) (fun _ iv _ => N - (intOf iv).toNat)
    case atStart => exact ⟨0,[],none,0,rfl,rfl,by omega,rfl,HA2,HS0,hba,BX⟩
    case round =>
     clear HA2 HS0 hba BX hlt hk;obtain ⟨k,al,sa,sc,rfl,rfl,hk,HK,HAk,HSE,hbel,BX⟩ := hrel;have x1 : wr.cell? ⟨w.heap.size,1,none⟩ = some (.slice a N c) := BX.cell 1
     by_cases hlt : k < N
     ·obtain ⟨f,hf⟩ : ∃ n,vs[k]? = some n := ⟨_,List.getElem?_eq_getElem (by rw [HN.out]; exact hlt)⟩
      have hrr : (nmRows vs)[k]? = some f.cells := by simp [nmRows,hf]
      obtain ⟨g,off,rfl,c1⟩ := (HR.out.below hbel).get hrr;have hsz := HW.out _ (List.mem_of_getElem? hf);obtain ⟨f0,f1⟩ := f;simp only at hsz
      have HA3 : Hid (A = if freshB f0 al = false then 6 else if numB f1 ((vs.take k).map NmS.n) = false then 11 else chkVs (al ++ [f0]) ((vs.take k).map NmS.n ++ [f1]) (vs.drop (k + 1))) := by
       show _ = _
       rw [HAk.out,drop_at hf]; rfl
      have HT : Hid ((vs.take (k + 1)).map NmS.n = (vs.take k).map NmS.n ++ [f1]) := by
       show _ = _
       rw [List.take_add_one,hf]; simp
      have p0 := c1 0 _ rfl;have p1 := c1 1 _ rfl;simp only [Nat.add_zero] at p0 p1;have ha : Below wr.heap.size wr (wr.alloc (.cells #[.string f0,.int .i64 f1] 61)) := bra _;have BV := Blk.new wr #[.string f0,.int .i64 f1] 61;clear c1 hrr hf HAk;go_wp2_with fail;clear x1 p0 p1;refine (rfresh_any f0 hsz (HSE.out.below ha).row).mono ?_;rintro e w1 ⟨rfl,hb1⟩;have hbw1 : Below w.heap.size w w1 := (hbel.trans (ha.mono hbel.size)).trans (hb1.mono (hbel.trans (ha.mono hbel.size)).size);have HS1 : Hid (Seen w1 w.heap.size (.slice sa k sc) al) := (HSE.out.below ha).below hb1;have BX1 := (BX.below ha).below hb1;have BV1 := BV.below hb1;clear BV ha hb1 HSE
      cases hfr : freshB f0 al with
      | false =>
       have HA4 : Hid (A = 6) := by show _ = _; rw [HA3.out,if_pos hfr]
       clear HA3;go_wp2_with fail;go_ret;exact ⟨ret_e HA4.out.symm,hbw1⟩
      | true =>
       have HA4 : Hid (A = if numB f1 ((vs.take k).map NmS.n) = false then 11 else chkVs (al ++ [f0]) ((vs.take k).map NmS.n ++ [f1]) (vs.drop (k + 1))) := by show _ = _; rw [HA3.out,if_neg (by rw [hfr]; decide)]
       clear HA3 hfr;obtain ⟨bv,hbv⟩ : ∃ n,wr.heap.size = n := ⟨_,rfl⟩;rw [hbv] at BV1 ⊢;clear hbv hbel BX;have v0 : w1.cell? ⟨bv,0,none⟩ = some (.string f0) := BV1.cell 0
       go_wp2_with (first
        | (at_builtin; refine wpList_seen (al := al) (x := f0) rfl _ _ rfl rfl rfl HS1.out ?c1 ?c2 ?_)
        | fail)
       case c1 => exact hbw1.size
       case c2 => rw [HK.out]; omega
       intro v' w2 hS2 hK2 hB2;obtain ⟨ta,tc,rfl⟩ := hS2.form
       have hl2 : (al ++ [f0]).length = k + 1 := by rw [List.length_append,HK.out]; rfl
       rw [hl2] at hS2 ⊢;have HS2 : Hid (Seen w2 w.heap.size (.slice ta (k + 1) tc) (al ++ [f0])) := hS2;have HK2 : Hid ((al ++ [f0]).length = k + 1) := hl2;have hb2 : Below w.heap.size w w2 := hbw1.trans hB2;have BX2 := BX1.kp hK2 (fun e => absurd (own_type HS1.out e BX1) (by decide));have BV2 := BV1.kp hK2 (fun e => absurd (own_type HS1.out e BV1) (by decide));have v1 : w2.cell? ⟨bv,1,none⟩ = some (.int .i64 f1) := BV2.cell 1;clear v0 hS2 hl2 hK2 hB2 BX1 BV1 HS1 hbw1 HK
       by_cases hlo : f1 < 0
       ·have HA5 : Hid (A = 11) := by show _ = _; rw [HA4.out,if_pos (by unfold numB; rw [numR_low hlo]; rfl)]
        clear HA4;go_wp2_with fail;go_ret;exact ⟨ret_e HA5.out.symm,hb2⟩
       by_cases hhi : 2147483647 < f1
       ·have HA5 : Hid (A = 11) := by show _ = _; rw [HA4.out,if_pos (by unfold numB; rw [numR_high hhi]; rfl)]
        clear HA4;go_wp2_with fail;go_ret;exact ⟨ret_e HA5.out.symm,hb2⟩
       have HNR : Hid (numR f1 = true) := numR_in hlo hhi;go_wp2_with fail;clear v1
       go_loopw [8] (fun jv wr => ∃ j : Nat,jv = .int .i64 (j : Int) ∧ j ≤ k ∧ Hid (memI f1 ((vs.take j).map NmS.n) = false) ∧ Below w2.heap.size w2 wr) (fun jv _ => k - (intOf jv).toNat)
       case atStart => exact ⟨0,rfl,by omega,by show _ = _; simp [memI],Below.refl _ _⟩
       case round =>
        obtain ⟨j,rfl,hj,HJ,hb3⟩ := hrel;have hbw3 : Below w.heap.size w wr := hb2.trans (hb3.mono hb2.size)
        by_cases hltj : j < k
        ·obtain ⟨f',hf'⟩ : ∃ n,vs[j]? = some n := ⟨_,List.getElem?_eq_getElem (by rw [HN.out]; omega)⟩
         have hrr : (nmRows vs)[j]? = some f'.cells := by simp [nmRows,hf']
         obtain ⟨g',off',heq,c1⟩ := (HR.out.below hbw3).get hrr;simp only [Option.some.injEq,Addr.mk.injEq,and_true] at heq;obtain ⟨rfl,rfl⟩ := heq;obtain ⟨e0,e1⟩ := f'
         have HJ2 : Hid (memI f1 ((vs.take (j + 1)).map NmS.n) = (memI f1 ((vs.take j).map NmS.n) || decide (f1 = e1))) := by
          show _ = _
          rw [List.take_add_one,hf']; simp only [List.map_append,Option.toList_some,List.map_cons,List.map_nil]; exact memI_snoc _ _ _
         have HJM : Hid (e1 ∈ (vs.take k).map NmS.n) := List.mem_map.2 ⟨⟨e0,e1⟩,List.mem_of_getElem? (i := j) (by rw [List.getElem?_take_of_lt hltj]; exact hf'),rfl⟩;have p1 := c1 1 _ rfl;have x1 : wr.cell? ⟨w.heap.size,1,none⟩ = some (.slice (some ⟨g,off,none⟩) N c) := (BX2.below hb3).cell 1;have v1 : wr.cell? ⟨bv,1,none⟩ = some (.int .i64 f1) := (BV2.below hb3).cell 1;clear c1 hrr hf'
         by_cases he : e1 = f1
         ·subst he
          have HA5 : Hid (A = 11) := by show _ = _; rw [HA4.out,if_pos (by unfold numB memI; rw [decide_eq_true HJM.out]; simp)]
          clear HA4;go_wp2_with fail
          go_quiet (fail)
          go_wp2_with fail;go_ret;exact ⟨ret_e HA5.out.symm,below_drewN nq hbw3⟩
         ·have hq : (e1 == f1) = false := by rw [beq_eq_false_iff_ne]; exact he
          have HJ3 : Hid (memI f1 ((vs.take (j + 1)).map NmS.n) = false) := by show _ = _; rw [HJ2.out,HJ.out,decide_eq_false (Ne.symm he)]; rfl
          go_wp2_with fail
          go_quiet (fail)
          go_wp2_with fail
          go_roundw
          case rel => exact ⟨j + 1,by go_num,by omega,HJ3,below_drewN nq hb3⟩
          case measure => simp [intOf]; omega
        ·have hjk : j = k := by omega
         rw [hjk] at HJ
         have HA5 : Hid (A = chkVs (al ++ [f0]) ((vs.take (k + 1)).map NmS.n) (vs.drop (k + 1))) := by
          show _ = _
          rw [HA4.out,if_neg (by unfold numB; rw [HNR.out,HJ.out]; decide),HT.out]
         have HS3 : Hid (Seen wr w.heap.size (.slice ta (k + 1) tc) (al ++ [f0])) := HS2.out.below hb3;have BX3 := BX2.below hb3;clear hjk HA4 HJ BX2 BV2 HS2 hb3 hb2;go_wp2_with fail
         go_roundw
         case rel => exact ⟨k + 1,al ++ [f0],ta,tc,rfl,by go_num,by omega,HK2,HA5,HS3,hbw3,BX3⟩
         case measure => simp [intOf]; omega
     ·have HA3 : Hid (A = 0) := by show _ = _; rw [HAk.out,drop_end (by rw [HN.out]; omega)]; rfl
      clear HAk;go_wp2_with fail;go_ret;exact ⟨ret_e HA3.out.symm,hbel⟩
theorem memI_cons' (x y : Int) (l : List Int) : memI x (y :: l) = (decide (x = y) || memI x l) := by simp [memI,Bool.decide_or]
theorem rreserved_any {w : World} {v : Value} {ns : List Int} {snm : ByteArray} {af : Option Addr} {F cf : Nat} (t : Int) (hr : RowG w v 1 (inRows ns)) :
  Calls Tryz.prog 93 #[.agg #[.string snm,.slice af F cf,v],.int .i64 t] w fun e w' => e = .returned (.bool (memI t ns)) ∧ Below w.heap.size w w' := by
 obtain ⟨a,c,rfl,q1,q2⟩ := hr.form2
 have hN : (inRows ns).length = ns.length := by simp [inRows]
 rw [hN] at hr q1 ⊢;clear hN;obtain ⟨N,hN⟩ : ∃ N,ns.length = N := ⟨_,rfl⟩;rw [hN] at hr q1 ⊢;have HN : Hid (ns.length = N) := hN;have HR : Hid (RowG w (.slice a N c) 1 (inRows ns)) := hr;clear hN hr;obtain ⟨A,hA⟩ : ∃ A,memI t ns = A := ⟨_,rfl⟩;rw [hA];have HA : Hid (A = memI t ns) := hA.symm;clear hA;have hb0 : Below w.heap.size w (w.alloc (.cells #[.string snm,.slice af F cf,.slice a N c] 52)) := bra _;have BX0 := Blk.new w #[.string snm,.slice af F cf,.slice a N c] 52
 go_enter Tryz.func93,Tryz.ntmps93
 go_wp2_with fail
 go_loopw [5] (fun iv wr => ∃ k : Nat,iv = .int .i64 (k : Int) ∧ k ≤ N ∧ Hid (A = memI t (ns.drop k)) ∧ Below w.heap.size w wr ∧ Blk wr w.heap.size #[.string snm,.slice af F cf,.slice a N c] 52) (fun iv _ => N - (intOf iv).toNat)
 case atStart => exact ⟨0,rfl,by omega,HA,hb0,BX0⟩
 case round =>
  obtain ⟨k,rfl,hk,HAk,hbel,BX⟩ := hrel;clear hb0 BX0;have b2 : wr.cell? ⟨w.heap.size,2,none⟩ = some (.slice a N c) := BX.cell 2
  by_cases hlt : k < N
  ·obtain ⟨f,hf⟩ : ∃ n,ns[k]? = some n := ⟨_,List.getElem?_eq_getElem (by rw [HN.out]; exact hlt)⟩
   have hrr : (inRows ns)[k]? = some [.int .i64 f] := by simp [inRows,hf]
   obtain ⟨g,off,rfl,c1⟩ := (HR.out.below hbel).get hrr
   have HA2 : Hid (A = (decide (t = f) || memI t (ns.drop (k + 1)))) := by
    show _ = _
    rw [HAk.out,drop_at hf,memI_cons']
   have p0 := c1 0 _ rfl;simp only [Nat.mul_one,Nat.add_zero] at p0;clear c1 hrr hf HAk
   by_cases he : t = f
   ·subst he
    have HA3 : Hid (A = true) := by show _ = _; rw [HA2.out,decide_eq_true rfl]; rfl
    clear HA2;go_wp2_with fail;go_ret;exact ⟨ret_bool HA3.out.symm,hbel⟩
   ·have hq : (f == t) = false := by simpa using Ne.symm he
    have HA3 : Hid (A = memI t (ns.drop (k + 1))) := by show _ = _; rw [HA2.out,decide_eq_false he]; rfl
    go_wp2_with fail
    go_roundw
    case rel => exact ⟨k + 1,by go_num,by omega,HA3,hbel,BX⟩
    case measure => simp [intOf]; omega
  ·go_wp2_with fail;go_ret;exact ⟨ret_bool (by rw [HAk.out,drop_end (by rw [HN.out]; omega)]; rfl),hbel⟩
end
section
theorem rg_ca3 {P : Program} {md : Region.Mode} {ops : Array Oper} {Q : Exit → Act → World → Prop} {S : World → Prop} {fuel : Nat} {listed : Array Bool} {a : Act} {w : World} {oi oj o1 o2 o3 : Oper} (i j k1 k2 k3 di dj d1 d2 d3 f : Nat) (vals : Array Value) (z : World → Value) (N : World → World) (F1 F2 F3 : Value → Value) (U : Value → Prop) (C : Value → Value → World → Prop)
  (hi : ops[i]? = some oi) (hj : ops[j]? = some oj) (h1 : ops[k1]? = some o1) (h2 : ops[k2]? = some o2) (h3 : ops[k3]? = some o3) (hdi : oi.dst = some di) (hdj : oj.dst = some dj) (hd1 : o1.dst = some d1) (hd2 : o2.dst = some d2) (hd3 : o3.dst = some d3)
  (ij : j ≠ i) (j1 : j ≠ k1) (j2 : j ≠ k2) (j3 : j ≠ k3) (dij : dj ≠ di) (dj1 : dj ≠ d1) (dj2 : dj ≠ d2) (dj3 : dj ≠ d3)
  (hr : Region.ready md ops listed = [i,j]) (hrj : Region.ready md ops (listed.setIfInBounds j true) = [i]) (hs : Region.noSelect ops = true)
  (fA1 : Region.free md ops (listed.setIfInBounds i true) k1 = true) (rA1 : (Region.ready md ops (listed.setIfInBounds i true)).contains k1 = true)
  (fA2 : Region.free md ops ((listed.setIfInBounds i true).setIfInBounds k1 true) k2 = true) (rA2 : (Region.ready md ops ((listed.setIfInBounds i true).setIfInBounds k1 true)).contains k2 = true)
  (fA3 : Region.free md ops (((listed.setIfInBounds i true).setIfInBounds k1 true).setIfInBounds k2 true) k3 = true) (rA3 : (Region.ready md ops (((listed.setIfInBounds i true).setIfInBounds k1 true).setIfInBounds k2 true)).contains k3 = true)
  (rA4 : Region.ready md ops ((((listed.setIfInBounds i true).setIfInBounds k1 true).setIfInBounds k2 true).setIfInBounds k3 true) = [j])
  (fB1 : Region.free md ops ((listed.setIfInBounds j true).setIfInBounds i true) k1 = true) (rB1 : (Region.ready md ops ((listed.setIfInBounds j true).setIfInBounds i true)).contains k1 = true)
  (fB2 : Region.free md ops (((listed.setIfInBounds j true).setIfInBounds i true).setIfInBounds k1 true) k2 = true) (rB2 : (Region.ready md ops (((listed.setIfInBounds j true).setIfInBounds i true).setIfInBounds k1 true)).contains k2 = true)
  (fB3 : Region.free md ops ((((listed.setIfInBounds j true).setIfInBounds i true).setIfInBounds k1 true).setIfInBounds k2 true) k3 = true) (rB3 : (Region.ready md ops ((((listed.setIfInBounds j true).setIfInBounds i true).setIfInBounds k1 true).setIfInBounds k2 true)).contains k3 = true)
  (hwi : ∀ t,Region.wanted oi t = true) (hwj : ∀ t,Region.wanted oj t = true) (hw1 : ∀ t,Region.wanted o1 t = true) (hw2 : ∀ t,Region.wanted o2 t = true) (hw3 : ∀ t,Region.wanted o3 t = true)
  (hQ : ∀ (d : Option Nat) v c a w,Q (.panic c) (Act.put a d v) w → Q (.panic c) a w)
  (hxj : ∀ (a' : Act) w',(execOp a'.eval oj).run P w' = .ok (.value (z w')) (N w'))
  (hxi : ∀ w',(execOp a.eval oi).run P w' = .ok (.enter f vals) w') (hxi' : ∀ v w',(execOp (a.put (some dj) v).eval oi).run P w' = .ok (.enter f vals) w')
  (x1 : ∀ v w',U v → (execOp (a.put (some di) v).eval o1).run P w' = .ok (.value (F1 v)) w') (x1' : ∀ v p w',U v → (execOp ((a.put (some dj) p).put (some di) v).eval o1).run P w' = .ok (.value (F1 v)) w')
  (x2 : ∀ v w',U v → (execOp ((a.put (some di) v).put (some d1) (F1 v)).eval o2).run P w' = .ok (.value (F2 v)) w') (x2' : ∀ v p w',U v → (execOp (((a.put (some dj) p).put (some di) v).put (some d1) (F1 v)).eval o2).run P w' = .ok (.value (F2 v)) w')
  (x3 : ∀ v w',U v → (execOp (((a.put (some di) v).put (some d1) (F1 v)).put (some d2) (F2 v)).eval o3).run P w' = .ok (.value (F3 v)) w') (x3' : ∀ v p w',U v → (execOp ((((a.put (some dj) p).put (some di) v).put (some d1) (F1 v)).put (some d2) (F2 v)).eval o3).run P w' = .ok (.value (F3 v)) w')
  (hA : Calls P f vals w fun e w' => ∃ v,e = .returned v ∧ U v ∧ S w' ∧ S (N w') ∧ C v (z w') (N w'))
  (hB : S (N w) ∧ Calls P f vals (N w) fun e w' => ∃ v,e = .returned v ∧ U v ∧ S w' ∧ C v (z w) w')
  (h : ∀ v p w',U v → S w' → C v p w' → wpAnyH P md ops Q S fuel (((((listed.setIfInBounds i true).setIfInBounds k1 true).setIfInBounds k2 true).setIfInBounds k3 true).setIfInBounds j true) { a with tmps := ((((a.tmps.setIfInBounds di v).setIfInBounds d1 (F1 v)).setIfInBounds d2 (F2 v)).setIfInBounds d3 (F3 v)).setIfInBounds dj p } w') :
  wpAnyH P md ops Q S (fuel + 5) listed a w := by
 refine wpAnyH_ready (rs := [i,j]) hr (by simp) (AllReadyH.cons hi (fun K hK => ?_) (AllReadyH.cons hj (fun K hK => ?_) AllReadyH.nil))
 ·rw [if_pos (hwi _)];unfold Oper.wp;rw [hxi];refine Calls.mono hA ?_;rintro e w1 ⟨v,rfl,u,s1,s2,c⟩;refine hK.out _ _ s1 (fun _ => ?_);rw [hdi];refine rg_take k1 d1 (F1 v) _ h1 hd1 hs fA1 rA1 (fun c a w => hQ _ _ c a w) (hw1 _) (fun w' _ => x1 v w' u) s1 rfl rfl ?_;refine rg_take k2 d2 (F2 v) _ h2 hd2 hs fA2 rA2 (fun c a w => hQ _ _ c a w) (hw2 _) (fun w' _ => x2 v w' u) s1 rfl rfl ?_;refine rg_take k3 d3 (F3 v) _ h3 hd3 hs fA3 rA3 (fun c a w => hQ _ _ c a w) (hw3 _) (fun w' _ => x3 v w' u) s1 rfl rfl ?_;exact rg_run j dj (z w1) (N w1) hj hdj rA4 (hwj _) rfl (hxj _ w1) s2 (h v (z w1) (N w1) u s2 c)
 ·rw [if_pos (hwj _)];unfold Oper.wp;rw [hxj];refine hK.out _ _ hB.1 (fun _ => ?_);rw [hdj];refine rg_call i di f vals hi hdi hrj (hwi _) rfl (fun W => hxi' (z w) W) ?_;refine Calls.mono hB.2 ?_;rintro e w1 ⟨v,rfl,u,s1,c⟩;refine ⟨v,rfl,s1,?_⟩;refine rg_take k1 d1 (F1 v) _ h1 hd1 hs fB1 rB1 (fun c a w => hQ _ _ c a w) (hw1 _) (fun w' _ => x1' v (z w) w' u) s1 rfl rfl ?_;refine rg_take k2 d2 (F2 v) _ h2 hd2 hs fB2 rB2 (fun c a w => hQ _ _ c a w) (hw2 _) (fun w' _ => x2' v (z w) w' u) s1 rfl rfl ?_;refine rg_take k3 d3 (F3 v) _ h3 hd3 hs fB3 rB3 (fun c a w => hQ _ _ c a w) (hw3 _) (fun w' _ => x3' v (z w) w' u) s1 rfl rfl ?_;have hh := h v (z w) w1 u s1 c;rw [set_comm2 _ (Ne.symm j3),set_comm2 _ (Ne.symm j2),set_comm2 _ (Ne.symm j1),set_comm2 _ (Ne.symm ij),set_comm2 _ (Ne.symm dj3),set_comm2 _ (Ne.symm dj2),set_comm2 _ (Ne.symm dj1),set_comm2 _ (Ne.symm dij)] at hh;exact hh
end
section
open Go.ChangeShapes Go.WideShapes Go.ChangeAt Go.RowKit
theorem kept_cell {w : World} {a : Addr} {u : Value} (h : w.cell? a = some u) (x : Kept w.heap.size w) : x.w.cell? a = some u := by
 rw [x.below.cell (World.block_lt_of_cell? _ _ h)]; exact h
end
end Go.Proofs.YtmgbhicogmclgaaGreat

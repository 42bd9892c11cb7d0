/- Part 3 of what the proof stands on. -/
import Derived.Test.YtdkolhfpfimeoabPkHAB
import Derived.Laws.AppendOwnNone
import Derived.OwnWalk
import Derived.Maps.AppendAt
import Derived.LaidEql
import Derived.LaidEqlPtr
import Derived.Laws.StructEq
import Derived.MapKept
import Derived.Deep.Cut
namespace Go.Proofs.Ytdkolhfpfimeoab
set_option maxHeartbeats 8000000
set_option linter.unusedVariables false
set_option linter.unusedSimpArgs false
set_option maxRecDepth 20000
section
open Go.ChangeShapes Go.WideShapes Go.ChangeAt Go.RowKit
structure SIn (w : World) (v : Value) (s : ScS) : Prop where
 row : ScIn w v s
 wf : ScW s
 few : FewL s
theorem SIn.below {w w1 : World} {v : Value} {s : ScS} (h : SIn w v s) (hb : Below w.heap.size w w1) : SIn w1 v s := ⟨h.row.below hb,h.wf,h.few⟩
abbrev evolV (r : ByteArray × Int × Bool) : Value := .tuple #[.string r.1,.int .i64 r.2.1,.bool r.2.2]
abbrev EvolC : Prop := ∀ (s t : ScS) (sv tv : Value) (w : World),SIn w sv s → SIn w tv t → Calls Try.prog 8 #[sv,tv] w fun e w' => e = .returned (evolV (evolA s t)) ∧ Below w.heap.size w w'
abbrev FitsC : Prop := ∀ (s t : ScS) (sv tv : Value) (k1 k2 : Int) (n1 n2 : ByteArray) (w : World),SIn w sv s → SIn w tv t → Calls Try.prog 51 #[sv,tv,.agg #[.int .i64 k1,.string n1],.agg #[.int .i64 k2,.string n2]] w fun e w' => e = .returned (.bool (fitsY s t k1 n1 k2 n2)) ∧ Below w.heap.size w w'
theorem flat_inv {size : Nat} : ∀ (rs : List (List Value)),(∀ r ∈ rs,r.length = size) → ∀ (j : Nat) (u : Value),rs.flatten[j]? = some u → ∃ i c k,rs[i]? = some c ∧ c[k]? = some u ∧ j = i * size + k
 | [],_,j,u,h => by simp at h
 | x :: l,hl,j,u,h => by
  have hx := hl x (List.mem_cons_self ..)
  by_cases hj : j < x.length
  ·rw [List.flatten_cons,List.getElem?_append_left hj] at h;exact ⟨0,x,j,rfl,h,by simp⟩
  ·rw [List.flatten_cons,List.getElem?_append_right (by omega)] at h;obtain ⟨i,c,k,h1,h2,h3⟩ := flat_inv l (fun r hr => hl r (List.mem_cons_of_mem _ hr)) _ u h;exact ⟨i + 1,c,k,by simpa using h1,h2,by rw [Nat.add_mul]; omega⟩
theorem run_joinG {w : World} (t ty e : TypeId) (size bytes : Nat) (z : Value) (ht : Try.prog.underlying t = some (.slice e)) (hinfo : (Try.prog.info? e).map (fun i => (i.zero,i.size,i.bytes)) = some (some z,size,bytes)) (hzs : z.cells.size = size) (hsz : 0 < size)
  (base : Nat) (v : Value) (n : Nat) (xs : List Value) (hown : w.ownsRow base e size v n xs)
  (xv : Value) (rs : List (List Value)) (hr : RowG w xv size rs) (hl : ∀ r ∈ rs,r.length = size) (h1 : ∀ u ∈ rs.flatten,u.oneCell' = true) (hb : n + rs.length ≤ 1000000) (hby : bytes ≤ 1000) (hbase : base ≤ w.heap.size) :
  ∃ v' w',(Builtin.append_ #[t,t] ty #[v,xv]).run Try.prog w = .ok v' w' ∧ w'.ownsRow base e size v' (n + rs.length) (xs ++ rs.flatten) ∧ w.grownBy w' v.ownBlock := by
 obtain ⟨i0,hi,hz0,hz1,hz2⟩ := info_parts hinfo;obtain ⟨ao,cap,rfl,q1,q2,q0,q3⟩ := hr.form
 cases ao with
 | none =>
  have hrs : rs = [] := by
   cases rs with
   | nil => rfl
   | cons r l => obtain ⟨g,off,e,_⟩ := q3 (by simp); cases e
  subst hrs;have := q0 rfl;subst this;have hrun := run_append_owned_none (P := Try.prog) (w := w) base t ty e i0 size ht hi v n xs hown;refine ⟨v,w,hrun,?_,⟨rfl,rfl,rfl,Nat.le_refl _,fun _ _ _ => rfl⟩⟩;rw [List.flatten_nil,List.append_nil];exact hown
 | some ad =>
  obtain ⟨v',w',g0,g1,g2,_⟩ := run_append_own w base t ty e i0 z size bytes ht hi hz0 hz1 hz2 hzs hsz v _ _ hown ad rs.length cap rs.flatten (by rw [flat_len rs hl]) (fun j u hu => by
   obtain ⟨i,c,k,e1,e2,rfl⟩ := flat_inv rs hl j u hu;obtain ⟨g,off,e3,e4⟩ := q3 (by intro e; rw [e] at e1; simp at e1)
   cases e3
   have := e4 i c u k e1 e2;rw [Nat.add_assoc] at this;rw [Addr.add_lit]
   exact this) h1 (by unfold maxLen; omega) (Nat.le_trans (Nat.mul_le_mul hb hby) (by decide)) hbase
  exact ⟨v',w',g0,g1,g2⟩
theorem wpList_joinG {w : World} {ops : Array Oper} {rest : List Oper} {o : Oper} {a : Act} {Q : Exit → Act → World → Prop} (hgd : o.guard = none) (s x : Operand) (t e : TypeId) (size bytes : Nat) (z : Value)
  (ho : o.op = .call { callee := .builtin .append,args := #[s,x],argTypes := #[t,t] }) (ht : Try.prog.underlying t = some (.slice e)) (hinfo : (Try.prog.info? e).map (fun i => (i.zero,i.size,i.bytes)) = some (some z,size,bytes)) (hzs : z.cells.size = size) (hsz : 0 < size)
  (base : Nat) (v : Value) (n : Nat) (xs : List Value) (hs : a.eval s = v) (hown : w.ownsRow base e size v n xs)
  (xv : Value) (rs : List (List Value)) (hx : a.eval x = xv) (hr : RowG w xv size rs) (hl : ∀ r ∈ rs,r.length = size) (h1 : ∀ u ∈ rs.flatten,u.oneCell' = true) (hb : n + rs.length ≤ 1000000) (hby : bytes ≤ 1000) (hbase : base ≤ w.heap.size)
  (h : ∀ v' w',w'.ownsRow base e size v' (n + rs.length) (xs ++ rs.flatten) → w.grownBy w' v.ownBlock → wpList Try.prog ops Q rest (a.put o.dst v') w') : wpList Try.prog ops Q (o :: rest) a w := by
 obtain ⟨i0,hi,hz0,hz1,hz2⟩ := info_parts hinfo;obtain ⟨ao,cap,rfl,q1,q2,q0,q3⟩ := hr.form
 cases ao with
 | none =>
  have hrs : rs = [] := by
   cases rs with
   | nil => rfl
   | cons r l => obtain ⟨g,off,e,_⟩ := q3 (by simp); cases e
  subst hrs;have := q0 rfl;subst this;refine wpList_append_own_none hgd s x t ho base e i0 size ht hi v _ _ hs hown hx ?_;refine h v w ?_ ⟨rfl,rfl,rfl,Nat.le_refl _,fun _ _ _ => rfl⟩;rw [List.flatten_nil,List.append_nil];exact hown
 | some ad =>
  refine wpList_append_own w hgd s x t ho base e i0 z size bytes ht hi hz0 hz1 hz2 hzs hsz v _ _ hs hown ad rs.length cap rs.flatten hx (by rw [flat_len rs hl]) ?_ h1 (by unfold maxLen; omega) ?_ hbase ?_
  ·intro j u hu;obtain ⟨i,c,k,e1,e2,rfl⟩ := flat_inv rs hl j u hu;obtain ⟨g,off,e3,e4⟩ := q3 (by intro e; rw [e] at e1; simp at e1)
   cases e3
   have := e4 i c u k e1 e2;rw [Nat.add_assoc] at this;rw [Addr.add_lit];exact this
  ·exact Nat.le_trans (Nat.mul_le_mul hb hby) (by decide)
  ·intro v' w' g1 g2 _;exact h v' w' g1 g2
theorem infoFl : (Try.prog.info? 38).map (fun i => (i.zero,i.size,i.bytes)) = some (some (.agg #[.string ⟨#[]⟩,.int .i64 0,.int .i64 0,.int .i64 0,.string ⟨#[]⟩]),5,56) := by kernel_rfl
theorem infoIn : (Try.prog.info? 3).map (fun i => (i.zero,i.size,i.bytes)) = some (some (.int .i64 0),1,8) := by kernel_rfl
theorem infoNm : (Try.prog.info? 27).map (fun i => (i.zero,i.size,i.bytes)) = some (some (.agg #[.string ⟨#[]⟩,.int .i64 0]),2,24) := by kernel_rfl
theorem flr_len (fs : List FlS) : ∀ r ∈ flRows fs,r.length = 5 := fun r hr => by simp only [flRows,List.mem_map] at hr; obtain ⟨_,_,rfl⟩ := hr; rfl
theorem inr_len (fs : List Int) : ∀ r ∈ inRows fs,r.length = 1 := fun r hr => by simp only [inRows,List.mem_map] at hr; obtain ⟨_,_,rfl⟩ := hr; rfl
theorem nmr_len (fs : List NmS) : ∀ r ∈ nmRows fs,r.length = 2 := fun r hr => by simp only [nmRows,List.mem_map] at hr; obtain ⟨_,_,rfl⟩ := hr; rfl
theorem flr_one (fs : List FlS) : ∀ u ∈ (flRows fs).flatten,u.oneCell' = true := by
 intro u hu;simp only [List.mem_flatten,flRows,List.mem_map] at hu;obtain ⟨l,⟨f,_,rfl⟩,hu⟩ := hu;simp only [FlS.cells,List.mem_cons,List.not_mem_nil,or_false] at hu
 rcases hu with rfl | rfl | rfl | rfl | rfl <;> rfl
theorem inr_one (fs : List Int) : ∀ u ∈ (inRows fs).flatten,u.oneCell' = true := by
 intro u hu;simp only [List.mem_flatten,inRows,List.mem_map] at hu;obtain ⟨l,⟨f,_,rfl⟩,hu⟩ := hu;simp only [List.mem_cons,List.not_mem_nil,or_false] at hu;subst hu; rfl
theorem nmr_one (fs : List NmS) : ∀ u ∈ (nmRows fs).flatten,u.oneCell' = true := by
 intro u hu;simp only [List.mem_flatten,nmRows,List.mem_map] at hu;obtain ⟨l,⟨f,_,rfl⟩,hu⟩ := hu;simp only [NmS.cells,List.mem_cons,List.not_mem_nil,or_false] at hu
 rcases hu with rfl | rfl <;> rfl
theorem own_rowF {w : World} {B n : Nat} {v : Value} {fs : List FlS} (h : w.ownsRow B 38 5 v n (flRows fs).flatten) : RowG w v 5 (flRows fs) := (RowG.own (flr_len fs) (by decide) h).1
theorem own_rowI {w : World} {B n : Nat} {v : Value} {fs : List Int} (h : w.ownsRow B 3 1 v n (inRows fs).flatten) : RowG w v 1 (inRows fs) := (RowG.own (inr_len fs) (by decide) h).1
theorem own_rowN {w : World} {B n : Nat} {v : Value} {fs : List NmS} (h : w.ownsRow B 27 2 v n (nmRows fs).flatten) : RowG w v 2 (nmRows fs) := (RowG.own (nmr_len fs) (by decide) h).1
end
section
open Go.ChangeShapes Go.WideShapes Go.ChangeAt Go.RowKit Go.Maps
def prV (p : Pr) : Value := .agg #[.string p.1,.string p.2]
def prC (p : Pr) : List Value := [.string p.1,.string p.2]
def prRows (l : List Pr) : List (List Value) := l.map prC
def nmV (p : NmS) : Value := .agg #[.string p.name,.int .i64 p.n]
def SetP (w : World) (b n : Nat) (L : List Pr) : Prop := SetK 62 w b n (L.map prV)
def SetN (w : World) (b n : Nat) (L : List NmS) : Prop := SetK 27 w b n (L.map nmV)
theorem lawP : Keyed Try.prog 62 := Keyed.of_law (deep_law_laid laidOutP (m := 3) (by omega) (of_decide_eq_true (by kernel_rfl)) (by kernel_rfl) (by kernel_rfl))
theorem lawN : Keyed Try.prog 27 := Keyed.of_law (deep_law_laid laidOutP (m := 3) (by omega) (of_decide_eq_true (by kernel_rfl)) (by kernel_rfl) (by kernel_rfl))
theorem keyTypeP : Try.prog.keyType 62 = true := by kernel_rfl
theorem keyTypeN : Try.prog.keyType 27 = true := by kernel_rfl
theorem cellsP : Try.prog.cellsOf 62 = 2 := by kernel_rfl
theorem cellsN : Try.prog.cellsOf 27 = 2 := by kernel_rfl
theorem lits_pr {m : Nat} {k s : ByteArray} (hk : k.size ≤ 140737488351232) (hs : s.size ≤ 140737488351232) : Try.prog.keyLits (m + 2) 62 [.string k,.string s] = some [.string k.data.toList,.string s.data.toList] := by
 unfold Program.keyLits;simp only [Try.underlying62,cellsP]
 simp [cellsS,lits_str hk,lits_str hs]
theorem lits_nm {m : Nat} {k : Int} {s : ByteArray} (hk : I64 k) (hs : s.size ≤ 140737488351232) : Try.prog.keyLits (m + 2) 27 [.string s,.int .i64 k] = some [.string s.data.toList,.int .i64 k] := by
 unfold Program.keyLits;simp only [Try.underlying27,cellsN]
 simp [cellsI,cellsS,lits_int hk,lits_str hs]
theorem key_pr {p : Pr} (hk : p.1.size ≤ 140737488351232) (hs : p.2.size ≤ 140737488351232) : ∃ kl,keyOf Try.prog 62 (prV p) = some kl := by
 obtain ⟨m,hm⟩ : ∃ m,Try.prog.types.size + 1 = m + 2 := ⟨Try.prog.types.size - 1,by have : 0 < Try.prog.types.size := of_decide_eq_true (by kernel_rfl); omega⟩
 have hf : (prV p).formed Try.prog 62 = true := by simp [prV,Value.formed,Try.underlying62,cellsP]
 unfold keyOf;rw [hm,show (prV p).cells.toList = [.string p.1,.string p.2] from rfl,lits_pr hk hs,keyTypeP,hf];simp only [Try.underlying62];exact ⟨_,rfl⟩
theorem key_nm {p : NmS} (h : NmW p) : ∃ kl,keyOf Try.prog 27 (nmV p) = some kl := by
 obtain ⟨m,hm⟩ : ∃ m,Try.prog.types.size + 1 = m + 2 := ⟨Try.prog.types.size - 1,by have : 0 < Try.prog.types.size := of_decide_eq_true (by kernel_rfl); omega⟩
 have hf : (nmV p).formed Try.prog 27 = true := by simp [nmV,Value.formed,Try.underlying27,cellsN]
 unfold keyOf;rw [hm,show (nmV p).cells.toList = [.string p.name,.int .i64 p.n] from rfl,lits_nm h.2 h.1,keyTypeN,hf];simp only [Try.underlying27];exact ⟨_,rfl⟩
theorem mem_pr {s : Pr} {L : List Pr} : prV s ∈ L.map prV ↔ s ∈ L := by
 simp only [List.mem_map,prV,Value.agg.injEq,Array.mk.injEq,List.cons.injEq,Value.string.injEq,true_and,and_true]
 constructor
 ·rintro ⟨⟨a,b⟩,h1,h2,h3⟩; obtain ⟨c,d⟩ := s; simp only at h2 h3; subst h2 h3; exact h1
 ·intro h; exact ⟨s,h,rfl,rfl⟩
theorem mem_nm {s : NmS} {L : List NmS} : nmV s ∈ L.map nmV ↔ inVs s L = true := by
 simp only [List.mem_map,nmV,Value.agg.injEq,Array.mk.injEq,List.cons.injEq,Value.string.injEq,Value.int.injEq,true_and,and_true,inVs,List.any_eq_true,decide_eq_true_eq]
 constructor
 ·rintro ⟨x,h1,h2,h3⟩; exact ⟨x,h1,h2.symm,h3.symm⟩
 ·rintro ⟨x,h1,h2,h3⟩; exact ⟨x,h1,h2.symm,h3.symm⟩
theorem has_pr {D : DataW Unit} {L : List Pr} {kl : Lit} {p : Pr} (h2 : ∀ v kl,keyOf Try.prog 62 v = some kl → (Maps.has D kl = true ↔ v ∈ L.map prV)) (hk : keyOf Try.prog 62 (prV p) = some kl) : Maps.has D kl = memP p L := by
 rw [Bool.eq_iff_iff,h2 _ _ hk,mem_pr,memP_iff]
theorem has_nm {D : DataW Unit} {L : List NmS} {kl : Lit} {p : NmS} (h2 : ∀ v kl,keyOf Try.prog 27 v = some kl → (Maps.has D kl = true ↔ v ∈ L.map nmV)) (hk : keyOf Try.prog 27 (nmV p) = some kl) : Maps.has D kl = inVs p L := by
 rw [Bool.eq_iff_iff,h2 _ _ hk,mem_nm]
theorem infoPr : (Try.prog.info? 62).map (fun i => (i.zero,i.size,i.bytes)) = some (some (.agg #[.string ⟨#[]⟩,.string ⟨#[]⟩]),2,32) := by kernel_rfl
theorem prr_len (l : List Pr) : ∀ r ∈ prRows l,r.length = 2 := fun r hr => by simp only [prRows,List.mem_map] at hr; obtain ⟨_,_,rfl⟩ := hr; rfl
theorem set_map {k : TypeId} {w : World} {b n : Nat} {L : List Value} (h : SetK k w b n L) {cs : Array Value} {t : TypeId} (hB : Blk w b cs t) : False := by
 obtain ⟨D,⟨es,c,h4,_⟩,_⟩ := h;have h3 := hB.symm.trans h4
 simp at h3
theorem results_noneE {fn : Func} (h : fn.results = #[]) (tmps : Array Value) (P : Program) (w : World) : (results fn tmps).run P w = .ok (.tuple #[]) w := by
 simp [results,h]
structure Meet (S1 S2 : List Value) (W0 w : World) (b mb : Nat) (vp : Value) (l : List Pr) : Prop where
 below : Below W0.heap.size W0 w
 b0 : W0.heap.size ≤ b
 m0 : W0.heap.size ≤ mb
 blk : Blk w b (S1 ++ S2 ++ [vp,.map (some mb)]).toArray 57
 row : w.ownsRow W0.heap.size 62 2 vp l.length (prRows l).flatten
 seen : SetP w mb l.length l
def MeB (b mb : Nat) (vp : Value) (q : Nat) : Prop := q = b ∨ q = mb ∨ vp.ownBlock = some q
section
variable {S1 S2 : List Value} {W0 w w1 : World} {b mb : Nat} {vp : Value} {l : List Pr}
theorem Meet.bel (h : Meet S1 S2 W0 w b mb vp l) (hb : Below w.heap.size w w1) : Meet S1 S2 W0 w1 b mb vp l :=
 ⟨h.below.trans (hb.mono h.below.size),h.b0,h.m0,h.blk.below hb,own_below h.row hb,SetK.below h.seen hb⟩
theorem Meet.form (h : Meet S1 S2 W0 w b mb vp l) : ∃ a c,vp = .slice a l.length c := own_form h.row
theorem own_blkE {B e s n : Nat} {v : Value} {xs : List Value} (h : w.ownsRow B e s v n xs) {g : Nat} (hg : v.ownBlock = some g) : ∃ cs,Blk w g cs e := by
 rcases h.2 with ⟨rfl,_⟩ | ⟨g',cap,cur,rfl,h1,h2,h3⟩
 ·cases hg
 ·cases hg
  exact ⟨_,h2⟩
theorem Meet.no (h : Meet S1 S2 W0 w b mb vp l) {g : Nat} {cs : Array Value} {t : TypeId} (hB : Blk w g cs t) (h1 : t ≠ 57) (h2 : t ≠ 62) : ¬ MeB b mb vp g := by
 rintro (rfl | rfl | e)
 ·have h3 := hB.symm.trans h.blk;simp only [Option.some.injEq,Obj.cells.injEq] at h3;exact h1 h3.2.1
 ·obtain ⟨D,⟨es,c,h4,_⟩,_⟩ := h.seen;have h3 := hB.symm.trans h4
  simp at h3
 ·obtain ⟨cs',h4⟩ := own_blkE h.row e;have h3 := hB.symm.trans h4;simp only [Option.some.injEq,Obj.cells.injEq] at h3;exact h2 h3.2.1
theorem Meet.own (h : Meet S1 S2 W0 w b mb vp l) (hk : Kp (MeB b mb vp) w w1) {B e s n : Nat} {v : Value} {xs : List Value} (hr : w.ownsRow B e s v n xs) (h1 : e ≠ 57) (h2 : e ≠ 62) : w1.ownsRow B e s v n xs :=
 own_kpV hr hk fun k e1 => by
  obtain ⟨cs,hB⟩ := own_blkE hr e1;exact h.no hB h1 h2
end
end
section
theorem set_comm2 {α : Type} (a : Array α) {i j : Nat} (h : i ≠ j) (x y : α) : (a.setIfInBounds i x).setIfInBounds j y = (a.setIfInBounds j y).setIfInBounds i x := by
 apply Array.ext_getElem?
 intro k;simp only [Array.getElem?_setIfInBounds,Array.size_setIfInBounds]
 by_cases h1 : i = k
 ·subst h1
  by_cases h2 : j = i
  ·exact absurd h2.symm h
  ·simp [h2]
 ·by_cases h2 : j = k <;> simp [h1,h2]
theorem rg_store {P : Program} {md : Region.Mode} {ops : Array Oper} {Q : Exit → Act → World → Prop} {S : World → Prop} {oi : Oper} {fuel : Nat} {listed listed' : Array Bool} {a : Act} {w : World} (i : Nat) (w' : World) (hi : ops[i]? = some oi) (hd : oi.dst = none)
  (hr : Region.ready md ops listed = [i]) (hwt : Region.wanted oi (yielded ops a.tmps) = true) (hl : listed.setIfInBounds i true = listed') (hx : (execOp a.eval oi).run P w = .ok .skip w') (hS : S w')
  (h : wpAnyH P md ops Q S fuel listed' a w') : wpAnyH P md ops Q S (fuel + 1) listed a w := by
 subst hl;refine wpAnyH_ready (rs := [i]) hr (by simp) (AllReadyH.cons hi (fun K hK => ?_) AllReadyH.nil);rw [if_pos hwt];unfold Oper.wp;rw [hx];refine hK.out _ _ hS (fun _ => ?_);rw [hd];exact h
theorem rg_llc {P : Program} {md : Region.Mode} {ops : Array Oper} {Q : Exit → Act → World → Prop} {fuel : Nat} {listed : Array Bool} {a : Act} {w : World} (i1 i4 j d1 d4 dj : Nat) {o1 o4 oj : Oper} (v1 v4 : Value) (f : Nat) (vals : Array Value) (LD : World → Prop)
  (h1 : ops[i1]? = some o1) (h4 : ops[i4]? = some o4) (hj : ops[j]? = some oj) (hd1 : o1.dst = some d1) (hd4 : o4.dst = some d4) (hdj : oj.dst = some dj)
  (hr0 : Region.ready md ops listed = [i1,i4]) (hr1 : Region.ready md ops (listed.setIfInBounds i1 true) = [j,i4]) (hr4 : Region.ready md ops (listed.setIfInBounds i4 true) = [i1])
  (hr14 : Region.ready md ops ((listed.setIfInBounds i1 true).setIfInBounds i4 true) = [j]) (hr1j : Region.ready md ops ((listed.setIfInBounds i1 true).setIfInBounds j true) = [i4])
  (hw1 : ∀ t,Region.wanted o1 t = true) (hw4 : ∀ t,Region.wanted o4 t = true) (hwj : ∀ t,Region.wanted oj t = true) (h14 : i1 ≠ i4) (hj4 : j ≠ i4) (d14 : d1 ≠ d4) (dj4 : dj ≠ d4)
  (hx1 : (execOp a.eval o1).run P w = .ok (.value v1) w) (hx1' : (execOp ({ a with tmps := a.tmps.setIfInBounds d4 v4 } : Act).eval o1).run P w = .ok (.value v1) w)
  (hx4 : (execOp a.eval o4).run P w = .ok (.value v4) w) (hx41 : (execOp ({ a with tmps := a.tmps.setIfInBounds d1 v1 } : Act).eval o4).run P w = .ok (.value v4) w)
  (hx4j : ∀ v W,LD W → (execOp ({ a with tmps := (a.tmps.setIfInBounds d1 v1).setIfInBounds dj v } : Act).eval o4).run P W = .ok (.value v4) W)
  (hxj : ∀ W,(execOp ({ a with tmps := a.tmps.setIfInBounds d1 v1 } : Act).eval oj).run P W = .ok (.enter f vals) W) (hxj' : ∀ W,(execOp ({ a with tmps := (a.tmps.setIfInBounds d1 v1).setIfInBounds d4 v4 } : Act).eval oj).run P W = .ok (.enter f vals) W)
  (h : Calls P f vals w fun e w' => ∃ v,e = .returned v ∧ LD w' ∧ wpAnyH P md ops Q (fun _ => True) fuel (((listed.setIfInBounds i1 true).setIfInBounds i4 true).setIfInBounds j true) { a with tmps := ((a.tmps.setIfInBounds d1 v1).setIfInBounds d4 v4).setIfInBounds dj v } w') :
  wpAnyH P md ops Q (fun _ => True) (fuel + 3) listed a w := by
 have main : wpAnyH P md ops Q (fun _ => True) (fuel + 1) ((listed.setIfInBounds i1 true).setIfInBounds i4 true) { a with tmps := (a.tmps.setIfInBounds d1 v1).setIfInBounds d4 v4 } w := by
  refine rg_call j dj f vals hj hdj hr14 (hwj _) rfl (fun W => hxj' W) ?_;refine h.mono ?_;rintro e w' ⟨v,rfl,_,h3⟩;exact ⟨v,rfl,trivial,h3⟩
 refine wpAnyH_ready (rs := [i1,i4]) hr0 (by simp) (AllReadyH.cons h1 (fun K hK => ?_) (AllReadyH.cons h4 (fun K hK => ?_) AllReadyH.nil))
 ·rw [if_pos (hw1 _)];unfold Oper.wp;rw [hx1];refine hK.out _ _ trivial (fun _ => ?_);rw [hd1];refine wpAnyH_ready (rs := [j,i4]) hr1 (by simp) (AllReadyH.cons hj (fun K hK => ?_) (AllReadyH.cons h4 (fun K hK => ?_) AllReadyH.nil))
  ·rw [if_pos (hwj _)];unfold Oper.wp;have hh : (execOp (Act.put a (some d1) v1).eval oj).run P w = .ok (.enter f vals) w := hxj w;rw [hh];refine Calls.mono h ?_;rintro e w' ⟨v,rfl,l1,h3⟩;refine hK.out _ _ trivial (fun _ => ?_);rw [hdj];refine rg_run i4 d4 v4 w' h4 hd4 hr1j (hw4 _) rfl ?_ trivial ?_
   ·exact hx4j v w' l1
   ·rw [set_comm2 _ hj4]
    show wpAnyH P md ops Q _ _ _ ({ a with tmps := ((a.tmps.setIfInBounds d1 v1).setIfInBounds dj v).setIfInBounds d4 v4 } : Act) w'
    rw [set_comm2 _ dj4];exact h3
  ·rw [if_pos (hw4 _)];unfold Oper.wp;have hh : (execOp (Act.put a (some d1) v1).eval o4).run P w = .ok (.value v4) w := hx41;rw [hh];refine hK.out _ _ trivial (fun _ => ?_);rw [hd4];exact main
 ·rw [if_pos (hw4 _)];unfold Oper.wp;rw [hx4];refine hK.out _ _ trivial (fun _ => ?_);rw [hd4];refine rg_run i1 d1 v1 w h1 hd1 hr4 (hw1 _) rfl ?_ trivial ?_
  ·exact hx1'
  ·rw [set_comm2 listed (Ne.symm h14)]
   show wpAnyH P md ops Q _ _ _ ({ a with tmps := (a.tmps.setIfInBounds d4 v4).setIfInBounds d1 v1 } : Act) w
   rw [set_comm2 a.tmps (Ne.symm d14)];exact main
def wpAnyM (P : Program) (md : Region.Mode) (ops : Array Oper) (Q : Exit → Act → World → Prop) (T : World → Prop) (m : Nat) : Nat → Array Bool → Act → World → Prop
 | 0,listed,a,w => Region.ready md ops listed = [] ∧ Q .normal a w
 | fuel + 1,listed,a,w => (Region.ready md ops listed = [] → Q .normal a w) ∧
  ∀ i ∈ Region.ready md ops listed,wpOp P ops Q i (fun a' w' => ((listed.setIfInBounds i true).getD m true = false → T w') ∧ wpAnyM P md ops Q T m fuel (listed.setIfInBounds i true) a' w') a w
section
variable {P : Program} {md : Region.Mode} {ops : Array Oper} {Q : Exit → Act → World → Prop} {T : World → Prop} {m : Nat}
theorem M_any : ∀ (fuel : Nat) (listed : Array Bool) (a : Act) (w : World),wpAnyM P md ops Q T m fuel listed a w → wpAny P md ops Q fuel listed a w
 | 0,_,_,_,h => h
 | fuel + 1,_,_,_,h => ⟨h.1,fun i hi => wpOp_mono (fun a' w' h' => M_any fuel _ a' w' h'.2) (h.2 i hi)⟩
theorem M_done {listed : Array Bool} {a : Act} {w : World} (hr : Region.ready md ops listed = []) (h : Q .normal a w) : ∀ fuel,wpAnyM P md ops Q T m fuel listed a w
 | 0 => ⟨hr,h⟩
 | _ + 1 => ⟨fun _ => h,by rw [hr]; simp⟩
theorem M_region {id : Nat} {a : Act} {w : World} (hm : P.follows .mixedOrders = true) (h : wpAnyM P .any ops Q T m ops.size (Array.replicate ops.size false) a w.drew) : (Code.region id ops true).wp P Q a w :=
 wp_region_any hm (M_any _ _ _ _ h)
theorem M_first {i : Nat} {oi : Oper} {v : Value} (hi : ops[i]? = some oi) (hsel : ∀ (j : Nat) (o : Oper) cs b,ops[j]? = some o → o.op ≠ .select cs b)
  (hQ : ∀ c a w,Q (.panic c) (a.put oi.dst v) w → Q (.panic c) a w) (hmi : ∀ om,ops[m]? = some om → ∃ e ∈ om.after,Region.binds md e = true ∧ e.on = i) :
  ∀ (fuel : Nat) (listed : Array Bool) (a : Act) (w : World),listed.getD m true = false →
   (∀ j oj,ops[j]? = some oj → j ≠ i → listed.getD j true = false → (∀ e ∈ oj.after,Region.binds md e = true → e.on ≠ i) → oi.apart ops oj = true) →
   i ∈ Region.ready md ops listed → YieldsIf P ops T oi v a → T w →
   wpAnyM P md ops Q T m fuel (listed.setIfInBounds i true) (a.put oi.dst v) w → wpAnyM P md ops Q T m (fuel + 1) listed a w := by
 intro fuel
 induction fuel with
 | zero =>
  intro listed a w hlm _ hr hy hT H;refine ⟨fun h => (by rw [h] at hr; cases hr),fun j hj => ?_⟩
  by_cases hji : j = i
  ·subst hji; exact hy.wpOp hi hT ⟨fun _ => hT,H⟩
  ·have h0 := ready_mono hj hji;rw [H.1] at h0
   cases h0
 | succ fuel ih =>
  intro listed a w hlm hfree hr hy hT H;refine ⟨fun h => (by rw [h] at hr; cases hr),fun j hj => ?_⟩
  by_cases hji : j = i
  ·subst hji; exact hy.wpOp hi hT ⟨fun _ => hT,H⟩
  ·have hH := H.2 j (ready_mono hj hji);obtain ⟨hjun,oj,hoj,hall⟩ := mem_ready.1 hj
   have hjm : j ≠ m := by
    intro e;subst e;obtain ⟨e,he,hb,hon⟩ := hmi oj hoj;have hx := hall e he hb;have h0 := (mem_ready.1 hr).1;rw [hon] at hx
    rcases Nat.lt_or_ge i listed.size with h' | h'
    ·simp [h'] at h0 hx; rw [h0] at hx; cases hx
    ·simp [Array.getElem?_eq_none h'] at hx
   have hnot : ∀ e ∈ oj.after,Region.binds md e = true → e.on ≠ i := fun e he hb heq => by
    have hx := hall e he hb;have h0 := (mem_ready.1 hr).1;rw [heq] at hx
    rcases Nat.lt_or_ge i listed.size with h' | h'
    ·simp [h'] at h0 hx; rw [h0] at hx; cases hx
    ·simp [Array.getElem?_eq_none h'] at hx
   have h2 := wpOp_putIf hoj (hfree j oj hoj hji hjun hnot) (fun cs b => hsel i oi cs b hi) (fun cs b => hsel j oj cs b hoj) hQ hy hH
   have hlj : (listed.setIfInBounds j true).getD m true = false := by rw [getD_set_ne true hjm]; exact hlm
   have him : i ≠ m := by
    intro e;subst e;obtain ⟨e,he,hb,hon⟩ := hmi oi hi;obtain ⟨h0,oi',hoi',hall'⟩ := mem_ready.1 hr;rw [hi] at hoi'
    cases hoi'
    have hx := hall' e he hb;rw [hon] at hx
    rcases Nat.lt_or_ge i listed.size with h' | h'
    ·simp [h'] at h0 hx; rw [h0] at hx; cases hx
    ·simp [Array.getElem?_eq_none h'] at hx
   have hlij : ((listed.setIfInBounds i true).setIfInBounds j true).getD m true = false := by rw [getD_set_ne true hjm,getD_set_ne true him]; exact hlm
   have hfree' : ∀ k ok,ops[k]? = some ok → k ≠ i → (listed.setIfInBounds j true).getD k true = false → (∀ e ∈ ok.after,Region.binds md e = true → e.on ≠ i) → oi.apart ops ok = true := fun k ok hk hki hun hno => by
    refine hfree k ok hk hki ?_ hno
    by_cases hjk : j = k
    ·subst hjk; exact hjun
    ·rw [getD_set_ne true hjk] at hun; exact hun
   refine wpOp_mono (fun a' w' h3 => ⟨fun _ => h3.2.1 hlij,ih (listed.setIfInBounds j true) a' w' hlj hfree' (ready_mono hr (Ne.symm hji)) h3.1 (h3.2.1 hlij) ?_⟩) h2;rw [Array.setIfInBounds_comm _ _ hji];exact h3.2.2
theorem M_take {oi : Oper} {fuel : Nat} {listed listed' : Array Bool} {a : Act} {w : World} (i d : Nat) (v : Value) (tmps' : Array Value) (hi : ops[i]? = some oi) (hd : oi.dst = some d)
  (hs : Region.noSelect ops = true) (hf : Region.free md ops listed i = true) (hr : (Region.ready md ops listed).contains i = true) (hmi : ((ops[m]?).any fun om => om.after.any fun e => Region.binds md e && e.on == i) = true) (hlm : listed.getD m true = false)
  (hQ : ∀ c a w,Q (.panic c) (a.put oi.dst v) w → Q (.panic c) a w) (hwt : Region.wanted oi (yielded ops a.tmps) = true) (hy : ∀ w,T w → (execOp a.eval oi).run P w = .ok (.value v) w) (hT : T w)
  (hl : listed.setIfInBounds i true = listed') (ht : a.tmps.setIfInBounds d v = tmps')
  (h : wpAnyM P md ops Q T m fuel listed' { a with tmps := tmps' } w) : wpAnyM P md ops Q T m (fuel + 1) listed a w := by
 subst hl ht;refine M_first hi (Region.noSelect_spec hs) hQ ?_ fuel listed a w hlm (Region.free_spec hi hf) (by simpa using hr) (.inl ⟨hwt,hy⟩) hT ?_
 ·intro om hom;rw [hom] at hmi;simp only [Option.any_some,Array.any_eq_true] at hmi;obtain ⟨k,hk,hb⟩ := hmi;simp only [Bool.and_eq_true,beq_iff_eq] at hb;exact ⟨_,Array.getElem_mem hk,hb.1,hb.2⟩
 ·rw [hd];exact h
theorem M_run {oi : Oper} {fuel : Nat} {listed listed' : Array Bool} {a : Act} {w : World} (i d : Nat) (v : Value) (w' : World) (hi : ops[i]? = some oi) (hd : oi.dst = some d)
  (hr : Region.ready md ops listed = [i]) (hwt : Region.wanted oi (yielded ops a.tmps) = true) (hl : listed.setIfInBounds i true = listed') (hx : (execOp a.eval oi).run P w = .ok (.value v) w') (hT : T w')
  (h : wpAnyM P md ops Q T m fuel listed' { a with tmps := a.tmps.setIfInBounds d v } w') : wpAnyM P md ops Q T m (fuel + 1) listed a w := by
 subst hl;refine ⟨fun h0 => (by rw [hr] at h0; cases h0),fun j hj => ?_⟩;rw [hr,List.mem_singleton] at hj;subst hj;unfold wpOp;simp only [hi];rw [if_pos hwt];refine .inl ?_;unfold Oper.wp;rw [hx,Oper.upon_value,hd];exact ⟨fun _ => hT,h⟩
theorem M_store {oi : Oper} {fuel : Nat} {listed listed' : Array Bool} {a : Act} {w : World} (i : Nat) (w' : World) (hi : ops[i]? = some oi) (hd : oi.dst = none)
  (hr : Region.ready md ops listed = [i]) (hwt : Region.wanted oi (yielded ops a.tmps) = true) (hl : listed.setIfInBounds i true = listed') (hx : (execOp a.eval oi).run P w = .ok .skip w') (hm : listed'.getD m true = true)
  (h : wpAnyM P md ops Q T m fuel listed' a w') : wpAnyM P md ops Q T m (fuel + 1) listed a w := by
 subst hl;refine ⟨fun h0 => (by rw [hr] at h0; cases h0),fun j hj => ?_⟩;rw [hr,List.mem_singleton] at hj;subst hj;unfold wpOp;simp only [hi];rw [if_pos hwt];refine .inl ?_;unfold Oper.wp;rw [hx,Oper.upon_skip,hd];exact ⟨fun h0 => (by rw [hm] at h0; cases h0),h⟩
theorem M_call {oi : Oper} {fuel : Nat} {listed listed' : Array Bool} {a : Act} {w : World} (i d f : Nat) (vals : Array Value) (hi : ops[i]? = some oi) (hd : oi.dst = some d)
  (hr : Region.ready md ops listed = [i]) (hwt : Region.wanted oi (yielded ops a.tmps) = true) (hl : listed.setIfInBounds i true = listed') (hx : ∀ w,(execOp a.eval oi).run P w = .ok (.enter f vals) w)
  (h : Calls P f vals w fun e w' => ∃ v,e = .returned v ∧ T w' ∧ wpAnyM P md ops Q T m fuel listed' { a with tmps := a.tmps.setIfInBounds d v } w') : wpAnyM P md ops Q T m (fuel + 1) listed a w := by
 subst hl;refine ⟨fun h0 => (by rw [hr] at h0; cases h0),fun j hj => ?_⟩;rw [hr,List.mem_singleton] at hj;subst hj;unfold wpOp;simp only [hi];rw [if_pos hwt];refine .inl ?_;unfold Oper.wp;rw [hx];refine Calls.mono h ?_;rintro e w' ⟨v,rfl,hT,h'⟩;rw [hd];exact ⟨fun _ => hT,h'⟩
end
section
variable {P : Program} {md : Region.Mode} {ops : Array Oper} {Q : Exit → Act → World → Prop} {T : World → Prop} {m : Nat}
theorem M_runA {oi : Oper} {fuel : Nat} {listed listed' : Array Bool} {a : Act} {w : World} (i d : Nat) (v : Value) (w' : World) (hi : ops[i]? = some oi) (hd : oi.dst = some d)
  (hr : Region.ready md ops listed = [i]) (hwt : Region.wanted oi (yielded ops a.tmps) = true) (hl : listed.setIfInBounds i true = listed') (hx : (execOp a.eval oi).run P w = .ok (.value v) w') (hm : listed'.getD m true = true)
  (h : wpAnyM P md ops Q T m fuel listed' { a with tmps := a.tmps.setIfInBounds d v } w') : wpAnyM P md ops Q T m (fuel + 1) listed a w := by
 subst hl;refine ⟨fun h0 => (by rw [hr] at h0; cases h0),fun j hj => ?_⟩;rw [hr,List.mem_singleton] at hj;subst hj;unfold wpOp;simp only [hi];rw [if_pos hwt];refine .inl ?_;unfold Oper.wp;rw [hx,Oper.upon_value,hd];exact ⟨fun h0 => (by rw [hm] at h0; cases h0),h⟩
theorem M_storeT {oi : Oper} {fuel : Nat} {listed listed' : Array Bool} {a : Act} {w : World} (i : Nat) (w' : World) (hi : ops[i]? = some oi) (hd : oi.dst = none)
  (hr : Region.ready md ops listed = [i]) (hwt : Region.wanted oi (yielded ops a.tmps) = true) (hl : listed.setIfInBounds i true = listed') (hx : (execOp a.eval oi).run P w = .ok .skip w') (hT : T w')
  (h : wpAnyM P md ops Q T m fuel listed' a w') : wpAnyM P md ops Q T m (fuel + 1) listed a w := by
 subst hl;refine ⟨fun h0 => (by rw [hr] at h0; cases h0),fun j hj => ?_⟩;rw [hr,List.mem_singleton] at hj;subst hj;unfold wpOp;simp only [hi];rw [if_pos hwt];refine .inl ?_;unfold Oper.wp;rw [hx,Oper.upon_skip,hd];exact ⟨fun _ => hT,h⟩
end
end
section
open Go.ChangeShapes Go.WideShapes Go.ChangeAt Go.RowKit
section
variable {T MT : TypeId} {w : World} {k : Value}
variable {E : TypeId} {L : List Value} {b : Nat}
end
section
variable {T MT : TypeId} {w : World} {k : Value}
variable {E : TypeId} {L : List (Value × Value)} {b : Nat}
end
section
variable {T MT : TypeId} {k : Value}
variable {E : TypeId} {L : List (Value × Value)} {b : Nat} {w : World}
end
theorem lookup_run {MT : TypeId} {b : Nat} {k v : Value} {a : Act} {w : World} {o : Oper} {m x : Operand} (hop : o.op = Op.lookup MT m x true) (hmm : a.eval m = .map (some b)) (hx : a.eval x = k) (hr : (Instr.lookup MT (.map (some b)) k true).run Try.prog w = .ok v w) : (execOp a.eval o).run Try.prog w = .ok (.value v) w := by
 simp [execOp,hop,hmm,hx,hr,Result.andThen]
theorem update_run {MT : TypeId} {b : Nat} {k v : Value} {a : Act} {w w' : World} {o : Oper} {m x y : Operand} (hop : o.op = Op.mapUpdate MT m x y) (hmm : a.eval m = .map (some b)) (hx : a.eval x = k) (hy : a.eval y = v) (hr : (Instr.mapUpdate MT (.map (some b)) k v).run Try.prog w = .ok () w') : (execOp a.eval o).run Try.prog w = .ok .skip w' := by
 simp [execOp,hop,hmm,hx,hy,hr,Result.andThen]
theorem wpList_ran {ops : Array Oper} {rest : List Oper} {o : Oper} {a : Act} {w w' : World} {v : Value} {Q : Exit → Act → World → Prop} (hgd : o.guard = none) (hr : (execOp a.eval o).run Try.prog w = .ok (.value v) w') (h : wpList Try.prog ops Q rest (a.put o.dst v) w') : wpList Try.prog ops Q (o :: rest) a w :=
 wpList_plain hgd fun _ hK => by
  unfold Oper.wp;rw [hr,Oper.upon_value];exact hK _ _ h
theorem RowG.blk {w : World} {b : Nat} {cs : Array Value} {t : TypeId} {size n : Nat} {rs : List (List Value)} (h : Blk w b cs t) (hc : cs.toList = rs.flatten) (hl : ∀ r ∈ rs,r.length = size) (hn : rs.length = n) (hm : n ≤ 1000000) : RowG w (.slice (some ⟨b,0,none⟩) n n) size rs := by
 subst hn;refine ⟨some ⟨b,0,none⟩,rs.length,rfl,Nat.le_refl _,by unfold maxLen; omega,(fun e => by cases e),fun _ => ⟨b,0,rfl,fun i c u j hi hj => ?_⟩⟩;rw [h.cell,← Array.getElem?_toList,hc,Nat.zero_add];exact flat_get rs hl i c hi j u hj
end
section
open Go.ChangeShapes Go.WideShapes Go.ChangeAt Go.RowKit Go.Maps
theorem look_pr {w : World} {mb n : Nat} {l : List Pr} (h : SetP w mb n l) (p : Pr) (h1 : p.1.size ≤ 140737488351232) (h2 : p.2.size ≤ 140737488351232) : (Instr.lookup 54 (.map (some mb)) (.agg #[.string p.1,.string p.2]) true).run Try.prog w = .ok (.tuple #[.agg #[],.bool (memP p l)]) w := by
 obtain ⟨D,hown,h3⟩ := h;obtain ⟨kl,hkey⟩ := key_pr (p := p) h1 h2;obtain ⟨v,ps,hrun,hv⟩ := hown.look_ok lawP Try.underlying54 (zeroU w) (zd := .agg []) (zp := []) unitElem_mk hkey;obtain ⟨rfl,_⟩ := unitElem_inv hv;rw [has_pr h3 hkey] at hrun;exact hrun
theorem upd_pr {w : World} {mb n : Nat} {l : List Pr} (h : SetP w mb n l) (p : Pr) (h1 : p.1.size ≤ 140737488351232) (h2 : p.2.size ≤ 140737488351232) (hn : n ≤ 100000) : ∃ w',(Instr.mapUpdate 54 (.map (some mb)) (.agg #[.string p.1,.string p.2]) (.agg #[])).run Try.prog w = .ok () w' ∧ SetP w' mb (n + 1) (l ++ [p]) ∧ Kp (fun q => q = mb) w w' := by
 obtain ⟨D,hown,h3⟩ := h;obtain ⟨kl,hkey⟩ := key_pr (p := p) h1 h2;obtain ⟨w',hrun,hown1,hg⟩ := hown.update lawP Try.underlying54 (by unfold maxLen; omega) (val := .agg #[]) hkey unitElem_mk;refine ⟨w',hrun,?_,(Kp.refl _ _).grown hg fun k hk _ => by cases hk; rfl⟩;have := SetK.put lawP hown.isMap h3 hkey hown1;unfold SetP;rw [List.map_append];exact this
def MAddP (S1 S2 : List Value) (W0 : World) (b mb : Nat) (vp : Value) (l : List Pr) (w : World) (e : Ending) (w' : World) : Prop := e = .returned (.tuple #[]) ∧ ∃ vp',Meet S1 S2 W0 w' b mb vp' l ∧ Kp (MeB b mb vp) w w'
theorem madd_any {x0 x1 x2 x3 y0 y1 y2 y3 : Value} {W0 w : World} {b mb : Nat} {vp : Value} {l : List Pr} (h : Meet [x0,x1,x2,x3] [y0,y1,y2,y3] W0 w b mb vp l) (p : Pr) (h1 : p.1.size ≤ 140737488351232) (h2 : p.2.size ≤ 140737488351232) (hl : l.length ≤ 1000) :
  Calls Try.prog 15 #[.pointer (some ⟨b,0,none⟩),.agg #[.string p.1,.string p.2]] w (MAddP [x0,x1,x2,x3] [y0,y1,y2,y3] W0 b mb vp (addP l p) w) := by
 obtain ⟨pa,pc,rfl⟩ := h.form;have hlk : ∀ W,Below w.heap.size w W → (Instr.lookup 54 (.map (some mb)) (.agg #[.string p.1,.string p.2]) true).run Try.prog W = .ok (.tuple #[.agg #[],.bool (memP p l)]) W := fun W hW => look_pr (SetK.below h.seen hW) p h1 h2
 have BS := Blk.new w #[.string p.1,.string p.2] 62;have hal : Below w.heap.size w (w.alloc (.cells #[.string p.1,.string p.2] 62)) := (Below.refl _ _).alloc (Nat.le_refl _) _;have hM := h.bel hal;have HP : Hid ((memP p l = true → addP l p = l) ∧ (memP p l = false → addP l p = l ++ [p])) := ⟨fun e => by unfold addP; rw [if_pos e],fun e => by unfold addP; rw [if_neg (by simp [e])]⟩;have H1 : Hid (p.1.size ≤ 140737488351232 ∧ p.2.size ≤ 140737488351232) := ⟨h1,h2⟩;have HUP : Hid (∀ W,SetP W mb l.length l → ∃ w',(Instr.mapUpdate 54 (.map (some mb)) (.agg #[.string p.1,.string p.2]) (.agg #[])).run Try.prog W = .ok () w' ∧ SetP w' mb (l.length + 1) (l ++ [p]) ∧ Kp (fun q => q = mb) W w') := fun W hW => upd_pr hW p h1 h2 (by omega)
 have HPC : Hid (prC p = [.string p.1,.string p.2]) := rfl;obtain ⟨R,hR⟩ : ∃ z,memP p l = z := ⟨_,rfl⟩;rw [hR] at hlk HP;have HLK : Hid (∀ W,Below w.heap.size w W → (Instr.lookup 54 (.map (some mb)) (.agg #[.string p.1,.string p.2]) true).run Try.prog W = .ok (.tuple #[.agg #[],.bool R]) W) := hlk;obtain ⟨K,hK⟩ : ∃ z,l.length = z := ⟨_,rfl⟩;have HK : Hid (l.length = K) := hK;rw [hK] at hM hl h HUP;obtain ⟨p1,hp1⟩ : ∃ z,p.1 = z := ⟨_,rfl⟩;obtain ⟨p2,hp2⟩ : ∃ z,p.2 = z := ⟨_,rfl⟩;rw [hp1,hp2] at BS hal hM HLK HUP H1 HPC;rw [hp1,hp2,hK];have HM : Hid (Meet [x0,x1,x2,x3] [y0,y1,y2,y3] W0 (w.alloc (.cells #[.string p1,.string p2] 62)) b mb (.slice pa K pc) l) := hM;have HB0 : Hid (Below w.heap.size w (w.alloc (.cells #[.string p1,.string p2] 62))) := hal;have BB : Blk (w.alloc (.cells #[.string p1,.string p2] 62)) b #[x0,x1,x2,x3,y0,y1,y2,y3,.slice pa K pc,.map (some mb)] 57 := hM.blk;have HBL : Hid (b < w.heap.size) := h.blk.lt;have HSL : Hid (∀ q,(Value.slice pa K pc).ownBlock = some q → q < w.heap.size) := fun q e => (h.row.lt q e).2
 clear hlk hM hR hK hp1 hp2 h1 h2 hal h
 go_enter Try.func15,Try.ntmps15
 go_upto_region 1 with fail
 generalize hU : w.alloc (Obj.cells #[.string p1,.string p2] 62) = U at *;obtain ⟨s,hs⟩ : ∃ z,w.heap.size = z := ⟨_,rfl⟩;have HSZ : Hid (w.heap.size = s) := hs;rw [hs] at BS HSL;simp only [hs];have HUW : Hid (∀ W,Below U.heap.size U W → Below w.heap.size w W) := fun W hW => HB0.out.trans (hW.mono HB0.out.size)
 clear hU hs;refine M_region (T := fun W => Below U.heap.size U W) (m := 11) (by kernel_rfl) ?_;have hS : Below U.heap.size U U.drew := (Below.refl _ _).drew;refine M_take 0 7 (.pointer (some ⟨b,0,none⟩)) _ rfl rfl (by kernel_rfl) (by kernel_rfl) (by kernel_rfl) (by kernel_rfl) (by kernel_rfl) (fun _ _ _ h => h) (by rfl) (fun w' hw' => ?_) hS (listed' := bts 12 1) (by kernel_rfl) rfl ?_
 ·go_simp
 simp only [zsA,zsZ,zsS];refine M_take 1 8 (.pointer (some ⟨b,0,none⟩)) _ rfl rfl (by kernel_rfl) (by kernel_rfl) (by kernel_rfl) (by kernel_rfl) (by kernel_rfl) (fun _ _ _ h => h) (by rfl) (fun w' hw' => ?_) hS (listed' := bts 12 3) (by kernel_rfl) rfl ?_
 ·go_simp
 simp only [zsA,zsZ,zsS];refine M_take 2 9 (.pointer (some ⟨b,9,none⟩)) _ rfl rfl (by kernel_rfl) (by kernel_rfl) (by kernel_rfl) (by kernel_rfl) (by kernel_rfl) (fun _ _ _ h => h) (by rfl) (fun w' hw' => ?_) hS (listed' := bts 12 7) (by kernel_rfl) rfl ?_
 ·go_simp
 simp only [zsA,zsZ,zsS];refine M_take 3 10 (.map (some mb)) _ rfl rfl (by kernel_rfl) (by kernel_rfl) (by kernel_rfl) (by kernel_rfl) (by kernel_rfl) (fun _ _ _ h => h) (by rfl) (fun w' hw' => ?_) hS (listed' := bts 12 15) (by kernel_rfl) rfl ?_
 ·have f0 := ((BB.below hw').cell 9).trans rfl; go_simp
 simp only [zsA,zsZ,zsS];refine M_take 4 11 (.agg #[.string p1,.string p2]) _ rfl rfl (by kernel_rfl) (by kernel_rfl) (by kernel_rfl) (by kernel_rfl) (by kernel_rfl) (fun _ _ _ h => h) (by rfl) (fun w' hw' => ?_) hS (listed' := bts 12 31) (by kernel_rfl) rfl ?_
 ·have f0 := ((BS.below hw').cell 0).trans rfl; have f1 := ((BS.below hw').cell 1).trans rfl; go_simp
 simp only [zsA,zsZ,zsS];refine M_take 5 12 (.tuple #[.agg #[],.bool R]) _ rfl rfl (by kernel_rfl) (by kernel_rfl) (by kernel_rfl) (by kernel_rfl) (by kernel_rfl) (fun _ _ _ h => h) (by rfl) (fun w' hw' => ?_) hS (listed' := bts 12 63) (by kernel_rfl) rfl ?_
 ·exact lookup_run rfl rfl rfl (HLK.out _ (HUW.out _ hw'))
 simp only [zsA,zsZ,zsS];refine M_take 6 6 (.tuple #[.agg #[],.bool R]) _ rfl rfl (by kernel_rfl) (by kernel_rfl) (by kernel_rfl) (by kernel_rfl) (by kernel_rfl) (fun _ _ _ h => h) (by rfl) (fun w' hw' => ?_) hS (listed' := bts 12 127) (by kernel_rfl) rfl ?_
 ·go_simp
 simp only [zsA,zsZ,zsS];refine M_take 7 13 (.agg #[]) _ rfl rfl (by kernel_rfl) (by kernel_rfl) (by kernel_rfl) (by kernel_rfl) (by kernel_rfl) (fun _ _ _ h => h) (by rfl) (fun w' hw' => ?_) hS (listed' := bts 12 255) (by kernel_rfl) rfl ?_
 ·go_simp
 simp only [zsA,zsZ,zsS];refine M_take 8 14 (.bool R) _ rfl rfl (by kernel_rfl) (by kernel_rfl) (by kernel_rfl) (by kernel_rfl) (by kernel_rfl) (fun _ _ _ h => h) (by rfl) (fun w' hw' => ?_) hS (listed' := bts 12 511) (by kernel_rfl) rfl ?_
 ·go_simp
 simp only [zsA,zsZ,zsS];have hdz : U.drew.heap.size = U.heap.size := rfl;refine M_run 9 4 (.pointer (some ⟨U.heap.size,0,none⟩)) (U.drew.alloc (Obj.cells #[] 79)) rfl rfl (by kernel_rfl) (by rfl) (listed' := bts 12 1023) (by kernel_rfl) (by go_simp) (hS.alloc (Nat.le_refl _) _) ?_;simp only [zsA,zsZ,zsS];refine M_storeT 10 (U.drew.alloc (Obj.cells #[] 79)) rfl rfl (by kernel_rfl) (by rfl) (listed' := bts 12 2047) (by kernel_rfl) (by go_simp) (hS.alloc (Nat.le_refl _) _) ?_;refine M_runA 11 5 (.bool R) (U.drew.alloc (Obj.cells #[] 79)) rfl rfl (by kernel_rfl) (by rfl) (listed' := bts 12 4095) (by kernel_rfl) (by go_simp) (by kernel_rfl) ?_;simp only [zsA,zsZ,zsS];refine M_done (by kernel_rfl) ?_ _;have al3 : Below U.heap.size U (U.drew.alloc (Obj.cells #[] 79)) := hS.alloc (Nat.le_refl _) _;have HM3 := HM.out.bel al3;have hb3 := HUW.out _ al3;have BS3 := BS.below al3;have BB3 := BB.below al3;clear hS hdz al3 HLK HUW BS BB HM HB0;generalize (U.drew.alloc (Obj.cells #[] 79)) = W3 at *
 cases R with
 | true =>
  go_wp2_with fail;refine bodyPost_ret (results_noneE rfl _ _ _) rfl ?_;exact ⟨rfl,_,by rw [HP.out.1 (by simp)]; exact HM3,Kp.ofBelow hb3⟩
 | false =>
  have hm := HM3;have hse := HM3.seen;rw [HK.out] at hse;obtain ⟨W4,hup,hs4,hk4⟩ := HUP.out W3.drew (SetK.below hse ((Below.refl _ _).drew));have HUR : Hid ((Instr.mapUpdate 54 (.map (some mb)) (.agg #[.string p1,.string p2]) (.agg #[])).run Try.prog W3.drew = .ok () W4) := hup;have hbm : b ≠ mb := fun e => set_map hse (e ▸ BB3)
  have hsm : s ≠ mb := fun e => set_map hse (e ▸ BS3)
  have dr3 : Below W3.heap.size W3 W3.drew := (Below.refl _ _).drew;have BB4 := (BB3.below dr3).kp hk4 hbm;have BS4 := (BS3.below dr3).kp hk4 hsm;have BB4d := BB4.below (Below.refl _ _).drew;have BS4d := BS4.below (Below.refl _ _).drew
  have hrow4 := own_kpV (own_below HM3.row dr3) hk4 (fun k e1 e2 => by
   obtain ⟨cs,hB⟩ := own_blkE (own_below HM3.row dr3) e1
   exact set_map (SetK.below hse dr3) (e2 ▸ hB))
  go_upto_region 3 with fail
  refine M_region (T := fun W => Below W3.heap.size W3 W) (m := 6) (by kernel_rfl) ?_;have hS : Below W3.heap.size W3 W3.drew := dr3;refine M_take 0 16 (.pointer (some ⟨b,0,none⟩)) _ rfl rfl (by kernel_rfl) (by kernel_rfl) (by kernel_rfl) (by kernel_rfl) (by kernel_rfl) (fun _ _ _ h => h) (by rfl) (fun w' hw' => ?_) hS (listed' := bts 7 1) (by kernel_rfl) rfl ?_
  ·go_simp
  simp only [zsA,zsZ,zsS];refine M_take 1 17 (.pointer (some ⟨b,0,none⟩)) _ rfl rfl (by kernel_rfl) (by kernel_rfl) (by kernel_rfl) (by kernel_rfl) (by kernel_rfl) (fun _ _ _ h => h) (by rfl) (fun w' hw' => ?_) hS (listed' := bts 7 3) (by kernel_rfl) rfl ?_
  ·go_simp
  simp only [zsA,zsZ,zsS];refine M_take 2 18 (.pointer (some ⟨b,9,none⟩)) _ rfl rfl (by kernel_rfl) (by kernel_rfl) (by kernel_rfl) (by kernel_rfl) (by kernel_rfl) (fun _ _ _ h => h) (by rfl) (fun w' hw' => ?_) hS (listed' := bts 7 7) (by kernel_rfl) rfl ?_
  ·go_simp
  simp only [zsA,zsZ,zsS];refine M_take 3 19 (.map (some mb)) _ rfl rfl (by kernel_rfl) (by kernel_rfl) (by kernel_rfl) (by kernel_rfl) (by kernel_rfl) (fun _ _ _ h => h) (by rfl) (fun w' hw' => ?_) hS (listed' := bts 7 15) (by kernel_rfl) rfl ?_
  ·have f0 := ((BB3.below hw').cell 9).trans rfl; go_simp
  simp only [zsA,zsZ,zsS];refine M_take 4 20 (.agg #[.string p1,.string p2]) _ rfl rfl (by kernel_rfl) (by kernel_rfl) (by kernel_rfl) (by kernel_rfl) (by kernel_rfl) (fun _ _ _ h => h) (by rfl) (fun w' hw' => ?_) hS (listed' := bts 7 31) (by kernel_rfl) rfl ?_
  ·have f0 := ((BS3.below hw').cell 0).trans rfl; have f1 := ((BS3.below hw').cell 1).trans rfl; go_simp
  simp only [zsA,zsZ,zsS];refine M_take 5 21 (.agg #[]) _ rfl rfl (by kernel_rfl) (by kernel_rfl) (by kernel_rfl) (by kernel_rfl) (by kernel_rfl) (fun _ _ _ h => h) (by rfl) (fun w' hw' => ?_) hS (listed' := bts 7 63) (by kernel_rfl) rfl ?_
  ·go_simp
  simp only [zsA,zsZ,zsS];refine M_store 6 W4 rfl rfl (by kernel_rfl) (by rfl) (listed' := bts 7 127) (by kernel_rfl) (update_run rfl rfl rfl rfl HUR.out) (by kernel_rfl) ?_;refine M_done (by kernel_rfl) ?_ _;clear hS hup HUR hse;have hal5 : Below W4.heap.size W4 (W4.drew.alloc (Obj.cells #[.string p1,.string p2] 62)) := ((Below.refl _ _).drew).alloc (Nat.le_refl _) _;have hown5 := own_below hrow4 hal5;have BN5 : Blk (W4.drew.alloc (Obj.cells #[.string p1,.string p2] 62)) W4.heap.size #[.string p1,.string p2] 62 := Blk.new W4.drew _ _;obtain ⟨v',W6,r1,r2,r3⟩ := run_joinG (w := (W4.drew.alloc (Obj.cells #[.string p1,.string p2] 62))) 55 55 62 2 32 _ Try.underlying55 infoPr rfl (by decide) W0.heap.size (.slice pa K pc) l.length (prRows l).flatten hown5 (.slice (some ⟨W4.heap.size,0,none⟩) 1 1) [[.string p1,.string p2]] (RowG.blk BN5 rfl (by simp) rfl (by omega)) (by simp) (by simp [Value.oneCell']) (by have := HK.out; simp; omega) (by decide) (Nat.le_trans (Nat.le_trans HM3.below.size (Nat.le_trans dr3.size hk4.size)) hal5.size);have HRUN : Hid ((Builtin.append_ #[55,55] 55 #[.slice pa K pc,.slice (some ⟨W4.heap.size,0,none⟩) 1 1]).run Try.prog (W4.drew.alloc (Obj.cells #[.string p1,.string p2] 62)) = .ok v' W6) := r1;obtain ⟨na,nc,hv'⟩ := own_form r2;subst hv'
  have hr2 : W6.ownsRow W0.heap.size 62 2 (.slice na (l ++ [p]).length nc) (l ++ [p]).length (prRows (l ++ [p])).flatten := by
   rw [show (l ++ [p]).length = l.length + ([[.string p1,.string p2]] : List (List Value)).length by simp,show (prRows (l ++ [p])).flatten = (prRows l).flatten ++ ([[.string p1,.string p2]] : List (List Value)).flatten by simp [prRows,HPC.out]];exact r2
  have hbn : ∀ q,(Value.slice pa K pc).ownBlock = some q → q ≠ b ∧ q ≠ s := fun q e => by
   obtain ⟨cs,hB⟩ := own_blkE hrow4 e;refine ⟨fun e2 => ?_,fun e2 => ?_⟩
   ·subst e2;have h3 := hB.symm.trans BB4
    simp at h3
   ·have := HM3.row.lt q e;have h4 := HSL.out q e
    omega
  have kg : Kp (fun q => (Value.slice pa K pc).ownBlock = some q) (W4.drew.alloc (Obj.cells #[.string p1,.string p2] 62)) W6 := (Kp.refl _ _).grown r3 fun k hk _ => hk
  have BB6 := (BB4.below hal5).kp kg fun e => (hbn b e).1 rfl
  have BS6 := (BS4.below hal5).kp kg fun e => (hbn s e).2 rfl
  have hs6 := SetK.kp (SetK.below hs4 hal5) kg (fun e => by
   obtain ⟨cs,hB⟩ := own_blkE hown5 e
   exact set_map (SetK.below hs4 hal5) hB)
  have HT5 : Hid ((W4.drew.cell? ⟨b,8,none⟩ = some (.slice pa K pc) ∧ W4.drew.cell? ⟨s,0,none⟩ = some (.string p1) ∧ W4.drew.cell? ⟨s,1,none⟩ = some (.string p2)) ∧ ((W4.drew.alloc (Obj.cells #[.string p1,.string p2] 62)).cell? ⟨b,8,none⟩ = some (.slice pa K pc) ∧ (W4.drew.alloc (Obj.cells #[.string p1,.string p2] 62)).cell? ⟨s,0,none⟩ = some (.string p1) ∧ (W4.drew.alloc (Obj.cells #[.string p1,.string p2] 62)).cell? ⟨s,1,none⟩ = some (.string p2)) ∧ (W6.cell? ⟨b,8,none⟩ = some (.slice pa K pc) ∧ W6.cell? ⟨s,0,none⟩ = some (.string p1) ∧ W6.cell? ⟨s,1,none⟩ = some (.string p2))) := (by
   have BB5 := BB4.below hal5;have BS5 := BS4.below hal5
   exact ⟨⟨(BB4d.cell 8).trans rfl,(BS4d.cell 0).trans rfl,(BS4d.cell 1).trans rfl⟩,⟨(BB5.cell 8).trans rfl,(BS5.cell 0).trans rfl,(BS5.cell 1).trans rfl⟩,⟨(BB6.cell 8).trans rfl,(BS6.cell 0).trans rfl,(BS6.cell 1).trans rfl⟩⟩ : _ ∧ _ ∧ _)
  go_upto_region 4 with fail
  refine M_region (T := fun W => (W.cell? ⟨b,8,none⟩ = some (.slice pa K pc) ∧ W.cell? ⟨s,0,none⟩ = some (.string p1) ∧ W.cell? ⟨s,1,none⟩ = some (.string p2))) (m := 10) (by kernel_rfl) ?_;have hS := HT5.out.1;refine M_take 0 22 (.pointer (some ⟨b,0,none⟩)) _ rfl rfl (by kernel_rfl) (by kernel_rfl) (by kernel_rfl) (by kernel_rfl) (by kernel_rfl) (fun _ _ _ h => h) (by rfl) (fun w' hw' => ?_) hS (listed' := bts 11 1) (by kernel_rfl) rfl ?_
  ·go_simp
  simp only [zsA,zsZ,zsS];refine M_take 1 23 (.pointer (some ⟨b,0,none⟩)) _ rfl rfl (by kernel_rfl) (by kernel_rfl) (by kernel_rfl) (by kernel_rfl) (by kernel_rfl) (fun _ _ _ h => h) (by rfl) (fun w' hw' => ?_) hS (listed' := bts 11 3) (by kernel_rfl) rfl ?_
  ·go_simp
  simp only [zsA,zsZ,zsS];refine M_take 2 24 (.pointer (some ⟨b,0,none⟩)) _ rfl rfl (by kernel_rfl) (by kernel_rfl) (by kernel_rfl) (by kernel_rfl) (by kernel_rfl) (fun _ _ _ h => h) (by rfl) (fun w' hw' => ?_) hS (listed' := bts 11 7) (by kernel_rfl) rfl ?_
  ·go_simp
  simp only [zsA,zsZ,zsS];refine M_take 3 25 (.pointer (some ⟨b,8,none⟩)) _ rfl rfl (by kernel_rfl) (by kernel_rfl) (by kernel_rfl) (by kernel_rfl) (by kernel_rfl) (fun _ _ _ h => h) (by rfl) (fun w' hw' => ?_) hS (listed' := bts 11 15) (by kernel_rfl) rfl ?_
  ·go_simp
  simp only [zsA,zsZ,zsS];refine M_take 4 26 (.slice pa K pc) _ rfl rfl (by kernel_rfl) (by kernel_rfl) (by kernel_rfl) (by kernel_rfl) (by kernel_rfl) (fun _ _ _ h => h) (by rfl) (fun w' hw' => ?_) hS (listed' := bts 11 31) (by kernel_rfl) rfl ?_
  ·obtain ⟨f0, -, -⟩ := hw'; go_simp
  simp only [zsA,zsZ,zsS];refine M_take 5 27 (.agg #[.string p1,.string p2]) _ rfl rfl (by kernel_rfl) (by kernel_rfl) (by kernel_rfl) (by kernel_rfl) (by kernel_rfl) (fun _ _ _ h => h) (by rfl) (fun w' hw' => ?_) hS (listed' := bts 11 63) (by kernel_rfl) rfl ?_
  ·obtain ⟨-,f0,f1⟩ := hw'; go_simp
  simp only [zsA,zsZ,zsS];have hdz : W4.drew.heap.size = W4.heap.size := rfl;refine M_run 6 28 (.slice (some ⟨W4.heap.size,0,none⟩) 1 1) (W4.drew.alloc (Obj.cells #[.string p1,.string p2] 62)) rfl rfl (by kernel_rfl) (by rfl) (listed' := bts 11 127) (by kernel_rfl) (by go_simp) HT5.out.2.1 ?_;simp only [zsA,zsZ,zsS];refine M_run 7 29 (.slice na (l.length + 1) nc) W6 rfl rfl (by kernel_rfl) (by rfl) (listed' := bts 11 255) (by kernel_rfl) (append_run rfl rfl rfl HRUN.out) HT5.out.2.2 ?_;simp only [zsA,zsZ,zsS];refine M_run 8 30 (.pointer (some ⟨b,0,none⟩)) (W6) rfl rfl (by kernel_rfl) (by rfl) (listed' := bts 11 511) (by kernel_rfl) (by go_simp) HT5.out.2.2 ?_;simp only [zsA,zsZ,zsS];refine M_run 9 31 (.pointer (some ⟨b,8,none⟩)) (W6) rfl rfl (by kernel_rfl) (by rfl) (listed' := bts 11 1023) (by kernel_rfl) (by go_simp) HT5.out.2.2 ?_;simp only [zsA,zsZ,zsS];have c8 := (BB6.cell 8).trans rfl;have z8 := BB6.froz 8;refine M_store 10 (W6.setCell ⟨b,8,none⟩ (.slice na (l.length + 1) nc)) rfl rfl (by kernel_rfl) (by rfl) (listed' := bts 11 2047) (by kernel_rfl) (by go_simp) (by kernel_rfl) ?_;refine M_done (by kernel_rfl) ?_ _;clear hS HT5 HRUN hdz
  have hll : (l ++ [p]).length = l.length + 1 := by simp
  rw [hll] at hr2
  have hnb : ∀ q,(Value.slice na (l.length + 1) nc).ownBlock = some q → q ≠ b ∧ q ≠ mb := fun q e => by
   obtain ⟨cs,hB⟩ := own_blkE hr2 e;refine ⟨fun e2 => ?_,fun e2 => ?_⟩
   ·subst e2;have h3 := hB.symm.trans BB6
    simp at h3
   ·subst e2;exact set_map hs6 hB
  have BB7 := BB6.set 8 (.slice na (l.length + 1) nc) (cs' := #[x0,x1,x2,x3,y0,y1,y2,y3,.slice na (l.length + 1) nc,.map (some mb)]) rfl;have k7 : Kp (fun q => q = b) W6 (W6.setCell ⟨b,8,none⟩ (.slice na (l.length + 1) nc)) := Kp.setCell (S := fun q => q = b) (p := ⟨b,8,none⟩) (Kp.refl _ _) (fun _ => rfl) _
  have hb36 : Kp (MeB b mb (.slice pa K pc)) w W6 := by
   have e1 : Kp (MeB b mb (.slice pa K pc)) w W3 := Kp.ofBelow hb3;have e2 : Kp (MeB b mb (.slice pa K pc)) w W3.drew := e1.below dr3;have e3 : Kp (MeB b mb (.slice pa K pc)) w W4 := e2.trans2 hk4 fun i _ e => .inr (.inl e)
   exact (e3.below hal5).trans2 kg fun i _ e => .inr (.inr e)
  have hb37 : Kp (MeB b mb (.slice pa K pc)) w (W6.setCell ⟨b,8,none⟩ (.slice na (l.length + 1) nc)) := hb36.trans2 k7 fun i _ e => .inl e
  have hM7 : Meet [x0,x1,x2,x3] [y0,y1,y2,y3] W0 (W6.setCell ⟨b,8,none⟩ (.slice na (l.length + 1) nc)) b mb (.slice na (l.length + 1) nc) (l ++ [p]) := ⟨?m1,HM3.b0,HM3.m0,BB7,?m2,?m3⟩
  case m1 =>
   have hl6 : Below W0.heap.size W0 W6 := by
    have e1 := HM3.below;have e2 := e1.trans (dr3.mono e1.size);have e3 := e2.trans (hk4.toBelow e2.size fun q e => by rw [e]; exact HM3.m0);have e4 := e3.trans (hal5.mono e3.size);exact e4.trans (kg.toBelow e4.size fun q e => (HM3.row.lt q e).1)
   exact hl6.trans (k7.toBelow hl6.size fun q e => by rw [e]; exact HM3.b0)
  case m2 =>
   rw [hll];exact own_kpV hr2 k7 fun q e1 e2 => (hnb q e1).1 e2
  case m3 =>
   rw [hll];have h3 := SetK.kp hs6 k7 fun e => hbm e.symm
   rw [← HK.out] at h3;exact h3
  go_wp2_with fail;refine bodyPost_end (results_noneE rfl _ _ _) rfl ?_;exact ⟨rfl,_,by rw [HP.out.2 (by simp)]; exact hM7,hb37⟩
theorem allin_any {w : World} {v1 v2 : Value} {l r : List NmS} (h1 : RowG w v1 2 (nmRows l)) (h2 : RowG w v2 2 (nmRows r)) (hl1 : l.length ≤ 30000) (hl2 : r.length ≤ 30000) (hw1 : ∀ x ∈ l,NmW x) (hw2 : ∀ x ∈ r,NmW x) :
  Calls Try.prog 86 #[v1,v2] w fun e w' => e = .returned (.bool (l.all fun v => inVs v r)) ∧ Below w.heap.size w w' := by
 obtain ⟨a1,c1,rfl,q1,q1'⟩ := h1.form2;obtain ⟨a2,c2,rfl,q2,q2'⟩ := h2.form2
 have hN1 : (nmRows l).length = l.length := by simp [nmRows]
 have hN2 : (nmRows r).length = r.length := by simp [nmRows]
 rw [hN1] at h1 q1 ⊢;rw [hN2] at h2 q2 ⊢;obtain ⟨N,hN⟩ : ∃ N,l.length = N := ⟨_,rfl⟩;obtain ⟨M,hM⟩ : ∃ M,r.length = M := ⟨_,rfl⟩;rw [hN] at h1 q1 hl1 ⊢;rw [hM] at h2 q2 hl2 ⊢;have HN : Hid (l.length = N) := hN;have HM : Hid (r.length = M) := hM;have HR1 : Hid (RowG w (.slice a1 N c1) 2 (nmRows l)) := h1;have HR2 : Hid (RowG w (.slice a2 M c2) 2 (nmRows r)) := h2;have HW1 : Hid (∀ x ∈ l,NmW x) := hw1;have HW2 : Hid (∀ x ∈ r,NmW x) := hw2;obtain ⟨A,hA⟩ : ∃ A,(l.all fun v => inVs v r) = A := ⟨_,rfl⟩;rw [hA];have HA : Hid ((l.all fun v => inVs v r) = A) := hA;clear hN1 hN2 hN hM h1 h2 hw1 hw2 hA;have HS0 : Hid (SetN (w.alloc (.map #[] 0)) w.heap.size 0 (r.take 0)) := SetK.made 27 w;have hba : Below w.heap.size w (w.alloc (.map #[] 0)) := (Below.refl _ _).alloc (Nat.le_refl _) _;have hmm := @run_makeMap Try.prog
 go_enter Try.func86,Try.ntmps86
 go_wp2_with fail
 go_loopw [15] (fun iv wr => ∃ k : Nat,iv = .int .i64 (k : Int) ∧ k ≤ M ∧ Hid (SetN wr w.heap.size k (r.take k)) ∧ Below w.heap.size w wr) (fun iv _ => M - (intOf iv).toNat)
 case atStart => exact ⟨0,rfl,by omega,HS0,hba⟩
 case round =>
  clear HS0 hba;obtain ⟨k,rfl,hk,HS,hbel⟩ := hrel
  by_cases hlt : k < M
  ·obtain ⟨f,hfk⟩ : ∃ n,r[k]? = some n := ⟨_,List.getElem?_eq_getElem (by rw [HM.out]; exact hlt)⟩
   have hrr : (nmRows r)[k]? = some [.string f.name,.int .i64 f.n] := by simp [nmRows,hfk,NmS.cells]
   obtain ⟨g,off,rfl,c1⟩ := (HR2.out.below hbel).get hrr
   have HT : Hid ((r.take k).map nmV ++ [nmV f] = (r.take (k + 1)).map nmV) := (by
    show _ = _
    rw [List.take_add_one,hfk,List.map_append]; rfl)
   obtain ⟨kl,hkey⟩ := key_nm (HW2.out f (List.mem_of_getElem? hfk));obtain ⟨f0,f1⟩ := f;have p0 := c1 0 _ rfl;have p1 := c1 1 _ rfl;simp only [Nat.add_zero] at p0 p1;clear c1 hrr hfk;have hal : Below wr.heap.size wr (wr.alloc (.cells #[.string f0,.int .i64 f1] 27)) := (Below.refl _ _).alloc (Nat.le_refl _) _;have hbt := hbel.size;obtain ⟨D,hown,h2'⟩ := SetK.below HS.out hal;have H2 : Hid _ := h2';clear h2' HS;have hkey' := hkey;unfold nmV at hkey';simp only at hkey';have hb3 : Below w.heap.size w (wr.alloc (.cells #[.string f0,.int .i64 f1] 27)) := hbel.trans (hal.mono hbt);have hbt2 : w.heap.size ≤ (wr.alloc (.cells #[.string f0,.int .i64 f1] 27)).heap.size := hb3.size;clear hal hbel
   go_wp2_with (first
    | (at_mapUpdate; refine wpList_mapUpdate_own _ rfl _ _ _ 143 rfl 27 79 lawN Try.underlying143 (unitElem (H := Unit)) w.heap.size k _ rfl hown (by unfold maxLen; omega) _ _ _ rfl rfl hkey' _ [] unitElem_mk ?_; intro w3 hown1 hgrow1)
    | fail)
   have HS3 : Hid (SetN w3 w.heap.size (k + 1) (r.take (k + 1))) := by
    show SetN _ _ _ _
    have := SetK.put lawN hown.isMap H2.out hkey hown1;unfold SetN;rw [← HT.out];exact this
   have hb4 : Below w.heap.size w w3 := hb3.grown hgrow1 hbt2 (fun j hj => by cases hj; exact Nat.le_refl _);clear hown hown1 hgrow1 H2 hkey hkey' HT hb3 hbt hbt2 p0 p1;go_wp2_with fail
   go_roundw
   case rel => exact ⟨k + 1,by go_num,by omega,HS3,hb4⟩
   case measure => simp [intOf]; omega
  ·obtain rfl : k = M := by omega
   have HS2 : Hid (SetN wr w.heap.size k r) := (by
    have h1 := HS.out
    rwa [List.take_of_length_le (by rw [HM.out]; omega)] at h1 : SetN wr w.heap.size k r)
   clear HS;have HI0 : Hid ((l.take 0).all (fun v => inVs v r) = true) := (by simp : _ = _);go_wp2_with fail
   go_loopw [25] (fun iv wr => ∃ i : Nat,iv = .int .i64 (i : Int) ∧ i ≤ N ∧ Hid ((l.take i).all (fun v => inVs v r) = true) ∧ Hid (SetN wr w.heap.size k r) ∧ Below w.heap.size w wr) (fun iv _ => N - (intOf iv).toNat)
   case atStart => exact ⟨0,rfl,by omega,HI0,HS2,hbel⟩
   case round =>
    clear HI0 HS2 hbel;obtain ⟨i,rfl,hi,HI,HS2,hbel⟩ := hrel
    by_cases hlt2 : i < N
    ·obtain ⟨f,hfk⟩ : ∃ n,l[i]? = some n := ⟨_,List.getElem?_eq_getElem (by rw [HN.out]; exact hlt2)⟩
     have hrr : (nmRows l)[i]? = some [.string f.name,.int .i64 f.n] := by simp [nmRows,hfk,NmS.cells]
     obtain ⟨g,off,rfl,c1⟩ := (HR1.out.below hbel).get hrr;obtain ⟨kl,hkey⟩ := key_nm (HW1.out f (List.mem_of_getElem? hfk));have hal : Below wr.heap.size wr (wr.alloc (.cells #[.string f.name,.int .i64 f.n] 27)) := (Below.refl _ _).alloc (Nat.le_refl _) _;obtain ⟨D,hown,h2'⟩ := SetK.below HS2.out hal;have HH : Hid (Maps.has D kl = inVs f r) := has_nm h2' hkey;have HTM : Hid (f ∈ l) := List.mem_of_getElem? hfk
     have HT : Hid ((l.take (i + 1)).all (fun v => inVs v r) = ((l.take i).all (fun v => inVs v r) && inVs f r)) := (by
      show _ = _
      rw [List.take_add_one,hfk,List.all_append]; simp)
     clear h2';have hb2 : Below w.heap.size w (wr.alloc (.cells #[.string f.name,.int .i64 f.n] 27)) := hbel.trans (hal.mono hbel.size);obtain ⟨f0,f1⟩ := f;have p0 := c1 0 _ rfl;have p1 := c1 1 _ rfl;simp only [Nat.add_zero] at p0 p1;unfold nmV at hkey;simp only at hkey hb2 hown;clear c1 hrr hfk hal;obtain ⟨Z,hZ⟩ : ∃ z,inVs ⟨f0,f1⟩ r = z := ⟨_,rfl⟩;rw [hZ] at HH HT;have HZ : Hid (inVs ⟨f0,f1⟩ r = Z) := hZ;clear hZ;have hY := HH.out
     cases Z with
     | true =>
      go_wp2_with (first
       | (at_lookup; refine wpList_lookup_own_unit _ rfl _ _ 143 rfl 27 79 lawN Try.underlying143 (zeroU _) w.heap.size k D rfl hown _ _ rfl hkey ?_)
       | fail)
      have hb3 : Below w.heap.size w ((wr.alloc (.cells #[.string f0,.int .i64 f1] 27)).alloc (.cells #[] 79)) := hb2.alloc hb2.size _;have HI2 : Hid ((l.take (i + 1)).all (fun v => inVs v r) = true) := (by rw [HT.out,HI.out]; rfl : _ = _);have HS3 : Hid (SetN ((wr.alloc (.cells #[.string f0,.int .i64 f1] 27)).alloc (.cells #[] 79)) w.heap.size k r) := SetK.below (SetK.below HS2.out ((Below.refl _ _).alloc (Nat.le_refl _) _)) ((Below.refl _ _).alloc (Nat.le_refl _) _);clear hb2 HT HI HS2 hown hY;go_wp2_with fail
      go_roundw
      case rel => exact ⟨i + 1,by go_num,by omega,HI2,HS3,hb3⟩
      case measure => simp [intOf]; omega
     | false =>
      go_wp2_with (first
       | (at_lookup; refine wpList_lookup_own_unit _ rfl _ _ 143 rfl 27 79 lawN Try.underlying143 (zeroU _) w.heap.size k D rfl hown _ _ rfl hkey ?_)
       | fail)
      have hb3 : Below w.heap.size w ((wr.alloc (.cells #[.string f0,.int .i64 f1] 27)).alloc (.cells #[] 79)) := hb2.alloc hb2.size _;go_ret;refine ⟨ret_bool ?_,hb3⟩;rw [← HA.out]
      symm
      rw [Bool.eq_false_iff,ne_eq,List.all_eq_true];intro hall;have h1 := hall _ HTM.out;rw [HZ.out] at h1
      cases h1
    ·have HI2 : Hid (A = true) := (by rw [← HA.out]; have h1 := HI.out; rwa [List.take_of_length_le (by rw [HN.out]; omega)] at h1 : A = true);go_wp2_with fail;go_ret;exact ⟨ret_bool HI2.out.symm,hbel⟩
def zeroM : MsS := ⟨⟨#[]⟩,[],[]⟩
def zeroN : EnS := ⟨⟨#[]⟩,[]⟩
def zeroT : MtS := ⟨⟨#[]⟩,⟨#[]⟩,⟨#[]⟩⟩
def zeroF : FlS := ⟨⟨#[]⟩,0,0,0,⟨#[]⟩⟩
def mtV (m : MtS) : Value := .agg #[.string m.name,.string m.inn,.string m.out]
def flV (m : FlS) : Value := .agg #[.string m.name,.int .i64 m.tag,.int .i64 m.label,.int .i64 m.kind,.string m.tname]
theorem ret_two {a b c d : Value} (h1 : a = c) (h2 : b = d) : Ending.returned (.tuple #[a,b]) = .returned (.tuple #[c,d]) := by rw [h1,h2]
theorem bytes_ne {a b : ByteArray} (h : ¬ a = b) : (a.toList == b.toList) = false := by
 rw [ByteArray.toList_eq,ByteArray.toList_eq,beq_bytes]; exact decide_eq_false h
theorem cfield_any {w : World} {snm : ByteArray} {nm : Int} {am : Option Addr} {M cm : Nat} {vt : Value} {ts : List FlS} (hr : RowG w vt 5 (flRows ts)) :
  Calls Try.prog 50 #[.agg #[.string snm,vt,.slice am M cm],.int .i64 nm] w fun e w' => e = .returned (.tuple #[flV ((ts.find? fun m => decide (m.tag = nm)).getD zeroF),.bool (ts.find? fun m => decide (m.tag = nm)).isSome]) ∧ Below w.heap.size w w' := by
 obtain ⟨a,c,rfl,q1,q2⟩ := hr.form2
 have hN : (flRows ts).length = ts.length := by simp [flRows]
 rw [hN] at hr q1 ⊢;clear hN;obtain ⟨N,hN⟩ : ∃ N,ts.length = N := ⟨_,rfl⟩;rw [hN] at hr q1 ⊢;have HN : Hid (ts.length = N) := hN;have HR : Hid (RowG w (.slice a N c) 5 (flRows ts)) := hr;clear hN hr;obtain ⟨A,hA⟩ : ∃ A,(ts.find? fun m => decide (m.tag = nm)) = A := ⟨_,rfl⟩;rw [hA];have HA : Hid (A = ((ts.drop 0).find? fun m => decide (m.tag = nm))) := hA.symm;clear hA;have BX0 : Blk ((w.alloc (.cells #[.string snm,.slice a N c,.slice am M cm] 41)).alloc (.cells #[.string ⟨#[]⟩,.int .i64 0,.int .i64 0,.int .i64 0,.string ⟨#[]⟩] 38)) w.heap.size #[.string snm,.slice a N c,.slice am M cm] 41 := (Blk.new w _ _).below ((Below.refl _ _).alloc (Nat.le_refl _) _)
 have BR0 : Blk ((w.alloc (.cells #[.string snm,.slice a N c,.slice am M cm] 41)).alloc (.cells #[.string ⟨#[]⟩,.int .i64 0,.int .i64 0,.int .i64 0,.string ⟨#[]⟩] 38)) (w.heap.size + 1) #[.string ⟨#[]⟩,.int .i64 0,.int .i64 0,.int .i64 0,.string ⟨#[]⟩] 38 := by
  have := Blk.new (w.alloc (.cells #[.string snm,.slice a N c,.slice am M cm] 41)) #[.string ⟨#[]⟩,.int .i64 0,.int .i64 0,.int .i64 0,.string ⟨#[]⟩] 38
  rwa [show (w.alloc (.cells #[.string snm,.slice a N c,.slice am M cm] 41)).heap.size = w.heap.size + 1 by simp] at this
 have hb0 : Below w.heap.size w ((w.alloc (.cells #[.string snm,.slice a N c,.slice am M cm] 41)).alloc (.cells #[.string ⟨#[]⟩,.int .i64 0,.int .i64 0,.int .i64 0,.string ⟨#[]⟩] 38)) := ((Below.refl _ _).alloc (Nat.le_refl _) _).alloc (by simp) _
 go_enter Try.func50,Try.ntmps50
 go_wp2_with fail
 go_loopw [11] (fun iv wr => ∃ k : Nat,iv = .int .i64 (k : Int) ∧ k ≤ N ∧ Hid (A = ((ts.drop k).find? fun m => decide (m.tag = nm))) ∧ Below w.heap.size w wr ∧ Blk wr (w.heap.size + 1) #[.string ⟨#[]⟩,.int .i64 0,.int .i64 0,.int .i64 0,.string ⟨#[]⟩] 38) (fun iv _ => N - (intOf iv).toNat)
 case atStart => exact ⟨0,rfl,by omega,HA,hb0,BR0⟩
 case round =>
  obtain ⟨k,rfl,hk,HAk,hbel,BR⟩ := hrel;clear BX0 BR0 hb0;have hlt2 : w.heap.size + 1 < wr.heap.size := BR.lt;have r0 := (BR.cell 0).trans rfl;have z0 := BR.froz 0;have r1 := (BR.cell 1).trans rfl;have z1 := BR.froz 1;have r2 := (BR.cell 2).trans rfl;have z2 := BR.froz 2;have r3 := (BR.cell 3).trans rfl;have z3 := BR.froz 3;have r4 := (BR.cell 4).trans rfl;have z4 := BR.froz 4
  by_cases hlt : k < N
  ·obtain ⟨f,hf⟩ : ∃ n,ts[k]? = some n := ⟨_,List.getElem?_eq_getElem (by rw [HN.out]; exact hlt)⟩
   have hrr : (flRows ts)[k]? = some f.cells := by simp [flRows,hf]
   obtain ⟨g,off,rfl,c1⟩ := (HR.out.below hbel).get hrr;obtain ⟨f0,f1,f2,f3,f4⟩ := f
   have HA2 : Hid (A = if decide (f1 = nm) = true then some ⟨f0,f1,f2,f3,f4⟩ else ((ts.drop (k + 1)).find? fun m => decide (m.tag = nm))) := by
    show _ = _
    rw [HAk.out,drop_at hf,List.find?_cons]
    cases decide (f1 = nm) <;> rfl
   have p0 := c1 0 _ rfl;have p1 := c1 1 _ rfl;have p2 := c1 2 _ rfl;have p3 := c1 3 _ rfl;have p4 := c1 4 _ rfl;simp only [Nat.add_zero] at p0 p1 p2 p3 p4;clear c1 hrr hf HAk
   by_cases he : f1 = nm
   ·subst he;go_wp2_with fail;refine bodyPost_ret (results_two rfl _ _ _ ⟨w.heap.size + 1,0,none⟩ (.agg #[.string f0,.int .i64 f1,.int .i64 f2,.int .i64 f3,.string f4]) (by go_simp) (by go_simp)) rfl ?_;exact ⟨ret_two (by rw [HA2.out,if_pos (by simp)]; rfl) (by rw [HA2.out,if_pos (by simp)]; rfl),(Below.alloc (Below.setCell (Below.setCell (Below.setCell (Below.setCell (Below.setCell hbel (by simp) _) (by simp) _) (by simp) _) (by simp) _) (by simp) _) (by simp; omega) _)⟩
   ·have hq : (f1 == nm) = false := by simpa using he
    have HA3 : Hid (A = ((ts.drop (k + 1)).find? fun m => decide (m.tag = nm))) := by show _ = _; rw [HA2.out,if_neg (by simpa using he)]
    have hb2 : Below w.heap.size w (wr.alloc (.cells #[.string f0,.int .i64 f1,.int .i64 f2,.int .i64 f3,.string f4] 38)) := hbel.alloc (by omega) _;have BR2 : Blk (wr.alloc (.cells #[.string f0,.int .i64 f1,.int .i64 f2,.int .i64 f3,.string f4] 38)) (w.heap.size + 1) #[.string ⟨#[]⟩,.int .i64 0,.int .i64 0,.int .i64 0,.string ⟨#[]⟩] 38 := BR.below ((Below.refl _ _).alloc (Nat.le_refl _) _);go_wp2_with fail
    go_roundw
    case rel => exact ⟨k + 1,by go_num,by omega,HA3,hb2,BR2⟩
    case measure => simp [intOf]; omega
  ·have HA2 : Hid (A = none) := by show _ = _; rw [HAk.out,drop_end (by rw [HN.out]; omega)]; rfl
   go_wp2_with fail;refine bodyPost_ret (results_two rfl _ _ _ ⟨w.heap.size + 1,0,none⟩ (.agg #[.string ⟨#[]⟩,.int .i64 0,.int .i64 0,.int .i64 0,.string ⟨#[]⟩]) (by go_simp) (by go_simp)) rfl ?_;exact ⟨ret_two (by rw [HA2.out]; rfl) (by rw [HA2.out]; rfl),(Below.setCell (Below.setCell (Below.setCell (Below.setCell (Below.setCell hbel (by simp) _) (by simp) _) (by simp) _) (by simp) _) (by simp) _)⟩
theorem cmethod_any {w : World} {snm nm : ByteArray} {am ae : Option Addr} {M cm E ce : Nat} {vt : Value} {ts : List MtS} (hr : RowG w vt 3 (mtRows ts)) :
  Calls Try.prog 14 #[.agg #[.string snm,.slice am M cm,.slice ae E ce,vt],.string nm] w fun e w' => e = .returned (.tuple #[mtV ((ts.find? fun m => decide (m.name = nm)).getD zeroT),.bool (ts.find? fun m => decide (m.name = nm)).isSome]) ∧ Below w.heap.size w w' := by
 obtain ⟨a,c,rfl,q1,q2⟩ := hr.form2
 have hN : (mtRows ts).length = ts.length := by simp [mtRows]
 rw [hN] at hr q1 ⊢;clear hN;obtain ⟨N,hN⟩ : ∃ N,ts.length = N := ⟨_,rfl⟩;rw [hN] at hr q1 ⊢;have HN : Hid (ts.length = N) := hN;have HR : Hid (RowG w (.slice a N c) 3 (mtRows ts)) := hr;clear hN hr;obtain ⟨A,hA⟩ : ∃ A,(ts.find? fun m => decide (m.name = nm)) = A := ⟨_,rfl⟩;rw [hA];have HA : Hid (A = ((ts.drop 0).find? fun m => decide (m.name = nm))) := hA.symm;clear hA;have BX0 : Blk ((w.alloc (.cells #[.string snm,.slice am M cm,.slice ae E ce,.slice a N c] 34)).alloc (.cells #[.string ⟨#[]⟩,.string ⟨#[]⟩,.string ⟨#[]⟩] 43)) w.heap.size #[.string snm,.slice am M cm,.slice ae E ce,.slice a N c] 34 := (Blk.new w _ _).below ((Below.refl _ _).alloc (Nat.le_refl _) _)
 have BR0 : Blk ((w.alloc (.cells #[.string snm,.slice am M cm,.slice ae E ce,.slice a N c] 34)).alloc (.cells #[.string ⟨#[]⟩,.string ⟨#[]⟩,.string ⟨#[]⟩] 43)) (w.heap.size + 1) #[.string ⟨#[]⟩,.string ⟨#[]⟩,.string ⟨#[]⟩] 43 := by
  have := Blk.new (w.alloc (.cells #[.string snm,.slice am M cm,.slice ae E ce,.slice a N c] 34)) #[.string ⟨#[]⟩,.string ⟨#[]⟩,.string ⟨#[]⟩] 43
  rwa [show (w.alloc (.cells #[.string snm,.slice am M cm,.slice ae E ce,.slice a N c] 34)).heap.size = w.heap.size + 1 by simp] at this
 have hb0 : Below w.heap.size w ((w.alloc (.cells #[.string snm,.slice am M cm,.slice ae E ce,.slice a N c] 34)).alloc (.cells #[.string ⟨#[]⟩,.string ⟨#[]⟩,.string ⟨#[]⟩] 43)) := ((Below.refl _ _).alloc (Nat.le_refl _) _).alloc (by simp) _
 go_enter Try.func14,Try.ntmps14
 go_wp2_with fail
 go_loopw [11] (fun iv wr => ∃ k : Nat,iv = .int .i64 (k : Int) ∧ k ≤ N ∧ Hid (A = ((ts.drop k).find? fun m => decide (m.name = nm))) ∧ Below w.heap.size w wr ∧ Blk wr (w.heap.size + 1) #[.string ⟨#[]⟩,.string ⟨#[]⟩,.string ⟨#[]⟩] 43) (fun iv _ => N - (intOf iv).toNat)
 case atStart => exact ⟨0,rfl,by omega,HA,hb0,BR0⟩
 case round =>
  obtain ⟨k,rfl,hk,HAk,hbel,BR⟩ := hrel;clear BX0 BR0 hb0;have hlt2 : w.heap.size + 1 < wr.heap.size := BR.lt;have r0 := (BR.cell 0).trans rfl;have z0 := BR.froz 0;have r1 := (BR.cell 1).trans rfl;have z1 := BR.froz 1;have r2 := (BR.cell 2).trans rfl;have z2 := BR.froz 2
  by_cases hlt : k < N
  ·obtain ⟨f,hf⟩ : ∃ n,ts[k]? = some n := ⟨_,List.getElem?_eq_getElem (by rw [HN.out]; exact hlt)⟩
   have hrr : (mtRows ts)[k]? = some f.cells := by simp [mtRows,hf]
   obtain ⟨g,off,rfl,c1⟩ := (HR.out.below hbel).get hrr;obtain ⟨f0,f1,f2⟩ := f
   have HA2 : Hid (A = if decide (f0 = nm) = true then some ⟨f0,f1,f2⟩ else ((ts.drop (k + 1)).find? fun m => decide (m.name = nm))) := by
    show _ = _
    rw [HAk.out,drop_at hf,List.find?_cons]
    cases decide (f0 = nm) <;> rfl
   have p0 := c1 0 _ rfl;have p1 := c1 1 _ rfl;have p2 := c1 2 _ rfl;simp only [Nat.add_zero] at p0 p1 p2;clear c1 hrr hf HAk
   by_cases he : f0 = nm
   ·subst he;go_wp2_with fail;refine bodyPost_ret (results_two rfl _ _ _ ⟨w.heap.size + 1,0,none⟩ (.agg #[.string f0,.string f1,.string f2]) (by go_simp) (by go_simp)) rfl ?_;exact ⟨ret_two (by rw [HA2.out,if_pos (by simp)]; rfl) (by rw [HA2.out,if_pos (by simp)]; rfl),(Below.alloc (Below.setCell (Below.setCell (Below.setCell hbel (by simp) _) (by simp) _) (by simp) _) (by simp; omega) _)⟩
   ·have hq := bytes_ne he
    have HA3 : Hid (A = ((ts.drop (k + 1)).find? fun m => decide (m.name = nm))) := by show _ = _; rw [HA2.out,if_neg (by simpa using he)]
    have hb2 : Below w.heap.size w (wr.alloc (.cells #[.string f0,.string f1,.string f2] 43)) := hbel.alloc (by omega) _;have BR2 : Blk (wr.alloc (.cells #[.string f0,.string f1,.string f2] 43)) (w.heap.size + 1) #[.string ⟨#[]⟩,.string ⟨#[]⟩,.string ⟨#[]⟩] 43 := BR.below ((Below.refl _ _).alloc (Nat.le_refl _) _);go_wp2_with fail
    go_roundw
    case rel => exact ⟨k + 1,by go_num,by omega,HA3,hb2,BR2⟩
    case measure => simp [intOf]; omega
  ·have HA2 : Hid (A = none) := by show _ = _; rw [HAk.out,drop_end (by rw [HN.out]; omega)]; rfl
   go_wp2_with fail;refine bodyPost_ret (results_two rfl _ _ _ ⟨w.heap.size + 1,0,none⟩ (.agg #[.string ⟨#[]⟩,.string ⟨#[]⟩,.string ⟨#[]⟩]) (by go_simp) (by go_simp)) rfl ?_;exact ⟨ret_two (by rw [HA2.out]; rfl) (by rw [HA2.out]; rfl),(Below.setCell (Below.setCell (Below.setCell hbel (by simp) _) (by simp) _) (by simp) _)⟩
end
section
open Go.ChangeShapes Go.WideShapes Go.ChangeAt Go.RowKit
theorem freshF_any {w : World} {v : Value} {fs : List FlS} (hr : RowG w v 5 (flRows fs)) (hl : fs.length ≤ 100) :
  Calls Try.prog 45 #[v] w fun e w' => ∃ r,e = .returned r ∧ w'.ownsRow w.heap.size 38 5 r fs.length (flRows fs).flatten ∧ Below w.heap.size w w' := by
 have hN : (flRows fs).length = fs.length := by simp [flRows]
 have HN : Hid ((flRows fs).length = fs.length) := hN;have HR : Hid (RowG w v 5 (flRows fs)) := hr;have HL : Hid (fs.length ≤ 100) := hl;clear hr hN hl
 go_enter Try.func45,Try.ntmps45
 go_wp2_with (first
  | (at_builtin; refine wpList_joinG rfl _ _ 39 38 5 56 _ rfl Try.underlying39 infoFl rfl (by decide) w.heap.size (.slice none 0 0) 0 [] rfl (World.ownsRow_nil _ _ _ _) v (flRows fs) rfl HR.out (flr_len fs) (flr_one fs) ?c1 (by decide) (Nat.le_refl _) ?_)
  | fail)
 case c1 => have h1 := HN.out; have h2 := HL.out; omega
 intro r w1 ho hg;have hb : Below w.heap.size w w1 := (Below.refl _ _).grown hg (Nat.le_refl _) (fun k hk => by cases hk)
 have HO : Hid (w1.ownsRow w.heap.size 38 5 r fs.length (flRows fs).flatten) := by
  show World.ownsRow _ _ _ _ _ _ _
  rw [HN.out] at ho;exact ho
 clear hg ho;go_wp2_with fail;go_ret;exact ⟨_,rfl,HO.out,hb⟩
theorem freshI_any {w : World} {v : Value} {fs : List Int} (hr : RowG w v 1 (inRows fs)) (hl : fs.length ≤ 100) :
  Calls Try.prog 46 #[v] w fun e w' => ∃ r,e = .returned r ∧ w'.ownsRow w.heap.size 3 1 r fs.length (inRows fs).flatten ∧ Below w.heap.size w w' := by
 have hN : (inRows fs).length = fs.length := by simp [inRows]
 have HN : Hid ((inRows fs).length = fs.length) := hN;have HR : Hid (RowG w v 1 (inRows fs)) := hr;have HL : Hid (fs.length ≤ 100) := hl;clear hr hN hl
 go_enter Try.func46,Try.ntmps46
 go_wp2_with (first
  | (at_builtin; refine wpList_joinG rfl _ _ 22 3 1 8 _ rfl Try.underlying22 infoIn rfl (by decide) w.heap.size (.slice none 0 0) 0 [] rfl (World.ownsRow_nil _ _ _ _) v (inRows fs) rfl HR.out (inr_len fs) (inr_one fs) ?c1 (by decide) (Nat.le_refl _) ?_)
  | fail)
 case c1 => have h1 := HN.out; have h2 := HL.out; omega
 intro r w1 ho hg;have hb : Below w.heap.size w w1 := (Below.refl _ _).grown hg (Nat.le_refl _) (fun k hk => by cases hk)
 have HO : Hid (w1.ownsRow w.heap.size 3 1 r fs.length (inRows fs).flatten) := by
  show World.ownsRow _ _ _ _ _ _ _
  rw [HN.out] at ho;exact ho
 clear hg ho;go_wp2_with fail;go_ret;exact ⟨_,rfl,HO.out,hb⟩
theorem freshN_any {w : World} {v : Value} {fs : List NmS} (hr : RowG w v 2 (nmRows fs)) (hl : fs.length ≤ 100) :
  Calls Try.prog 94 #[v] w fun e w' => ∃ r,e = .returned r ∧ w'.ownsRow w.heap.size 27 2 r fs.length (nmRows fs).flatten ∧ Below w.heap.size w w' := by
 have hN : (nmRows fs).length = fs.length := by simp [nmRows]
 have HN : Hid ((nmRows fs).length = fs.length) := hN;have HR : Hid (RowG w v 2 (nmRows fs)) := hr;have HL : Hid (fs.length ≤ 100) := hl;clear hr hN hl
 go_enter Try.func94,Try.ntmps94
 go_wp2_with (first
  | (at_builtin; refine wpList_joinG rfl _ _ 23 27 2 24 _ rfl Try.underlying23 infoNm rfl (by decide) w.heap.size (.slice none 0 0) 0 [] rfl (World.ownsRow_nil _ _ _ _) v (nmRows fs) rfl HR.out (nmr_len fs) (nmr_one fs) ?c1 (by decide) (Nat.le_refl _) ?_)
  | fail)
 case c1 => have h1 := HN.out; have h2 := HL.out; omega
 intro r w1 ho hg;have hb : Below w.heap.size w w1 := (Below.refl _ _).grown hg (Nat.le_refl _) (fun k hk => by cases hk)
 have HO : Hid (w1.ownsRow w.heap.size 27 2 r fs.length (nmRows fs).flatten) := by
  show World.ownsRow _ _ _ _ _ _ _
  rw [HN.out] at ho;exact ho
 clear hg ho;go_wp2_with fail;go_ret;exact ⟨_,rfl,HO.out,hb⟩
end
end Go.Proofs.Ytdkolhfpfimeoab

/- Part 10 of what the proof stands on. -/
import Derived.Test.YtmgbhicogmclgaaGreatPkWAI
namespace Go.Proofs.YtmgbhicogmclgaaGreat
set_option maxHeartbeats 8000000
set_option linter.unusedVariables false
set_option linter.unusedSimpArgs false
set_option maxRecDepth 20000
section
def setR (f : FlS) (x : Tr) (es : List (Int × List Tr)) : List (Int × List Tr) := setE f.tag (if f.label = 3 then undE es f.tag ++ [x] else [x]) es
def oneR (M : ByteArray → List Nat → Tr × Int) (fs : List FlS) (st : Ds) (r : Fd) : Ds × Int :=
 match fldOf fs r.tag with
 | none => (⟨st.es,st.rest ++ [r]⟩,0)
 | some f => if (treeD M f r).2 ≠ 0 then (st,(treeD M f r).2) else if f.label = 3 ∧ (undE st.es f.tag).length = 64 then (st,4) else (⟨setR f (treeD M f r).1 st.es,st.rest⟩,0)
def runR (M : ByteArray → List Nat → Tr × Int) (fs : List FlS) : Ds → List Fd → Ds × Int
 | st,[] => (st,0)
 | st,r :: l => if (oneR M fs st r).2 ≠ 0 then oneR M fs st r else runR M fs (oneR M fs st r).1 l
def keepR (fs : List FlS) (e : Int × List Tr) : Bool := match fldOf fs e.1 with
 | none => true
 | some f => !(decide (f.label = 1) && zroB (e.2.headD tr0))
def setldR (fs : List FlS) (es : List (Int × List Tr)) : List (Int × List Tr) := es.filter (keepR fs)
theorem RisE.setR {es : List (Int × List Tr)} (h : RisE es) (f : FlS) (x : Tr) : RisE (setR f x es) := h.set _ _
theorem setld_set {fs : List FlS} {es : List (Int × List Tr)} (h : RisE es) (t : Int) (x : List Tr) : setldR fs (setE t x es) = if keepR fs (t,x) = true then setE t x (setldR fs es) else delE t (setldR fs es) := by
 have h1 : RisE (setldR fs es) := h.filter _
 split
 ·rename_i hk
  refine ris_uniq ((h.set t x).filter _) (h1.set t x) fun p => ?_
  simp only [setldR,List.mem_filter,mem_setE]
  constructor
  ·rintro ⟨rfl | ⟨a,b⟩,c⟩
   ·exact .inl rfl
   ·exact .inr ⟨⟨a,c⟩,b⟩
  ·rintro (rfl | ⟨⟨a,c⟩,b⟩)
   ·exact ⟨.inl rfl,hk⟩
   ·exact ⟨.inr ⟨a,b⟩,c⟩
 ·rename_i hk
  refine ris_uniq ((h.set t x).filter _) (h1.del t) fun p => ?_
  simp only [setldR,List.mem_filter,mem_setE,mem_delE]
  constructor
  ·rintro ⟨rfl | ⟨a,b⟩,c⟩
   ·exact absurd c hk
   ·exact ⟨⟨a,c⟩,b⟩
  ·rintro ⟨⟨a,c⟩,b⟩;exact ⟨.inr ⟨a,b⟩,c⟩
theorem setld_und {fs : List FlS} {es : List (Int × List Tr)} (h : RisE es) {t : Int} {f : FlS} (hf : fldOf fs t = some f) (h3 : f.label = 3) : undE (setldR fs es) t = undE es t := by
 by_cases hk : ∃ p ∈ es,p.1 = t
 ·obtain ⟨p,hp,rfl⟩ := hk
  have hkp : keepR fs p = true := by simp [keepR,hf,h3]
  have e1 : undE (setldR fs es) p.1 = p.2 := und_mem (es := setldR fs es) (h.filter _) (List.mem_filter.2 ⟨hp,hkp⟩);rw [und_mem h hp,e1]
 ·have h1 : ∀ e ∈ es,e.1 ≠ t := fun e he e1 => hk ⟨e,he,e1⟩
  rw [und_none h1,und_none];exact fun e he => h1 e (List.mem_filter.1 he).1
theorem fld_tagR {fs : List FlS} {t : Int} {f : FlS} (h : fldOf fs t = some f) : f.tag = t := by simpa using List.find?_some h
theorem one_same {M : ByteArray → List Nat → Tr × Int} {fs : List FlS} {es : List (Int × List Tr)} (rest : List Fd) (h : RisE es) (r : Fd) :
  (oneD M fs ⟨setldR fs es,rest⟩ r).2 = (oneR M fs ⟨es,rest⟩ r).2 ∧ ((oneR M fs ⟨es,rest⟩ r).2 = 0 → (oneD M fs ⟨setldR fs es,rest⟩ r).1 = ⟨setldR fs (oneR M fs ⟨es,rest⟩ r).1.es,(oneR M fs ⟨es,rest⟩ r).1.rest⟩ ∧ RisE (oneR M fs ⟨es,rest⟩ r).1.es) := by
 cases hf : fldOf fs r.tag with
 | none => simp only [oneD,oneR,hf]; exact ⟨by first | rfl | trivial,fun _ => ⟨by first | rfl | trivial,h⟩⟩
 | some f =>
  have ht := fld_tagR hf;simp only [oneD,oneR,hf]
  by_cases he : (treeD M f r).2 ≠ 0
  ·simp only [if_pos he]; exact ⟨by first | rfl | trivial,fun e => absurd e he⟩
  ·simp only [if_neg he]
   by_cases h3 : f.label = 3
   ·have hu : undE (setldR fs es) f.tag = undE es f.tag := setld_und h (by rw [ht]; exact hf) h3;simp only [putD,if_pos h3,hu,setR,h3,true_and]
    by_cases h64 : (undE es f.tag).length = 64
    ·simp only [if_pos h64]; exact ⟨by first | rfl | trivial,fun e => absurd e (by decide)⟩
    ·simp only [if_neg h64,if_true];refine ⟨by first | rfl | trivial,fun _ => ⟨?_,h.set _ _⟩⟩;rw [setld_set h,if_pos];rw [ht]; simp [keepR,hf,h3]
   ·simp only [putD,if_neg h3,setR];rw [if_neg (c := f.label = 3 ∧ (undE es f.tag).length = 64) (fun e => h3 e.1)]
    by_cases hz : f.label = 1 ∧ zroB (treeD M f r).1 = true
    ·rw [if_pos hz];refine ⟨by first | rfl | trivial,fun _ => ⟨?_,h.set _ _⟩⟩;simp only;rw [setld_set h,if_neg];rw [ht]; simp [keepR,hf,hz.1,hz.2]
    ·rw [if_neg hz];refine ⟨by first | rfl | trivial,fun _ => ⟨?_,h.set _ _⟩⟩;simp only;rw [setld_set h,if_pos];rw [ht];simp only [keepR,hf,List.headD_cons]
     cases hb : zroB (treeD M f r).1 with
     | false => simp
     | true => have : f.label ≠ 1 := fun e => hz ⟨e,hb⟩; simp [this]
theorem run_same {M : ByteArray → List Nat → Tr × Int} {fs : List FlS} : ∀ (l : List Fd) (es : List (Int × List Tr)) (rest : List Fd),RisE es →
  (runD M fs ⟨setldR fs es,rest⟩ l).2 = (runR M fs ⟨es,rest⟩ l).2 ∧ ((runR M fs ⟨es,rest⟩ l).2 = 0 → (runD M fs ⟨setldR fs es,rest⟩ l).1 = ⟨setldR fs (runR M fs ⟨es,rest⟩ l).1.es,(runR M fs ⟨es,rest⟩ l).1.rest⟩)
 | [],es,rest,h => ⟨rfl,fun _ => rfl⟩
 | r :: l,es,rest,h => by
  obtain ⟨h1,h2⟩ := one_same (M := M) (fs := fs) rest h r;simp only [runD,runR];rw [h1]
  by_cases he : (oneR M fs ⟨es,rest⟩ r).2 ≠ 0
  ·rw [if_pos he,if_pos he];exact ⟨h1,fun e => absurd e he⟩
  ·have h0 : (oneR M fs ⟨es,rest⟩ r).2 = 0 := by omega
   rw [if_neg he,if_neg he];obtain ⟨g1,g2⟩ := h2 h0;rw [g1];exact run_same l _ _ g2
theorem runR_app (M : ByteArray → List Nat → Tr × Int) (fs : List FlS) : ∀ (l l' : List Fd) (st : Ds),(runR M fs st l).2 = 0 → runR M fs st (l ++ l') = runR M fs (runR M fs st l).1 l'
 | [],_,_,_ => rfl
 | r :: l,l',st,h => by
  by_cases h1 : (oneR M fs st r).2 ≠ 0
  ·simp only [runR,if_pos h1] at h; exact absurd h h1
  ·simp only [runR,if_neg h1,List.cons_append] at h ⊢;exact runR_app M fs l l' _ h
theorem runR_err (M : ByteArray → List Nat → Tr × Int) (fs : List FlS) : ∀ (l l' : List Fd) (st : Ds),(runR M fs st l).2 ≠ 0 → runR M fs st (l ++ l') = runR M fs st l
 | [],_,_,h => absurd rfl h
 | r :: l,l',st,h => by
  by_cases h1 : (oneR M fs st r).2 ≠ 0
  ·simp only [runR,if_pos h1,List.cons_append]
  ·simp only [runR,if_neg h1,List.cons_append] at h ⊢;exact runR_err M fs l l' _ h
theorem runR_one (M : ByteArray → List Nat → Tr × Int) (fs : List FlS) (st : Ds) (r : Fd) : runR M fs st [r] = oneR M fs st r := by
 by_cases h1 : (oneR M fs st r).2 ≠ 0
 ·simp only [runR,if_pos h1]
 ·simp only [runR,if_neg h1]
  have h2 : (oneR M fs st r).2 = 0 := by omega
  exact Prod.ext rfl h2.symm
theorem ref_same {M : ByteArray → List Nat → Tr × Int} {fs : List FlS} (l : List Fd) :
  (runD M fs ⟨[],[]⟩ l).2 = (runR M fs ⟨[],[]⟩ l).2 ∧ ((runR M fs ⟨[],[]⟩ l).2 = 0 → (runD M fs ⟨[],[]⟩ l).1 = ⟨setldR fs (runR M fs ⟨[],[]⟩ l).1.es,(runR M fs ⟨[],[]⟩ l).1.rest⟩) := run_same l [] [] List.Pairwise.nil
end
section
open Go.ChangeShapes Go.WideShapes Go.ChangeAt Go.RowKit
theorem setE_at {α : Type} {tag : Int} {P M Q : List (Int × α)} (hP : ∀ p ∈ P,p.1 < tag) (hM : ∀ p ∈ M,p.1 = tag) (hQ : ∀ p ∈ Q,tag < p.1) (y : α) : setE tag y (P ++ (M ++ Q)) = P ++ (tag,y) :: Q := by
 have p1 : P.filter (fun e => decide (e.1 < tag)) = P := List.filter_eq_self.2 fun p hp => by simpa using hP p hp
 have m1 : M.filter (fun e => decide (e.1 < tag)) = [] := List.filter_eq_nil_iff.2 fun p hp => by have := hM p hp; simp; omega
 have q1 : Q.filter (fun e => decide (e.1 < tag)) = [] := List.filter_eq_nil_iff.2 fun p hp => by have := hQ p hp; simp; omega
 have p2 : P.filter (fun e => decide (tag < e.1)) = [] := List.filter_eq_nil_iff.2 fun p hp => by have := hP p hp; simp; omega
 have m2 : M.filter (fun e => decide (tag < e.1)) = [] := List.filter_eq_nil_iff.2 fun p hp => by have := hM p hp; simp; omega
 have q2 : Q.filter (fun e => decide (tag < e.1)) = Q := List.filter_eq_self.2 fun p hp => by simpa using hQ p hp
 unfold setE;simp only [List.filter_append,p1,m1,q1,p2,m2,q2]
 simp
theorem setE_mid {α : Type} {P Q : List (Int × α)} {k : Int × α} (h : RisE (P ++ k :: Q)) (y : α) : setE k.1 y (P ++ k :: Q) = P ++ (k.1,y) :: Q := by
 obtain ⟨h1,h2,h3⟩ := List.pairwise_append.1 h;rw [List.pairwise_cons] at h2;have := setE_at (M := [k]) (tag := k.1) (P := P) (Q := Q) (fun p hp => h3 p hp k (List.mem_cons_self ..)) (by simp) h2.1 y
 simpa using this
theorem ris_none {α : Type} {K : List (Int × α)} (h : RisE K) {tag : Int} (hn : ∀ k ∈ K,k.1 ≠ tag) {P Q : List (Int × α)} (hK : K = P ++ Q) (hQ : ∀ q ∈ Q,tag < q.1) (hP : P = [] ∨ ∃ P' y,P = P' ++ [y] ∧ y.1 < tag) (y : α) : setE tag y K = P ++ (tag,y) :: Q := by
 subst hK
 have h1 : ∀ p ∈ P,p.1 < tag := by
  rcases hP with rfl | ⟨P',z,rfl,hz⟩
  ·simp
  ·intro p hp
   rcases List.mem_append.1 hp with hp | hp
   ·have h4 := (List.pairwise_append.1 h).1;have h5 := (List.pairwise_append.1 h4).2.2 p hp z (by simp)
    omega
   ·obtain rfl : p = z := by simpa using hp
    exact hz
 have := setE_at (M := []) (tag := tag) (P := P) (Q := Q) h1 (by simp) hQ y
 simpa using this
theorem esK_ris {K : List KE} : RisE (esK K) ↔ RisE K := by
 unfold RisE esK;rw [List.pairwise_map]
def entC (k : KE) : List Value := [.int .i64 k.1,k.2.1]
def entCells (K : List KE) : List Value := (K.map entC).flatten
theorem entCells_app (K L : List KE) : entCells (K ++ L) = entCells K ++ entCells L := by simp [entCells]
theorem entCells_cons (k : KE) (K : List KE) : entCells (k :: K) = entC k ++ entCells K := by simp [entCells]
theorem entCells_len (K : List KE) : (entCells K).length = K.length * 2 := by
 induction K with
 | nil => rfl
 | cons k K ih => rw [entCells_cons,List.length_append,ih]; simp [entC]; omega
theorem entC_two (K : List KE) : ∀ r ∈ K.map entC,r.length = 2 := fun r hr => by
 obtain ⟨k,_,rfl⟩ := List.mem_map.1 hr; rfl
structure RdS (n B bt : Nat) (K : List KE) (ve vr : Value) (rest : List Fd) (w : World) : Prop where
 tb : Blk w bt #[.int .i64 3,.int .i64 0,.string ⟨#[]⟩,ve,vr] 30
 er : w.ownsRow B 69 2 ve K.length (entCells K)
 row : ∀ k ∈ K,∃ rows bss,RowO (TrO n B) B 30 5 w k.2.1 k.2.2.1 rows bss ∧ k.2.2.2 = allB k.2.1 bss
 i64 : ∀ k ∈ K,Is64 k.1
 rr : w.ownsRow B 79 4 vr rest.length (rawCells rest)
 r64 : Fd64 rest
 ap : Apt B w ((fpK K ++ blkOf ve) ++ blkOf vr)
 lt : bt < B
section
variable {n B bt : Nat} {K P Q : List KE} {k : KE} {ve vr : Value} {rest : List Fd} {w w' : World}
theorem RdS.nil (hb : Blk w bt #[.int .i64 3,.int .i64 0,.string ⟨#[]⟩,.slice none 0 0,.slice none 0 0] 30) (h1 : bt < B) : RdS n B bt [] (.slice none 0 0) (.slice none 0 0) [] w :=
 ⟨hb,World.ownsRow_nil _ _ _ _,by simp,by simp,World.ownsRow_nil _ _ _ _,(fun f hf => by cases hf),Apt.nil _ _,h1⟩
theorem RdS.kp {S : Nat → Prop} (h : RdS n B bt K ve vr rest w) (hk : Kp S w w') (hs : ∀ q ∈ (fpK K ++ blkOf ve) ++ blkOf vr,¬ S q) (h1 : ¬ S bt) : RdS n B bt K ve vr rest w' := by
 have hsm : Sm w w' ((fpK K ++ blkOf ve) ++ blkOf vr) := hk.sm fun k hq => ⟨(h.ap.2 k hq).2,hs k hq⟩
 refine ⟨h.tb.kp hk h1,own_sm h.er (hsm.mono fun q hq => by simp [hq]),fun k hq => ?_,h.i64,own_sm h.rr (hsm.mono fun q hq => by simp [hq]),h.r64,h.ap.mono hk.size,h.lt⟩;obtain ⟨rows,bss,g1,g2⟩ := h.row k hq;exact ⟨rows,bss,g1.sm (hsm.mono fun q hq' => List.mem_append.2 (.inl (List.mem_append.2 (.inl (fpK_mem hq q (by rw [g2]; exact hq')))))) fun _ _ _ hp hb => hp.sm hb,g2⟩
theorem RdS.below (h : RdS n B bt K ve vr rest w) (hk : Below w.heap.size w w') : RdS n B bt K ve vr rest w' := h.kp (S := fun _ => False) (Kp.ofBelow hk) (fun _ _ e => e) (fun e => e)
theorem RdS.ne (h : RdS n B bt K ve vr rest w) : ∀ q ∈ (fpK K ++ blkOf ve) ++ blkOf vr,q ≠ bt := fun q hq e => by have := (h.ap.2 q hq).1; have := h.lt; omega
theorem RdS.form (h : RdS n B bt K ve vr rest w) : ∃ a c,ve = .slice a K.length c ∧ K.length ≤ c ∧ c ≤ maxLen ∧ (K ≠ [] → ∃ g,a = some ⟨g,0,none⟩ ∧ B ≤ g ∧ g < w.heap.size ∧ (∀ o,w.frozen? ⟨g,o,none⟩ = false) ∧ ∀ i k,K[i]? = some k → w.cell? ⟨g,i * 2,none⟩ = some (.int .i64 k.1) ∧ w.cell? ⟨g,i * 2 + 1,none⟩ = some k.2.1) := by
 have hg := (RowG.own (entC_two K) (by decide) h.er).1
 rcases h.er.2 with ⟨rfl,h0⟩ | ⟨g,cap,cur,rfl,h2,h3,h4,h5,h6⟩
 ·have : K = [] := List.eq_nil_of_length_eq_zero h0;subst this;exact ⟨none,0,rfl,Nat.le_refl _,by unfold maxLen; omega,fun h => absurd rfl h⟩
 ·refine ⟨_,_,rfl,h4,h5,fun _ => ⟨g,rfl,h2,(Array.getElem?_eq_some_iff.1 h3).1,block_froz h3,fun i k hi => ?_⟩⟩
  have hr : (K.map entC)[i]? = some (entC k) := by simp [hi]
  obtain ⟨g',off,e1,hc⟩ := hg.get hr;simp only [Option.some.injEq,Addr.mk.injEq,and_true] at e1;obtain ⟨rfl,rfl⟩ := e1;have c0 := hc 0 _ rfl;have c1 := hc 1 _ rfl;simp only [Nat.zero_add,Nat.add_zero] at c0 c1;exact ⟨c0,c1⟩
theorem RdS.size (h : RdS n B bt K ve vr rest w) : bt < w.heap.size := h.tb.lt
theorem RdS.set (h : RdS n B bt (P ++ k :: Q) ve vr rest w) {v' : Value} {ts' : List Tr} {rows' : List (List Value)} {bss' : List (List Nat)} (hs : Sm w w' ((fpK P ++ fpK Q) ++ blkOf vr)) (hb : Blk w' bt #[.int .i64 3,.int .i64 0,.string ⟨#[]⟩,ve,vr] 30)
  (he : w'.ownsRow B 69 2 ve (P ++ k :: Q).length (entCells (P ++ (k.1,(v',ts',allB v' bss')) :: Q))) (hr : RowO (TrO n B) B 30 5 w' v' ts' rows' bss') (hap : Apt B w' ((((fpK P ++ fpK Q) ++ blkOf ve) ++ blkOf vr) ++ allB v' bss')) : RdS n B bt (P ++ (k.1,(v',ts',allB v' bss')) :: Q) ve vr rest w' := by
 refine ⟨hb,?_,fun j hj => ?_,fun j hj => ?_,own_sm h.rr (hs.mono fun q hq => by simp [hq]),h.r64,?_,h.lt⟩
 ·simpa using he
 ·rcases List.mem_append.1 hj with hj | hj
  ·obtain ⟨rows,bss,g1,g2⟩ := h.row j (List.mem_append.2 (.inl hj));exact ⟨rows,bss,g1.sm (hs.mono fun q hq => List.mem_append.2 (.inl (List.mem_append.2 (.inl (fpK_mem hj q (by rw [g2]; exact hq)))))) fun _ _ _ hp hb => hp.sm hb,g2⟩
  ·rcases List.mem_cons.1 hj with rfl | hj
   ·exact ⟨rows',bss',hr,rfl⟩
   ·obtain ⟨rows,bss,g1,g2⟩ := h.row j (List.mem_append.2 (.inr (List.mem_cons_of_mem _ hj)));exact ⟨rows,bss,g1.sm (hs.mono fun q hq => List.mem_append.2 (.inl (List.mem_append.2 (.inr (fpK_mem hj q (by rw [g2]; exact hq)))))) fun _ _ _ hp hb => hp.sm hb,g2⟩
 ·rcases List.mem_append.1 hj with hj | hj
  ·exact h.i64 j (List.mem_append.2 (.inl hj))
  ·rcases List.mem_cons.1 hj with rfl | hj
   ·exact h.i64 k (by simp)
   ·exact h.i64 j (by simp [hj])
 ·refine hap.of_count fun q => ?_
  simp only [fpK_app,fpK_cons,List.count_append]
  omega
theorem entCells_set (P Q : List KE) (k : KE) (v' : Value) (y : List Tr × List Nat) : (entCells (P ++ k :: Q)).set (P.length * 2 + 1) v' = entCells (P ++ (k.1,(v',y)) :: Q) := by
 rw [entCells_app,entCells_app,entCells_cons,entCells_cons,List.set_append,if_neg (by rw [entCells_len]; omega),entCells_len,Nat.add_sub_cancel_left]
 rfl
theorem RdS.one {N ge ec : Nat} (h : RdS n B bt (P ++ k :: Q) (.slice (some ⟨ge,0,none⟩) N ec) vr rest w) (hB : B ≤ w.heap.size) {r : List Value} {x : Tr} {bs : List Nat} (hx : TrO n B w r x bs) (hap : Apt B w (((fpK (P ++ k :: Q) ++ blkOf (.slice (some ⟨ge,0,none⟩) N ec)) ++ blkOf vr) ++ bs)) :
  RdS n B bt (P ++ (k.1,(.slice (some ⟨w.heap.size,0,none⟩) 1 1,[x],allB (.slice (some ⟨w.heap.size,0,none⟩) 1 1) [bs])) :: Q) (.slice (some ⟨ge,0,none⟩) N ec) vr rest ((w.alloc (Obj.cells r.toArray 30)).setCell ⟨ge,P.length * 2 + 1,none⟩ (.slice (some ⟨w.heap.size,0,none⟩) 1 1)) ∧
   Kp (fun q => q = ge) w ((w.alloc (Obj.cells r.toArray 30)).setCell ⟨ge,P.length * 2 + 1,none⟩ (.slice (some ⟨w.heap.size,0,none⟩) 1 1)) := by
 have al : Below w.heap.size w (w.alloc (Obj.cells r.toArray 30)) := bra _
 obtain rfl : N = (P ++ k :: Q).length := by
  obtain ⟨a,c,e,_⟩ := h.form;simp only [Value.slice.injEq] at e;exact e.2.1
 have hge : ge ∈ (fpK (P ++ k :: Q) ++ blkOf (.slice (some ⟨ge,0,none⟩) (P ++ k :: Q).length ec)) ++ blkOf vr := by simp [blkOf,Value.ownBlock]
 have hgl := (h.ap.2 ge hge).2
 have k5 : Kp (fun q => q = ge) w ((w.alloc (Obj.cells r.toArray 30)).setCell ⟨ge,P.length * 2 + 1,none⟩ (.slice (some ⟨w.heap.size,0,none⟩) 1 1)) := by
  refine Kp.setCell ?_ (fun _ => by simp) _;exact Kp.ofBelow al
 have hsz5 : w.heap.size < ((w.alloc (Obj.cells r.toArray 30)).setCell ⟨ge,P.length * 2 + 1,none⟩ (.slice (some ⟨w.heap.size,0,none⟩) 1 1)).heap.size := by simp [World.setCell]
 have hS : ∀ q ∈ ((fpK P ++ fpK Q) ++ blkOf vr) ++ bs,((w.alloc (Obj.cells r.toArray 30)).setCell ⟨ge,P.length * 2 + 1,none⟩ (.slice (some ⟨w.heap.size,0,none⟩) 1 1)).heap[q]? = w.heap[q]? := fun q hq => by
  have ha : Apt B w ((((fpK P ++ fpK Q) ++ blkOf vr) ++ bs) ++ [ge]) := hap.of_count fun z => by
   simp only [fpK_app,fpK_cons,List.count_append,blkOf,Value.ownBlock]; omega
  exact k5.block q (ha.2 q (List.mem_append.2 (.inl hq))).2 (fun e => ha.apart q hq (by simp [e]))
 refine ⟨h.set (rows' := [r]) (bss' := [bs]) (fun q hq => hS q (List.mem_append.2 (.inl hq))) (h.tb.kp k5 (fun e => h.ne ge hge e.symm)) ?_ (row_one hB hx ?_ fun q hq => hS q (List.mem_append.2 (.inr hq))) ?_,k5⟩
 ·have h1 := ((own_below h.er al).stored (P.length * 2 + 1) (.slice (some ⟨w.heap.size,0,none⟩) 1 1)).1;rw [entCells_set] at h1;exact h1
 ·exact (Blk.new w r.toArray 30).other (by show w.heap.size ≠ ge; omega) _
 ·refine (hap.new hB hsz5).of_count fun q => ?_
  simp only [fpK_app,fpK_cons,allB,blkOf,Value.ownBlock,List.count_append,List.flatten_cons,List.flatten_nil,List.append_nil]
  omega
theorem RdS.more {N ge ec : Nat} (h : RdS n B bt (P ++ k :: Q) (.slice (some ⟨ge,0,none⟩) N ec) vr rest w) (hB : B ≤ w.heap.size) {r : List Value} {x : Tr} {bs : List Nat} (hx : TrO n B w r x bs) (hap : Apt B w (((fpK (P ++ k :: Q) ++ blkOf (.slice (some ⟨ge,0,none⟩) N ec)) ++ blkOf vr) ++ bs)) (hl : k.2.2.1.length ≤ 64) {bz : Nat} (BZ : Blk w bz r.toArray 30) :
  ∃ v' W' bs',(Builtin.append_ #[67,67] 67 #[k.2.1,.slice (some ⟨bz,0,none⟩) 1 1]).run Tryz.prog w = .ok v' W' ∧ (∃ a c,v' = .slice a (k.2.2.1.length + 1) c) ∧ Kp (fun q => q ∈ blkOf k.2.1) w W' ∧
   RdS n B bt (P ++ (k.1,(v',k.2.2.1 ++ [x],bs')) :: Q) (.slice (some ⟨ge,0,none⟩) N ec) vr rest (W'.setCell ⟨ge,P.length * 2 + 1,none⟩ v') ∧ Kp (fun q => q = ge) W' (W'.setCell ⟨ge,P.length * 2 + 1,none⟩ v') := by
 obtain rfl : N = (P ++ k :: Q).length := by
  obtain ⟨a,c,e,_⟩ := h.form;simp only [Value.slice.injEq] at e;exact e.2.1
 obtain ⟨h5,h1⟩ := hx.len5;obtain ⟨rows,bss,g1,g2⟩ := h.row k (by simp)
 have hap1 : Apt B w ((((fpK P ++ fpK Q) ++ blkOf (.slice (some ⟨ge,0,none⟩) (P ++ k :: Q).length ec)) ++ blkOf vr) ++ (allB k.2.1 bss ++ bs)) := hap.of_count fun q => by
  simp only [fpK_app,fpK_cons,g2,List.count_append]
  omega
 obtain ⟨v',W',r1,r2,r3,r4,r5⟩ := push_row (P := TrO n B) (t := 67) (more := ((fpK P ++ fpK Q) ++ blkOf (.slice (some ⟨ge,0,none⟩) (P ++ k :: Q).length ec)) ++ blkOf vr) Tryz.underlying67 infoTr rfl (by decide) g1 hap1 hx h5 h1 (fun _ _ _ _ hp hs => hp.sm hs) BZ (by omega) (by decide) hB
 have hge : ge ∈ (((fpK P ++ fpK Q) ++ blkOf (.slice (some ⟨ge,0,none⟩) (P ++ k :: Q).length ec)) ++ blkOf vr) := by simp [blkOf,Value.ownBlock]
 have hgeb : ∀ q ∈ blkOf k.2.1,B ≤ q := fun q hq => (own_lt g1.own (mem_blkOf.1 hq)).1
 have hS1 : Sm w W' (((fpK P ++ fpK Q) ++ blkOf (.slice (some ⟨ge,0,none⟩) (P ++ k :: Q).length ec)) ++ blkOf vr) := r5.sm fun q hq => ⟨(hap1.2 q (List.mem_append.2 (.inl hq))).2,fun e => hap1.apart q hq (List.mem_append.2 (.inl (by simp [allB,e])))⟩
 have k5 : Kp (fun q => q = ge) W' (W'.setCell ⟨ge,P.length * 2 + 1,none⟩ v') := by
  refine Kp.setCell ?_ (fun _ => by simp) _;exact Kp.refl _ _
 have hap2 : Apt B W' (((((fpK P ++ fpK Q) ++ blkOf vr) ++ allB v' (bss ++ [bs]))) ++ [ge]) := r3.of_count fun q => by
  simp only [blkOf,Value.ownBlock,List.count_append]; omega
 have hS2 : Sm W' (W'.setCell ⟨ge,P.length * 2 + 1,none⟩ v') (((fpK P ++ fpK Q) ++ blkOf vr) ++ allB v' (bss ++ [bs])) := k5.sm fun q hq => ⟨(hap2.2 q (List.mem_append.2 (.inl hq))).2,fun e => hap2.apart q hq (by simp [e])⟩
 have hbt : bt ∉ blkOf k.2.1 := fun e => by have := hgeb _ e; have := h.lt; omega
 have hbg : bt ≠ ge := fun e => by have := (hap1.2 ge (List.mem_append.2 (.inl hge))).1; have := h.lt; omega
 refine ⟨v',W',allB v' (bss ++ [bs]),r1,r4,r5,h.set (rows' := rows ++ [r]) (bss' := bss ++ [bs]) (fun q hq => (hS2 q (List.mem_append.2 (.inl hq))).trans (hS1 q ?_)) ((h.tb.kp r5 hbt).kp k5 hbg) ?_ (r2.sm (hS2.mono fun q hq => List.mem_append.2 (.inr hq)) fun _ _ _ hp hb => hp.sm hb) ?_,k5⟩
 ·simp only [List.mem_append] at hq ⊢
  rcases hq with hq | hq
  ·exact .inl (.inl hq)
  ·exact .inr hq
 ·have h7 := own_sm h.er (hS1.mono fun q hq => List.mem_append.2 (.inl (List.mem_append.2 (.inr hq))));have h8 := (h7.stored (P.length * 2 + 1) v').1;rw [entCells_set] at h8;exact h8
 ·exact r3.mono k5.size
theorem RdS.push (h : RdS n B bt K ve vr rest w) (hB : B ≤ w.heap.size) {tag : Int} (h64 : Is64 tag) {v1 : Value} {ts : List Tr} {rows : List (List Value)} {bss : List (List Nat)} (hr : RowO (TrO n B) B 30 5 w v1 ts rows bss) (hap : Apt B w (((fpK K ++ blkOf ve) ++ blkOf vr) ++ allB v1 bss)) (h1 : v1.oneCell' = true) {bz : Nat} (BZ : Blk w bz #[.int .i64 tag,v1] 69) (hl : K.length ≤ 1000) :
  ∃ v' W',(Builtin.append_ #[27,27] 27 #[ve,.slice (some ⟨bz,0,none⟩) 1 1]).run Tryz.prog w = .ok v' W' ∧ (∃ g c,v' = .slice (some ⟨g,0,none⟩) (K.length + 1) c) ∧ Kp (fun q => q ∈ blkOf ve) w W' ∧
   RdS n B bt (K ++ [(tag,(v1,ts,allB v1 bss))]) v' vr rest (W'.setCell ⟨bt,3,none⟩ v') ∧ Kp (fun q => q = bt) W' (W'.setCell ⟨bt,3,none⟩ v') := by
 obtain ⟨i0,hi0,hz0,hz1,hz2⟩ := info_parts infoEt
 obtain ⟨v',W',r1,r2,r3,_,r5⟩ := run_append_own_at w B 27 27 69 i0 _ 2 _ Tryz.underlying27 hi0 hz0 hz1 hz2 rfl (by decide) ve K.length _ h.er ⟨bz,0,none⟩ 1 1 [.int .i64 tag,v1] rfl (fun j u hu => by
  have := BZ.cell j;rw [Addr.add_lit,Nat.zero_add,this]
  simpa using hu) (fun u hu => by
   simp only [List.mem_cons,List.not_mem_nil,or_false] at hu
   rcases hu with rfl | rfl
   ·rfl
   ·exact h1) (by unfold maxLen; omega) (by omega) hB
 have kW : Kp (fun q => q ∈ blkOf ve) w W' := (Kp.refl _ _).grown r3 (fun k hk _ => mem_blkOf.2 hk)
 have hap0 : Apt B w (((fpK K ++ blkOf vr) ++ allB v1 bss) ++ blkOf ve) := hap.of_count fun q => by simp only [List.count_append]; omega
 have hS1 : Sm w W' ((fpK K ++ blkOf vr) ++ allB v1 bss) := kW.sm fun q hq => ⟨(hap0.2 q (List.mem_append.2 (.inl hq))).2,fun e => hap0.apart q hq e⟩
 have k5 : Kp (fun q => q = bt) W' (W'.setCell ⟨bt,3,none⟩ v') := by
  refine Kp.setCell ?_ (fun _ => by simp) _;exact Kp.refl _ _
 have hap3 : Apt B W' (((fpK K ++ blkOf vr) ++ allB v1 bss) ++ blkOf v') := by
  rcases r5 with hat | hat
  ·have : blkOf v' = blkOf ve := by simp [blkOf,hat]
   rw [this]; exact hap0.mono kW.size
  ·have e1 : blkOf v' = [w.heap.size] := by simp [blkOf,hat]
   rw [e1];refine (hap0.new hB (own_lt r2 hat).2).of_count fun q => ?_
   simp only [List.count_append]; omega
 have hbt : bt ∉ blkOf ve := fun e => by have := (hap0.2 bt (List.mem_append.2 (.inr e))).1; have := h.lt; omega
 have hS2 : Sm W' (W'.setCell ⟨bt,3,none⟩ v') (((fpK K ++ blkOf vr) ++ allB v1 bss) ++ blkOf v') := k5.sm fun q hq => ⟨(hap3.2 q hq).2,fun e => by have := (hap3.2 q hq).1; have := h.lt; omega⟩
 have hS : Sm w (W'.setCell ⟨bt,3,none⟩ v') ((fpK K ++ blkOf vr) ++ allB v1 bss) := fun q hq => (hS2 q (List.mem_append.2 (.inl hq))).trans (hS1 q hq)
 have e2 : entCells (K ++ [(tag,(v1,ts,allB v1 bss))]) = entCells K ++ [.int .i64 tag,v1] := by rw [entCells_app]; rfl
 refine ⟨v',W',r1,?_,kW,⟨(h.tb.kp kW hbt).set 3 _ rfl,?_,fun j hj => ?_,fun j hj => ?_,own_sm h.rr (hS.mono fun q hq => by simp [hq]),h.r64,?_,h.lt⟩,k5⟩
 ·rcases r2.2 with ⟨_,e⟩ | ⟨g,cap,cur,rfl,_⟩
  ·omega
  ·exact ⟨g,cap,rfl⟩
 ·rw [e2,List.length_append];exact own_sm r2 (hS2.mono fun q hq => List.mem_append.2 (.inr hq))
 ·rcases List.mem_append.1 hj with hj | hj
  ·obtain ⟨rows,bss,g1,g2⟩ := h.row j hj;exact ⟨rows,bss,g1.sm (hS.mono fun q hq => List.mem_append.2 (.inl (List.mem_append.2 (.inl (fpK_mem hj q (by rw [g2]; exact hq)))))) fun _ _ _ hp hb => hp.sm hb,g2⟩
  ·obtain rfl := List.mem_singleton.1 hj;exact ⟨rows,bss,hr.sm (hS.mono fun q hq => List.mem_append.2 (.inr hq)) fun _ _ _ hp hb => hp.sm hb,rfl⟩
 ·rcases List.mem_append.1 hj with hj | hj
  ·exact h.i64 j hj
  ·obtain rfl := List.mem_singleton.1 hj;exact h64
 ·refine (hap3.mono k5.size).of_count fun q => ?_
  simp only [fpK_app,fpK_cons,show fpK ([] : List KE) = [] from rfl,List.append_nil,List.count_append]
  omega
theorem RdS.swap {N ge ec : Nat} {x : KE} (h : RdS n B bt (P ++ k :: x :: Q) (.slice (some ⟨ge,0,none⟩) N ec) vr rest w) (o : Nat) (ho : o = P.length * 2) (o2 : Nat) (ho2 : o2 = o + 2) :
  RdS n B bt (P ++ x :: k :: Q) (.slice (some ⟨ge,0,none⟩) N ec) vr rest ((((w.setCell ⟨ge,o2,none⟩ (.int .i64 k.1)).setCell ⟨ge,o2 + 1,none⟩ k.2.1).setCell ⟨ge,o,none⟩ (.int .i64 x.1)).setCell ⟨ge,o + 1,none⟩ x.2.1) ∧
   Kp (fun q => q = ge) w ((((w.setCell ⟨ge,o2,none⟩ (.int .i64 k.1)).setCell ⟨ge,o2 + 1,none⟩ k.2.1).setCell ⟨ge,o,none⟩ (.int .i64 x.1)).setCell ⟨ge,o + 1,none⟩ x.2.1) := by
 obtain rfl : N = (P ++ k :: x :: Q).length := by
  obtain ⟨a,c,e,_⟩ := h.form;simp only [Value.slice.injEq] at e;exact e.2.1
 have s1 := (h.er.stored o2 (.int .i64 k.1)).1;have s2 := (s1.stored (o2 + 1) k.2.1).1;have s3 := (s2.stored o (.int .i64 x.1)).1;have s4 := (s3.stored (o + 1) x.2.1).1
 have e : ((((entCells (P ++ k :: x :: Q)).set o2 (.int .i64 k.1)).set (o2 + 1) k.2.1).set o (.int .i64 x.1)).set (o + 1) x.2.1 = entCells (P ++ x :: k :: Q) := by
  have hl : (entCells P).length = P.length * 2 := entCells_len P;rw [ho2,ho,← hl,entCells_app,entCells_app,entCells_cons,entCells_cons,entCells_cons,entCells_cons];generalize entCells P = D;generalize entCells Q = E
  have sb : ∀ (l : List Value) (j : Nat) (v : Value),(D ++ l).set (D.length + j) v = D ++ l.set j v := fun l j v => by rw [List.set_append,if_neg (by omega),Nat.add_sub_cancel_left]
  have s0 : ∀ (l : List Value) (v : Value),(D ++ l).set D.length v = D ++ l.set 0 v := fun l v => sb l 0 v
  simp only [Nat.add_assoc,s0,sb,entC]
  simp
 rw [e] at s4
 have hK : Kp (fun q => q = ge) w ((((w.setCell ⟨ge,o2,none⟩ (.int .i64 k.1)).setCell ⟨ge,o2 + 1,none⟩ k.2.1).setCell ⟨ge,o,none⟩ (.int .i64 x.1)).setCell ⟨ge,o + 1,none⟩ x.2.1) := by
  refine Kp.setCell ?_ (fun _ => by simp) _;refine Kp.setCell ?_ (fun _ => by simp) _;refine Kp.setCell ?_ (fun _ => by simp) _;refine Kp.setCell ?_ (fun _ => by simp) _;exact Kp.refl _ _
 refine ⟨?_,hK⟩;generalize ((((w.setCell ⟨ge,o2,none⟩ (.int .i64 k.1)).setCell ⟨ge,o2 + 1,none⟩ k.2.1).setCell ⟨ge,o,none⟩ (.int .i64 x.1)).setCell ⟨ge,o + 1,none⟩ x.2.1) = w5 at *
 have hge : ge ∈ (fpK (P ++ k :: x :: Q) ++ blkOf (.slice (some ⟨ge,0,none⟩) (P ++ k :: x :: Q).length ec)) ++ blkOf vr := by simp [blkOf,Value.ownBlock]
 have hap : Apt B w ((fpK (P ++ k :: x :: Q) ++ blkOf vr) ++ [ge]) := h.ap.of_count fun q => by simp only [blkOf,Value.ownBlock,List.count_append]; omega
 have hS : Sm w w5 (fpK (P ++ k :: x :: Q) ++ blkOf vr) := hK.sm fun q hq => ⟨(hap.2 q (List.mem_append.2 (.inl hq))).2,fun e => hap.apart q hq (by simp [e])⟩
 have hm : ∀ j,j ∈ P ++ x :: k :: Q → j ∈ P ++ k :: x :: Q := fun j hj => by
  simp only [List.mem_append,List.mem_cons] at hj ⊢
  rcases hj with hj | hj | hj | hj
  ·exact .inl hj
  ·exact .inr (.inr (.inl hj))
  ·exact .inr (.inl hj)
  ·exact .inr (.inr (.inr hj))
 refine ⟨h.tb.kp hK (fun e => h.ne ge hge e.symm),by simpa using s4,fun j hj => ?_,fun j hj => h.i64 j (hm j hj),own_sm h.rr (hS.mono fun q hq => by simp [hq]),h.r64,?_,h.lt⟩
 ·obtain ⟨rows,bss,g1,g2⟩ := h.row j (hm j hj);exact ⟨rows,bss,g1.sm (hS.mono fun q hq => List.mem_append.2 (.inl (fpK_mem (hm j hj) q (by rw [g2]; exact hq)))) fun _ _ _ hp hb => hp.sm hb,g2⟩
 ·refine (h.ap.mono hK.size).of_count fun q => ?_
  have hlen : (P ++ x :: k :: Q).length = (P ++ k :: x :: Q).length := by simp
  simp only [fpK_app,fpK_cons,List.count_append,blkOf,Value.ownBlock]
  omega
theorem RdS.pushRest (h : RdS n B bt K ve vr rest w) (hB : B ≤ w.heap.size) {f : Fd} (hf : Is64 f.tag ∧ Is64 f.wire ∧ Is64 f.n ∧ f.b.size ≤ 140737488351232) {bz : Nat} (BZ : Blk w bz #[.int .i64 f.tag,.int .i64 f.wire,.int .i64 f.n,.string f.b] 79) (hl : rest.length ≤ 100000) :
  ∃ v' W',(Builtin.append_ #[28,28] 28 #[vr,.slice (some ⟨bz,0,none⟩) 1 1]).run Tryz.prog w = .ok v' W' ∧ (∃ a c,v' = .slice a (rest.length + 1) c) ∧ Kp (fun q => q ∈ blkOf vr) w W' ∧
   RdS n B bt K ve v' (rest ++ [f]) (W'.setCell ⟨bt,4,none⟩ v') ∧ Kp (fun q => q = bt) W' (W'.setCell ⟨bt,4,none⟩ v') := by
 obtain ⟨i0,hi0,hz0,hz1,hz2⟩ := info_parts infoRaw
 obtain ⟨v',W',r1,r2,r3,_,r5⟩ := run_append_own_at w B 28 28 79 i0 _ 4 _ Tryz.underlying28 hi0 hz0 hz1 hz2 rfl (by decide) vr rest.length _ h.rr ⟨bz,0,none⟩ 1 1 f.cells rfl (fun j u hu => by
  have := BZ.cell j;rw [Addr.add_lit,Nat.zero_add,this]
  simpa [Fd.cells] using hu) (fun u hu => by
   simp only [Fd.cells,List.mem_cons,List.not_mem_nil,or_false] at hu
   rcases hu with rfl | rfl | rfl | rfl <;> rfl) (by unfold maxLen; omega) (by omega) hB
 have kW : Kp (fun q => q ∈ blkOf vr) w W' := (Kp.refl _ _).grown r3 (fun k hk _ => mem_blkOf.2 hk);have hS1 : Sm w W' (fpK K ++ blkOf ve) := kW.sm fun q hq => ⟨(h.ap.2 q (List.mem_append.2 (.inl hq))).2,fun e => h.ap.apart q hq e⟩
 have k5 : Kp (fun q => q = bt) W' (W'.setCell ⟨bt,4,none⟩ v') := by
  refine Kp.setCell ?_ (fun _ => by simp) _;exact Kp.refl _ _
 have hap3 : Apt B W' ((fpK K ++ blkOf ve) ++ blkOf v') := by
  rcases r5 with hat | hat
  ·have : blkOf v' = blkOf vr := by simp [blkOf,hat]
   rw [this]; exact h.ap.mono kW.size
  ·have e1 : blkOf v' = [w.heap.size] := by simp [blkOf,hat]
   rw [e1];refine (h.ap.new hB (own_lt r2 hat).2).of_count fun q => ?_
   simp only [List.count_append]; omega
 have hbt : bt ∉ blkOf vr := fun e => by have := (h.ap.2 bt (List.mem_append.2 (.inr e))).1; have := h.lt; omega
 have hS2 : Sm W' (W'.setCell ⟨bt,4,none⟩ v') ((fpK K ++ blkOf ve) ++ blkOf v') := k5.sm fun q hq => ⟨(hap3.2 q hq).2,fun e => by have := (hap3.2 q hq).1; have := h.lt; omega⟩
 have hS : Sm w (W'.setCell ⟨bt,4,none⟩ v') (fpK K ++ blkOf ve) := fun q hq => (hS2 q (List.mem_append.2 (.inl hq))).trans (hS1 q hq)
 refine ⟨v',W',r1,own_form r2,kW,⟨(h.tb.kp kW hbt).set 4 _ rfl,own_sm h.er (hS.mono fun q hq => by simp [hq]),fun j hj => ?_,h.i64,?_,fun g hg => ?_,hap3.mono k5.size,h.lt⟩,k5⟩
 ·obtain ⟨rows,bss,g1,g2⟩ := h.row j hj;exact ⟨rows,bss,g1.sm (hS.mono fun q hq => List.mem_append.2 (.inl (fpK_mem hj q (by rw [g2]; exact hq)))) fun _ _ _ hp hb => hp.sm hb,g2⟩
 ·have e9 : rawCells (rest ++ [f]) = rawCells rest ++ f.cells := by simp [rawCells]
  rw [e9,List.length_append];exact own_sm r2 (hS2.mono fun q hq => List.mem_append.2 (.inr hq))
 ·rcases List.mem_append.1 hg with hg | hg
  ·exact h.r64 g hg
  ·obtain rfl := List.mem_singleton.1 hg;exact hf
end
end
section
theorem runR_inv {M : ByteArray → List Nat → Tr × Int} {fs : List FlS} {P : Ds → Prop} (step : ∀ st r,P st → (oneR M fs st r).2 = 0 → P (oneR M fs st r).1) : ∀ (l : List Fd) (st : Ds),P st → (runR M fs st l).2 = 0 → P (runR M fs st l).1
 | [],_,h,_ => h
 | r :: l,st,h,h0 => by
  by_cases h1 : (oneR M fs st r).2 ≠ 0
  ·simp only [runR,if_pos h1] at h0; exact absurd h0 h1
  ·simp only [runR,if_neg h1] at h0 ⊢;exact runR_inv step l _ (step st r h (by omega)) h0
structure RanR (fs : List FlS) (st : Ds) : Prop where
 ris : RisE st.es
 ne : ∀ e ∈ st.es,e.2 ≠ [] ∧ e.2.length ≤ 64 ∧ ∃ f,fldOf fs e.1 = some f
theorem RanR.und {fs : List FlS} {st : Ds} (h : RanR fs st) (t : Int) : (undE st.es t).length ≤ 64 := by
 by_cases hk : ∃ p ∈ st.es,p.1 = t
 ·obtain ⟨p,hp,rfl⟩ := hk;rw [und_mem h.ris hp];exact (h.ne p hp).2.1
 ·rw [und_none fun e he e1 => hk ⟨e,he,e1⟩]
  simp
theorem ranR_step {M : ByteArray → List Nat → Tr × Int} {fs : List FlS} (st : Ds) (r : Fd) (h : RanR fs st) (h0 : (oneR M fs st r).2 = 0) : RanR fs (oneR M fs st r).1 := by
 cases hf : fldOf fs r.tag with
 | none => simp only [oneR,hf]; exact ⟨h.ris,h.ne⟩
 | some f =>
  have ht := fld_tagR hf;have hu := h.und f.tag;simp only [oneR,hf] at h0 ⊢
  by_cases he : (treeD M f r).2 ≠ 0
  ·simp only [if_pos he] at h0; exact absurd h0 he
  ·simp only [if_neg he] at h0 ⊢
   by_cases h4 : f.label = 3 ∧ (undE st.es f.tag).length = 64
   ·simp only [if_pos h4] at h0; exact absurd h0 (by decide)
   ·simp only [if_neg h4] at h0 ⊢;refine ⟨h.ris.setR f _,fun e he => ?_⟩
    rcases mem_setE.1 he with rfl | ⟨he,_⟩
    ·refine ⟨?_,?_,f,by rw [ht]; exact hf⟩
     ·simp only; split <;> simp
     ·simp only
      split
      ·rename_i h3
       have : ¬ (undE st.es f.tag).length = 64 := fun e => h4 ⟨h3,e⟩
       simp only [List.length_append,List.length_cons,List.length_nil]; omega
      ·simp
    ·exact h.ne e he
theorem ranR_run {M : ByteArray → List Nat → Tr × Int} {fs : List FlS} {l : List Fd} {st : Ds} (h : runR M fs ⟨[],[]⟩ l = (st,0)) : RanR fs st := by
 have := runR_inv (P := RanR fs) (M := M) (fs := fs) ranR_step l ⟨[],[]⟩ ⟨List.Pairwise.nil,by simp⟩ (by rw [h]);rw [h] at this;exact this
theorem runR_rest {M : ByteArray → List Nat → Tr × Int} {fs : List FlS} : ∀ (l : List Fd) (st : Ds),(runR M fs st l).1.rest.length ≤ st.rest.length + l.length
 | [],st => by simp [runR]
 | r :: l,st => by
  have h1 : (oneR M fs st r).1.rest.length ≤ st.rest.length + 1 := by
   unfold oneR
   split
   ·simp
   ·split
    ·simp
    ·split <;> simp
  simp only [runR,List.length_cons]
  split
  ·omega
  ·have := runR_rest (M := M) (fs := fs) l (oneR M fs st r).1
   omega
theorem runR_next {M : ByteArray → List Nat → Tr × Int} {fs : List FlS} {l : List Fd} {i : Nat} {r : Fd} {st : Ds} (hx : l[i]? = some r) (h : runR M fs ⟨[],[]⟩ (l.take i) = (st,0)) : runR M fs ⟨[],[]⟩ (l.take (i + 1)) = oneR M fs st r ∧ ((oneR M fs st r).2 ≠ 0 → runR M fs ⟨[],[]⟩ l = oneR M fs st r) := by
 obtain ⟨hi,rfl⟩ := List.getElem?_eq_some_iff.1 hx
 have e1 : runR M fs ⟨[],[]⟩ (l.take (i + 1)) = oneR M fs st l[i] := by
  rw [List.take_succ_eq_append_getElem hi,runR_app _ _ _ _ _ (by rw [h]),h,runR_one]
 refine ⟨e1,fun h0 => ?_⟩;have h2 := runR_err M fs (l.take (i + 1)) (l.drop (i + 1)) ⟨[],[]⟩ (by rw [e1]; exact h0);rw [List.take_append_drop] at h2;rw [h2,e1]
theorem nodup_lenR {α : Type} [DecidableEq α] : ∀ (a b : List α),a.Nodup → (∀ x ∈ a,x ∈ b) → a.length ≤ b.length
 | [],b,_,_ => Nat.zero_le _
 | x :: a,b,hn,h => by
  rw [List.nodup_cons] at hn;have hx : x ∈ b := h x (List.mem_cons_self ..);have ih := nodup_lenR a (b.erase x) hn.2 fun y hy => (List.mem_erase_of_ne (fun e => hn.1 (by rw [← e]; exact hy))).2 (h y (List.mem_cons_of_mem _ hy))
  have h1 := List.length_erase_of_mem hx;have h2 := List.length_pos_of_mem hx;simp only [List.length_cons]
  omega
theorem RanR.cnt {fs : List FlS} {st : Ds} (h : RanR fs st) : st.es.length ≤ fs.length := by
 have h1 : (st.es.map Prod.fst).Nodup := h.ris.nodup
 have h2 : ∀ t ∈ st.es.map Prod.fst,t ∈ fs.map FlS.tag := fun t ht => by
  obtain ⟨e,he,rfl⟩ := List.mem_map.1 ht;obtain ⟨-, -,f,hf⟩ := h.ne e he;exact List.mem_map.2 ⟨f,List.mem_of_find?_eq_some hf,fld_tagR hf⟩
 have h3 := nodup_lenR _ _ h1 h2
 simpa using h3
theorem decM_ref {n : Nat} {s : ScS} {nm : ByteArray} {ns : List Nat} {m : MsS} (h : msgOf s nm = some m) : decM (n + 1) s nm ns = if ((getL ns).2 : Nat) ≠ 0 then (tr0,((getL ns).2 : Int)) else if (runR (decM n s) m.fields ⟨[],[]⟩ (getL ns).1).2 ≠ 0 then (tr0,(runR (decM n s) m.fields ⟨[],[]⟩ (getL ns).1).2) else
  (⟨3,0,⟨#[]⟩,setldR m.fields (runR (decM n s) m.fields ⟨[],[]⟩ (getL ns).1).1.es,sortF (runR (decM n s) m.fields ⟨[],[]⟩ (getL ns).1).1.rest⟩,0) := by
 obtain ⟨h1,h2⟩ := ref_same (M := decM n s) (fs := m.fields) (getL ns).1;simp only [decM,h];rw [h1]
 by_cases h3 : (getL ns).2 ≠ 0
 ·rw [if_pos h3,if_pos h3]
 ·rw [if_neg h3,if_neg h3]
  by_cases h4 : (runR (decM n s) m.fields ⟨[],[]⟩ (getL ns).1).2 ≠ 0
  ·rw [if_pos h4,if_pos h4]
  ·rw [if_neg h4,if_neg h4,h2 (by omega)]
end
section
open Go.ChangeShapes Go.WideShapes Go.ChangeAt Go.RowKit
def RputP (n B bt : Nat) (vr : Value) (rest : List Fd) (R : List (Int × List Tr)) (b : Bool) (w : World) (e : Ending) (w' : World) : Prop :=
 e = .returned (.bool b) ∧ (b = true → ∃ K' ve',esK K' = R ∧ RdS n B bt K' ve' vr rest w') ∧ Kp (fun q => B ≤ q ∨ q = bt) w w'
section
variable {n B bt : Nat} {K : List KE} {k : KE} {ve vr : Value} {rest : List Fd} {w w' : World} {r : List Value} {x : Tr} {bs : List Nat} {R : List (Int × List Tr)} {b : Bool} {e : Ending}
theorem RputP.elder {W : World} (h : RputP n B bt vr rest R b W e w') (hb : Below w.heap.size w W) : RputP n B bt vr rest R b w e w' := ⟨h.1,h.2.1,(Kp.ofBelow hb).trans2 h.2.2 fun _ _ hi => hi⟩
theorem split_atR {α : Type} {l : List α} {i : Nat} {x : α} (h : l[i]? = some x) : ∃ P Q,l = P ++ x :: Q ∧ P.length = i := by
 obtain ⟨hi,rfl⟩ := List.getElem?_eq_some_iff.1 h;exact ⟨l.take i,l.drop (i + 1),by simp,by simp; omega⟩
theorem mid_at {α : Type} (P Q : List α) (y : α) : (P ++ y :: Q)[P.length]? = some y := by simp
theorem rput_set {N ge ec : Nat} (h : RdS n B bt K (.slice (some ⟨ge,0,none⟩) N ec) vr rest w) (hR : RisE K) (hB : B ≤ w.heap.size) (hx : TrO n B w r x bs) (hap : Apt B w (((fpK K ++ blkOf (.slice (some ⟨ge,0,none⟩) N ec)) ++ blkOf vr) ++ bs)) {i : Nat} (hk : K[i]? = some k) :
  RputP n B bt vr rest (setE k.1 [x] (esK K)) true w (.returned (.bool true)) ((w.alloc (Obj.cells r.toArray 30)).setCell ⟨ge,i * 2 + 1,none⟩ (.slice (some ⟨w.heap.size,0,none⟩) 1 1)) := by
 obtain ⟨P,Q,rfl,rfl⟩ := split_atR hk;obtain ⟨h1,h2⟩ := h.one hB hx hap;refine ⟨rfl,fun _ => ⟨_,_,?_,h1⟩,h2.weak fun i _ hi => .inl ?_⟩
 ·have := esK_set k.1 (.slice (some ⟨w.heap.size,0,none⟩) 1 1,[x],allB (.slice (some ⟨w.heap.size,0,none⟩) 1 1) [bs]) (P ++ k :: Q);rw [setE_mid hR] at this;exact this
 ·subst hi;exact (h.ap.2 i (by simp [blkOf,Value.ownBlock])).1
theorem und_at (hR : RisE K) {i : Nat} (hk : K[i]? = some k) : undE (esK K) k.1 = k.2.2.1 := und_mem (esK_ris.2 hR) (p := (k.1,k.2.2.1)) (List.mem_map.2 ⟨k,List.mem_of_getElem? hk,rfl⟩)
theorem rput_more {N ge ec : Nat} (h : RdS n B bt K (.slice (some ⟨ge,0,none⟩) N ec) vr rest w) (hR : RisE K) (hB : B ≤ w.heap.size) (hx : TrO n B w r x bs) (hap : Apt B w (((fpK K ++ blkOf (.slice (some ⟨ge,0,none⟩) N ec)) ++ blkOf vr) ++ bs)) {i : Nat} (hk : K[i]? = some k) (hl : k.2.2.1.length ≤ 64) :
  ∃ va vc W',(Builtin.append_ #[67,67] 67 #[k.2.1,.slice (some ⟨w.heap.size,0,none⟩) 1 1]).run Tryz.prog (w.alloc (Obj.cells r.toArray 30)) = .ok (.slice va (k.2.2.1.length + 1) vc) W' ∧ Kp (fun q => q ∈ blkOf k.2.1) w W' ∧
   (W'.setCell ⟨ge,i * 2 + 1,none⟩ (.slice va (k.2.2.1.length + 1) vc)).cell? ⟨bt,3,none⟩ = some (.slice (some ⟨ge,0,none⟩) N ec) ∧ (W'.setCell ⟨ge,i * 2 + 1,none⟩ (.slice va (k.2.2.1.length + 1) vc)).cell? ⟨ge,i * 2 + 1,none⟩ = some (.slice va (k.2.2.1.length + 1) vc) ∧
   ∀ b,RputP n B bt vr rest (setE k.1 (undE (esK K) k.1 ++ [x]) (esK K)) b w (.returned (.bool b)) (W'.setCell ⟨ge,i * 2 + 1,none⟩ (.slice va (k.2.2.1.length + 1) vc)) := by
 have hu := und_at hR hk;obtain ⟨P,Q,rfl,rfl⟩ := split_atR hk;have al : Below w.heap.size w (w.alloc (Obj.cells r.toArray 30)) := bra _;obtain ⟨v',W',bs',r1,⟨va,vc,rfl⟩,k1,h1,k2⟩ := (h.below al).more (Nat.le_trans hB al.size) (hx.sm (Sm.below al fun k hk => (hap.2 k (List.mem_append.2 (.inr hk))).2)) (hap.mono al.size) hl (Blk.new w r.toArray 30);have hg : B ≤ ge := (h.ap.2 ge (by simp [blkOf,Value.ownBlock])).1;obtain ⟨rows,bss,g1,g2⟩ := h.row k (by simp);have hgeb : ∀ q ∈ blkOf k.2.1,B ≤ q := fun q hq => (own_lt g1.own (mem_blkOf.1 hq)).1
 have kW : Kp (fun q => q ∈ blkOf k.2.1) w W' := (Kp.ofBelow al).trans2 k1 fun _ _ hi => hi
 obtain ⟨a,c,e1, -, -,hc⟩ := h1.form;simp only [Value.slice.injEq] at e1;obtain ⟨ge',e2, -, -, -,hc⟩ := hc (by simp);rw [e2] at e1;simp only [Option.some.injEq,Addr.mk.injEq,and_true] at e1;obtain ⟨rfl, -, -⟩ := e1;refine ⟨va,vc,W',r1,kW,(h1.tb.cell 3).trans rfl,(hc P.length _ (mid_at P Q _)).2,fun b => ⟨rfl,fun _ => ⟨_,_,?_,h1⟩,?_⟩⟩
 ·have := esK_set k.1 (.slice va (k.2.2.1.length + 1) vc,k.2.2.1 ++ [x],bs') (P ++ k :: Q);rw [setE_mid hR] at this;rw [hu];exact this
 ·exact (kW.weak fun i _ hi => .inl (hgeb i hi)).trans2 (k2.weak (S' := fun q => B ≤ q ∨ q = bt) fun i _ hi => .inl (by omega)) fun _ _ hi => hi
theorem rput_push (h : RdS n B bt K ve vr rest w) (hB : B ≤ w.heap.size) (hx : TrO n B w r x bs) (hap : Apt B w (((fpK K ++ blkOf ve) ++ blkOf vr) ++ bs)) {ft : Int} (h64 : Is64 ft) (hl : K.length ≤ 1000) :
  ∃ g c W' fp,(Builtin.append_ #[27,27] 27 #[ve,.slice (some ⟨w.heap.size + 1,0,none⟩) 1 1]).run Tryz.prog ((w.alloc (Obj.cells r.toArray 30)).alloc (Obj.cells #[.int .i64 ft,.slice (some ⟨w.heap.size,0,none⟩) 1 1] 69)) = .ok (.slice (some ⟨g,0,none⟩) (K.length + 1) c) W' ∧ Kp (fun q => q ∈ blkOf ve) w W' ∧
   RdS n B bt (K ++ [(ft,(.slice (some ⟨w.heap.size,0,none⟩) 1 1,[x],fp))]) (.slice (some ⟨g,0,none⟩) (K.length + 1) c) vr rest (W'.setCell ⟨bt,3,none⟩ (.slice (some ⟨g,0,none⟩) (K.length + 1) c)) ∧ Kp (fun q => B ≤ q ∨ q = bt) w (W'.setCell ⟨bt,3,none⟩ (.slice (some ⟨g,0,none⟩) (K.length + 1) c)) := by
 have al : Below w.heap.size w (w.alloc (Obj.cells r.toArray 30)) := bra _
 have hsz : (w.alloc (Obj.cells r.toArray 30)).heap.size = w.heap.size + 1 := by simp
 have al2 : Below (w.alloc (Obj.cells r.toArray 30)).heap.size (w.alloc (Obj.cells r.toArray 30)) ((w.alloc (Obj.cells r.toArray 30)).alloc (Obj.cells #[.int .i64 ft,.slice (some ⟨w.heap.size,0,none⟩) 1 1] 69)) := bra _;have al3 := al.trans (al2.mono al.size);have hrow := row_one hB hx (Blk.new w r.toArray 30) (Sm.below al fun k hk => (hap.2 k (List.mem_append.2 (.inr hk))).2)
 have hap1 : Apt B (w.alloc (Obj.cells r.toArray 30)) (((fpK K ++ blkOf ve) ++ blkOf vr) ++ allB (.slice (some ⟨w.heap.size,0,none⟩) 1 1) [bs]) := (hap.new hB (by simp)).of_count fun q => by
  simp only [allB,blkOf,Value.ownBlock,List.count_append,List.flatten_cons,List.flatten_nil,List.append_nil]; omega
 have BZ := Blk.new (w.alloc (Obj.cells r.toArray 30)) #[.int .i64 ft,.slice (some ⟨w.heap.size,0,none⟩) 1 1] 69;rw [hsz] at BZ;have hrow2 := hrow.sm (Sm.below al2 fun k hk => (hap1.2 k (List.mem_append.2 (.inr hk))).2) fun _ _ _ hp hb => hp.sm hb
 obtain ⟨v',W',r1,⟨g,c,rfl⟩,k1,h1,k2⟩ := (h.below al3).push (Nat.le_trans hB al3.size) h64 hrow2 (hap1.mono al2.size) rfl BZ hl;have hgeb : ∀ q ∈ blkOf ve,B ≤ q := fun q hq => (own_lt h.er (mem_blkOf.1 hq)).1
 have kW : Kp (fun q => q ∈ blkOf ve) w W' := (Kp.ofBelow al3).trans2 k1 fun _ _ hi => hi
 exact ⟨g,c,W',_,r1,kW,h1,(kW.weak fun i _ hi => .inl (hgeb i hi)).trans2 (k2.weak (S' := fun q => B ≤ q ∨ q = bt) fun i _ hi => .inr hi) fun _ _ hi => hi⟩
theorem rput_end {P Q : List KE} {ft fl : Int} (hR : RisE K) (hn : ∀ k ∈ K,k.1 ≠ ft) (hK : K = P ++ Q) (hQ : ∀ q ∈ Q,ft < q.1) (hP : P = [] ∨ ∃ P' y,P = P' ++ [y] ∧ y.1 < ft) (v1 : Value) (fp : List Nat) (hS : setE ft (if fl = 3 then undE (esK K) ft ++ [x] else [x]) (esK K) = R) : esK (P ++ (ft,(v1,[x],fp)) :: Q) = R := by
 have h1 := ris_none hR hn hK hQ hP (v1,[x],fp);have h2 := esK_set ft (v1,[x],fp) K
 have h3 : undE (esK K) ft = [] := und_none fun e he => by
  obtain ⟨k,hk,rfl⟩ := List.mem_map.1 he;exact hn k hk
 rw [h3,List.nil_append,ite_self] at hS;rw [← hS,← h2,h1]
end
section
variable {n B bR bm c : Nat} {K : List KE} {vr : Value} {rest : List Fd} {w : World} {r : List Value} {x : Tr} {bs : List Nat}
theorem TrO.lens (hx : TrO n B w r x bs) : ∃ a1 c1 a2 c2,r = [.int .i64 x.kind,.int .i64 x.n,.string x.s,.slice a1 x.es.length c1,.slice a2 x.rest.length c2] := by
 cases n with
 | zero => exact hx.elim
 | succ n =>
  obtain ⟨ve,vq,rows,bss,rfl,_,_,_,_,h6,h7,_⟩ := hx;obtain ⟨a1,c1,rfl⟩ := own_form h7.own;obtain ⟨a2,c2,rfl⟩ := own_form h6;exact ⟨a1,c1,a2,c2,rfl⟩
end
end
section
section
variable {P : Program} {md : Region.Mode} {ops : Array Oper} {Q : Exit → Act → World → Prop} {T : World → Prop} {m : Nat}
theorem M_firstA {i : Nat} {oi : Oper} {v : Value} (hi : ops[i]? = some oi) (hsel : ∀ (j : Nat) (o : Oper) cs b,ops[j]? = some o → o.op ≠ .select cs b)
  (hQ : ∀ c a w,Q (.panic c) (a.put oi.dst v) w → Q (.panic c) a w) (him : i ≠ m) :
  ∀ (fuel : Nat) (listed : Array Bool) (a : Act) (w : World),
   (∀ j oj,ops[j]? = some oj → j ≠ i → listed.getD j true = false → (∀ e ∈ oj.after,Region.binds md e = true → e.on ≠ i) → oi.apart ops oj = true) →
   i ∈ Region.ready md ops listed → YieldsIf P ops (fun _ => True) oi v a → (listed.getD m true = false → T w) →
   wpAnyM P md ops Q T m fuel (listed.setIfInBounds i true) (a.put oi.dst v) w → wpAnyM P md ops Q T m (fuel + 1) listed a w := by
 intro fuel
 induction fuel with
 | zero =>
  intro listed a w _ hr hy hT H;refine ⟨fun h => (by rw [h] at hr; cases hr),fun j hj => ?_⟩
  by_cases hji : j = i
  ·subst hji; exact hy.wpOp hi trivial ⟨fun h => hT (by rw [getD_set_ne true him] at h; exact h),H⟩
  ·have h0 := ready_mono hj hji;rw [H.1] at h0
   cases h0
 | succ fuel ih =>
  intro listed a w hfree hr hy hT H;refine ⟨fun h => (by rw [h] at hr; cases hr),fun j hj => ?_⟩
  by_cases hji : j = i
  ·subst hji; exact hy.wpOp hi trivial ⟨fun h => hT (by rw [getD_set_ne true him] at h; exact h),H⟩
  ·have hH := H.2 j (ready_mono hj hji);obtain ⟨hjun,oj,hoj,hall⟩ := mem_ready.1 hj
   have hnot : ∀ e ∈ oj.after,Region.binds md e = true → e.on ≠ i := fun e he hb heq => by
    have hx := hall e he hb;have h0 := (mem_ready.1 hr).1;rw [heq] at hx
    rcases Nat.lt_or_ge i listed.size with h' | h'
    ·simp [h'] at h0 hx; rw [h0] at hx; cases hx
    ·simp [Array.getElem?_eq_none h'] at hx
   have h2 := wpOp_putIf hoj (hfree j oj hoj hji hjun hnot) (fun cs b => hsel i oi cs b hi) (fun cs b => hsel j oj cs b hoj) hQ hy hH
   have hfree' : ∀ k ok,ops[k]? = some ok → k ≠ i → (listed.setIfInBounds j true).getD k true = false → (∀ e ∈ ok.after,Region.binds md e = true → e.on ≠ i) → oi.apart ops ok = true := fun k ok hk hki hun hno => by
    refine hfree k ok hk hki ?_ hno
    by_cases hjk : j = k
    ·subst hjk; exact hjun
    ·rw [getD_set_ne true hjk] at hun; exact hun
   have hm : ∀ b,(listed.setIfInBounds j true).getD m true = b → ((listed.setIfInBounds i true).setIfInBounds j true).getD m true = b := fun b h => by
    rw [Array.setIfInBounds_comm _ _ (Ne.symm hji),getD_set_ne true him]; exact h
   refine wpOp_mono (fun a' w' h3 => ⟨fun h => h3.2.1 (hm _ h),ih (listed.setIfInBounds j true) a' w' hfree' (ready_mono hr (Ne.symm hji)) h3.1 (fun h => h3.2.1 (hm _ h)) ?_⟩) h2;rw [Array.setIfInBounds_comm _ _ hji];exact h3.2.2
theorem M_takeA {oi : Oper} {fuel : Nat} {listed listed' : Array Bool} {a : Act} {w : World} (i d : Nat) (v : Value) (tmps' : Array Value) (hi : ops[i]? = some oi) (hd : oi.dst = some d)
  (hs : Region.noSelect ops = true) (hf : Region.free md ops listed i = true) (hr : (Region.ready md ops listed).contains i = true) (him : (i == m) = false)
  (hQ : ∀ c a w,Q (.panic c) (a.put oi.dst v) w → Q (.panic c) a w) (hwt : Region.wanted oi (yielded ops a.tmps) = true) (hy : ∀ w : World,True → (execOp a.eval oi).run P w = .ok (.value v) w) (hT : T w)
  (hl : listed.setIfInBounds i true = listed') (ht : a.tmps.setIfInBounds d v = tmps')
  (h : wpAnyM P md ops Q T m fuel listed' { a with tmps := tmps' } w) : wpAnyM P md ops Q T m (fuel + 1) listed a w := by
 subst hl ht;refine M_firstA hi (Region.noSelect_spec hs) hQ (by simpa using him) fuel listed a w (Region.free_spec hi hf) (by simpa using hr) (.inl ⟨hwt,hy⟩) (fun _ => hT) ?_;rw [hd];exact h
theorem M_tA {oi : Oper} {fuel : Nat} {listed : Array Bool} {a : Act} {w : World} (i d : Nat) (v : Value) {tmps' : Array Value} (hy : ∀ w : World,True → (execOp a.eval oi).run P w = .ok (.value v) w) (hT : T w) (listed' : Array Bool)
  (h : wpAnyM P md ops Q T m fuel listed' { a with tmps := tmps' } w) (hi : ops[i]? = some oi := by rfl) (hd : oi.dst = some d := by rfl) (hs : Region.noSelect ops = true := by kernel_rfl) (hf : Region.free md ops listed i = true := by kernel_rfl) (hr : (Region.ready md ops listed).contains i = true := by kernel_rfl)
  (him : (i == m) = false := by kernel_rfl) (hQ : ∀ c a w,Q (.panic c) (a.put oi.dst v) w → Q (.panic c) a w := by exact fun _ _ _ h => h) (hwt : Region.wanted oi (yielded ops a.tmps) = true := by rfl)
  (hl : listed.setIfInBounds i true = listed' := by kernel_rfl) (ht : a.tmps.setIfInBounds d v = tmps' := by simp only [zsA,zsZ,zsS]; rfl) : wpAnyM P md ops Q T m (fuel + 1) listed a w :=
 M_takeA i d v tmps' hi hd hs hf hr him hQ hwt hy hT hl ht h
end
end
end Go.Proofs.YtmgbhicogmclgaaGreat

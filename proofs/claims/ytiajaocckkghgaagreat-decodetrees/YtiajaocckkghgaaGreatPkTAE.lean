/- Part 5 of what the proof stands on. -/
import Derived.Test.YtiajaocckkghgaaGreatPkTAD
import Derived.LaidEql
import Derived.LaidEqlPtr
import Derived.Laws.StructEq
import Derived.MapKept
namespace Go.Proofs.YtiajaocckkghgaaGreat
set_option maxHeartbeats 8000000
set_option linter.unusedVariables false
set_option linter.unusedSimpArgs false
set_option maxRecDepth 20000
section
open Go.ChangeShapes Go.WideShapes Go.ChangeAt Go.RowKit
theorem setE_at {α : Type} {tag : Int} {P M Q : List (Int × α)} (hP : ∀ p ∈ P,p.1 < tag) (hM : ∀ p ∈ M,p.1 = tag) (hQ : ∀ p ∈ Q,tag < p.1) (y : α) : setE tag y (P ++ (M ++ Q)) = P ++ (tag,y) :: Q := by
 have p1 : P.filter (fun e => decide (e.1 < tag)) = P := List.filter_eq_self.2 fun p hp => by simpa using hP p hp
 have m1 : M.filter (fun e => decide (e.1 < tag)) = [] := List.filter_eq_nil_iff.2 fun p hp => by have := hM p hp; simp; omega
 have q1 : Q.filter (fun e => decide (e.1 < tag)) = [] := List.filter_eq_nil_iff.2 fun p hp => by have := hQ p hp; simp; omega
 have p2 : P.filter (fun e => decide (tag < e.1)) = [] := List.filter_eq_nil_iff.2 fun p hp => by have := hP p hp; simp; omega
 have m2 : M.filter (fun e => decide (tag < e.1)) = [] := List.filter_eq_nil_iff.2 fun p hp => by have := hM p hp; simp; omega
 have q2 : Q.filter (fun e => decide (tag < e.1)) = Q := List.filter_eq_self.2 fun p hp => by simpa using hQ p hp
 unfold setE;simp only [List.filter_append,p1,m1,q1,p2,m2,q2]
 simp
theorem setE_mid {α : Type} {P Q : List (Int × α)} {k : Int × α} (h : RisE (P ++ k :: Q)) (y : α) : setE k.1 y (P ++ k :: Q) = P ++ (k.1,y) :: Q := by
 obtain ⟨h1,h2,h3⟩ := List.pairwise_append.1 h;rw [List.pairwise_cons] at h2;have := setE_at (M := [k]) (tag := k.1) (P := P) (Q := Q) (fun p hp => h3 p hp k (List.mem_cons_self ..)) (by simp) h2.1 y
 simpa using this
theorem ris_none {α : Type} {K : List (Int × α)} (h : RisE K) {tag : Int} (hn : ∀ k ∈ K,k.1 ≠ tag) {P Q : List (Int × α)} (hK : K = P ++ Q) (hQ : ∀ q ∈ Q,tag < q.1) (hP : P = [] ∨ ∃ P' y,P = P' ++ [y] ∧ y.1 < tag) (y : α) : setE tag y K = P ++ (tag,y) :: Q := by
 subst hK
 have h1 : ∀ p ∈ P,p.1 < tag := by
  rcases hP with rfl | ⟨P',z,rfl,hz⟩
  ·simp
  ·intro p hp
   rcases List.mem_append.1 hp with hp | hp
   ·have h4 := (List.pairwise_append.1 h).1;have h5 := (List.pairwise_append.1 h4).2.2 p hp z (by simp)
    omega
   ·obtain rfl : p = z := by simpa using hp
    exact hz
 have := setE_at (M := []) (tag := tag) (P := P) (Q := Q) h1 (by simp) hQ y
 simpa using this
theorem esK_ris {K : List KE} : RisE (esK K) ↔ RisE K := by
 unfold RisE esK;rw [List.pairwise_map]
def entC (k : KE) : List Value := [.int .i64 k.1,k.2.1]
def entCells (K : List KE) : List Value := (K.map entC).flatten
theorem entCells_app (K L : List KE) : entCells (K ++ L) = entCells K ++ entCells L := by simp [entCells]
theorem entCells_cons (k : KE) (K : List KE) : entCells (k :: K) = entC k ++ entCells K := by simp [entCells]
theorem entCells_len (K : List KE) : (entCells K).length = K.length * 2 := by
 induction K with
 | nil => rfl
 | cons k K ih => rw [entCells_cons,List.length_append,ih]; simp [entC]; omega
theorem entC_two (K : List KE) : ∀ r ∈ K.map entC,r.length = 2 := fun r hr => by
 obtain ⟨k,_,rfl⟩ := List.mem_map.1 hr; rfl
structure RdS (n B bt : Nat) (K : List KE) (ve vr : Value) (rest : List Fd) (w : World) : Prop where
 tb : Blk w bt #[.int .i64 3,.int .i64 0,.string ⟨#[]⟩,ve,vr] 33
 er : w.ownsRow B 80 2 ve K.length (entCells K)
 row : ∀ k ∈ K,∃ rows bss,RowO (TrO n B) B 33 5 w k.2.1 k.2.2.1 rows bss ∧ k.2.2.2 = allB k.2.1 bss
 i64 : ∀ k ∈ K,Is64 k.1
 rr : w.ownsRow B 61 4 vr rest.length (rawCells rest)
 r64 : Fd64 rest
 ap : Apt B w ((fpK K ++ blkOf ve) ++ blkOf vr)
 lt : bt < B
section
variable {n B bt : Nat} {K P Q : List KE} {k : KE} {ve vr : Value} {rest : List Fd} {w w' : World}
theorem RdS.nil (hb : Blk w bt #[.int .i64 3,.int .i64 0,.string ⟨#[]⟩,.slice none 0 0,.slice none 0 0] 33) (h1 : bt < B) : RdS n B bt [] (.slice none 0 0) (.slice none 0 0) [] w :=
 ⟨hb,World.ownsRow_nil _ _ _ _,by simp,by simp,World.ownsRow_nil _ _ _ _,(fun f hf => by cases hf),Apt.nil _ _,h1⟩
theorem RdS.kp {S : Nat → Prop} (h : RdS n B bt K ve vr rest w) (hk : Kp S w w') (hs : ∀ q ∈ (fpK K ++ blkOf ve) ++ blkOf vr,¬ S q) (h1 : ¬ S bt) : RdS n B bt K ve vr rest w' := by
 have hsm : Sm w w' ((fpK K ++ blkOf ve) ++ blkOf vr) := hk.sm fun k hq => ⟨(h.ap.2 k hq).2,hs k hq⟩
 refine ⟨h.tb.kp hk h1,own_sm h.er (hsm.mono fun q hq => by simp [hq]),fun k hq => ?_,h.i64,own_sm h.rr (hsm.mono fun q hq => by simp [hq]),h.r64,h.ap.mono hk.size,h.lt⟩;obtain ⟨rows,bss,g1,g2⟩ := h.row k hq;exact ⟨rows,bss,g1.sm (hsm.mono fun q hq' => List.mem_append.2 (.inl (List.mem_append.2 (.inl (fpK_mem hq q (by rw [g2]; exact hq')))))) fun _ _ _ hp hb => hp.sm hb,g2⟩
theorem RdS.below (h : RdS n B bt K ve vr rest w) (hk : Below w.heap.size w w') : RdS n B bt K ve vr rest w' := h.kp (S := fun _ => False) (Kp.ofBelow hk) (fun _ _ e => e) (fun e => e)
theorem RdS.ne (h : RdS n B bt K ve vr rest w) : ∀ q ∈ (fpK K ++ blkOf ve) ++ blkOf vr,q ≠ bt := fun q hq e => by have := (h.ap.2 q hq).1; have := h.lt; omega
theorem RdS.form (h : RdS n B bt K ve vr rest w) : ∃ a c,ve = .slice a K.length c ∧ K.length ≤ c ∧ c ≤ maxLen ∧ (K ≠ [] → ∃ g,a = some ⟨g,0,none⟩ ∧ B ≤ g ∧ g < w.heap.size ∧ (∀ o,w.frozen? ⟨g,o,none⟩ = false) ∧ ∀ i k,K[i]? = some k → w.cell? ⟨g,i * 2,none⟩ = some (.int .i64 k.1) ∧ w.cell? ⟨g,i * 2 + 1,none⟩ = some k.2.1) := by
 have hg := (RowG.own (entC_two K) (by decide) h.er).1
 rcases h.er.2 with ⟨rfl,h0⟩ | ⟨g,cap,cur,rfl,h2,h3,h4,h5,h6⟩
 ·have : K = [] := List.eq_nil_of_length_eq_zero h0;subst this;exact ⟨none,0,rfl,Nat.le_refl _,by unfold maxLen; omega,fun h => absurd rfl h⟩
 ·refine ⟨_,_,rfl,h4,h5,fun _ => ⟨g,rfl,h2,(Array.getElem?_eq_some_iff.1 h3).1,block_froz h3,fun i k hi => ?_⟩⟩
  have hr : (K.map entC)[i]? = some (entC k) := by simp [hi]
  obtain ⟨g',off,e1,hc⟩ := hg.get hr;simp only [Option.some.injEq,Addr.mk.injEq,and_true] at e1;obtain ⟨rfl,rfl⟩ := e1;have c0 := hc 0 _ rfl;have c1 := hc 1 _ rfl;simp only [Nat.zero_add,Nat.add_zero] at c0 c1;exact ⟨c0,c1⟩
theorem RdS.size (h : RdS n B bt K ve vr rest w) : bt < w.heap.size := h.tb.lt
theorem RdS.set (h : RdS n B bt (P ++ k :: Q) ve vr rest w) {v' : Value} {ts' : List Tr} {rows' : List (List Value)} {bss' : List (List Nat)} (hs : Sm w w' ((fpK P ++ fpK Q) ++ blkOf vr)) (hb : Blk w' bt #[.int .i64 3,.int .i64 0,.string ⟨#[]⟩,ve,vr] 33)
  (he : w'.ownsRow B 80 2 ve (P ++ k :: Q).length (entCells (P ++ (k.1,(v',ts',allB v' bss')) :: Q))) (hr : RowO (TrO n B) B 33 5 w' v' ts' rows' bss') (hap : Apt B w' ((((fpK P ++ fpK Q) ++ blkOf ve) ++ blkOf vr) ++ allB v' bss')) : RdS n B bt (P ++ (k.1,(v',ts',allB v' bss')) :: Q) ve vr rest w' := by
 refine ⟨hb,?_,fun j hj => ?_,fun j hj => ?_,own_sm h.rr (hs.mono fun q hq => by simp [hq]),h.r64,?_,h.lt⟩
 ·simpa using he
 ·rcases List.mem_append.1 hj with hj | hj
  ·obtain ⟨rows,bss,g1,g2⟩ := h.row j (List.mem_append.2 (.inl hj));exact ⟨rows,bss,g1.sm (hs.mono fun q hq => List.mem_append.2 (.inl (List.mem_append.2 (.inl (fpK_mem hj q (by rw [g2]; exact hq)))))) fun _ _ _ hp hb => hp.sm hb,g2⟩
  ·rcases List.mem_cons.1 hj with rfl | hj
   ·exact ⟨rows',bss',hr,rfl⟩
   ·obtain ⟨rows,bss,g1,g2⟩ := h.row j (List.mem_append.2 (.inr (List.mem_cons_of_mem _ hj)));exact ⟨rows,bss,g1.sm (hs.mono fun q hq => List.mem_append.2 (.inl (List.mem_append.2 (.inr (fpK_mem hj q (by rw [g2]; exact hq)))))) fun _ _ _ hp hb => hp.sm hb,g2⟩
 ·rcases List.mem_append.1 hj with hj | hj
  ·exact h.i64 j (List.mem_append.2 (.inl hj))
  ·rcases List.mem_cons.1 hj with rfl | hj
   ·exact h.i64 k (by simp)
   ·exact h.i64 j (by simp [hj])
 ·refine hap.of_count fun q => ?_
  simp only [fpK_app,fpK_cons,List.count_append]
  omega
theorem entCells_set (P Q : List KE) (k : KE) (v' : Value) (y : List Tr × List Nat) : (entCells (P ++ k :: Q)).set (P.length * 2 + 1) v' = entCells (P ++ (k.1,(v',y)) :: Q) := by
 rw [entCells_app,entCells_app,entCells_cons,entCells_cons,List.set_append,if_neg (by rw [entCells_len]; omega),entCells_len,Nat.add_sub_cancel_left]
 rfl
theorem RdS.one {N ge ec : Nat} (h : RdS n B bt (P ++ k :: Q) (.slice (some ⟨ge,0,none⟩) N ec) vr rest w) (hB : B ≤ w.heap.size) {r : List Value} {x : Tr} {bs : List Nat} (hx : TrO n B w r x bs) (hap : Apt B w (((fpK (P ++ k :: Q) ++ blkOf (.slice (some ⟨ge,0,none⟩) N ec)) ++ blkOf vr) ++ bs)) :
  RdS n B bt (P ++ (k.1,(.slice (some ⟨w.heap.size,0,none⟩) 1 1,[x],allB (.slice (some ⟨w.heap.size,0,none⟩) 1 1) [bs])) :: Q) (.slice (some ⟨ge,0,none⟩) N ec) vr rest ((w.alloc (Obj.cells r.toArray 33)).setCell ⟨ge,P.length * 2 + 1,none⟩ (.slice (some ⟨w.heap.size,0,none⟩) 1 1)) ∧
   Kp (fun q => q = ge) w ((w.alloc (Obj.cells r.toArray 33)).setCell ⟨ge,P.length * 2 + 1,none⟩ (.slice (some ⟨w.heap.size,0,none⟩) 1 1)) := by
 have al : Below w.heap.size w (w.alloc (Obj.cells r.toArray 33)) := bra _
 obtain rfl : N = (P ++ k :: Q).length := by
  obtain ⟨a,c,e,_⟩ := h.form;simp only [Value.slice.injEq] at e;exact e.2.1
 have hge : ge ∈ (fpK (P ++ k :: Q) ++ blkOf (.slice (some ⟨ge,0,none⟩) (P ++ k :: Q).length ec)) ++ blkOf vr := by simp [blkOf,Value.ownBlock]
 have hgl := (h.ap.2 ge hge).2
 have k5 : Kp (fun q => q = ge) w ((w.alloc (Obj.cells r.toArray 33)).setCell ⟨ge,P.length * 2 + 1,none⟩ (.slice (some ⟨w.heap.size,0,none⟩) 1 1)) := by
  refine Kp.setCell ?_ (fun _ => by simp) _;exact Kp.ofBelow al
 have hsz5 : w.heap.size < ((w.alloc (Obj.cells r.toArray 33)).setCell ⟨ge,P.length * 2 + 1,none⟩ (.slice (some ⟨w.heap.size,0,none⟩) 1 1)).heap.size := by simp [World.setCell]
 have hS : ∀ q ∈ ((fpK P ++ fpK Q) ++ blkOf vr) ++ bs,((w.alloc (Obj.cells r.toArray 33)).setCell ⟨ge,P.length * 2 + 1,none⟩ (.slice (some ⟨w.heap.size,0,none⟩) 1 1)).heap[q]? = w.heap[q]? := fun q hq => by
  have ha : Apt B w ((((fpK P ++ fpK Q) ++ blkOf vr) ++ bs) ++ [ge]) := hap.of_count fun z => by
   simp only [fpK_app,fpK_cons,List.count_append,blkOf,Value.ownBlock]; omega
  exact k5.block q (ha.2 q (List.mem_append.2 (.inl hq))).2 (fun e => ha.apart q hq (by simp [e]))
 refine ⟨h.set (rows' := [r]) (bss' := [bs]) (fun q hq => hS q (List.mem_append.2 (.inl hq))) (h.tb.kp k5 (fun e => h.ne ge hge e.symm)) ?_ (row_one hB hx ?_ fun q hq => hS q (List.mem_append.2 (.inr hq))) ?_,k5⟩
 ·have h1 := ((own_below h.er al).stored (P.length * 2 + 1) (.slice (some ⟨w.heap.size,0,none⟩) 1 1)).1;rw [entCells_set] at h1;exact h1
 ·exact (Blk.new w r.toArray 33).other (by show w.heap.size ≠ ge; omega) _
 ·refine (hap.new hB hsz5).of_count fun q => ?_
  simp only [fpK_app,fpK_cons,allB,blkOf,Value.ownBlock,List.count_append,List.flatten_cons,List.flatten_nil,List.append_nil]
  omega
theorem RdS.more {N ge ec : Nat} (h : RdS n B bt (P ++ k :: Q) (.slice (some ⟨ge,0,none⟩) N ec) vr rest w) (hB : B ≤ w.heap.size) {r : List Value} {x : Tr} {bs : List Nat} (hx : TrO n B w r x bs) (hap : Apt B w (((fpK (P ++ k :: Q) ++ blkOf (.slice (some ⟨ge,0,none⟩) N ec)) ++ blkOf vr) ++ bs)) (hl : k.2.2.1.length ≤ 64) {bz : Nat} (BZ : Blk w bz r.toArray 33) :
  ∃ v' W' bs',(Builtin.append_ #[78,78] 78 #[k.2.1,.slice (some ⟨bz,0,none⟩) 1 1]).run Tryz.prog w = .ok v' W' ∧ (∃ a c,v' = .slice a (k.2.2.1.length + 1) c) ∧ Kp (fun q => q ∈ blkOf k.2.1) w W' ∧
   RdS n B bt (P ++ (k.1,(v',k.2.2.1 ++ [x],bs')) :: Q) (.slice (some ⟨ge,0,none⟩) N ec) vr rest (W'.setCell ⟨ge,P.length * 2 + 1,none⟩ v') ∧ Kp (fun q => q = ge) W' (W'.setCell ⟨ge,P.length * 2 + 1,none⟩ v') := by
 obtain rfl : N = (P ++ k :: Q).length := by
  obtain ⟨a,c,e,_⟩ := h.form;simp only [Value.slice.injEq] at e;exact e.2.1
 obtain ⟨h5,h1⟩ := hx.len5;obtain ⟨rows,bss,g1,g2⟩ := h.row k (by simp)
 have hap1 : Apt B w ((((fpK P ++ fpK Q) ++ blkOf (.slice (some ⟨ge,0,none⟩) (P ++ k :: Q).length ec)) ++ blkOf vr) ++ (allB k.2.1 bss ++ bs)) := hap.of_count fun q => by
  simp only [fpK_app,fpK_cons,g2,List.count_append]
  omega
 obtain ⟨v',W',r1,r2,r3,r4,r5⟩ := push_row (P := TrO n B) (t := 78) (more := ((fpK P ++ fpK Q) ++ blkOf (.slice (some ⟨ge,0,none⟩) (P ++ k :: Q).length ec)) ++ blkOf vr) Tryz.underlying78 infoTr rfl (by decide) g1 hap1 hx h5 h1 (fun _ _ _ _ hp hs => hp.sm hs) BZ (by omega) (by decide) hB
 have hge : ge ∈ (((fpK P ++ fpK Q) ++ blkOf (.slice (some ⟨ge,0,none⟩) (P ++ k :: Q).length ec)) ++ blkOf vr) := by simp [blkOf,Value.ownBlock]
 have hgeb : ∀ q ∈ blkOf k.2.1,B ≤ q := fun q hq => (own_lt g1.own (mem_blkOf.1 hq)).1
 have hS1 : Sm w W' (((fpK P ++ fpK Q) ++ blkOf (.slice (some ⟨ge,0,none⟩) (P ++ k :: Q).length ec)) ++ blkOf vr) := r5.sm fun q hq => ⟨(hap1.2 q (List.mem_append.2 (.inl hq))).2,fun e => hap1.apart q hq (List.mem_append.2 (.inl (by simp [allB,e])))⟩
 have k5 : Kp (fun q => q = ge) W' (W'.setCell ⟨ge,P.length * 2 + 1,none⟩ v') := by
  refine Kp.setCell ?_ (fun _ => by simp) _;exact Kp.refl _ _
 have hap2 : Apt B W' (((((fpK P ++ fpK Q) ++ blkOf vr) ++ allB v' (bss ++ [bs]))) ++ [ge]) := r3.of_count fun q => by
  simp only [blkOf,Value.ownBlock,List.count_append]; omega
 have hS2 : Sm W' (W'.setCell ⟨ge,P.length * 2 + 1,none⟩ v') (((fpK P ++ fpK Q) ++ blkOf vr) ++ allB v' (bss ++ [bs])) := k5.sm fun q hq => ⟨(hap2.2 q (List.mem_append.2 (.inl hq))).2,fun e => hap2.apart q hq (by simp [e])⟩
 have hbt : bt ∉ blkOf k.2.1 := fun e => by have := hgeb _ e; have := h.lt; omega
 have hbg : bt ≠ ge := fun e => by have := (hap1.2 ge (List.mem_append.2 (.inl hge))).1; have := h.lt; omega
 refine ⟨v',W',allB v' (bss ++ [bs]),r1,r4,r5,h.set (rows' := rows ++ [r]) (bss' := bss ++ [bs]) (fun q hq => (hS2 q (List.mem_append.2 (.inl hq))).trans (hS1 q ?_)) ((h.tb.kp r5 hbt).kp k5 hbg) ?_ (r2.sm (hS2.mono fun q hq => List.mem_append.2 (.inr hq)) fun _ _ _ hp hb => hp.sm hb) ?_,k5⟩
 ·simp only [List.mem_append] at hq ⊢
  rcases hq with hq | hq
  ·exact .inl (.inl hq)
  ·exact .inr hq
 ·have h7 := own_sm h.er (hS1.mono fun q hq => List.mem_append.2 (.inl (List.mem_append.2 (.inr hq))));have h8 := (h7.stored (P.length * 2 + 1) v').1;rw [entCells_set] at h8;exact h8
 ·exact r3.mono k5.size
theorem RdS.push (h : RdS n B bt K ve vr rest w) (hB : B ≤ w.heap.size) {tag : Int} (h64 : Is64 tag) {v1 : Value} {ts : List Tr} {rows : List (List Value)} {bss : List (List Nat)} (hr : RowO (TrO n B) B 33 5 w v1 ts rows bss) (hap : Apt B w (((fpK K ++ blkOf ve) ++ blkOf vr) ++ allB v1 bss)) (h1 : v1.oneCell' = true) {bz : Nat} (BZ : Blk w bz #[.int .i64 tag,v1] 80) (hl : K.length ≤ 1000) :
  ∃ v' W',(Builtin.append_ #[30,30] 30 #[ve,.slice (some ⟨bz,0,none⟩) 1 1]).run Tryz.prog w = .ok v' W' ∧ (∃ g c,v' = .slice (some ⟨g,0,none⟩) (K.length + 1) c) ∧ Kp (fun q => q ∈ blkOf ve) w W' ∧
   RdS n B bt (K ++ [(tag,(v1,ts,allB v1 bss))]) v' vr rest (W'.setCell ⟨bt,3,none⟩ v') ∧ Kp (fun q => q = bt) W' (W'.setCell ⟨bt,3,none⟩ v') := by
 obtain ⟨i0,hi0,hz0,hz1,hz2⟩ := info_parts infoEt
 obtain ⟨v',W',r1,r2,r3,_,r5⟩ := run_append_own_at w B 30 30 80 i0 _ 2 _ Tryz.underlying30 hi0 hz0 hz1 hz2 rfl (by decide) ve K.length _ h.er ⟨bz,0,none⟩ 1 1 [.int .i64 tag,v1] rfl (fun j u hu => by
  have := BZ.cell j;rw [Addr.add_lit,Nat.zero_add,this]
  simpa using hu) (fun u hu => by
   simp only [List.mem_cons,List.not_mem_nil,or_false] at hu
   rcases hu with rfl | rfl
   ·rfl
   ·exact h1) (by unfold maxLen; omega) (by omega) hB
 have kW : Kp (fun q => q ∈ blkOf ve) w W' := (Kp.refl _ _).grown r3 (fun k hk _ => mem_blkOf.2 hk)
 have hap0 : Apt B w (((fpK K ++ blkOf vr) ++ allB v1 bss) ++ blkOf ve) := hap.of_count fun q => by simp only [List.count_append]; omega
 have hS1 : Sm w W' ((fpK K ++ blkOf vr) ++ allB v1 bss) := kW.sm fun q hq => ⟨(hap0.2 q (List.mem_append.2 (.inl hq))).2,fun e => hap0.apart q hq e⟩
 have k5 : Kp (fun q => q = bt) W' (W'.setCell ⟨bt,3,none⟩ v') := by
  refine Kp.setCell ?_ (fun _ => by simp) _;exact Kp.refl _ _
 have hap3 : Apt B W' (((fpK K ++ blkOf vr) ++ allB v1 bss) ++ blkOf v') := by
  rcases r5 with hat | hat
  ·have : blkOf v' = blkOf ve := by simp [blkOf,hat]
   rw [this]; exact hap0.mono kW.size
  ·have e1 : blkOf v' = [w.heap.size] := by simp [blkOf,hat]
   rw [e1];refine (hap0.new hB (own_lt r2 hat).2).of_count fun q => ?_
   simp only [List.count_append]; omega
 have hbt : bt ∉ blkOf ve := fun e => by have := (hap0.2 bt (List.mem_append.2 (.inr e))).1; have := h.lt; omega
 have hS2 : Sm W' (W'.setCell ⟨bt,3,none⟩ v') (((fpK K ++ blkOf vr) ++ allB v1 bss) ++ blkOf v') := k5.sm fun q hq => ⟨(hap3.2 q hq).2,fun e => by have := (hap3.2 q hq).1; have := h.lt; omega⟩
 have hS : Sm w (W'.setCell ⟨bt,3,none⟩ v') ((fpK K ++ blkOf vr) ++ allB v1 bss) := fun q hq => (hS2 q (List.mem_append.2 (.inl hq))).trans (hS1 q hq)
 have e2 : entCells (K ++ [(tag,(v1,ts,allB v1 bss))]) = entCells K ++ [.int .i64 tag,v1] := by rw [entCells_app]; rfl
 refine ⟨v',W',r1,?_,kW,⟨(h.tb.kp kW hbt).set 3 _ rfl,?_,fun j hj => ?_,fun j hj => ?_,own_sm h.rr (hS.mono fun q hq => by simp [hq]),h.r64,?_,h.lt⟩,k5⟩
 ·rcases r2.2 with ⟨_,e⟩ | ⟨g,cap,cur,rfl,_⟩
  ·omega
  ·exact ⟨g,cap,rfl⟩
 ·rw [e2,List.length_append];exact own_sm r2 (hS2.mono fun q hq => List.mem_append.2 (.inr hq))
 ·rcases List.mem_append.1 hj with hj | hj
  ·obtain ⟨rows,bss,g1,g2⟩ := h.row j hj;exact ⟨rows,bss,g1.sm (hS.mono fun q hq => List.mem_append.2 (.inl (List.mem_append.2 (.inl (fpK_mem hj q (by rw [g2]; exact hq)))))) fun _ _ _ hp hb => hp.sm hb,g2⟩
  ·obtain rfl := List.mem_singleton.1 hj;exact ⟨rows,bss,hr.sm (hS.mono fun q hq => List.mem_append.2 (.inr hq)) fun _ _ _ hp hb => hp.sm hb,rfl⟩
 ·rcases List.mem_append.1 hj with hj | hj
  ·exact h.i64 j hj
  ·obtain rfl := List.mem_singleton.1 hj;exact h64
 ·refine (hap3.mono k5.size).of_count fun q => ?_
  simp only [fpK_app,fpK_cons,show fpK ([] : List KE) = [] from rfl,List.append_nil,List.count_append]
  omega
theorem RdS.swap {N ge ec : Nat} {x : KE} (h : RdS n B bt (P ++ k :: x :: Q) (.slice (some ⟨ge,0,none⟩) N ec) vr rest w) (o : Nat) (ho : o = P.length * 2) (o2 : Nat) (ho2 : o2 = o + 2) :
  RdS n B bt (P ++ x :: k :: Q) (.slice (some ⟨ge,0,none⟩) N ec) vr rest ((((w.setCell ⟨ge,o2,none⟩ (.int .i64 k.1)).setCell ⟨ge,o2 + 1,none⟩ k.2.1).setCell ⟨ge,o,none⟩ (.int .i64 x.1)).setCell ⟨ge,o + 1,none⟩ x.2.1) ∧
   Kp (fun q => q = ge) w ((((w.setCell ⟨ge,o2,none⟩ (.int .i64 k.1)).setCell ⟨ge,o2 + 1,none⟩ k.2.1).setCell ⟨ge,o,none⟩ (.int .i64 x.1)).setCell ⟨ge,o + 1,none⟩ x.2.1) := by
 obtain rfl : N = (P ++ k :: x :: Q).length := by
  obtain ⟨a,c,e,_⟩ := h.form;simp only [Value.slice.injEq] at e;exact e.2.1
 have s1 := (h.er.stored o2 (.int .i64 k.1)).1;have s2 := (s1.stored (o2 + 1) k.2.1).1;have s3 := (s2.stored o (.int .i64 x.1)).1;have s4 := (s3.stored (o + 1) x.2.1).1
 have e : ((((entCells (P ++ k :: x :: Q)).set o2 (.int .i64 k.1)).set (o2 + 1) k.2.1).set o (.int .i64 x.1)).set (o + 1) x.2.1 = entCells (P ++ x :: k :: Q) := by
  have hl : (entCells P).length = P.length * 2 := entCells_len P;rw [ho2,ho,← hl,entCells_app,entCells_app,entCells_cons,entCells_cons,entCells_cons,entCells_cons];generalize entCells P = D;generalize entCells Q = E
  have sb : ∀ (l : List Value) (j : Nat) (v : Value),(D ++ l).set (D.length + j) v = D ++ l.set j v := fun l j v => by rw [List.set_append,if_neg (by omega),Nat.add_sub_cancel_left]
  have s0 : ∀ (l : List Value) (v : Value),(D ++ l).set D.length v = D ++ l.set 0 v := fun l v => sb l 0 v
  simp only [Nat.add_assoc,s0,sb,entC]
  simp
 rw [e] at s4
 have hK : Kp (fun q => q = ge) w ((((w.setCell ⟨ge,o2,none⟩ (.int .i64 k.1)).setCell ⟨ge,o2 + 1,none⟩ k.2.1).setCell ⟨ge,o,none⟩ (.int .i64 x.1)).setCell ⟨ge,o + 1,none⟩ x.2.1) := by
  refine Kp.setCell ?_ (fun _ => by simp) _;refine Kp.setCell ?_ (fun _ => by simp) _;refine Kp.setCell ?_ (fun _ => by simp) _;refine Kp.setCell ?_ (fun _ => by simp) _;exact Kp.refl _ _
 refine ⟨?_,hK⟩;generalize ((((w.setCell ⟨ge,o2,none⟩ (.int .i64 k.1)).setCell ⟨ge,o2 + 1,none⟩ k.2.1).setCell ⟨ge,o,none⟩ (.int .i64 x.1)).setCell ⟨ge,o + 1,none⟩ x.2.1) = w5 at *
 have hge : ge ∈ (fpK (P ++ k :: x :: Q) ++ blkOf (.slice (some ⟨ge,0,none⟩) (P ++ k :: x :: Q).length ec)) ++ blkOf vr := by simp [blkOf,Value.ownBlock]
 have hap : Apt B w ((fpK (P ++ k :: x :: Q) ++ blkOf vr) ++ [ge]) := h.ap.of_count fun q => by simp only [blkOf,Value.ownBlock,List.count_append]; omega
 have hS : Sm w w5 (fpK (P ++ k :: x :: Q) ++ blkOf vr) := hK.sm fun q hq => ⟨(hap.2 q (List.mem_append.2 (.inl hq))).2,fun e => hap.apart q hq (by simp [e])⟩
 have hm : ∀ j,j ∈ P ++ x :: k :: Q → j ∈ P ++ k :: x :: Q := fun j hj => by
  simp only [List.mem_append,List.mem_cons] at hj ⊢
  rcases hj with hj | hj | hj | hj
  ·exact .inl hj
  ·exact .inr (.inr (.inl hj))
  ·exact .inr (.inl hj)
  ·exact .inr (.inr (.inr hj))
 refine ⟨h.tb.kp hK (fun e => h.ne ge hge e.symm),by simpa using s4,fun j hj => ?_,fun j hj => h.i64 j (hm j hj),own_sm h.rr (hS.mono fun q hq => by simp [hq]),h.r64,?_,h.lt⟩
 ·obtain ⟨rows,bss,g1,g2⟩ := h.row j (hm j hj);exact ⟨rows,bss,g1.sm (hS.mono fun q hq => List.mem_append.2 (.inl (fpK_mem (hm j hj) q (by rw [g2]; exact hq)))) fun _ _ _ hp hb => hp.sm hb,g2⟩
 ·refine (h.ap.mono hK.size).of_count fun q => ?_
  have hlen : (P ++ x :: k :: Q).length = (P ++ k :: x :: Q).length := by simp
  simp only [fpK_app,fpK_cons,List.count_append,blkOf,Value.ownBlock]
  omega
theorem RdS.pushRest (h : RdS n B bt K ve vr rest w) (hB : B ≤ w.heap.size) {f : Fd} (hf : Is64 f.tag ∧ Is64 f.wire ∧ Is64 f.n ∧ f.b.size ≤ 140737488351232) {bz : Nat} (BZ : Blk w bz #[.int .i64 f.tag,.int .i64 f.wire,.int .i64 f.n,.string f.b] 61) (hl : rest.length ≤ 100000) :
  ∃ v' W',(Builtin.append_ #[31,31] 31 #[vr,.slice (some ⟨bz,0,none⟩) 1 1]).run Tryz.prog w = .ok v' W' ∧ (∃ a c,v' = .slice a (rest.length + 1) c) ∧ Kp (fun q => q ∈ blkOf vr) w W' ∧
   RdS n B bt K ve v' (rest ++ [f]) (W'.setCell ⟨bt,4,none⟩ v') ∧ Kp (fun q => q = bt) W' (W'.setCell ⟨bt,4,none⟩ v') := by
 obtain ⟨i0,hi0,hz0,hz1,hz2⟩ := info_parts infoRaw
 obtain ⟨v',W',r1,r2,r3,_,r5⟩ := run_append_own_at w B 31 31 61 i0 _ 4 _ Tryz.underlying31 hi0 hz0 hz1 hz2 rfl (by decide) vr rest.length _ h.rr ⟨bz,0,none⟩ 1 1 f.cells rfl (fun j u hu => by
  have := BZ.cell j;rw [Addr.add_lit,Nat.zero_add,this]
  simpa [Fd.cells] using hu) (fun u hu => by
   simp only [Fd.cells,List.mem_cons,List.not_mem_nil,or_false] at hu
   rcases hu with rfl | rfl | rfl | rfl <;> rfl) (by unfold maxLen; omega) (by omega) hB
 have kW : Kp (fun q => q ∈ blkOf vr) w W' := (Kp.refl _ _).grown r3 (fun k hk _ => mem_blkOf.2 hk);have hS1 : Sm w W' (fpK K ++ blkOf ve) := kW.sm fun q hq => ⟨(h.ap.2 q (List.mem_append.2 (.inl hq))).2,fun e => h.ap.apart q hq e⟩
 have k5 : Kp (fun q => q = bt) W' (W'.setCell ⟨bt,4,none⟩ v') := by
  refine Kp.setCell ?_ (fun _ => by simp) _;exact Kp.refl _ _
 have hap3 : Apt B W' ((fpK K ++ blkOf ve) ++ blkOf v') := by
  rcases r5 with hat | hat
  ·have : blkOf v' = blkOf vr := by simp [blkOf,hat]
   rw [this]; exact h.ap.mono kW.size
  ·have e1 : blkOf v' = [w.heap.size] := by simp [blkOf,hat]
   rw [e1];refine (h.ap.new hB (own_lt r2 hat).2).of_count fun q => ?_
   simp only [List.count_append]; omega
 have hbt : bt ∉ blkOf vr := fun e => by have := (h.ap.2 bt (List.mem_append.2 (.inr e))).1; have := h.lt; omega
 have hS2 : Sm W' (W'.setCell ⟨bt,4,none⟩ v') ((fpK K ++ blkOf ve) ++ blkOf v') := k5.sm fun q hq => ⟨(hap3.2 q hq).2,fun e => by have := (hap3.2 q hq).1; have := h.lt; omega⟩
 have hS : Sm w (W'.setCell ⟨bt,4,none⟩ v') (fpK K ++ blkOf ve) := fun q hq => (hS2 q (List.mem_append.2 (.inl hq))).trans (hS1 q hq)
 refine ⟨v',W',r1,own_form r2,kW,⟨(h.tb.kp kW hbt).set 4 _ rfl,own_sm h.er (hS.mono fun q hq => by simp [hq]),fun j hj => ?_,h.i64,?_,fun g hg => ?_,hap3.mono k5.size,h.lt⟩,k5⟩
 ·obtain ⟨rows,bss,g1,g2⟩ := h.row j hj;exact ⟨rows,bss,g1.sm (hS.mono fun q hq => List.mem_append.2 (.inl (fpK_mem hj q (by rw [g2]; exact hq)))) fun _ _ _ hp hb => hp.sm hb,g2⟩
 ·have e9 : rawCells (rest ++ [f]) = rawCells rest ++ f.cells := by simp [rawCells]
  rw [e9,List.length_append];exact own_sm r2 (hS2.mono fun q hq => List.mem_append.2 (.inr hq))
 ·rcases List.mem_append.1 hg with hg | hg
  ·exact h.r64 g hg
  ·obtain rfl := List.mem_singleton.1 hg;exact hf
end
end
section
theorem runR_inv {M : ByteArray → List Nat → Tr × Int} {fs : List FlS} {P : Ds → Prop} (step : ∀ st r,P st → (oneR M fs st r).2 = 0 → P (oneR M fs st r).1) : ∀ (l : List Fd) (st : Ds),P st → (runR M fs st l).2 = 0 → P (runR M fs st l).1
 | [],_,h,_ => h
 | r :: l,st,h,h0 => by
  by_cases h1 : (oneR M fs st r).2 ≠ 0
  ·simp only [runR,if_pos h1] at h0; exact absurd h0 h1
  ·simp only [runR,if_neg h1] at h0 ⊢;exact runR_inv step l _ (step st r h (by omega)) h0
structure RanR (fs : List FlS) (st : Ds) : Prop where
 ris : RisE st.es
 ne : ∀ e ∈ st.es,e.2 ≠ [] ∧ e.2.length ≤ 64 ∧ ∃ f,fldOf fs e.1 = some f
theorem RanR.und {fs : List FlS} {st : Ds} (h : RanR fs st) (t : Int) : (undE st.es t).length ≤ 64 := by
 by_cases hk : ∃ p ∈ st.es,p.1 = t
 ·obtain ⟨p,hp,rfl⟩ := hk;rw [und_mem h.ris hp];exact (h.ne p hp).2.1
 ·rw [und_none fun e he e1 => hk ⟨e,he,e1⟩]
  simp
theorem ranR_step {M : ByteArray → List Nat → Tr × Int} {fs : List FlS} (st : Ds) (r : Fd) (h : RanR fs st) (h0 : (oneR M fs st r).2 = 0) : RanR fs (oneR M fs st r).1 := by
 cases hf : fldOf fs r.tag with
 | none => simp only [oneR,hf]; exact ⟨h.ris,h.ne⟩
 | some f =>
  have ht := fld_tagR hf;have hu := h.und f.tag;simp only [oneR,hf] at h0 ⊢
  by_cases he : (treeD M f r).2 ≠ 0
  ·simp only [if_pos he] at h0; exact absurd h0 he
  ·simp only [if_neg he] at h0 ⊢
   by_cases h4 : f.label = 3 ∧ (undE st.es f.tag).length = 64
   ·simp only [if_pos h4] at h0; exact absurd h0 (by decide)
   ·simp only [if_neg h4] at h0 ⊢;refine ⟨h.ris.setR f _,fun e he => ?_⟩
    rcases mem_setE.1 he with rfl | ⟨he,_⟩
    ·refine ⟨?_,?_,f,by rw [ht]; exact hf⟩
     ·simp only; split <;> simp
     ·simp only
      split
      ·rename_i h3
       have : ¬ (undE st.es f.tag).length = 64 := fun e => h4 ⟨h3,e⟩
       simp only [List.length_append,List.length_cons,List.length_nil]; omega
      ·simp
    ·exact h.ne e he
theorem ranR_run {M : ByteArray → List Nat → Tr × Int} {fs : List FlS} {l : List Fd} {st : Ds} (h : runR M fs ⟨[],[]⟩ l = (st,0)) : RanR fs st := by
 have := runR_inv (P := RanR fs) (M := M) (fs := fs) ranR_step l ⟨[],[]⟩ ⟨List.Pairwise.nil,by simp⟩ (by rw [h]);rw [h] at this;exact this
theorem runR_rest {M : ByteArray → List Nat → Tr × Int} {fs : List FlS} : ∀ (l : List Fd) (st : Ds),(runR M fs st l).1.rest.length ≤ st.rest.length + l.length
 | [],st => by simp [runR]
 | r :: l,st => by
  have h1 : (oneR M fs st r).1.rest.length ≤ st.rest.length + 1 := by
   unfold oneR
   split
   ·simp
   ·split
    ·simp
    ·split <;> simp
  simp only [runR,List.length_cons]
  split
  ·omega
  ·have := runR_rest (M := M) (fs := fs) l (oneR M fs st r).1
   omega
theorem runR_next {M : ByteArray → List Nat → Tr × Int} {fs : List FlS} {l : List Fd} {i : Nat} {r : Fd} {st : Ds} (hx : l[i]? = some r) (h : runR M fs ⟨[],[]⟩ (l.take i) = (st,0)) : runR M fs ⟨[],[]⟩ (l.take (i + 1)) = oneR M fs st r ∧ ((oneR M fs st r).2 ≠ 0 → runR M fs ⟨[],[]⟩ l = oneR M fs st r) := by
 obtain ⟨hi,rfl⟩ := List.getElem?_eq_some_iff.1 hx
 have e1 : runR M fs ⟨[],[]⟩ (l.take (i + 1)) = oneR M fs st l[i] := by
  rw [List.take_succ_eq_append_getElem hi,runR_app _ _ _ _ _ (by rw [h]),h,runR_one]
 refine ⟨e1,fun h0 => ?_⟩;have h2 := runR_err M fs (l.take (i + 1)) (l.drop (i + 1)) ⟨[],[]⟩ (by rw [e1]; exact h0);rw [List.take_append_drop] at h2;rw [h2,e1]
theorem nodup_lenR {α : Type} [DecidableEq α] : ∀ (a b : List α),a.Nodup → (∀ x ∈ a,x ∈ b) → a.length ≤ b.length
 | [],b,_,_ => Nat.zero_le _
 | x :: a,b,hn,h => by
  rw [List.nodup_cons] at hn;have hx : x ∈ b := h x (List.mem_cons_self ..);have ih := nodup_lenR a (b.erase x) hn.2 fun y hy => (List.mem_erase_of_ne (fun e => hn.1 (by rw [← e]; exact hy))).2 (h y (List.mem_cons_of_mem _ hy))
  have h1 := List.length_erase_of_mem hx;have h2 := List.length_pos_of_mem hx;simp only [List.length_cons]
  omega
theorem RanR.cnt {fs : List FlS} {st : Ds} (h : RanR fs st) : st.es.length ≤ fs.length := by
 have h1 : (st.es.map Prod.fst).Nodup := h.ris.nodup
 have h2 : ∀ t ∈ st.es.map Prod.fst,t ∈ fs.map FlS.tag := fun t ht => by
  obtain ⟨e,he,rfl⟩ := List.mem_map.1 ht;obtain ⟨-, -,f,hf⟩ := h.ne e he;exact List.mem_map.2 ⟨f,List.mem_of_find?_eq_some hf,fld_tagR hf⟩
 have h3 := nodup_lenR _ _ h1 h2
 simpa using h3
theorem decM_ref {n : Nat} {s : ScS} {nm : ByteArray} {ns : List Nat} {m : MsS} (h : msgOf s nm = some m) : decM (n + 1) s nm ns = if ((getL ns).2 : Nat) ≠ 0 then (tr0,((getL ns).2 : Int)) else if (runR (decM n s) m.fields ⟨[],[]⟩ (getL ns).1).2 ≠ 0 then (tr0,(runR (decM n s) m.fields ⟨[],[]⟩ (getL ns).1).2) else
  (⟨3,0,⟨#[]⟩,setldR m.fields (runR (decM n s) m.fields ⟨[],[]⟩ (getL ns).1).1.es,sortF (runR (decM n s) m.fields ⟨[],[]⟩ (getL ns).1).1.rest⟩,0) := by
 obtain ⟨h1,h2⟩ := ref_same (M := decM n s) (fs := m.fields) (getL ns).1;simp only [decM,h];rw [h1]
 by_cases h3 : (getL ns).2 ≠ 0
 ·rw [if_pos h3,if_pos h3]
 ·rw [if_neg h3,if_neg h3]
  by_cases h4 : (runR (decM n s) m.fields ⟨[],[]⟩ (getL ns).1).2 ≠ 0
  ·rw [if_pos h4,if_pos h4]
  ·rw [if_neg h4,if_neg h4,h2 (by omega)]
end
section
open Go.ChangeShapes Go.WideShapes Go.ChangeAt Go.RowKit
def RputP (n B bt : Nat) (vr : Value) (rest : List Fd) (R : List (Int × List Tr)) (b : Bool) (w : World) (e : Ending) (w' : World) : Prop :=
 e = .returned (.bool b) ∧ (b = true → ∃ K' ve',esK K' = R ∧ RdS n B bt K' ve' vr rest w') ∧ Kp (fun q => B ≤ q ∨ q = bt) w w'
section
variable {n B bt : Nat} {K : List KE} {k : KE} {ve vr : Value} {rest : List Fd} {w w' : World} {r : List Value} {x : Tr} {bs : List Nat} {R : List (Int × List Tr)} {b : Bool} {e : Ending}
theorem RputP.elder {W : World} (h : RputP n B bt vr rest R b W e w') (hb : Below w.heap.size w W) : RputP n B bt vr rest R b w e w' := ⟨h.1,h.2.1,(Kp.ofBelow hb).trans2 h.2.2 fun _ _ hi => hi⟩
theorem split_atR {α : Type} {l : List α} {i : Nat} {x : α} (h : l[i]? = some x) : ∃ P Q,l = P ++ x :: Q ∧ P.length = i := by
 obtain ⟨hi,rfl⟩ := List.getElem?_eq_some_iff.1 h;exact ⟨l.take i,l.drop (i + 1),by simp,by simp; omega⟩
theorem mid_at {α : Type} (P Q : List α) (y : α) : (P ++ y :: Q)[P.length]? = some y := by simp
theorem rput_set {N ge ec : Nat} (h : RdS n B bt K (.slice (some ⟨ge,0,none⟩) N ec) vr rest w) (hR : RisE K) (hB : B ≤ w.heap.size) (hx : TrO n B w r x bs) (hap : Apt B w (((fpK K ++ blkOf (.slice (some ⟨ge,0,none⟩) N ec)) ++ blkOf vr) ++ bs)) {i : Nat} (hk : K[i]? = some k) :
  RputP n B bt vr rest (setE k.1 [x] (esK K)) true w (.returned (.bool true)) ((w.alloc (Obj.cells r.toArray 33)).setCell ⟨ge,i * 2 + 1,none⟩ (.slice (some ⟨w.heap.size,0,none⟩) 1 1)) := by
 obtain ⟨P,Q,rfl,rfl⟩ := split_atR hk;obtain ⟨h1,h2⟩ := h.one hB hx hap;refine ⟨rfl,fun _ => ⟨_,_,?_,h1⟩,h2.weak fun i _ hi => .inl ?_⟩
 ·have := esK_set k.1 (.slice (some ⟨w.heap.size,0,none⟩) 1 1,[x],allB (.slice (some ⟨w.heap.size,0,none⟩) 1 1) [bs]) (P ++ k :: Q);rw [setE_mid hR] at this;exact this
 ·subst hi;exact (h.ap.2 i (by simp [blkOf,Value.ownBlock])).1
theorem und_at (hR : RisE K) {i : Nat} (hk : K[i]? = some k) : undE (esK K) k.1 = k.2.2.1 := und_mem (esK_ris.2 hR) (p := (k.1,k.2.2.1)) (List.mem_map.2 ⟨k,List.mem_of_getElem? hk,rfl⟩)
theorem rput_more {N ge ec : Nat} (h : RdS n B bt K (.slice (some ⟨ge,0,none⟩) N ec) vr rest w) (hR : RisE K) (hB : B ≤ w.heap.size) (hx : TrO n B w r x bs) (hap : Apt B w (((fpK K ++ blkOf (.slice (some ⟨ge,0,none⟩) N ec)) ++ blkOf vr) ++ bs)) {i : Nat} (hk : K[i]? = some k) (hl : k.2.2.1.length ≤ 64) :
  ∃ va vc W',(Builtin.append_ #[78,78] 78 #[k.2.1,.slice (some ⟨w.heap.size,0,none⟩) 1 1]).run Tryz.prog (w.alloc (Obj.cells r.toArray 33)) = .ok (.slice va (k.2.2.1.length + 1) vc) W' ∧ Kp (fun q => q ∈ blkOf k.2.1) w W' ∧
   (W'.setCell ⟨ge,i * 2 + 1,none⟩ (.slice va (k.2.2.1.length + 1) vc)).cell? ⟨bt,3,none⟩ = some (.slice (some ⟨ge,0,none⟩) N ec) ∧ (W'.setCell ⟨ge,i * 2 + 1,none⟩ (.slice va (k.2.2.1.length + 1) vc)).cell? ⟨ge,i * 2 + 1,none⟩ = some (.slice va (k.2.2.1.length + 1) vc) ∧
   ∀ b,RputP n B bt vr rest (setE k.1 (undE (esK K) k.1 ++ [x]) (esK K)) b w (.returned (.bool b)) (W'.setCell ⟨ge,i * 2 + 1,none⟩ (.slice va (k.2.2.1.length + 1) vc)) := by
 have hu := und_at hR hk;obtain ⟨P,Q,rfl,rfl⟩ := split_atR hk;have al : Below w.heap.size w (w.alloc (Obj.cells r.toArray 33)) := bra _;obtain ⟨v',W',bs',r1,⟨va,vc,rfl⟩,k1,h1,k2⟩ := (h.below al).more (Nat.le_trans hB al.size) (hx.sm (Sm.below al fun k hk => (hap.2 k (List.mem_append.2 (.inr hk))).2)) (hap.mono al.size) hl (Blk.new w r.toArray 33);have hg : B ≤ ge := (h.ap.2 ge (by simp [blkOf,Value.ownBlock])).1;obtain ⟨rows,bss,g1,g2⟩ := h.row k (by simp);have hgeb : ∀ q ∈ blkOf k.2.1,B ≤ q := fun q hq => (own_lt g1.own (mem_blkOf.1 hq)).1
 have kW : Kp (fun q => q ∈ blkOf k.2.1) w W' := (Kp.ofBelow al).trans2 k1 fun _ _ hi => hi
 obtain ⟨a,c,e1, -, -,hc⟩ := h1.form;simp only [Value.slice.injEq] at e1;obtain ⟨ge',e2, -, -, -,hc⟩ := hc (by simp);rw [e2] at e1;simp only [Option.some.injEq,Addr.mk.injEq,and_true] at e1;obtain ⟨rfl, -, -⟩ := e1;refine ⟨va,vc,W',r1,kW,(h1.tb.cell 3).trans rfl,(hc P.length _ (mid_at P Q _)).2,fun b => ⟨rfl,fun _ => ⟨_,_,?_,h1⟩,?_⟩⟩
 ·have := esK_set k.1 (.slice va (k.2.2.1.length + 1) vc,k.2.2.1 ++ [x],bs') (P ++ k :: Q);rw [setE_mid hR] at this;rw [hu];exact this
 ·exact (kW.weak fun i _ hi => .inl (hgeb i hi)).trans2 (k2.weak (S' := fun q => B ≤ q ∨ q = bt) fun i _ hi => .inl (by omega)) fun _ _ hi => hi
theorem rput_push (h : RdS n B bt K ve vr rest w) (hB : B ≤ w.heap.size) (hx : TrO n B w r x bs) (hap : Apt B w (((fpK K ++ blkOf ve) ++ blkOf vr) ++ bs)) {ft : Int} (h64 : Is64 ft) (hl : K.length ≤ 1000) :
  ∃ g c W' fp,(Builtin.append_ #[30,30] 30 #[ve,.slice (some ⟨w.heap.size + 1,0,none⟩) 1 1]).run Tryz.prog ((w.alloc (Obj.cells r.toArray 33)).alloc (Obj.cells #[.int .i64 ft,.slice (some ⟨w.heap.size,0,none⟩) 1 1] 80)) = .ok (.slice (some ⟨g,0,none⟩) (K.length + 1) c) W' ∧ Kp (fun q => q ∈ blkOf ve) w W' ∧
   RdS n B bt (K ++ [(ft,(.slice (some ⟨w.heap.size,0,none⟩) 1 1,[x],fp))]) (.slice (some ⟨g,0,none⟩) (K.length + 1) c) vr rest (W'.setCell ⟨bt,3,none⟩ (.slice (some ⟨g,0,none⟩) (K.length + 1) c)) ∧ Kp (fun q => B ≤ q ∨ q = bt) w (W'.setCell ⟨bt,3,none⟩ (.slice (some ⟨g,0,none⟩) (K.length + 1) c)) := by
 have al : Below w.heap.size w (w.alloc (Obj.cells r.toArray 33)) := bra _
 have hsz : (w.alloc (Obj.cells r.toArray 33)).heap.size = w.heap.size + 1 := by simp
 have al2 : Below (w.alloc (Obj.cells r.toArray 33)).heap.size (w.alloc (Obj.cells r.toArray 33)) ((w.alloc (Obj.cells r.toArray 33)).alloc (Obj.cells #[.int .i64 ft,.slice (some ⟨w.heap.size,0,none⟩) 1 1] 80)) := bra _;have al3 := al.trans (al2.mono al.size);have hrow := row_one hB hx (Blk.new w r.toArray 33) (Sm.below al fun k hk => (hap.2 k (List.mem_append.2 (.inr hk))).2)
 have hap1 : Apt B (w.alloc (Obj.cells r.toArray 33)) (((fpK K ++ blkOf ve) ++ blkOf vr) ++ allB (.slice (some ⟨w.heap.size,0,none⟩) 1 1) [bs]) := (hap.new hB (by simp)).of_count fun q => by
  simp only [allB,blkOf,Value.ownBlock,List.count_append,List.flatten_cons,List.flatten_nil,List.append_nil]; omega
 have BZ := Blk.new (w.alloc (Obj.cells r.toArray 33)) #[.int .i64 ft,.slice (some ⟨w.heap.size,0,none⟩) 1 1] 80;rw [hsz] at BZ;have hrow2 := hrow.sm (Sm.below al2 fun k hk => (hap1.2 k (List.mem_append.2 (.inr hk))).2) fun _ _ _ hp hb => hp.sm hb
 obtain ⟨v',W',r1,⟨g,c,rfl⟩,k1,h1,k2⟩ := (h.below al3).push (Nat.le_trans hB al3.size) h64 hrow2 (hap1.mono al2.size) rfl BZ hl;have hgeb : ∀ q ∈ blkOf ve,B ≤ q := fun q hq => (own_lt h.er (mem_blkOf.1 hq)).1
 have kW : Kp (fun q => q ∈ blkOf ve) w W' := (Kp.ofBelow al3).trans2 k1 fun _ _ hi => hi
 exact ⟨g,c,W',_,r1,kW,h1,(kW.weak fun i _ hi => .inl (hgeb i hi)).trans2 (k2.weak (S' := fun q => B ≤ q ∨ q = bt) fun i _ hi => .inr hi) fun _ _ hi => hi⟩
theorem rput_end {P Q : List KE} {ft fl : Int} (hR : RisE K) (hn : ∀ k ∈ K,k.1 ≠ ft) (hK : K = P ++ Q) (hQ : ∀ q ∈ Q,ft < q.1) (hP : P = [] ∨ ∃ P' y,P = P' ++ [y] ∧ y.1 < ft) (v1 : Value) (fp : List Nat) (hS : setE ft (if fl = 3 then undE (esK K) ft ++ [x] else [x]) (esK K) = R) : esK (P ++ (ft,(v1,[x],fp)) :: Q) = R := by
 have h1 := ris_none hR hn hK hQ hP (v1,[x],fp);have h2 := esK_set ft (v1,[x],fp) K
 have h3 : undE (esK K) ft = [] := und_none fun e he => by
  obtain ⟨k,hk,rfl⟩ := List.mem_map.1 he;exact hn k hk
 rw [h3,List.nil_append,ite_self] at hS;rw [← hS,← h2,h1]
end
abbrev Pl : Type := Option Addr × Nat
def plV (x : Pl) : Value := .agg #[.pointer x.1,.int .i64 (x.2 : Int)]
def PlOk (w : World) (x : Pl) : Prop := ∀ a,x.1 = some a → ∃ cs ty,w.heap[a.block]? = some (.cells cs ty (0,0))
theorem eql_ptr (w : World) (d : Nat) (p q : Option Addr) (hp : ∀ a,p = some a → ∃ cs ty,w.heap[a.block]? = some (.cells cs ty (0,0))) (hq : ∀ a,q = some a → ∃ cs ty,w.heap[a.block]? = some (.cells cs ty (0,0))) :
  (Op.equalIn (d + 1) 134 (.pointer p) (.pointer q)).run Tryz.prog w = .ok (decide (p = q)) w := by
 have hu : Tryz.prog.underlying 134 = some (.pointer 80) := by kernel_rfl
 have hi : (Tryz.prog.info? 80).map (fun i => i.size) = some 2 := by kernel_rfl
 obtain ⟨j,hj,hs⟩ : ∃ j,Tryz.prog.info? 80 = some j ∧ j.size = 2 := by
  cases h : Tryz.prog.info? 80 with
  | none => rw [h] at hi; cases hi
  | some j => rw [h] at hi; exact ⟨j,rfl,by simpa using hi⟩
 cases p with
 | none => cases q <;> simp [Op.equalIn,run_underlying hu]
 | some a =>
  cases q with
  | none => simp [Op.equalIn,run_underlying hu]
  | some b =>
   by_cases e : a = b
   ·subst e
    simp [Op.equalIn,run_underlying hu,sizeOf,typeInfo,hj,hs,run_sameAddr_same]
   ·obtain ⟨ca,ta,ha⟩ := hp a rfl;obtain ⟨cb,tb,hb⟩ := hq b rfl
    simp [Op.equalIn,run_underlying hu,sizeOf,typeInfo,hj,hs,run_sameAddr_other w e ha hb,e]
theorem eql_pl (w : World) (x y : Pl) (hx : PlOk w x) (hy : PlOk w y) : (Op.equal 184 (plV x) (plV y)).run Tryz.prog w = .ok (decide (x = y)) w := by
 obtain ⟨p,m⟩ := x;obtain ⟨q,n⟩ := y;have h1 := fun d => eql_ptr w d p q hx hy
 by_cases e : p = q
 ·subst e
  by_cases e2 : m = n
  ·subst e2
   simp [plV,Op.equal,Op.maxDepth,go_sem,h1]
  ·have e3 : ¬ (m : Int) = (n : Int) := by omega
   simp [plV,Op.equal,Op.maxDepth,go_sem,h1,e2,e3]
 ·simp [plV,Op.equal,Op.maxDepth,go_sem,h1,e]
theorem check_pl (w : World) (b : Bool) (x : Pl) : (Instr.checkKey b 10000 184 (plV x)).run Tryz.prog w = .ok () w := by kernel_rfl
def PlSet (w : World) (b : Nat) (L : List Value) : Prop := ∃ es clock,w.heap[b]? = some (.map es clock) ∧ es.toList.map MapEntry.key = L ∧ ∀ e ∈ es.toList,e.val = .agg #[]
theorem PlSet.lt {w : World} {b : Nat} {L : List Value} (h : PlSet w b L) : b < w.heap.size := by
 obtain ⟨es,c,h,_⟩ := h;exact (Array.getElem?_eq_some_iff.1 h).1
theorem PlSet.kp {S : Nat → Prop} {w w1 : World} {b : Nat} {L : List Value} (h : PlSet w b L) (hk : Kp S w w1) (hs : ¬ S b) : PlSet w1 b L := by
 have hl := h.lt;obtain ⟨es,c,h1,h2⟩ := h;exact ⟨es,c,(hk.block b hl hs).trans h1,h2⟩
theorem PlSet.below {w w1 : World} {b : Nat} {L : List Value} (h : PlSet w b L) (hk : Below w.heap.size w w1) : PlSet w1 b L := h.kp (S := fun _ => False) (Kp.ofBelow hk) (fun e => e)
theorem PlSet.made (w : World) : PlSet (w.alloc (.map #[] 0)) w.heap.size [] := ⟨#[],0,heap_alloc_new w _,rfl,by simp⟩
theorem PlSet.neB {w : World} {b : Nat} {L : List Value} (h : PlSet w b L) {g : Nat} {cs : Array Value} {t : TypeId} {fz : Nat × Nat} (hc : w.heap[g]? = some (.cells cs t fz)) : g ≠ b := by
 rintro rfl;obtain ⟨es,c,hb,_⟩ := h;rw [hb] at hc; cases hc
section
variable {T MT : TypeId} {w : World} {k : Value}
def Told (T : TypeId) (w : World) (k : Value) (L : List Value) : Prop := ∀ q ∈ L,(k = q → (Op.equal T k q).run Tryz.prog w = .ok true w) ∧ (k ≠ q → (Op.equal T k q).run Tryz.prog w = .ok false w)
theorem find_ask : ∀ (l : List MapEntry) (i : Nat),Told T w k (l.map MapEntry.key) → (∀ e ∈ l,e.val = .agg #[]) →
  (k ∈ l.map MapEntry.key → ∃ j,(Instr.findAsking T k l i).run Tryz.prog w = .ok (some (j,.agg #[])) w) ∧ (k ∉ l.map MapEntry.key → (Instr.findAsking T k l i).run Tryz.prog w = .ok none w)
 | [],i,_,_ => by simp [Instr.findAsking]
 | e :: l,i,ht,hv => by
  have ih := find_ask l (i + 1) (fun q hq => ht q (List.mem_cons_of_mem _ hq)) (fun x hx => hv x (List.mem_cons_of_mem _ hx));obtain ⟨h1,h2⟩ := ht e.key (List.mem_cons_self ..);have h3 := hv e (List.mem_cons_self ..)
  by_cases hke : k = e.key
  ·refine ⟨fun _ => ⟨i,?_⟩,fun h => absurd (by rw [hke]; simp) h⟩;unfold Instr.findAsking;rw [Sem.run_bind,h1 hke]
   simp [Result.andThen,h3]
  ·have hrun : (Instr.findAsking T k (e :: l) i).run Tryz.prog w = (Instr.findAsking T k l (i + 1)).run Tryz.prog w := by
    conv => lhs; unfold Instr.findAsking
    rw [Sem.run_bind,h2 hke]
    simp [Result.andThen]
   refine ⟨fun h => ?_,fun h => ?_⟩
   ·rcases List.mem_cons.1 h with h | h
    ·exact absurd h hke
    ·obtain ⟨j,hj⟩ := ih.1 h;exact ⟨j,hrun.trans hj⟩
   ·exact hrun.trans (ih.2 fun h2 => h (List.mem_cons_of_mem _ h2))
theorem find_key {fs : TypeDesc} (hu : Tryz.prog.underlying T = some fs) (hf : ∀ k q,Instr.sameNow fs (.agg k) q = none) {ks : Array Value} (hk : k = .agg ks) (l : List MapEntry) (ht : Told T w k (l.map MapEntry.key)) (hv : ∀ e ∈ l,e.val = .agg #[]) :
  (k ∈ l.map MapEntry.key → ∃ j,(Instr.findKey T k l).run Tryz.prog w = .ok (some (j,.agg #[])) w) ∧ (k ∉ l.map MapEntry.key → (Instr.findKey T k l).run Tryz.prog w = .ok none w) := by
 cases l with
 | nil => simp [Instr.findKey,run_underlying hu,Instr.findNow]
 | cons e l =>
  have h1 : Instr.findNow fs k (e :: l) 0 = none := by rw [hk]; simp [Instr.findNow,hf]
  have h2 : (Instr.findKey T k (e :: l)).run Tryz.prog w = (Instr.findAsking T k (e :: l) 0).run Tryz.prog w := by
   simp [Instr.findKey,run_underlying hu,h1]
  rw [h2];exact find_ask (e :: l) 0 ht hv
variable {E : TypeId} {L : List Value} {b : Nat}
theorem look_pl (hm : Tryz.prog.underlying MT = some (.map T E)) (hz : ∀ w,(zeroValue E).run Tryz.prog w = .ok (.agg #[]) w) {fs : TypeDesc} (hu : Tryz.prog.underlying T = some fs) (hf : ∀ k q,Instr.sameNow fs (.agg k) q = none) {ks : Array Value} (hk : k = .agg ks)
  (hc : ∀ e,(Instr.checkKey e 10000 T k).run Tryz.prog w = .ok () w) (hs : PlSet w b L) (ht : Told T w k L) (r : Bool) (hr : r = true ↔ k ∈ L) :
  (Instr.lookup MT (.map (some b)) k true).run Tryz.prog w = .ok (.tuple #[.agg #[],.bool r]) w := by
 obtain ⟨es,c,h1,rfl,h3⟩ := hs;have hfk := find_key hu hf hk es.toList ht h3
 have hgo : (getObj b).run Tryz.prog w = .ok (.map es c) w := by simp [getObj,Sem.run,h1]
 by_cases hm' : k ∈ es.toList.map MapEntry.key
 ·obtain ⟨j,hj⟩ := hfk.1 hm';obtain rfl : r = true := hr.2 hm'
  simp [Instr.lookup,run_underlying hm,hgo,hc,hj]
 ·have hj := hfk.2 hm'
  obtain rfl : r = false := by cases r; rfl; exact absurd (hr.1 rfl) hm'
  simp [Instr.lookup,run_underlying hm,hgo,hc,hj,hz]
theorem update_pl (hm : Tryz.prog.underlying MT = some (.map T E)) {fs : TypeDesc} (hu : Tryz.prog.underlying T = some fs) (hf : ∀ k q,Instr.sameNow fs (.agg k) q = none) {ks : Array Value} (hk : k = .agg ks)
  (hc : ∀ e,(Instr.checkKey e 10000 T k).run Tryz.prog w = .ok () w) (hs : PlSet w b L) (ht : Told T w k L) (hn : k ∉ L) :
  ∃ w',(Instr.mapUpdate MT (.map (some b)) k (.agg #[])).run Tryz.prog w = .ok () w' ∧ PlSet w' b (L ++ [k]) ∧ Kp (fun q => q = b) w w' ∧ w'.heap.size = w.heap.size := by
 obtain ⟨es,c,h1,rfl,h3⟩ := hs;have hj := (find_key hu hf hk es.toList ht h3).2 hn
 have hgo : (getObj b).run Tryz.prog w = .ok (.map es c) w := by simp [getObj,Sem.run,h1]
 have hse : ∀ o,(setObj b o).run Tryz.prog w = .ok () { w with heap := w.heap.setIfInBounds b o } := fun o => by simp [setObj,Sem.run,h1]
 refine ⟨{ w with heap := w.heap.setIfInBounds b (.map (es.push { key := k,val := .agg #[],born := c }) (c + 1)) },?_,?_,?_,by simp⟩
 ·simp [Instr.mapUpdate,run_underlying hm,hgo,hc,hj,hse]
 ·refine ⟨es.push { key := k,val := .agg #[],born := c },c + 1,?_,by simp,?_⟩
  ·have := (Array.getElem?_eq_some_iff.1 h1).1
   simp [this]
  ·intro e he;simp only [Array.toList_push,List.mem_append,List.mem_singleton] at he
   rcases he with he | rfl
   ·exact h3 e he
   ·rfl
 ·refine ⟨rfl,rfl,rfl,by simp,fun q hq hs => ?_⟩;simp only;rw [Array.getElem?_setIfInBounds_ne (Ne.symm hs)]
theorem wpList_lookup_pl {ops : Array Oper} {rest : List Oper} {o : Oper} {a : Act} {Q : Exit → Act → World → Prop} (hgd : o.guard = none) (m x : Operand) (hop : o.op = Op.lookup MT m x true) {v : Value}
  (hmm : a.eval m = .map (some b)) (hx : a.eval x = k) (hr : (Instr.lookup MT (.map (some b)) k true).run Tryz.prog w = .ok v w) (h : wpList Tryz.prog ops Q rest (a.put o.dst v) w) : wpList Tryz.prog ops Q (o :: rest) a w :=
 wpList_plain hgd fun K hK => by
  unfold Oper.wp
  simp [execOp,hop,hmm,hx,hr,Result.andThen]
  exact hK _ _ h
theorem wpList_update_pl {ops : Array Oper} {rest : List Oper} {o : Oper} {a : Act} {Q : Exit → Act → World → Prop} (hgd : o.guard = none) (m x y : Operand) (hop : o.op = Op.mapUpdate MT m x y) {w' : World} {v : Value}
  (hmm : a.eval m = .map (some b)) (hx : a.eval x = k) (hy : a.eval y = v) (hr : (Instr.mapUpdate MT (.map (some b)) k v).run Tryz.prog w = .ok () w') (h : wpList Tryz.prog ops Q rest (a.put o.dst undef) w') : wpList Tryz.prog ops Q (o :: rest) a w :=
 wpList_plain hgd fun K hK => by
  unfold Oper.wp
  simp [execOp,hop,hmm,hx,hy,hr,Result.andThen]
  exact hK _ _ h
end
def PlnV (w : World) (v : Value) : Prop := ∀ g off n cap,v = .slice (some ⟨g,off,none⟩) n cap → n ≠ 0 → ∃ cs ty,w.heap[g]? = some (.cells cs ty (0,0))
def TrQ : Nat → World → List Value → Tr → Prop
 | 0,_,_,_ => False
 | n + 1,w,r,t => ∃ ve vr,r = [.int .i64 t.kind,.int .i64 t.n,.string t.s,ve,vr] ∧ Is64 t.kind ∧ Is64 t.n ∧ t.s.size ≤ 140737488351232 ∧ Fd64 t.rest ∧ RowG w vr 4 (fdRows t.rest) ∧ RowP (EnC (TrQ n w) w) w 2 ve t.es ∧ PlnV w ve
abbrev TrsQ (n : Nat) (w : World) (v : Value) (ts : List Tr) : Prop := RowP (TrQ n w) w 5 v ts
abbrev EnsQ (n : Nat) (w : World) (v : Value) (es : List (Int × List Tr)) : Prop := RowP (EnC (TrQ n w) w) w 2 v es
theorem PlnV.below {w w1 : World} {v : Value} (h : PlnV w v) (hb : Below w.heap.size w w1) : PlnV w1 v := fun g off n cap e hn => by
 obtain ⟨cs,ty,h1⟩ := h g off n cap e hn;exact ⟨cs,ty,(hb.block g (Array.getElem?_eq_some_iff.1 h1).1).trans h1⟩
theorem TrQ.below : ∀ {n : Nat} {w w1 : World} {r : List Value} {t : Tr},TrQ n w r t → Below w.heap.size w w1 → TrQ n w1 r t
 | 0,_,_,_,_,h,_ => h
 | n + 1,w,w1,r,t,h,hb => by
  obtain ⟨ve,vr,h1,h2,h3,h4,h5,h6,h7,h8⟩ := h;refine ⟨ve,vr,h1,h2,h3,h4,h5,h6.below hb,h7.mono hb fun r x hx hp => ?_,h8.below hb⟩;obtain ⟨vt,g1,g2,g3⟩ := hp;exact ⟨vt,g1,g2,g3.mono hb fun r x hx hp => hp.below hb⟩
theorem RowP.belowTQ {n : Nat} {w w1 : World} {v : Value} {ts : List Tr} (h : TrsQ n w v ts) (hb : Below w.heap.size w w1) : TrsQ n w1 v ts := RowP.mono h hb fun _ _ _ hp => hp.below hb
theorem RowP.belowEQ {n : Nat} {w w1 : World} {v : Value} {es : List (Int × List Tr)} (h : EnsQ n w v es) (hb : Below w.heap.size w w1) : EnsQ n w1 v es :=
 RowP.mono h hb fun _ _ _ hp => by
  obtain ⟨vt,g1,g2,g3⟩ := hp;exact ⟨vt,g1,g2,g3.belowTQ hb⟩
theorem TrQ.trC : ∀ {n : Nat} {w : World} {r : List Value} {t : Tr},TrQ n w r t → TrC n w r t
 | 0,_,_,_,h => h
 | n + 1,w,r,t,h => by
  obtain ⟨ve,vr,h1,h2,h3,h4,h5,h6,h7,h8⟩ := h;refine ⟨ve,vr,h1,h2,h3,h4,h5,h6,h7.imp fun r x hx hp => ?_⟩;obtain ⟨vt,g1,g2,g3⟩ := hp;exact ⟨vt,g1,g2,g3.imp fun r x hx hp => hp.trC⟩
theorem own_pln {w : World} {B e s n : Nat} {v : Value} {xs : List Value} (h : w.ownsRow B e s v n xs) : PlnV w v := by
 intro g off m cap ev hm
 rcases h.2 with ⟨rfl,_⟩ | ⟨g',cap',cur,rfl,_,h3,_⟩
 ·cases ev
 ·simp at ev
  obtain ⟨⟨rfl,_⟩,_⟩ := ev;exact ⟨cur,e,h3⟩
theorem RowP.uniq {α : Type} {P Q : List Value → α → Prop} {w : World} {size : Nat} {a : Option Addr} {N c1 c2 : Nat} {xs ys : List α} (h : RowP P w size (.slice a N c1) xs) (k : RowP Q w size (.slice a N c2) ys)
  (hp : ∀ r s x y,P r x → Q s y → (∀ j : Nat,r[j]? ≠ none → s[j]? ≠ none → r[j]? = s[j]?) → x = y) : xs = ys := by
 obtain ⟨a1,c1',e1,_,_,_,_,_⟩ := h.open;obtain ⟨a2,c2',e2,_,_,_,_,_⟩ := k.open;simp only [Value.slice.injEq] at e1 e2;obtain ⟨_,e1,_⟩ := e1;obtain ⟨_,e2,_⟩ := e2;refine List.ext_getElem? fun i => ?_
 by_cases hi : i < xs.length
 ·obtain ⟨g,off,ha,r,hr,hcr⟩ := h.get (List.getElem?_eq_getElem hi);obtain ⟨g',off',ha',s,hs,hcs⟩ := k.get (i := i) (List.getElem?_eq_getElem (by omega));rw [ha] at ha'
  simp at ha'
  obtain ⟨rfl,rfl⟩ := ha';rw [List.getElem?_eq_getElem hi,List.getElem?_eq_getElem (by omega)];refine congrArg some (hp r s _ _ hr hs fun j h1 h2 => ?_)
  cases hrj : r[j]? with
  | none => exact absurd hrj h1
  | some u =>
   cases hsj : s[j]? with
   | none => exact absurd hsj h2
   | some u' =>
    have q1 := hcr j u hrj;have q2 := hcs j u' hsj;rw [q1] at q2;exact q2
 ·rw [List.getElem?_eq_none (by omega),List.getElem?_eq_none (by omega)]
theorem fd_uniq {w : World} {a : Option Addr} {N c1 c2 : Nat} {l m : List Fd} (h : RowG w (.slice a N c1) 4 (fdRows l)) (k : RowG w (.slice a N c2) 4 (fdRows m)) : l = m := by
 have h1 : RowP (fun r (f : Fd) => r = f.cells) w 4 (.slice a N c1) l := ⟨fdRows l,h,by simp [fdRows],fun i x hx => ⟨x.cells,by simp [fdRows,hx],rfl⟩⟩;have h2 : RowP (fun r (f : Fd) => r = f.cells) w 4 (.slice a N c2) m := ⟨fdRows m,k,by simp [fdRows],fun i x hx => ⟨x.cells,by simp [fdRows,hx],rfl⟩⟩;refine h1.uniq h2 fun r s x y hr hs hj => ?_
 subst hr hs;have j0 := hj 0 (by simp [Fd.cells]) (by simp [Fd.cells]);have j1 := hj 1 (by simp [Fd.cells]) (by simp [Fd.cells]);have j2 := hj 2 (by simp [Fd.cells]) (by simp [Fd.cells]);have j3 := hj 3 (by simp [Fd.cells]) (by simp [Fd.cells])
 simp [Fd.cells] at j0 j1 j2 j3
 cases x; cases y; simp_all
theorem TrC.uniq : ∀ {n m : Nat} {w : World} {r s : List Value} {t u : Tr},TrC n w r t → TrC m w s u → (∀ j : Nat,r[j]? ≠ none → s[j]? ≠ none → r[j]? = s[j]?) → t = u
 | 0,_,_,_,_,_,_,h,_,_ => h.elim
 | _ + 1,0,_,_,_,_,_,_,h,_ => h.elim
 | n + 1,m + 1,w,r,s,t,u,h,k,hj => by
  obtain ⟨ve,vr,rfl,_,_,_,_,h6,h7⟩ := h;obtain ⟨ve',vr',rfl,_,_,_,_,k6,k7⟩ := k;have j0 := hj 0 (by simp) (by simp);have j1 := hj 1 (by simp) (by simp);have j2 := hj 2 (by simp) (by simp);have j3 := hj 3 (by simp) (by simp);have j4 := hj 4 (by simp) (by simp)
  simp at j0 j1 j2 j3 j4
  subst j3 j4;obtain ⟨a1,c1,e1,_⟩ := h7.open;obtain ⟨a2,c2,e2,_⟩ := h6.form2;subst e1 e2
  have hes : t.es = u.es := h7.uniq k7 fun r s x y hp hq hj => by
   obtain ⟨vt,rfl,_,g3⟩ := hp;obtain ⟨vt',rfl,_,g3'⟩ := hq;have i0 := hj 0 (by simp) (by simp);have i1 := hj 1 (by simp) (by simp)
   simp at i0 i1
   subst i1;obtain ⟨a3,c3,e3,_⟩ := g3.open;subst e3;have := g3.uniq g3' fun r s x y hp hq hj => hp.uniq hq hj
   exact Prod.ext i0 this
  have hrs : t.rest = u.rest := fd_uniq h6 k6
  cases t; cases u; simp_all
def plOf (v : Value) : Pl := match v with
 | .slice a n _ => if n = 0 then (none,0) else (a,n)
 | _ => (none,0)
theorem plOf_ok {w : World} {v : Value} {P : List Value → (Int × List Tr) → Prop} {es : List (Int × List Tr)} (h : PlnV w v) (hr : RowP P w 2 v es) : PlOk w (plOf v) := by
 obtain ⟨a,cap,rfl,_,_,h4,_⟩ := hr.open;intro b hb;unfold plOf at hb;simp only at hb
 split at hb
 ·cases hb
 ·rename_i hne
  simp only at hb;subst hb
  rcases h4 with rfl | ⟨g,off,e⟩
  ·exact absurd rfl hne
  ·simp at e
   subst e;exact h g off _ cap rfl hne
theorem pl_uniq {n m : Nat} {w : World} {v v' : Value} {es es' : List (Int × List Tr)} (h : EnsQ n w v es) (k : EnsQ m w v' es') (e : plOf v = plOf v') : es = es' := by
 obtain ⟨a,cap,rfl,_,_,h4,_⟩ := RowP.open h;obtain ⟨a',cap',rfl,_,_,h4',_⟩ := RowP.open k;unfold plOf at e;simp only at e
 by_cases hn : es.length = 0
 ·rw [if_pos hn] at e
  by_cases hn' : es'.length = 0
  ·rw [List.eq_nil_of_length_eq_zero hn,List.eq_nil_of_length_eq_zero hn']
  ·rw [if_neg hn'] at e
   simp at e
   exact absurd (e.2.symm ▸ rfl) hn'
 ·rw [if_neg hn] at e
  by_cases hn' : es'.length = 0
  ·rw [if_pos hn'] at e
   simp at e
   exact absurd e.2 (by intro h0; rw [h0] at hn; exact hn rfl)
  ·rw [if_neg hn'] at e;simp only [Prod.mk.injEq] at e;obtain ⟨rfl,e2⟩ := e;rw [← e2] at k;refine RowP.uniq h k fun r s x y hp hq hj => ?_
   obtain ⟨vt,rfl,_,g3⟩ := hp;obtain ⟨vt',rfl,_,g3'⟩ := hq;have i0 := hj 0 (by simp) (by simp);have i1 := hj 1 (by simp) (by simp)
   simp at i0 i1
   subst i1;obtain ⟨a3,c3,e3,_⟩ := g3.open;subst e3;exact Prod.ext i0 (g3.uniq g3' fun r s x y hp hq hj => hp.trC.uniq hq.trC hj)
def Cel (w w' : World) : Prop := ∀ (k : Nat) (cs : Array Value) (t : TypeId) (fz : Nat × Nat),w.heap[k]? = some (Obj.cells cs t fz) → w'.heap[k]? = some (Obj.cells cs t fz)
theorem Cel.ofBelow {w w' : World} (h : Below w.heap.size w w') : Cel w w' := fun k cs t fz e => (h.block k (Array.getElem?_eq_some_iff.1 e).1).trans e
theorem Cel.cell {w w' : World} (h : Cel w w') {p : Addr} {u : Value} (hc : w.cell? p = some u) : w'.cell? p = some u := by
 cases hb : w.heap[p.block]? with
 | none => simp [World.cell?,hb] at hc
 | some o =>
  cases o with
  | cells cs t fz =>
   have := h _ _ _ _ hb;simp only [World.cell?,hb] at hc;simp only [World.cell?,this];exact hc
  | _ => simp [World.cell?,hb] at hc
theorem RowG.cel {w w1 : World} {v : Value} {size : Nat} {rs : List (List Value)} (h : RowG w v size rs) (hb : Cel w w1) : RowG w1 v size rs := by
 obtain ⟨a,cap,h1,h2,h3,h0,h4⟩ := h.form;refine ⟨a,cap,h1,h2,h3,h0,fun hne => ?_⟩;obtain ⟨g,off,h5,h6⟩ := h4 hne;exact ⟨g,off,h5,fun i c u j hc hu => hb.cell (h6 i c u j hc hu)⟩
theorem RowP.cel {α : Type} {P Q : List Value → α → Prop} {w w1 : World} {size : Nat} {v : Value} {xs : List α} (h : RowP P w size v xs) (hb : Cel w w1) (hp : ∀ r x,x ∈ xs → P r x → Q r x) : RowP Q w1 size v xs := by
 obtain ⟨rows,h1,h2,h3⟩ := h;refine ⟨rows,h1.cel hb,h2,fun i x hx => ?_⟩;obtain ⟨r,g1,g2⟩ := h3 i x hx;exact ⟨r,g1,hp r x (List.mem_of_getElem? hx) g2⟩
theorem PlnV.cel {w w1 : World} {v : Value} (h : PlnV w v) (hb : Cel w w1) : PlnV w1 v := fun g off n cap e hn => by
 obtain ⟨cs,ty,h1⟩ := h g off n cap e hn;exact ⟨cs,ty,hb _ _ _ _ h1⟩
def TrR : Nat → World → List Value → Tr → Prop
 | 0,_,_,_ => False
 | n + 1,w,r,t => ∃ ve vr,r = [.int .i64 t.kind,.int .i64 t.n,.string t.s,ve,vr] ∧ Is64 t.kind ∧ Is64 t.n ∧ t.s.size ≤ 140737488351232 ∧ Fd64 t.rest ∧ RowG w vr 4 (fdRows t.rest) ∧ RowP (EnC (TrR n w) w) w 2 ve t.es ∧ PlnV w ve ∧ PlnV w vr
abbrev TrsR (n : Nat) (w : World) (v : Value) (ts : List Tr) : Prop := RowP (TrR n w) w 5 v ts
abbrev EnsR (n : Nat) (w : World) (v : Value) (es : List (Int × List Tr)) : Prop := RowP (EnC (TrR n w) w) w 2 v es
theorem TrR.cel : ∀ {n : Nat} {w w1 : World} {r : List Value} {t : Tr},TrR n w r t → Cel w w1 → TrR n w1 r t
 | 0,_,_,_,_,h,_ => h
 | n + 1,w,w1,r,t,h,hb => by
  obtain ⟨ve,vr,h1,h2,h3,h4,h5,h6,h7,h8,h9⟩ := h;refine ⟨ve,vr,h1,h2,h3,h4,h5,h6.cel hb,h7.cel hb fun r x hx hp => ?_,h8.cel hb,h9.cel hb⟩;obtain ⟨vt,g1,g2,g3⟩ := hp;exact ⟨vt,g1,g2,RowP.cel g3 hb fun r x hx hp => hp.cel hb⟩
theorem TrR.trQ : ∀ {n : Nat} {w : World} {r : List Value} {t : Tr},TrR n w r t → TrQ n w r t
 | 0,_,_,_,h => h
 | n + 1,w,r,t,h => by
  obtain ⟨ve,vr,h1,h2,h3,h4,h5,h6,h7,h8,h9⟩ := h;refine ⟨ve,vr,h1,h2,h3,h4,h5,h6,h7.imp fun r x hx hp => ?_,h8⟩;obtain ⟨vt,g1,g2,g3⟩ := hp;exact ⟨vt,g1,g2,g3.imp fun r x hx hp => hp.trQ⟩
theorem TrO.trR : ∀ {n B : Nat} {w : World} {r : List Value} {t : Tr} {bs : List Nat},TrO n B w r t bs → TrR n w r t
 | 0,_,_,_,_,_,h => h
 | n + 1,B,w,r,t,bs,h => by
  obtain ⟨ve,vr,rows,bss,h1,h2,h3,h4,h5,h6,h7,rfl⟩ := h;refine ⟨ve,vr,h1,h2,h3,h4,h5,own_rest h6,h7.rowP (by decide) (fun r x b hx hp => ?_),own_pln h7.own,own_pln h6⟩;obtain ⟨vt,rows',bss',g1,g2,g3,rfl⟩ := hp;exact ⟨vt,g1,g2,g3.rowP (by decide) fun r x b hx hp => hp.trR⟩
theorem RowP.all {α : Type} {P : List Value → α → Prop} {w : World} {size : Nat} {v : Value} {xs : List α} (h : RowP P w size v xs) : ∀ x ∈ xs,∃ r,P r x := fun x hx => by
 obtain ⟨rows,h1,h2,h3⟩ := h;obtain ⟨i,hi,e⟩ := List.getElem_of_mem hx;obtain ⟨r,_,g2⟩ := h3 i x (by rw [List.getElem?_eq_getElem hi,e]);exact ⟨r,g2⟩
theorem TrR.dp : ∀ {n : Nat} {w : World} {r : List Value} {t : Tr},TrR n w r t → DpN n t
 | 0,_,_,_,h => h
 | n + 1,w,r,t,h => by
  obtain ⟨ve,vr,h1,h2,h3,h4,h5,h6,h7,h8,h9⟩ := h;intro e he x hx;obtain ⟨r',vt,_,_,g3⟩ := h7.all e he;obtain ⟨r'',hp⟩ := RowP.all g3 x hx;exact hp.dp
def TrW (n : Nat) (w : World) (v : Value) (t : Tr) : Prop := ∃ r,v = .agg r.toArray ∧ TrR n w r t
theorem TrW.cel {n : Nat} {w w1 : World} {v : Value} {t : Tr} (h : TrW n w v t) (hb : Cel w w1) : TrW n w1 v t := by
 obtain ⟨r,h1,h2⟩ := h;exact ⟨r,h1,h2.cel hb⟩
theorem TrV.trW {n B : Nat} {w : World} {v : Value} {t : Tr} {bs : List Nat} (h : TrV n B w v t bs) : TrW n w v t := by
 obtain ⟨r,h1,h2,_⟩ := h;exact ⟨r,h1,h2.trR⟩
theorem TrW.open {n : Nat} {w : World} {v : Value} {t : Tr} (h : TrW n w v t) : ∃ m a1 c1 a2 c2,n = m + 1 ∧ v = .agg #[.int .i64 t.kind,.int .i64 t.n,.string t.s,.slice a1 t.es.length c1,.slice a2 t.rest.length c2] ∧ Is64 t.kind ∧ Is64 t.n ∧ t.s.size ≤ 140737488351232 ∧ t.es.length ≤ c1 ∧ c1 ≤ maxLen ∧ t.rest.length ≤ c2 ∧ c2 ≤ maxLen ∧
  (t.es.length = 0 ∨ ∃ g off,a1 = some ⟨g,off,none⟩) ∧ (t.rest.length = 0 ∨ ∃ g off,a2 = some ⟨g,off,none⟩) ∧ RowG w (.slice a2 t.rest.length c2) 4 (fdRows t.rest) ∧ EnsR m w (.slice a1 t.es.length c1) t.es ∧ PlnV w (.slice a1 t.es.length c1) ∧ PlnV w (.slice a2 t.rest.length c2) := by
 obtain ⟨r,rfl,h⟩ := h
 cases n with
 | zero => exact h.elim
 | succ m =>
  obtain ⟨ve,vr,rfl,h2,h3,h4,h5,h6,h7,h8,h9⟩ := h;obtain ⟨a1,c1,rfl,u1,u2,u3, -⟩ := RowP.open h7;obtain ⟨a2,c2,rfl,x1,x2,x3, -⟩ := rest_holds h6;exact ⟨m,a1,c1,a2,c2,rfl,rfl,h2,h3,h4,u1,u2,x1,x2,u3.imp (fun h => by rw [h]; rfl) id,x3.imp (fun h => by rw [h]; rfl) id,h6,h7,h8,h9⟩
theorem trsR_get {n : Nat} {w : World} {a : Option Addr} {N cap : Nat} {ts : List Tr} (h : TrsR n w (.slice a N cap) ts) {i : Nat} {t : Tr} (hi : ts[i]? = some t) :
  ∃ g off a1 n1 c1 a2 n2 c2,a = some ⟨g,off,none⟩ ∧ w.cell? ⟨g,off + i * 5,none⟩ = some (.int .i64 t.kind) ∧ w.cell? ⟨g,off + i * 5 + 1,none⟩ = some (.int .i64 t.n) ∧ w.cell? ⟨g,off + i * 5 + 2,none⟩ = some (.string t.s) ∧ w.cell? ⟨g,off + i * 5 + 3,none⟩ = some (.slice a1 n1 c1) ∧ w.cell? ⟨g,off + i * 5 + 4,none⟩ = some (.slice a2 n2 c2) ∧
   TrW n w (.agg #[.int .i64 t.kind,.int .i64 t.n,.string t.s,.slice a1 n1 c1,.slice a2 n2 c2]) t := by
 obtain ⟨g,off,ha,r,hr,hc⟩ := RowP.get h hi;obtain ⟨m,a1,c1,a2,c2,rfl,e,_⟩ := TrW.open ⟨r,rfl,hr⟩
 have e1 : r = [.int .i64 t.kind,.int .i64 t.n,.string t.s,.slice a1 t.es.length c1,.slice a2 t.rest.length c2] := by simpa using e
 subst e1;exact ⟨g,off,a1,_,c1,a2,_,c2,ha,hc 0 _ rfl,hc 1 _ rfl,hc 2 _ rfl,hc 3 _ rfl,hc 4 _ rfl,_,rfl,hr⟩
theorem ensR_get {n : Nat} {w : World} {a : Option Addr} {N cap : Nat} {es : List (Int × List Tr)} (h : EnsR n w (.slice a N cap) es) {i : Nat} {e : Int × List Tr} (hi : es[i]? = some e) :
  ∃ g off a1 c1,a = some ⟨g,off,none⟩ ∧ w.cell? ⟨g,off + i * 2,none⟩ = some (.int .i64 e.1) ∧ w.cell? ⟨g,off + i * 2 + 1,none⟩ = some (.slice a1 e.2.length c1) ∧ Is64 e.1 ∧ TrsR n w (.slice a1 e.2.length c1) e.2 ∧ e.2.length ≤ c1 ∧ c1 ≤ maxLen := by
 obtain ⟨g,off,ha,r,⟨vt,rfl,h2,h3⟩,hc⟩ := RowP.get h hi;obtain ⟨a1,c1,rfl,u1,u2, -⟩ := RowP.open h3;exact ⟨g,off,a1,c1,ha,hc 0 _ rfl,hc 1 _ rfl,h2,h3,u1,u2⟩
theorem TrW.parts {n : Nat} {w : World} {t : Tr} {K N : Int} {S : ByteArray} {a1 a2 : Option Addr} {n1 c1 n2 c2 : Nat} (h : TrW n w (.agg #[.int .i64 K,.int .i64 N,.string S,.slice a1 n1 c1,.slice a2 n2 c2]) t) : t.kind = K ∧ t.n = N ∧ t.s = S ∧ t.es.length = n1 ∧ t.rest.length = n2 := by
 obtain ⟨m,a1',c1',a2',c2', -,e, -⟩ := h.open;simp only [Value.agg.injEq,Array.mk.injEq,List.cons.injEq,Value.int.injEq,Value.string.injEq,Value.slice.injEq,and_true,true_and] at e;obtain ⟨e1,e2,e3,⟨-,e4, -⟩, -,e5, -⟩ := e;exact ⟨e1.symm,e2.symm,e3.symm,e4.symm,e5.symm⟩
theorem eql_ptrR (w : World) (d : Nat) (p q : Option Addr) (hp : ∀ a,p = some a → ∃ cs ty,w.heap[a.block]? = some (.cells cs ty (0,0))) (hq : ∀ a,q = some a → ∃ cs ty,w.heap[a.block]? = some (.cells cs ty (0,0))) :
  (Op.equalIn (d + 1) 137 (.pointer p) (.pointer q)).run Tryz.prog w = .ok (decide (p = q)) w := by
 have hu : Tryz.prog.underlying 137 = some (.pointer 61) := by kernel_rfl
 have hi : (Tryz.prog.info? 61).map (fun i => i.size) = some 4 := by kernel_rfl
 obtain ⟨j,hj,hs⟩ : ∃ j,Tryz.prog.info? 61 = some j ∧ j.size = 4 := by
  cases h : Tryz.prog.info? 61 with
  | none => rw [h] at hi; cases hi
  | some j => rw [h] at hi; exact ⟨j,rfl,by simpa using hi⟩
 cases p with
 | none => cases q <;> simp [Op.equalIn,run_underlying hu]
 | some a =>
  cases q with
  | none => simp [Op.equalIn,run_underlying hu]
  | some b =>
   by_cases e : a = b
   ·subst e
    simp [Op.equalIn,run_underlying hu,sizeOf,typeInfo,hj,hs,run_sameAddr_same]
   ·obtain ⟨ca,ta,ha⟩ := hp a rfl;obtain ⟨cb,tb,hb⟩ := hq b rfl
    simp [Op.equalIn,run_underlying hu,sizeOf,typeInfo,hj,hs,run_sameAddr_other w e ha hb,e]
theorem plOf_ok4 {w : World} {v : Value} {l : List Fd} (h : PlnV w v) (hr : RowG w v 4 (fdRows l)) : PlOk w (plOf v) := by
 obtain ⟨a,cap,rfl,_,_,h4,_⟩ := rest_holds hr;intro b hb;unfold plOf at hb;simp only at hb
 split at hb
 ·cases hb
 ·rename_i hne
  simp only at hb;subst hb
  rcases h4 with rfl | ⟨g,off,e⟩
  ·exact absurd rfl hne
  ·simp at e
   subst e;exact h g off _ cap rfl hne
theorem pl_uniq4 {w : World} {v v' : Value} {l l' : List Fd} (h : RowG w v 4 (fdRows l)) (k : RowG w v' 4 (fdRows l')) (e : plOf v = plOf v') : l = l' := by
 obtain ⟨a,cap,rfl,_,_,h4,_⟩ := rest_holds h;obtain ⟨a',cap',rfl,_,_,h4',_⟩ := rest_holds k;unfold plOf at e;simp only at e
 by_cases hn : l.length = 0
 ·rw [if_pos hn] at e
  by_cases hn' : l'.length = 0
  ·rw [List.eq_nil_of_length_eq_zero hn,List.eq_nil_of_length_eq_zero hn']
  ·rw [if_neg hn'] at e
   simp at e
   exact absurd (e.2.symm ▸ rfl) hn'
 ·rw [if_neg hn] at e
  by_cases hn' : l'.length = 0
  ·rw [if_pos hn'] at e
   simp at e
   exact absurd e.2 (by intro h0; rw [h0] at hn; exact hn rfl)
  ·rw [if_neg hn'] at e;simp only [Prod.mk.injEq] at e;obtain ⟨rfl,e2⟩ := e;rw [← e2] at k;exact fd_uniq h k
theorem EnC.trQ {n : Nat} {w : World} {v : Value} {es : List (Int × List Tr)} (h : EnsR n w v es) : EnsQ n w v es := RowP.imp h fun r x hx hp => by
 obtain ⟨vt,g1,g2,g3⟩ := hp;exact ⟨vt,g1,g2,g3.imp fun r x hx hp => hp.trQ⟩
end
section
open Go.ChangeShapes Go.WideShapes Go.ChangeAt Go.RowKit Go.Maps
theorem cfield_any {w : World} {snm : ByteArray} {nm : Int} {am : Option Addr} {M cm : Nat} {vt : Value} {ts : List FlS} (hr : RowG w vt 5 (flRows ts)) :
  Calls Tryz.prog 58 #[.agg #[.string snm,vt,.slice am M cm],.int .i64 nm] w fun e w' => e = .returned (.tuple #[flV ((ts.find? fun m => decide (m.tag = nm)).getD zeroF),.bool (ts.find? fun m => decide (m.tag = nm)).isSome]) ∧ Below w.heap.size w w' := by
 obtain ⟨a,c,rfl,q1,q2⟩ := hr.form2
 have hN : (flRows ts).length = ts.length := by simp [flRows]
 rw [hN] at hr q1 ⊢;clear hN;obtain ⟨N,hN⟩ : ∃ N,ts.length = N := ⟨_,rfl⟩;rw [hN] at hr q1 ⊢;have HN : Hid (ts.length = N) := hN;have HR : Hid (RowG w (.slice a N c) 5 (flRows ts)) := hr;clear hN hr;obtain ⟨A,hA⟩ : ∃ A,(ts.find? fun m => decide (m.tag = nm)) = A := ⟨_,rfl⟩;rw [hA];have HA : Hid (A = ((ts.drop 0).find? fun m => decide (m.tag = nm))) := hA.symm;clear hA;have BX0 : Blk ((w.alloc (.cells #[.string snm,.slice a N c,.slice am M cm] 50)).alloc (.cells #[.string ⟨#[]⟩,.int .i64 0,.int .i64 0,.int .i64 0,.string ⟨#[]⟩] 58)) w.heap.size #[.string snm,.slice a N c,.slice am M cm] 50 := (Blk.new w _ _).below (bra _)
 have BR0 : Blk ((w.alloc (.cells #[.string snm,.slice a N c,.slice am M cm] 50)).alloc (.cells #[.string ⟨#[]⟩,.int .i64 0,.int .i64 0,.int .i64 0,.string ⟨#[]⟩] 58)) (w.heap.size + 1) #[.string ⟨#[]⟩,.int .i64 0,.int .i64 0,.int .i64 0,.string ⟨#[]⟩] 58 := by
  have := Blk.new (w.alloc (.cells #[.string snm,.slice a N c,.slice am M cm] 50)) #[.string ⟨#[]⟩,.int .i64 0,.int .i64 0,.int .i64 0,.string ⟨#[]⟩] 58
  rwa [show (w.alloc (.cells #[.string snm,.slice a N c,.slice am M cm] 50)).heap.size = w.heap.size + 1 by simp] at this
 have hb0 : Below w.heap.size w ((w.alloc (.cells #[.string snm,.slice a N c,.slice am M cm] 50)).alloc (.cells #[.string ⟨#[]⟩,.int .i64 0,.int .i64 0,.int .i64 0,.string ⟨#[]⟩] 58)) := (bra _).alloc (by simp) _
 go_enter Tryz.func58,Tryz.ntmps58
 go_wp2_with fail
 go_loopw [11] (fun iv wr => ∃ k : Nat,iv = .int .i64 (k : Int) ∧ k ≤ N ∧ Hid (A = ((ts.drop k).find? fun m => decide (m.tag = nm))) ∧ Below w.heap.size w wr ∧ Blk wr (w.heap.size + 1) #[.string ⟨#[]⟩,.int .i64 0,.int .i64 0,.int .i64 0,.string ⟨#[]⟩] 58) (fun iv _ => N - (intOf iv).toNat)
 case atStart => exact ⟨0,rfl,by omega,HA,hb0,BR0⟩
 case round =>
  obtain ⟨k,rfl,hk,HAk,hbel,BR⟩ := hrel;clear BX0 BR0 hb0;have hlt2 : w.heap.size + 1 < wr.heap.size := BR.lt;obtain ⟨r0,r1,r2,r3,r4⟩ := cl5 BR;obtain ⟨z0,z1,z2,z3,z4⟩ := fz5 BR
  by_cases hlt : k < N
  ·obtain ⟨f,hf⟩ : ∃ n,ts[k]? = some n := ⟨_,List.getElem?_eq_getElem (by rw [HN.out]; exact hlt)⟩
   have hrr : (flRows ts)[k]? = some f.cells := by simp [flRows,hf]
   obtain ⟨g,off,rfl,c1⟩ := (HR.out.below hbel).get hrr;obtain ⟨f0,f1,f2,f3,f4⟩ := f
   have HA2 : Hid (A = if decide (f1 = nm) = true then some ⟨f0,f1,f2,f3,f4⟩ else ((ts.drop (k + 1)).find? fun m => decide (m.tag = nm))) := by
    show _ = _
    rw [HAk.out,drop_at hf,List.find?_cons]
    cases decide (f1 = nm) <;> rfl
   have p0 := c1 0 _ rfl;have p1 := c1 1 _ rfl;have p2 := c1 2 _ rfl;have p3 := c1 3 _ rfl;have p4 := c1 4 _ rfl;simp only [Nat.add_zero] at p0 p1 p2 p3 p4;clear c1 hrr hf HAk
   by_cases he : f1 = nm
   ·subst he;go_wp2_with fail;refine bodyPost_ret (results_two rfl _ _ _ ⟨w.heap.size + 1,0,none⟩ (.agg #[.string f0,.int .i64 f1,.int .i64 f2,.int .i64 f3,.string f4]) (by go_simp) (by go_simp)) rfl ?_;exact ⟨ret_two (by rw [HA2.out,if_pos (by simp)]; rfl) (by rw [HA2.out,if_pos (by simp)]; rfl),(Below.alloc (Below.setCell (Below.setCell (Below.setCell (Below.setCell (Below.setCell hbel (by simp) _) (by simp) _) (by simp) _) (by simp) _) (by simp) _) (by simp; omega) _)⟩
   ·have hq : (f1 == nm) = false := by simpa using he
    have HA3 : Hid (A = ((ts.drop (k + 1)).find? fun m => decide (m.tag = nm))) := by show _ = _; rw [HA2.out,if_neg (by simpa using he)]
    have hb2 : Below w.heap.size w (wr.alloc (.cells #[.string f0,.int .i64 f1,.int .i64 f2,.int .i64 f3,.string f4] 58)) := hbel.alloc (by omega) _;have BR2 : Blk (wr.alloc (.cells #[.string f0,.int .i64 f1,.int .i64 f2,.int .i64 f3,.string f4] 58)) (w.heap.size + 1) #[.string ⟨#[]⟩,.int .i64 0,.int .i64 0,.int .i64 0,.string ⟨#[]⟩] 58 := BR.below (bra _);go_wp2_with fail
    go_roundw
    case rel => exact ⟨k + 1,by go_num,by omega,HA3,hb2,BR2⟩
    case measure => simp [intOf]; omega
  ·have HA2 : Hid (A = none) := by show _ = _; rw [HAk.out,drop_end (by rw [HN.out]; omega)]; rfl
   go_wp2_with fail;refine bodyPost_ret (results_two rfl _ _ _ ⟨w.heap.size + 1,0,none⟩ (.agg #[.string ⟨#[]⟩,.int .i64 0,.int .i64 0,.int .i64 0,.string ⟨#[]⟩]) (by go_simp) (by go_simp)) rfl ?_;exact ⟨ret_two (by rw [HA2.out]; rfl) (by rw [HA2.out]; rfl),(Below.setCell (Below.setCell (Below.setCell (Below.setCell (Below.setCell hbel (by simp) _) (by simp) _) (by simp) _) (by simp) _) (by simp) _)⟩
end
section
open Go.ChangeShapes Go.WideShapes Go.ChangeAt Go.RowKit
theorem number_any (k n : Int) (nm : ByteArray) (w : World) : Calls Tryz.prog 108 #[.agg #[.int .i64 k,.string nm],.int .i64 n] w fun e w' => e = .returned (.bool (nmrB k n)) ∧ Below w.heap.size w w' := by
 have hb : Below w.heap.size w (w.alloc (Obj.cells #[.int .i64 k,.string nm] 56)) := bra _
 have rng : n < -2147483648 ∨ (-2147483648 ≤ n ∧ n < 0) ∨ (0 ≤ n ∧ n ≤ 1) ∨ (1 < n ∧ n ≤ 2147483647) ∨ 2147483647 < n := by omega
 have kk : k = 3 ∨ k = 6 ∨ k = 1 ∨ k = 2 ∨ (¬ k = 3 ∧ ¬ k = 6 ∧ ¬ k = 1 ∧ ¬ k = 2) := by omega
 rcases rng with g | g | g | g | g
 ·have f1 : decide (1 < n) = false := by simp; omega
  have f2 : decide (n < 0) = true := by simp; omega
  have f3 : decide (n < -2147483648) = true := by simp; omega
  have f4 : decide (2147483647 < n) = false := by simp; omega
  rcases kk with rfl | rfl | rfl | rfl | ⟨h3,h6,h1,h2⟩
  ·have hr : nmrB 3 n = false := by simp [nmrB]; omega
   rw [hr];clear hr g
   go_enter Tryz.func108,Tryz.ntmps108
   go_wp2_with fail;go_ret;exact ⟨rfl,hb⟩
  ·have hr : nmrB 6 n = false := by simp [nmrB]; omega
   rw [hr];clear hr g
   go_enter Tryz.func108,Tryz.ntmps108
   go_wp2_with fail;go_ret;exact ⟨rfl,hb⟩
  ·have hr : nmrB 1 n = false := by simp [nmrB]; omega
   rw [hr];clear hr g
   go_enter Tryz.func108,Tryz.ntmps108
   go_wp2_with fail;go_ret;exact ⟨rfl,hb⟩
  ·have hr : nmrB 2 n = true := by simp [nmrB]
   rw [hr];clear hr g
   go_enter Tryz.func108,Tryz.ntmps108
   go_wp2_with fail;go_ret;exact ⟨rfl,hb⟩
  ·have e1 : (k == 1) = false := by simpa using h1
   have e2 : (k == 2) = false := by simpa using h2
   have e3 : (k == 3) = false := by simpa using h3
   have e6 : (k == 6) = false := by simpa using h6
   have hr : nmrB k n = false := by simp [nmrB,h3,h6,h1,h2]
   rw [hr];clear h1 h2 h3 h6 hr g
   go_enter Tryz.func108,Tryz.ntmps108
   go_wp2_with fail;go_ret;exact ⟨rfl,hb⟩
 ·have f1 : decide (1 < n) = false := by simp; omega
  have f2 : decide (n < 0) = true := by simp; omega
  have f3 : decide (n < -2147483648) = false := by simp; omega
  have f4 : decide (2147483647 < n) = false := by simp; omega
  rcases kk with rfl | rfl | rfl | rfl | ⟨h3,h6,h1,h2⟩
  ·have hr : nmrB 3 n = false := by simp [nmrB]; omega
   rw [hr];clear hr g
   go_enter Tryz.func108,Tryz.ntmps108
   go_wp2_with fail;go_ret;exact ⟨rfl,hb⟩
  ·have hr : nmrB 6 n = false := by simp [nmrB]; omega
   rw [hr];clear hr g
   go_enter Tryz.func108,Tryz.ntmps108
   go_wp2_with fail;go_ret;exact ⟨rfl,hb⟩
  ·have hr : nmrB 1 n = true := by simp [nmrB]; omega
   rw [hr];clear hr g
   go_enter Tryz.func108,Tryz.ntmps108
   go_wp2_with fail;go_ret;exact ⟨rfl,hb⟩
  ·have hr : nmrB 2 n = true := by simp [nmrB]
   rw [hr];clear hr g
   go_enter Tryz.func108,Tryz.ntmps108
   go_wp2_with fail;go_ret;exact ⟨rfl,hb⟩
  ·have e1 : (k == 1) = false := by simpa using h1
   have e2 : (k == 2) = false := by simpa using h2
   have e3 : (k == 3) = false := by simpa using h3
   have e6 : (k == 6) = false := by simpa using h6
   have hr : nmrB k n = false := by simp [nmrB,h3,h6,h1,h2]
   rw [hr];clear h1 h2 h3 h6 hr g
   go_enter Tryz.func108,Tryz.ntmps108
   go_wp2_with fail;go_ret;exact ⟨rfl,hb⟩
 ·have f1 : decide (1 < n) = false := by simp; omega
  have f2 : decide (n < 0) = false := by simp; omega
  have f3 : decide (n < -2147483648) = false := by simp; omega
  have f4 : decide (2147483647 < n) = false := by simp; omega
  rcases kk with rfl | rfl | rfl | rfl | ⟨h3,h6,h1,h2⟩
  ·have hr : nmrB 3 n = true := by simp [nmrB]; omega
   rw [hr];clear hr g
   go_enter Tryz.func108,Tryz.ntmps108
   go_wp2_with fail;go_ret;exact ⟨rfl,hb⟩
  ·have hr : nmrB 6 n = true := by simp [nmrB]; omega
   rw [hr];clear hr g
   go_enter Tryz.func108,Tryz.ntmps108
   go_wp2_with fail;go_ret;exact ⟨rfl,hb⟩
  ·have hr : nmrB 1 n = true := by simp [nmrB]; omega
   rw [hr];clear hr g
   go_enter Tryz.func108,Tryz.ntmps108
   go_wp2_with fail;go_ret;exact ⟨rfl,hb⟩
  ·have hr : nmrB 2 n = true := by simp [nmrB]
   rw [hr];clear hr g
   go_enter Tryz.func108,Tryz.ntmps108
   go_wp2_with fail;go_ret;exact ⟨rfl,hb⟩
  ·have e1 : (k == 1) = false := by simpa using h1
   have e2 : (k == 2) = false := by simpa using h2
   have e3 : (k == 3) = false := by simpa using h3
   have e6 : (k == 6) = false := by simpa using h6
   have hr : nmrB k n = false := by simp [nmrB,h3,h6,h1,h2]
   rw [hr];clear h1 h2 h3 h6 hr g
   go_enter Tryz.func108,Tryz.ntmps108
   go_wp2_with fail;go_ret;exact ⟨rfl,hb⟩
 ·have f1 : decide (1 < n) = true := by simp; omega
  have f2 : decide (n < 0) = false := by simp; omega
  have f3 : decide (n < -2147483648) = false := by simp; omega
  have f4 : decide (2147483647 < n) = false := by simp; omega
  rcases kk with rfl | rfl | rfl | rfl | ⟨h3,h6,h1,h2⟩
  ·have hr : nmrB 3 n = false := by simp [nmrB]; omega
   rw [hr];clear hr g
   go_enter Tryz.func108,Tryz.ntmps108
   go_wp2_with fail;go_ret;exact ⟨rfl,hb⟩
  ·have hr : nmrB 6 n = true := by simp [nmrB]; omega
   rw [hr];clear hr g
   go_enter Tryz.func108,Tryz.ntmps108
   go_wp2_with fail;go_ret;exact ⟨rfl,hb⟩
  ·have hr : nmrB 1 n = true := by simp [nmrB]; omega
   rw [hr];clear hr g
   go_enter Tryz.func108,Tryz.ntmps108
   go_wp2_with fail;go_ret;exact ⟨rfl,hb⟩
  ·have hr : nmrB 2 n = true := by simp [nmrB]
   rw [hr];clear hr g
   go_enter Tryz.func108,Tryz.ntmps108
   go_wp2_with fail;go_ret;exact ⟨rfl,hb⟩
  ·have e1 : (k == 1) = false := by simpa using h1
   have e2 : (k == 2) = false := by simpa using h2
   have e3 : (k == 3) = false := by simpa using h3
   have e6 : (k == 6) = false := by simpa using h6
   have hr : nmrB k n = false := by simp [nmrB,h3,h6,h1,h2]
   rw [hr];clear h1 h2 h3 h6 hr g
   go_enter Tryz.func108,Tryz.ntmps108
   go_wp2_with fail;go_ret;exact ⟨rfl,hb⟩
 ·have f1 : decide (1 < n) = true := by simp; omega
  have f2 : decide (n < 0) = false := by simp; omega
  have f3 : decide (n < -2147483648) = false := by simp; omega
  have f4 : decide (2147483647 < n) = true := by simp; omega
  rcases kk with rfl | rfl | rfl | rfl | ⟨h3,h6,h1,h2⟩
  ·have hr : nmrB 3 n = false := by simp [nmrB]; omega
   rw [hr];clear hr g
   go_enter Tryz.func108,Tryz.ntmps108
   go_wp2_with fail;go_ret;exact ⟨rfl,hb⟩
  ·have hr : nmrB 6 n = false := by simp [nmrB]; omega
   rw [hr];clear hr g
   go_enter Tryz.func108,Tryz.ntmps108
   go_wp2_with fail;go_ret;exact ⟨rfl,hb⟩
  ·have hr : nmrB 1 n = false := by simp [nmrB]; omega
   rw [hr];clear hr g
   go_enter Tryz.func108,Tryz.ntmps108
   go_wp2_with fail;go_ret;exact ⟨rfl,hb⟩
  ·have hr : nmrB 2 n = true := by simp [nmrB]
   rw [hr];clear hr g
   go_enter Tryz.func108,Tryz.ntmps108
   go_wp2_with fail;go_ret;exact ⟨rfl,hb⟩
  ·have e1 : (k == 1) = false := by simpa using h1
   have e2 : (k == 2) = false := by simpa using h2
   have e3 : (k == 3) = false := by simpa using h3
   have e6 : (k == 6) = false := by simpa using h6
   have hr : nmrB k n = false := by simp [nmrB,h3,h6,h1,h2]
   rw [hr];clear h1 h2 h3 h6 hr g
   go_enter Tryz.func108,Tryz.ntmps108
   go_wp2_with fail;go_ret;exact ⟨rfl,hb⟩
theorem size_empty {s : ByteArray} (h : s.size = 0) : s = ⟨#[]⟩ := by
 obtain ⟨⟨l⟩⟩ := s
 cases l with
 | nil => rfl
 | cons a l => simp [ByteArray.size] at h
theorem zero_any (t : Tr) (a1 a2 : Option Addr) (n1 c1 n2 c2 : Nat) (w : World) (h1 : n1 = t.es.length) (h2 : n2 = t.rest.length) : Calls Tryz.prog 111 #[.agg #[.int .i64 t.kind,.int .i64 t.n,.string t.s,.slice a1 n1 c1,.slice a2 n2 c2]] w fun e w' => e = .returned (.bool (zroB t)) ∧ Below w.heap.size w w' := by
 have hb : Below w.heap.size w (w.alloc (Obj.cells #[.int .i64 t.kind,.int .i64 t.n,.string t.s,.slice a1 n1 c1,.slice a2 n2 c2] 33)) := bra _
 have hz : zroB t = (decide (t.kind = 1 ∨ t.kind = 2 ∨ t.kind = 3) && decide (t.n = 0) && decide (t.s.size = 0) && decide (n1 = 0) && decide (n2 = 0)) := by rw [zroB,h1,h2]
 rw [hz];clear hz h1 h2;generalize t.kind = K at *;generalize t.n = N at *;generalize t.s = S at *
 have kk : K = 1 ∨ K = 2 ∨ K = 3 ∨ (¬ K = 1 ∧ ¬ K = 2 ∧ ¬ K = 3) := by omega
 rcases kk with rfl | rfl | rfl | ⟨h1,h2,h3⟩
 ·by_cases hN : N = 0
  ·subst hN
   by_cases hS : S.size = 0
   ·obtain rfl := size_empty hS
    by_cases h1 : n1 = 0
    ·subst h1
     by_cases h2 : n2 = 0
     ·subst h2
      go_enter Tryz.func111,Tryz.ntmps111
      go_wp2_with fail;go_ret;exact ⟨rfl,hb⟩
     ·have d2 : ((n2 : Int) == 0) = false := by simp; omega
      simp only [decide_eq_false h2,Bool.and_false];clear h2
      go_enter Tryz.func111,Tryz.ntmps111
      go_wp2_with fail;go_ret;exact ⟨rfl,hb⟩
    ·have d1 : ((n1 : Int) == 0) = false := by simp; omega
     simp only [decide_eq_false h1,Bool.and_false,Bool.false_and];clear h1
     go_enter Tryz.func111,Tryz.ntmps111
     go_wp2_with fail;go_ret;exact ⟨rfl,hb⟩
   ·have dS : (S.toList == ([] : List UInt8)) = false := by rw [ByteArray.toList_eq]; simp; intro e; exact hS (by rw [← ByteArray.size_data,e]; rfl)
    simp only [decide_eq_false hS,Bool.and_false,Bool.false_and];clear hS
    go_enter Tryz.func111,Tryz.ntmps111
    go_wp2_with fail;go_ret;exact ⟨rfl,hb⟩
  ·have dN : (N == 0) = false := by simpa using hN
   simp only [decide_eq_false hN,Bool.and_false,Bool.false_and];clear hN
   go_enter Tryz.func111,Tryz.ntmps111
   go_wp2_with fail;go_ret;exact ⟨rfl,hb⟩
 ·by_cases hN : N = 0
  ·subst hN
   by_cases hS : S.size = 0
   ·obtain rfl := size_empty hS
    by_cases h1 : n1 = 0
    ·subst h1
     by_cases h2 : n2 = 0
     ·subst h2
      go_enter Tryz.func111,Tryz.ntmps111
      go_wp2_with fail;go_ret;exact ⟨rfl,hb⟩
     ·have d2 : ((n2 : Int) == 0) = false := by simp; omega
      simp only [decide_eq_false h2,Bool.and_false];clear h2
      go_enter Tryz.func111,Tryz.ntmps111
      go_wp2_with fail;go_ret;exact ⟨rfl,hb⟩
    ·have d1 : ((n1 : Int) == 0) = false := by simp; omega
     simp only [decide_eq_false h1,Bool.and_false,Bool.false_and];clear h1
     go_enter Tryz.func111,Tryz.ntmps111
     go_wp2_with fail;go_ret;exact ⟨rfl,hb⟩
   ·have dS : (S.toList == ([] : List UInt8)) = false := by rw [ByteArray.toList_eq]; simp; intro e; exact hS (by rw [← ByteArray.size_data,e]; rfl)
    simp only [decide_eq_false hS,Bool.and_false,Bool.false_and];clear hS
    go_enter Tryz.func111,Tryz.ntmps111
    go_wp2_with fail;go_ret;exact ⟨rfl,hb⟩
  ·have dN : (N == 0) = false := by simpa using hN
   simp only [decide_eq_false hN,Bool.and_false,Bool.false_and];clear hN
   go_enter Tryz.func111,Tryz.ntmps111
   go_wp2_with fail;go_ret;exact ⟨rfl,hb⟩
 ·by_cases hN : N = 0
  ·subst hN
   by_cases hS : S.size = 0
   ·obtain rfl := size_empty hS
    by_cases h1 : n1 = 0
    ·subst h1
     by_cases h2 : n2 = 0
     ·subst h2
      go_enter Tryz.func111,Tryz.ntmps111
      go_wp2_with fail;go_ret;exact ⟨rfl,hb⟩
     ·have d2 : ((n2 : Int) == 0) = false := by simp; omega
      simp only [decide_eq_false h2,Bool.and_false];clear h2
      go_enter Tryz.func111,Tryz.ntmps111
      go_wp2_with fail;go_ret;exact ⟨rfl,hb⟩
    ·have d1 : ((n1 : Int) == 0) = false := by simp; omega
     simp only [decide_eq_false h1,Bool.and_false,Bool.false_and];clear h1
     go_enter Tryz.func111,Tryz.ntmps111
     go_wp2_with fail;go_ret;exact ⟨rfl,hb⟩
   ·have dS : (S.toList == ([] : List UInt8)) = false := by rw [ByteArray.toList_eq]; simp; intro e; exact hS (by rw [← ByteArray.size_data,e]; rfl)
    simp only [decide_eq_false hS,Bool.and_false,Bool.false_and];clear hS
    go_enter Tryz.func111,Tryz.ntmps111
    go_wp2_with fail;go_ret;exact ⟨rfl,hb⟩
  ·have dN : (N == 0) = false := by simpa using hN
   simp only [decide_eq_false hN,Bool.and_false,Bool.false_and];clear hN
   go_enter Tryz.func111,Tryz.ntmps111
   go_wp2_with fail;go_ret;exact ⟨rfl,hb⟩
 ·have e1 : (K == 1) = false := by simpa using h1
  have e2 : (K == 2) = false := by simpa using h2
  have e3 : (K == 3) = false := by simpa using h3
  have hk : decide (K = 1 ∨ K = 2 ∨ K = 3) = false := by simp [h1,h2,h3]
  simp only [hk,Bool.false_and];clear h1 h2 h3 hk
  go_enter Tryz.func111,Tryz.ntmps111
  go_wp2_with fail;go_ret;exact ⟨rfl,hb⟩
end
section
section
variable {P : Program} {md : Region.Mode} {ops : Array Oper} {Q : Exit → Act → World → Prop} {T : World → Prop} {m : Nat}
theorem M_runA {oi : Oper} {fuel : Nat} {listed listed' : Array Bool} {a : Act} {w : World} (i d : Nat) (v : Value) (w' : World) (hi : ops[i]? = some oi) (hd : oi.dst = some d)
  (hr : Region.ready md ops listed = [i]) (hwt : Region.wanted oi (yielded ops a.tmps) = true) (hl : listed.setIfInBounds i true = listed') (hx : (execOp a.eval oi).run P w = .ok (.value v) w') (hm : listed'.getD m true = true)
  (h : wpAnyM P md ops Q T m fuel listed' { a with tmps := a.tmps.setIfInBounds d v } w') : wpAnyM P md ops Q T m (fuel + 1) listed a w := by
 subst hl;refine ⟨fun h0 => (by rw [hr] at h0; cases h0),fun j hj => ?_⟩;rw [hr,List.mem_singleton] at hj;subst hj;unfold wpOp;simp only [hi];rw [if_pos hwt];refine .inl ?_;unfold Oper.wp;rw [hx,Oper.upon_value,hd];exact ⟨fun h0 => (by rw [hm] at h0; cases h0),h⟩
theorem M_rA {oi : Oper} {fuel : Nat} {listed : Array Bool} {a : Act} {w : World} (i d : Nat) (v : Value) (w' : World) (listed' : Array Bool) (hi : ops[i]? = some oi) (hx : (execOp a.eval oi).run P w = .ok (.value v) w')
  (h : wpAnyM P md ops Q T m fuel listed' { a with tmps := a.tmps.setIfInBounds d v } w') (hd : oi.dst = some d := by rfl) (hr : Region.ready md ops listed = [i] := by kernel_rfl) (hwt : Region.wanted oi (yielded ops a.tmps) = true := by rfl) (hl : listed.setIfInBounds i true = listed' := by kernel_rfl) (hm : listed'.getD m true = true := by kernel_rfl) : wpAnyM P md ops Q T m (fuel + 1) listed a w :=
 M_runA i d v w' hi hd hr hwt hl hx hm h
theorem M_storeT {oi : Oper} {fuel : Nat} {listed listed' : Array Bool} {a : Act} {w : World} (i : Nat) (w' : World) (hi : ops[i]? = some oi) (hd : oi.dst = none)
  (hr : Region.ready md ops listed = [i]) (hwt : Region.wanted oi (yielded ops a.tmps) = true) (hl : listed.setIfInBounds i true = listed') (hx : (execOp a.eval oi).run P w = .ok .skip w') (hT : T w')
  (h : wpAnyM P md ops Q T m fuel listed' a w') : wpAnyM P md ops Q T m (fuel + 1) listed a w := by
 subst hl;refine ⟨fun h0 => (by rw [hr] at h0; cases h0),fun j hj => ?_⟩;rw [hr,List.mem_singleton] at hj;subst hj;unfold wpOp;simp only [hi];rw [if_pos hwt];refine .inl ?_;unfold Oper.wp;rw [hx,Oper.upon_skip,hd];exact ⟨fun _ => hT,h⟩
theorem M_sT {oi : Oper} {fuel : Nat} {listed : Array Bool} {a : Act} {w : World} (i : Nat) (w' : World) (listed' : Array Bool) (hi : ops[i]? = some oi) (hx : (execOp a.eval oi).run P w = .ok .skip w') (hT : T w') (h : wpAnyM P md ops Q T m fuel listed' a w') (hd : oi.dst = none := by rfl) (hr : Region.ready md ops listed = [i] := by kernel_rfl) (hwt : Region.wanted oi (yielded ops a.tmps) = true := by rfl) (hl : listed.setIfInBounds i true = listed' := by kernel_rfl) : wpAnyM P md ops Q T m (fuel + 1) listed a w :=
 M_storeT i w' hi hd hr hwt hl hx hT h
end
end
end Go.Proofs.YtiajaocckkghgaaGreat

/- Part 13 of what the proof stands on. -/
import Derived.Test.YtmgbhicogmclgaaGreatPkWAL
namespace Go.Proofs.YtmgbhicogmclgaaGreat
set_option maxHeartbeats 8000000
set_option linter.unusedVariables false
set_option linter.unusedSimpArgs false
set_option maxRecDepth 20000
section
theorem digs_up (a : Nat) : ∀ b,a ≤ b → (digs a).length ≤ (digs b).length := by
 refine digs_ind (M := fun a => ∀ b,a ≤ b → (digs a).length ≤ (digs b).length) (fun a ha b hb => ?_) (fun a ha ih b hb => ?_) a
 ·rw [digs_small ha];exact List.length_pos_iff.2 (digs_ne b)
 ·rw [digs_big ha,digs_big (show ¬ b < 128 by omega),List.length_cons,List.length_cons];have := ih (b / 128) (Nat.div_le_div_right hb)
  omega
theorem mergeF_perm : ∀ (high low : List Fd),(mergeF low high).Perm (low ++ high)
 | [],low => by simp [mergeF]
 | h :: hs,low => by
  have ih := mergeF_perm hs (low.drop (upN low h.tag));rw [mergeF];have h1 : (low.take (upN low h.tag) ++ h :: mergeF (low.drop (upN low h.tag)) hs).Perm (low.take (upN low h.tag) ++ h :: (low.drop (upN low h.tag) ++ hs)) := List.Perm.append_left _ (ih.cons h);have h2 : (low.take (upN low h.tag) ++ h :: (low.drop (upN low h.tag) ++ hs)).Perm (low.take (upN low h.tag) ++ (low.drop (upN low h.tag) ++ h :: hs)) := List.Perm.append_left _ List.perm_middle.symm;refine (h1.trans h2).trans ?_;rw [← List.append_assoc,List.take_append_drop]
theorem sortF_permK : ∀ (k : Nat) (l : List Fd),l.length ≤ k → (sortF l).Perm l
 | 0,l,h => by
  obtain rfl : l = [] := List.eq_nil_of_length_eq_zero (by omega);rw [sortF_id rfl]
 | k + 1,l,h => by
  cases hr : risesB l with
  | true => rw [sortF_id hr]
  | false =>
   have h2 := rises_short hr;have a := sortF_permK k (l.take (l.length / 2)) (by rw [List.length_take]; omega);have b := sortF_permK k (l.drop (l.length / 2)) (by rw [List.length_drop]; omega);rw [sortF_on hr];refine (mergeF_perm _ _).trans ?_;have := a.append b
   rwa [List.take_append_drop] at this
theorem sortF_perm (l : List Fd) : (sortF l).Perm l := sortF_permK _ l (Nat.le_refl _)
def wid (l : List Fd) : Nat := (l.map fun r => (fieldN r).length).sum
theorem wid_flat (l : List Fd) : (flatN l).length = wid l := by
 induction l with
 | nil => rfl
 | cons r l ih => rw [flatN_cons,List.length_append,ih]; simp [wid]
theorem wid_app (a b : List Fd) : wid (a ++ b) = wid a + wid b := by simp [wid]
theorem wid_perm {a b : List Fd} (h : a.Perm b) : wid a = wid b := (h.map _).sum_nat
def widE (B : Tr → List Nat × Nat) (es : List (Int × List Tr)) : Nat := wid ((fsE B es).map (·.1))
theorem widE_app (B : Tr → List Nat × Nat) (a b : List (Int × List Tr)) : widE B (a ++ b) = widE B a + widE B b := by simp [widE,fsE,wid_app]
theorem widE_one (B : Tr → List Nat × Nat) (e : Int × List Tr) (es : List (Int × List Tr)) : widE B (e :: es) = wid ((enE B e).map (·.1)) + widE B es := by simp [widE,fsE,wid_app]
theorem widE_two (B : Tr → List Nat × Nat) (t : Int) (es : List (Int × List Tr)) : widE B (es.filter fun e => decide (e.1 < t)) + widE B (es.filter fun e => decide (t < e.1)) = widE B (delE t es) := by
 induction es with
 | nil => simp [widE,fsE,delE,wid]
 | cons a l ih =>
  simp only [delE] at ih ⊢;simp only [List.filter_cons]
  by_cases h1 : a.1 < t
  ·have h2 : ¬ t < a.1 := by omega
   have h3 : a.1 ≠ t := by omega
   simp only [h1,h2,h3,decide_true,decide_false,if_true,ne_eq,not_false_eq_true,Bool.false_eq_true,if_false,widE_one] at ih ⊢
   omega
  ·by_cases h2 : t < a.1
   ·have h3 : a.1 ≠ t := by omega
    simp only [h1,h2,h3,decide_true,decide_false,if_true,ne_eq,not_false_eq_true,Bool.false_eq_true,if_false,widE_one] at ih ⊢
    omega
   ·have h3 : a.1 = t := by omega
    simp only [h3,Int.lt_irrefl,decide_false,ne_eq,not_true_eq_false,Bool.false_eq_true,if_false] at ih ⊢;exact ih
theorem widE_set (B : Tr → List Nat × Nat) (t : Int) (x : List Tr) (es : List (Int × List Tr)) : widE B (setE t x es) = wid ((enE B (t,x)).map (·.1)) + widE B (delE t es) := by
 rw [← widE_two B t es];unfold setE;rw [widE_app,widE_one]
 omega
theorem del_none {α : Type} {es : List (Int × α)} {t : Int} (h : ∀ e ∈ es,e.1 ≠ t) : delE t es = es := List.filter_eq_self.2 fun e he => by simpa using h e he
theorem widE_del (B : Tr → List Nat × Nat) (t : Int) : ∀ {es : List (Int × List Tr)},RisE es → widE B (delE t es) + wid ((enE B (t,undE es t)).map (·.1)) = widE B es
 | [],_ => by simp [widE,fsE,delE,wid,undE,enE]
 | e :: l,hr => by
  have hr' := hr;rw [RisE,List.pairwise_cons] at hr;have ih := widE_del B t hr.2
  by_cases h1 : e.1 = t
  ·have h2 : ∀ p ∈ l,p.1 ≠ t := fun p hp => by have := hr.1 p hp; omega
   have h3 : undE (e :: l) t = e.2 := by rw [← h1]; exact und_mem hr' (List.mem_cons_self ..)
   have h4 : delE t (e :: l) = l := by
    have : delE t (e :: l) = delE t l := by simp [delE,h1]
    rw [this,del_none h2]
   have h5 : enE B (e.1,e.2) = enE B e := rfl;rw [h3,h4,widE_one,← h1,h5]
   omega
  ·have h3 : undE (e :: l) t = undE l t := by simp [undE,List.find?_cons,h1]
   have h4 : delE t (e :: l) = e :: delE t l := by simp [delE,h1]
   rw [h3,h4,widE_one,widE_one]
   omega
structure Cost (B : Tr → List Nat × Nat) (l : List Fd) (st : Ds) : Prop where
 ris : RisE st.es
 ok : ∀ e ∈ st.es,∀ x ∈ e.2,(flE B e.1 x).2 = 0 ∧ okF (flE B e.1 x).1 = true
 wid : widE B st.es + wid st.rest ≤ wid l
 rest : ∀ r ∈ st.rest,okF r = true
theorem ok_num {r : Fd} (h : okF r = true) (hw : r.wire = 0) : r = ⟨r.tag,0,r.n,⟨#[]⟩⟩ := by
 obtain ⟨t,k,n,b⟩ := r;simp only at hw;subst hw;simp only [okF,okV,Bool.and_eq_true,Bool.or_eq_true,decide_eq_true_eq,beq_iff_eq,toList_empty] at h
 rcases h.2 with h1 | h1
 ·rw [h1.2]
 ·exact absurd h1.1.1 (by decide)
theorem ok_txt {r : Fd} (h : okF r = true) (hw : r.wire = 1) : r = ⟨r.tag,1,0,r.b⟩ ∧ r.b.size ≤ 4096 := by
 obtain ⟨t,k,n,b⟩ := r;simp only at hw;subst hw;simp only [okF,okV,Bool.and_eq_true,Bool.or_eq_true,decide_eq_true_eq,beq_iff_eq,toList_empty] at h
 rcases h.2 with h1 | h1
 ·exact absurd h1.1 (by decide)
 ·rw [h1.1.2]; exact ⟨rfl,by have := h1.2; simp only; omega⟩
theorem ok_put {r : Fd} (h : okF r = true) (b : ByteArray) (hb : b.size ≤ 4096) : okF ⟨r.tag,1,0,b⟩ = true := by
 simp only [okF,okV,Bool.and_eq_true,Bool.or_eq_true,decide_eq_true_eq,beq_iff_eq] at h ⊢;exact ⟨h.1,.inr ⟨⟨trivial,trivial⟩,by omega⟩⟩
theorem tree_cost {M : ByteArray → List Nat → Tr × Int} {B : Tr → List Nat × Nat} {f : FlS} {r : Fd} (ho : okF r = true) (h : (treeD M f r).2 = 0) (h3 : ∀ nm ns,(M nm ns).2 = 0 → (M nm ns).1.kind = 3) (hB : ∀ x,(B x).1.length ≤ 4096)
  (IH : ∀ nm ns,(∀ k ∈ ns,k < 256) → (M nm ns).2 = 0 → (B (M nm ns).1).2 = 0 ∧ (B (M nm ns).1).1.length ≤ ns.length) :
  (flE B r.tag (treeD M f r).1).2 = 0 ∧ okF (flE B r.tag (treeD M f r).1).1 = true ∧ (fieldN (flE B r.tag (treeD M f r).1).1).length ≤ (fieldN r).length := by
 have hf : r.wire = wirK f.kind := by
  by_cases e : r.wire = wirK f.kind
  ·exact e
  ·simp [treeD,e] at h
 unfold treeD at h ⊢;rw [if_neg (by simpa using hf)] at h ⊢
 split at h
 ·exact absurd h (by decide)
 rename_i h1
 rw [if_neg h1]
 split at h
 ·exact absurd h (by decide)
 rename_i h2
 rw [if_neg h2]
 split at h
 ·rename_i h7
  rw [if_pos h7];have hk := h3 _ _ h;obtain ⟨g1,g2⟩ := IH f.tname (bytesN r.b) (bytesN_lt _) h;generalize (M f.tname (bytesN r.b)).1 = x at hk g1 g2 ⊢
  have hw : r.wire = 1 := by rw [hf]; simp [wirK,h7]
  obtain ⟨e1,e2⟩ := ok_txt ho hw
  have ef : flE B r.tag x = (⟨r.tag,1,0,strN (B x).1⟩,0) := by rw [flE,if_neg (by rw [hk]; decide),if_neg (by rw [hk]; decide),if_neg (by simpa using g1)]
  rw [ef];have hsz : (strN (B x).1).size = (B x).1.length := strN_size _;refine ⟨rfl,ok_put ho _ (by rw [hsz]; exact hB x),?_⟩;rw [bytesN_len] at g2
  conv => rhs; rw [e1]
  have hm := digs_up _ _ g2;simp only [fieldN,List.length_append,bytesN_len,hsz];rw [if_neg (by decide),if_neg (by decide)];simp only [List.length_append,bytesN_len,hsz]
  omega
 ·rename_i h7
  rw [if_neg h7];simp only [leafD]
  by_cases hw : r.wire = 1
  ·rw [if_pos hw];obtain ⟨e1,e2⟩ := ok_txt ho hw
   have ef : flE B r.tag ⟨2,0,r.b,[],[]⟩ = (r,0) := by rw [flE,if_neg (by simp),if_pos rfl,if_neg (by simp only; omega),← e1]
   rw [ef];exact ⟨rfl,ho,Nat.le_refl _⟩
  ·rw [if_neg hw]
   have hw0 : r.wire = 0 := by
    rw [hf] at hw ⊢;unfold wirK at hw ⊢
    split
    ·rename_i e; rw [if_pos e] at hw; exact absurd rfl hw
    ·rfl
   have e1 := ok_num ho hw0
   have ef : flE B r.tag ⟨1,r.n,⟨#[]⟩,[],[]⟩ = (r,0) := by rw [flE,if_pos rfl,← e1]
   rw [ef];exact ⟨rfl,ho,Nat.le_refl _⟩
theorem Cost.nil (B : Tr → List Nat × Nat) : Cost B [] ⟨[],[]⟩ := ⟨List.Pairwise.nil,by simp,by simp [widE,fsE,Go.Proofs.YtmgbhicogmclgaaGreat.wid],by simp⟩
theorem Cost.step {M : ByteArray → List Nat → Tr × Int} {B : Tr → List Nat × Nat} {fs : List FlS} {l : List Fd} {st : Ds} {r : Fd} (h : Cost B l st) (ho : okF r = true) (h3 : ∀ nm ns,(M nm ns).2 = 0 → (M nm ns).1.kind = 3) (hB : ∀ x,(B x).1.length ≤ 4096)
  (IH : ∀ nm ns,(∀ k ∈ ns,k < 256) → (M nm ns).2 = 0 → (B (M nm ns).1).2 = 0 ∧ (B (M nm ns).1).1.length ≤ ns.length) (h0 : (oneD M fs st r).2 = 0) : Cost B (l ++ [r]) (oneD M fs st r).1 := by
 have hw := h.wid
 have hw1 : Go.Proofs.YtmgbhicogmclgaaGreat.wid (l ++ [r]) = Go.Proofs.YtmgbhicogmclgaaGreat.wid l + (fieldN r).length := by simp [Go.Proofs.YtmgbhicogmclgaaGreat.wid]
 cases hf : fldOf fs r.tag with
 | none =>
  have e1 : oneD M fs st r = (⟨st.es,st.rest ++ [r]⟩,0) := by simp [oneD,hf]
  rw [e1];refine ⟨h.ris,h.ok,?_,fun x hx => ?_⟩
  ·have : Go.Proofs.YtmgbhicogmclgaaGreat.wid (st.rest ++ [r]) = Go.Proofs.YtmgbhicogmclgaaGreat.wid st.rest + (fieldN r).length := by simp [Go.Proofs.YtmgbhicogmclgaaGreat.wid]
   simp only; omega
  ·rcases List.mem_append.1 hx with hx | hx
   ·exact h.rest x hx
   ·obtain rfl : x = r := by simpa using hx
    exact ho
 | some f =>
  have hft := fld_tag hf
  by_cases ht : (treeD M f r).2 ≠ 0
  ·have e1 : oneD M fs st r = (st,(treeD M f r).2) := by simp [oneD,hf,ht]
   rw [e1] at h0;exact absurd h0 ht
  ·have ht0 : (treeD M f r).2 = 0 := by omega
   have e1 : oneD M fs st r = (⟨(putD f (treeD M f r).1 st.es).1,st.rest⟩,(putD f (treeD M f r).1 st.es).2) := by simp [oneD,hf,ht0]
   rw [e1] at h0 ⊢;simp only at h0;obtain ⟨t1,t2,t3⟩ := tree_cost (B := B) ho ht0 h3 hB IH;obtain ⟨x,hx⟩ : ∃ x,(treeD M f r).1 = x := ⟨_,rfl⟩;rw [hx] at h0 t1 t2 t3 ⊢;have hd := widE_del B r.tag h.ris
   by_cases hl3 : f.label = 3
   ·by_cases h64 : (undE st.es f.tag).length = 64
    ·simp [putD,hl3,h64] at h0
    ·have e2 : putD f x st.es = (setE f.tag (undE st.es f.tag ++ [x]) st.es,0) := by simp [putD,hl3,h64]
     rw [e2,hft];refine ⟨h.ris.set _ _,fun e he y hy => ?_,?_,h.rest⟩
     ·rcases mem_setE.1 he with rfl | ⟨he,_⟩
      ·rcases List.mem_append.1 hy with hy | hy
       ·exact h.ok _ (und_in (fun e => by rw [e] at hy; cases hy)) y hy
       ·obtain rfl : y = x := by simpa using hy
        exact ⟨t1,t2⟩
      ·exact h.ok e he y hy
     ·simp only;rw [widE_set]
      have : Go.Proofs.YtmgbhicogmclgaaGreat.wid ((enE B (r.tag,undE st.es r.tag ++ [x])).map (·.1)) = Go.Proofs.YtmgbhicogmclgaaGreat.wid ((enE B (r.tag,undE st.es r.tag)).map (·.1)) + (fieldN (flE B r.tag x).1).length := by simp [enE,Go.Proofs.YtmgbhicogmclgaaGreat.wid]
      omega
   ·by_cases hl1 : f.label = 1 ∧ zroB x = true
    ·have e2 : putD f x st.es = (delE f.tag st.es,0) := by simp [putD,hl3,hl1]
     rw [e2,hft];refine ⟨h.ris.del _,fun e he y hy => h.ok e (mem_delE.1 he).1 y hy,?_,h.rest⟩;simp only
     omega
    ·have e2 : putD f x st.es = (setE f.tag [x] st.es,0) := by rw [putD,if_neg hl3,if_neg hl1]
     rw [e2,hft];refine ⟨h.ris.set _ _,fun e he y hy => ?_,?_,h.rest⟩
     ·rcases mem_setE.1 he with rfl | ⟨he,_⟩
      ·obtain rfl : y = x := by simpa using hy
       exact ⟨t1,t2⟩
      ·exact h.ok e he y hy
     ·simp only;rw [widE_set]
      have : Go.Proofs.YtmgbhicogmclgaaGreat.wid ((enE B (r.tag,[x])).map (·.1)) = (fieldN (flE B r.tag x).1).length := by simp [enE,Go.Proofs.YtmgbhicogmclgaaGreat.wid]
      omega
theorem Cost.run {M : ByteArray → List Nat → Tr × Int} {B : Tr → List Nat × Nat} {fs : List FlS} (h3 : ∀ nm ns,(M nm ns).2 = 0 → (M nm ns).1.kind = 3) (hB : ∀ x,(B x).1.length ≤ 4096)
  (IH : ∀ nm ns,(∀ k ∈ ns,k < 256) → (M nm ns).2 = 0 → (B (M nm ns).1).2 = 0 ∧ (B (M nm ns).1).1.length ≤ ns.length) : ∀ (l pre : List Fd) (st : Ds),Cost B pre st → (∀ r ∈ l,okF r = true) → (runD M fs st l).2 = 0 → Cost B (pre ++ l) (runD M fs st l).1
 | [],pre,st,h,_,_ => by rw [List.append_nil]; exact h
 | r :: l,pre,st,h,ho,h0 => by
  have ea : pre ++ r :: l = (pre ++ [r]) ++ l := by simp
  by_cases h1 : (oneD M fs st r).2 ≠ 0
  ·simp only [runD,if_pos h1] at h0;exact absurd h0 h1
  ·simp only [runD,if_neg h1] at h0 ⊢;rw [ea];exact Cost.run h3 hB IH l (pre ++ [r]) _ (h.step (ho r (List.mem_cons_self ..)) h3 hB IH (by omega)) (fun x hx => ho x (List.mem_cons_of_mem _ hx)) h0
theorem dec_inv {k : Nat} {s : ScS} {nm : ByteArray} {ns : List Nat} (h : (decM (k + 1) s nm ns).2 = 0) : ∃ m l,msgOf s nm = some m ∧ getL ns = (l,0) ∧ (runD (decM k s) m.fields ⟨[],[]⟩ l).2 = 0 ∧
  (decM (k + 1) s nm ns).1 = ⟨3,0,⟨#[]⟩,(runD (decM k s) m.fields ⟨[],[]⟩ l).1.es,sortF (runD (decM k s) m.fields ⟨[],[]⟩ l).1.rest⟩ := by
 simp only [decM] at h ⊢
 cases hm : msgOf s nm with
 | none => rw [hm] at h; simp at h
 | some m =>
  rw [hm] at h;simp only at h ⊢
  by_cases h1 : (getL ns).2 ≠ 0
  ·rw [if_pos h1] at h; simp only at h; omega
  ·rw [if_neg h1] at h ⊢
   by_cases h2 : (runD (decM k s) m.fields ⟨[],[]⟩ (getL ns).1).2 ≠ 0
   ·rw [if_pos h2] at h; exact absurd h h2
   ·rw [if_neg h2];refine ⟨m,(getL ns).1,rfl,Prod.ext rfl (by simp only; omega),by omega,rfl⟩
theorem dec_kind {k : Nat} {s : ScS} {nm : ByteArray} {ns : List Nat} (h : (decM k s nm ns).2 = 0) : (decM k s nm ns).1.kind = 3 := by
 cases k with
 | zero => exact absurd h (by simp [decM])
 | succ k =>
  obtain ⟨m,l,_,_,_,e⟩ := dec_inv h;rw [e]
theorem putL_inv {rs : List Fd} (h : (putL rs).2 = 0) : rs.all okF = true ∧ (flatN rs).length ≤ 4096 ∧ putL rs = (flatN rs,0) := by
 unfold putL at h ⊢
 split at h
 ·rename_i h1
  split at h
  ·rename_i h2; rw [if_pos h1,if_pos h2]; exact ⟨h1,h2,rfl⟩
  ·exact absurd h (by decide)
 ·exact absurd h (by decide)
theorem errE_of {l : List (Fd × Nat)} (h : ∀ p ∈ l,p.2 = 0) : errE l = 0 := by
 induction l with
 | nil => rfl
 | cons a l ih => rw [errE,if_pos (h a (List.mem_cons_self ..))]; exact ih fun p hp => h p (List.mem_cons_of_mem _ hp)
theorem dcd_len : ∀ (k n : Nat) (s : ScS) (nm : ByteArray) (ns : List Nat),k < n → (∀ b ∈ ns,b < 256) → (decM k s nm ns).2 = 0 → (bytE n (decM k s nm ns).1).2 = 0 ∧ (bytE n (decM k s nm ns).1).1.length ≤ ns.length
 | 0,_,_,_,_,_,_,h => absurd h (by simp [decM])
 | _,0,_,_,_,h,_,_ => absurd h (by omega)
 | k + 1,n + 1,s,nm,ns,hk,hb,h => by
  obtain ⟨m,l,hm,hg,hr,e⟩ := dec_inv h;obtain ⟨hp,h64⟩ := putL_get hb hg;obtain ⟨ho,hlen,hpe⟩ := putL_inv (rs := l) (by rw [hp])
  have hns : flatN l = ns := by rw [hp] at hpe; exact (congrArg Prod.fst hpe).symm
  have hc := Cost.run (B := bytE n) (fs := m.fields) (fun nm ns h => dec_kind h) (fun x => bytE_le n x) (fun nm' ns' hb' h' => dcd_len k n s nm' ns' (by omega) hb' h') l [] ⟨[],[]⟩ (Cost.nil _) (fun r hr => List.all_eq_true.1 ho r hr) hr;rw [List.nil_append] at hc;rw [e];generalize (runD (decM k s) m.fields ⟨[],[]⟩ l).1 = st at hc ⊢
  have he : errE (fsE (bytE n) st.es) = 0 := errE_of fun p hp => by
   obtain ⟨e,he,x,hx,rfl⟩ := mem_fsE hp;exact (hc.ok e he x hx).1
  have eb : bytE (n + 1) ⟨3,0,⟨#[]⟩,st.es,sortF st.rest⟩ = putL (sortF ((fsE (bytE n) st.es).map (·.1) ++ sortF st.rest)) := by
   simp only [bytE,ofR];rw [rwE_ok (t := ⟨3,0,⟨#[]⟩,st.es,sortF st.rest⟩) he];rw [if_neg (by simp)]
  have hall : (sortF ((fsE (bytE n) st.es).map (·.1) ++ sortF st.rest)).all okF = true := List.all_eq_true.2 fun r hr => by
   rcases List.mem_append.1 ((sortF_perm _).mem_iff.1 hr) with hr | hr
   ·obtain ⟨p,hp,rfl⟩ := List.mem_map.1 hr;obtain ⟨e,he,x,hx,rfl⟩ := mem_fsE hp;exact (hc.ok e he x hx).2
   ·exact hc.rest r ((sortF_perm _).mem_iff.1 hr)
  have hw : (flatN (sortF ((fsE (bytE n) st.es).map (·.1) ++ sortF st.rest))).length ≤ ns.length := by
   rw [wid_flat,wid_perm (sortF_perm _),wid_app,wid_perm (sortF_perm st.rest),← hns,wid_flat];exact hc.wid
  have hl2 : (flatN (sortF ((fsE (bytE n) st.es).map (·.1) ++ sortF st.rest))).length ≤ 4096 := by rw [hns] at hlen; omega
  rw [eb,putL,if_pos hall,if_pos hl2];exact ⟨rfl,hw⟩
theorem leaf_num {r : Fd} {k : Int} (hf : r.wire = wirK k) (hw : wirK k = 0) : leafD r = ⟨1,r.n,⟨#[]⟩,[],[]⟩ := by
 rw [leafD,if_neg (by rw [hf,hw]; decide)]
theorem tree_fit {P : ByteArray → Tr → Prop} {M : ByteArray → List Nat → Tr × Int} {f : FlS} {r : Fd} (h : (treeD M f r).2 = 0) (IH : ∀ nm ns,(∀ k ∈ ns,k < 256) → (M nm ns).2 = 0 → P nm (M nm ns).1) : DOne P f (treeD M f r).1 := by
 have hf : r.wire = wirK f.kind := by
  by_cases e : r.wire = wirK f.kind
  ·exact e
  ·simp [treeD,e] at h
 unfold treeD at h ⊢;rw [if_neg (by simpa using hf)] at h ⊢
 split at h
 ·exact absurd h (by decide)
 rename_i h1
 rw [if_neg h1]
 split at h
 ·exact absurd h (by decide)
 rename_i h2
 rw [if_neg h2]
 split at h
 ·rename_i h7
  rw [if_pos h7];exact .inr (.inr ⟨h7,IH _ _ (bytesN_lt _) h⟩)
 ·rename_i h7
  rw [if_neg h7]
  by_cases hw : f.kind = 4 ∨ f.kind = 5
  ·have hw1 : r.wire = 1 := by rw [hf]; rcases hw with e | e <;> simp [wirK,e]
   refine .inr (.inl ⟨hw,?_,fun h4 => ?_⟩)
   ·simp [leafD,hw1]
   ·simp only [leafD,hw1,if_true]
    cases hv : validB r.b.data.toList with
    | true => rfl
    | false => exact absurd ⟨h4,hv⟩ h2
  ·have hw0 : wirK f.kind = 0 := by
    unfold wirK;rw [if_neg (fun e => by rcases e with e | e | e; exact hw (.inl e); exact hw (.inr e); exact h7 e)]
   rw [leaf_num hf hw0];refine .inl ⟨hw0,rfl,fun h36 => ?_⟩;simp only
   cases hv : nmrB f.kind r.n with
   | true => rfl
   | false => exact absurd ⟨h36,hv⟩ h1
theorem getLast_mem {α : Type} {l : List α} {x : α} (h : l.getLast? = some x) : x ∈ l := List.mem_of_getLast? h
theorem fldT_mem {label : Int} {xs : List Tr} {x : Tr} (h : x ∈ fldT label xs) : x ∈ xs ∧ (label ≠ 3 → ¬ (label = 1 ∧ zroB x = true)) := by
 unfold fldT at h
 split at h
 ·rename_i h3; exact ⟨h,fun e => absurd h3 e⟩
 ·split at h
  ·cases h
  ·rename_i y hy
   split at h
   ·cases h
   ·rename_i hz
    obtain rfl : x = y := by simpa using h
    exact ⟨getLast_mem hy,fun _ => hz⟩
theorem fldT_len {label : Int} {xs : List Tr} (h : label = 3 → xs.length ≤ 64) : (fldT label xs).length ≤ (if label = 3 then 64 else 1) := by
 unfold fldT
 by_cases h3 : label = 3
 ·rw [if_pos h3,if_pos h3]; exact h h3
 ·rw [if_neg h3,if_neg h3]
  split
  ·simp
  ·split <;> simp
theorem dec_fit : ∀ (k : Nat) (s : ScS) (nm : ByteArray) (ns : List Nat),(∀ b ∈ ns,b < 256) → (decM k s nm ns).2 = 0 → DFit k s nm (decM k s nm ns).1 ∧ ∀ n,N64 n (decM k s nm ns).1
 | 0,_,_,_,_,h => absurd h (by simp [decM])
 | k + 1,s,nm,ns,hb,h => by
  obtain ⟨m,l,hm,hg,hr,e⟩ := dec_inv h;obtain ⟨hp,h64⟩ := putL_get hb hg;obtain ⟨ho,hlen,hpe⟩ := putL_inv (rs := l) (by rw [hp]);have hfit := (run_fit l).1 hr;have hran := run_ran hr;rw [e];generalize (runD (decM k s) m.fields ⟨[],[]⟩ l).1 = st at hran ⊢
  have hrm : ∀ r ∈ sortF st.rest,r ∈ l ∧ fldOf m.fields r.tag = none := fun r hr => by
   have := (sortF_perm _).mem_iff.1 hr;rw [hran.rest] at this;obtain ⟨h1,h2⟩ := List.mem_filter.1 this;exact ⟨h1,by simpa using h2⟩
  have hxs : ∀ e ∈ st.es,∃ f,fldOf m.fields e.1 = some f ∧ e.2 = fldT f.label ((ofT l e.1).map fun r => (treeD (decM k s) f r).1) := fun e he => by
   obtain ⟨f,hf⟩ := hran.kn e he;exact ⟨f,hf,by rw [← hran.und e.1 f hf,und_mem hran.ris he]⟩
  have hx1 : ∀ e ∈ st.es,∀ f,fldOf m.fields e.1 = some f → ∀ x ∈ e.2,∃ r ∈ l,(treeD (decM k s) f r).2 = 0 ∧ x = (treeD (decM k s) f r).1 ∧ (f.label ≠ 3 → ¬ (f.label = 1 ∧ zroB x = true)) := fun e he f hf x hx => by
   obtain ⟨g,hg,e2⟩ := hxs e he;rw [hf] at hg; cases hg;rw [e2] at hx;obtain ⟨h1,h2⟩ := fldT_mem hx;obtain ⟨r,hr,rfl⟩ := List.mem_map.1 h1;obtain ⟨hrl,hrt⟩ := List.mem_filter.1 hr;simp only [decide_eq_true_eq] at hrt;exact ⟨r,hrl,hfit.1 r hrl f (by rw [hrt]; exact hf),rfl,h2⟩
  refine ⟨⟨m,hm,⟨rfl,rfl,rfl⟩,hran.ris,fun e he => ?_,(sortF_all _ _ (Nat.le_refl _)).1,fun r hr => ⟨(hrm r hr).2,List.all_eq_true.1 ho r (hrm r hr).1⟩⟩,fun n => ?_⟩
  ·obtain ⟨f,hf,e2⟩ := hxs e he;refine ⟨f,hf,hran.ne e he,?_,fun x hx => ?_⟩
   ·rw [e2];refine fldT_len fun h3 => ?_
    rw [List.length_map];exact hfit.2 e.1 f hf h3
   ·obtain ⟨r,hrl,h0,rfl,hz⟩ := hx1 e he f hf x hx;refine ⟨tree_fit h0 fun nm' ns' hb' h' => (dec_fit k s nm' ns' hb' h').1,fun hz1 => ?_⟩
    by_cases h3 : f.label = 3
    ·omega
    ·exact hz h3 hz1
  ·cases n with
   | zero => trivial
   | succ n =>
    refine ⟨by show Is64 0; unfold Is64; omega,fun r hr => h64 r (hrm r hr).1,fun e he x hx => ?_⟩;obtain ⟨f,hf,e2⟩ := hxs e he;obtain ⟨r,hrl,h0,rfl,_⟩ := hx1 e he f hf x hx;have hone := tree_fit (P := fun nm t => ∀ n,N64 n t) h0 fun nm' ns' hb' h' => (dec_fit k s nm' ns' hb' h').2
    rcases hone with ⟨hw,h2,_⟩ | ⟨_,h2,_⟩ | ⟨_,h2⟩
    ·cases n with
     | zero => trivial
     | succ n =>
      rw [h2];refine ⟨?_,by simp,by simp⟩
      have h7 : f.kind ≠ 7 := fun e => by rw [e] at hw; simp [wirK] at hw
      have hn : (treeD (decM k s) f r).1.n = r.n := by
       unfold treeD at h0 ⊢
       split at h0
       ·exact absurd h0 (by decide)
       rename_i g1
       rw [if_neg g1]
       split at h0
       ·exact absurd h0 (by decide)
       rename_i g2
       rw [if_neg g2]
       split at h0
       ·exact absurd h0 (by decide)
       rename_i g3
       rw [if_neg g3,if_neg h7,leaf_num (by simpa using g1) hw]
      simp only;rw [hn];exact h64 r hrl
    ·cases n with
     | zero => trivial
     | succ n =>
      rw [h2];exact ⟨by show Is64 0; unfold Is64; omega,by simp,by simp⟩
    ·exact h2 n
theorem leaf_dp {n : Nat} {k v : Int} {b : ByteArray} : DpN (n + 1) ⟨k,v,b,[],[]⟩ := fun e he => by cases he
theorem DFit.dp : ∀ {k n : Nat} {s : ScS} {nm : ByteArray} {t : Tr},DFit k s nm t → k < n → DpN n t
 | 0,_,_,_,_,h,_ => h.elim
 | k + 1,0,_,_,_,_,h => absurd h (by omega)
 | k + 1,n + 1,s,nm,t,h,hk => by
  obtain ⟨m,hm,g,hr,hes,h1,h2⟩ := h;intro e he x hx;obtain ⟨f,hf,h3,h4,h5⟩ := hes e he;obtain ⟨n,rfl⟩ : ∃ n',n = n' + 1 := ⟨n - 1,by omega⟩
  rcases (h5 x hx).1 with ⟨_,h,_⟩ | ⟨_,h,_⟩ | ⟨_,h⟩
  ·rw [h]; exact leaf_dp
  ·rw [h]; exact leaf_dp
  ·exact h.dp (by omega)
theorem DFit.dpN : ∀ {k n : Nat} {s : ScS} {nm : ByteArray} {t : Tr},DFit k s nm t → dpN n t ≤ k
 | 0,_,_,_,_,h => h.elim
 | k + 1,0,_,_,_,_ => Nat.zero_le _
 | k + 1,n + 1,s,nm,t,h => by
  obtain ⟨m,hm,g,hr,hes,h1,h2⟩ := h;rw [Go.Proofs.YtmgbhicogmclgaaGreat.dpN,if_pos g.1]
  have : ((subs t.es).map (Go.Proofs.YtmgbhicogmclgaaGreat.dpN n)).foldr max 0 ≤ k := foldr_max_le fun y hy => by
   obtain ⟨x,hx,rfl⟩ := List.mem_map.1 hy;obtain ⟨e,he,hxe⟩ := mem_subs.1 hx;obtain ⟨f,hf,h3,h4,h5⟩ := hes e he
   rcases (h5 x hxe).1 with ⟨_,h,_⟩ | ⟨_,h,_⟩ | ⟨_,h⟩
   ·rw [h]; cases n <;> simp [Go.Proofs.YtmgbhicogmclgaaGreat.dpN]
   ·rw [h]; cases n <;> simp [Go.Proofs.YtmgbhicogmclgaaGreat.dpN]
   ·exact h.dpN
  omega
theorem msg_mem {s : ScS} {nm : ByteArray} {m : MsS} (h : msgOf s nm = some m) : m ∈ s.msgs := List.mem_of_find?_eq_some h
theorem fld_mem {fs : List FlS} {t : Int} {f : FlS} (h : fldOf fs t = some f) : f ∈ fs := List.mem_of_find?_eq_some h
theorem ok_field {s : ScS} (hs : OkS s) {nm : ByteArray} {m : MsS} {t : Int} {f : FlS} (hm : msgOf s nm = some m) (hf : fldOf m.fields t = some f) : fieldOk s.mn s.en f := by
 have := ((hs.msgs m (msg_mem hm)).2).2.2.2.1 f (fld_mem hf);exact this.1
theorem ok_kind {s : ScS} {f : FlS} (h : fieldOk s.mn s.en f) : f.kind = 1 ∨ f.kind = 2 ∨ f.kind = 3 ∨ f.kind = 4 ∨ f.kind = 5 ∨ f.kind = 6 ∨ f.kind = 7 := by
 have h4 := h.2.2.2;unfold typeB at h4;simp only [Bool.or_eq_true,Bool.and_eq_true,decide_eq_true_eq] at h4
 omega
theorem ok_msgT {s : ScS} {f : FlS} (h : fieldOk s.mn s.en f) (h7 : f.kind = 7) : (msgOf s f.tname).isSome = true := by
 have h4 := h.2.2.2
 have hm : f.tname ∈ s.mn := by
  unfold typeB at h4
  simpa [h7,memB_iff] using h4
 obtain ⟨m,hm,e⟩ := List.mem_map.1 hm;unfold msgOf;rw [List.find?_isSome];exact ⟨m,hm,by simpa using e⟩
theorem DOne.kindT {P : ByteArray → Tr → Prop} {f : FlS} {x : Tr} (h : DOne P f x) (h3 : ∀ nm,P nm x → x.kind = 3) (hk : f.kind = 1 ∨ f.kind = 2 ∨ f.kind = 3 ∨ f.kind = 4 ∨ f.kind = 5 ∨ f.kind = 6 ∨ f.kind = 7) : x.kind = kindT f.kind := by
 rcases h with ⟨h1,h2,_⟩ | ⟨h1,h2,_⟩ | ⟨h1,h2⟩
 ·have hw : ¬ (f.kind = 4 ∨ f.kind = 5 ∨ f.kind = 7) := fun e => by simp [wirK,e] at h1
  have : f.kind = 1 ∨ f.kind = 2 ∨ f.kind = 3 ∨ f.kind = 6 := by omega
  rw [h2,Go.Proofs.YtmgbhicogmclgaaGreat.kindT,if_pos this]
 ·rw [h2,Go.Proofs.YtmgbhicogmclgaaGreat.kindT,if_neg (by omega),if_pos h1]
 ·rw [h3 _ h2,Go.Proofs.YtmgbhicogmclgaaGreat.kindT,if_neg (by omega),if_neg (by omega),if_pos h1]
theorem ents_of : ∀ {es : List (Int × List Tr)} (last : Int),RisE es → (∀ e ∈ es,last < e.1 ∧ e.1 ≤ 500 ∧ 1 ≤ e.2.length ∧ e.2.length ≤ 64 ∧ ∀ x ∈ e.2,∀ y ∈ e.2,x.kind = y.kind) → entsB last es = true
 | [],_,_,_ => rfl
 | e :: l,last,hr,h => by
  rw [RisE,List.pairwise_cons] at hr;obtain ⟨g1,g2,g3,g4,g5⟩ := h e (List.mem_cons_self ..);have ih := ents_of (es := l) e.1 hr.2 fun p hp => ⟨hr.1 p hp,(h p (List.mem_cons_of_mem _ hp)).2⟩
  simp only [entsB,Bool.and_eq_true,decide_eq_true_eq,List.all_eq_true,beq_iff_eq];refine ⟨⟨⟨⟨⟨g1,g2⟩,g3⟩,g4⟩,fun x hx => ?_⟩,ih⟩
  cases hl : e.2 with
  | nil => rw [hl] at hx; cases hx
  | cons a b =>
   rw [hl] at g5 hx;simp only [List.head?_cons,Option.map_some,Option.getD_some];exact g5 x hx a (List.mem_cons_self ..)
theorem DFit.ok : ∀ {k n : Nat} {s : ScS} {nm : ByteArray} {t : Tr},OkS s → DFit k s nm t → okN n t = true
 | 0,_,_,_,_,_,h => h.elim
 | k + 1,0,_,_,_,_,_ => rfl
 | k + 1,n + 1,s,nm,t,hs,h => by
  obtain ⟨m,hm,g,hr,hes,h1,h2⟩ := h
  have hlv : lvB t = true := by
   unfold lvB;rw [if_neg (by rw [g.1]; decide),if_neg (by rw [g.1]; decide),if_pos g.1]
   have he : entsB 0 t.es = true := ents_of 0 hr fun e he => by
    obtain ⟨f,hf,h3,h4,h5⟩ := hes e he;have hok := ok_field hs hm hf;have ht : f.tag = e.1 := fld_tag hf;have htr := hok.2.1;simp only [tagR,decide_eq_true_eq,ht] at htr;have hpos : 0 < e.2.length := List.length_pos_iff.2 h3;refine ⟨by omega,by omega,by omega,by split at h4 <;> omega,fun x hx y hy => ?_⟩;rw [(h5 x hx).1.kindT (fun nm h => h.kind) (ok_kind hok),(h5 y hy).1.kindT (fun nm h => h.kind) (ok_kind hok)]
   have hrest : restB t.rest t.es = true := by
    unfold restB;simp only [Bool.and_eq_true,List.all_eq_true,Bool.not_eq_true'];refine ⟨fun r hr' => ⟨(h2 r hr').2,?_⟩,(rises_iff _).2 h1⟩;unfold hasB;rw [List.any_eq_false];intro e he hq;obtain ⟨f,hf,_⟩ := hes e he;rw [beq_iff_eq.1 hq,(h2 r hr').1] at hf
    cases hf
   rw [g.2.1,g.2.2,he,hrest]
   rfl
  rw [okN,hlv,if_pos g.1,Bool.true_and,List.all_eq_true];intro x hx;obtain ⟨e,he,hxe⟩ := mem_subs.1 hx;obtain ⟨f,hf,h3,h4,h5⟩ := hes e he
  rcases (h5 x hxe).1 with ⟨_,h,_⟩ | ⟨_,h,_⟩ | ⟨_,h⟩
  ·rw [h]; cases n with
   | zero => rfl
   | succ n => simp [okN,lvB]; rfl
  ·rw [h]; cases n with
   | zero => rfl
   | succ n => simp [okN,lvB]
  ·exact h.ok hs
theorem DFit.chk {k n : Nat} {s : ScS} {nm : ByteArray} {t : Tr} (hs : OkS s) (h : DFit k s nm t) (hk : k ≤ 10) : chkN n t = true := by
 simp only [chkN,Bool.and_eq_true,decide_eq_true_eq];exact ⟨Nat.le_trans h.dpN hk,h.ok hs⟩
theorem errF_11 {l : List Int} (h : ∀ x ∈ l,x = 0 ∨ x = 11) : errF l = 0 ∨ errF l = 11 := by
 induction l with
 | nil => exact .inl rfl
 | cons a l ih =>
  rw [errF]
  split
  ·exact ih fun x hx => h x (List.mem_cons_of_mem _ hx)
  ·rename_i h0
   rcases h a (List.mem_cons_self ..) with e | e
   ·exact absurd e h0
   ·exact .inr e
theorem DFit.msgV : ∀ {n k : Nat} {s : ScS} {nm : ByteArray} {t : Tr},OkS s → DFit k s nm t → msgV n s nm t = 0 ∨ msgV n s nm t = 11
 | 0,_,_,_,_,_,_ => .inl rfl
 | n + 1,0,_,_,_,_,h => h.elim
 | n + 1,k + 1,s,nm,t,hs,h => by
  obtain ⟨m,hm,g,hr,hes,h1,h2⟩ := h
  have he : errF (t.es.map (entV (Go.Proofs.YtmgbhicogmclgaaGreat.msgV n s) ((msgOf s nm).getD zMs).fields)) = 0 ∨ errF (t.es.map (entV (Go.Proofs.YtmgbhicogmclgaaGreat.msgV n s) ((msgOf s nm).getD zMs).fields)) = 11 := errF_11 fun y hy => by
   obtain ⟨e,he,rfl⟩ := List.mem_map.1 hy;obtain ⟨f,hf,h3,h4,h5⟩ := hes e he;have hok := ok_field hs hm hf;simp only [entV,hm,Option.getD_some,hf];rw [if_neg (fun e => by rw [if_neg e.1] at h4; omega)];refine errF_11 fun y hy => ?_
   obtain ⟨x,hx,rfl⟩ := List.mem_map.1 hy;obtain ⟨hone,hz⟩ := h5 x hx;have hkt := hone.kindT (fun nm h => h.kind) (ok_kind hok)
   have ht : treeV (Go.Proofs.YtmgbhicogmclgaaGreat.msgV n s) f.kind f.tname x = 0 ∨ treeV (Go.Proofs.YtmgbhicogmclgaaGreat.msgV n s) f.kind f.tname x = 11 := by
    unfold treeV;rw [if_neg (by simpa using hkt)]
    split
    ·exact .inr rfl
    ·rcases hone with ⟨hw,h,hn⟩ | ⟨hw,h,hv⟩ | ⟨h7,h⟩
     ·rw [if_neg (fun e => by rw [e.1] at hw; simp [wirK] at hw),if_neg (by rw [h]; simp)];exact .inl rfl
     ·rw [if_neg (fun e => by rw [hv e.1] at e; exact absurd e.2 (by simp)),if_neg (by rw [h]; simp)];exact .inl rfl
     ·rw [if_neg (fun e => by omega),if_pos h.kind];exact h.msgV hs
   unfold oneV
   rcases ht with e | e
   ·rw [e,if_neg (by simp),if_neg hz]; exact .inl rfl
   ·rw [e,if_pos (by decide)]; exact .inr rfl
  have hrest : (t.rest.any fun f => (fldOf ((msgOf s nm).getD zMs).fields f.tag).isSome) = false := by
   rw [List.any_eq_false];intro r hr';rw [hm,Option.getD_some,(h2 r hr').1]
   simp
  rw [Go.Proofs.YtmgbhicogmclgaaGreat.msgV,hrest]
  rcases he with e | e
  ·rw [e,if_neg (by simp),if_neg (by simp)]; exact .inl rfl
  ·rw [e,if_pos (by decide)]; exact .inr rfl
end
section
open Go.ChangeShapes Go.WideShapes Go.ChangeAt Go.RowKit
theorem typeB_kindR {mn en : List ByteArray} {k : Int} {t : ByteArray} (h : typeB mn en k t = true) : 1 ≤ k ∧ k ≤ 7 := by
 unfold typeB at h
 by_cases h1 : 1 ≤ k ∧ k ≤ 7
 ·exact h1
 ·exfalso
  revert h
  simp
  intros
  omega
theorem ok_kindsR {s : ScS} (h : OkS s) : ∀ m ∈ s.msgs,∀ f ∈ m.fields,1 ≤ f.kind ∧ f.kind ≤ 7 := fun m hm f hf => typeB_kindR ((h.msgs m hm).2.2.2.2.1 f hf).1.2.2.2
theorem get_facts {ns : List Nat} (hb : ∀ n ∈ ns,n < 256) {L : List Fd} (h : getL ns = (L,0)) : ∀ r ∈ L,Is64 r.tag ∧ (r.wire = 0 ∨ r.wire = 1) ∧ Is64 r.n ∧ r.b.size ≤ 6000 := fun r hr => by
 obtain ⟨hp,hn⟩ := putL_get hb h;obtain ⟨ho,_,_⟩ := putL_inv (rs := L) (by rw [hp]);have h1 := List.all_eq_true.1 ho r hr;have h2 := hn r hr;have h0 := h1;simp only [okF,okV,Bool.and_eq_true,Bool.or_eq_true,decide_eq_true_eq,beq_iff_eq] at h1;unfold Is64 at h2 ⊢;obtain ⟨h3,h5⟩ := h1;refine ⟨by omega,?_,h2,?_⟩
 ·rcases h5 with h5 | h5
  ·exact .inl (by have := h5.1; omega)
  ·exact .inr (by have := h5.1.1; omega)
 ·rcases h5 with h5 | h5
  ·rw [ok_num h0 h5.1]; show (0 : Nat) ≤ 6000; omega
  ·have := (ok_txt h0 h5.1.1).2; omega
section
variable {n B bt : Nat} {K : List KE} {ve vr : Value} {rest : List Fd} {w w' : World}
theorem RdS.enk (h : RdS n B bt K ve vr rest w) : EnK n B K ve w := ⟨h.er,h.row⟩
theorem RdS.setRest (h : RdS n B bt K ve vr rest w) (hB : B ≤ w.heap.size) {v2 : Value} {l : List Fd} (ho : w'.ownsRow w.heap.size 79 4 v2 l.length (rawCells l)) (hb : Below w.heap.size w w') (hl : Fd64 l) :
  RdS n B bt K ve v2 l (w'.setCell ⟨bt,4,none⟩ v2) ∧ Kp (fun q => q = bt) w (w'.setCell ⟨bt,4,none⟩ v2) := by
 have k5 : Kp (fun q => q = bt) w' (w'.setCell ⟨bt,4,none⟩ v2) := by
  refine Kp.setCell ?_ (fun _ => by simp) _;exact Kp.refl _ _
 have h1 := h.below hb
 have apv : Apt w.heap.size w' (blkOf v2) := by
  refine ⟨by unfold blkOf; split <;> simp,fun q hq => own_lt ho (mem_blkOf.1 hq)⟩
 have hap : Apt B w' ((fpK K ++ blkOf ve) ++ blkOf v2) := Apt.append h.ap.left apv hB (Nat.le_refl _) hb.size;have hS : Sm w' (w'.setCell ⟨bt,4,none⟩ v2) ((fpK K ++ blkOf ve) ++ blkOf v2) := k5.sm fun q hq => ⟨(hap.2 q hq).2,fun e => by have := (hap.2 q hq).1; have := h.lt; omega⟩
 refine ⟨⟨h1.tb.set 4 _ rfl,own_sm h1.er (hS.mono fun q hq => by simp [hq]),fun j hj => ?_,h.i64,own_sm (own_base ho hB) (hS.mono fun q hq => List.mem_append.2 (.inr hq)),hl,hap.mono k5.size,h.lt⟩,(Kp.ofBelow hb).trans k5⟩;obtain ⟨rows,bss,g1,g2⟩ := h1.row j hj;exact ⟨rows,bss,g1.sm (hS.mono fun q hq => List.mem_append.2 (.inl (List.mem_append.2 (.inl (fpK_mem hj q (by rw [g2]; exact hq)))))) fun _ _ _ hp hb => hp.sm hb,g2⟩
theorem fpK_filter (p : KE → Bool) (K : List KE) (q : Nat) : (fpK (K.filter p)).count q ≤ (fpK K).count q := by
 induction K with
 | nil => simp
 | cons a l ih =>
  simp only [List.filter_cons]
  split
  ·simp only [fpK_cons,List.count_append]; omega
  ·simp only [fpK_cons,List.count_append]; omega
theorem RdS.done (h : RdS n B bt K ve vr rest w) (hB : B ≤ w.heap.size) (p : KE → Bool) {v : Value} (ho : w'.ownsRow w.heap.size 69 2 v (K.filter p).length (entCells (K.filter p))) (hb : Below w.heap.size w w') :
  ∃ bs,TrO (n + 1) B w' [.int .i64 3,.int .i64 0,.string ⟨#[]⟩,v,vr] ⟨3,0,⟨#[]⟩,esK (K.filter p),rest⟩ bs ∧ Apt B w' bs := by
 have h1 := h.below hb;have apv : Apt w.heap.size w' (blkOf v) := ⟨by unfold blkOf; split <;> simp,fun q hq => own_lt ho (mem_blkOf.1 hq)⟩;have hap : Apt B w' (((fpK K ++ blkOf ve) ++ blkOf vr) ++ blkOf v) := Apt.append h.ap apv hB (Nat.le_refl _) hb.size;refine ⟨blkOf vr ++ allB v ((K.filter p).map fun k => k.2.2.2),⟨v,vr,(K.filter p).map entC,(K.filter p).map fun k => k.2.2.2,rfl,(by unfold Is64; simp),is64_0,(show (0 : Nat) ≤ 140737488351232 by omega),h.r64,h1.rr,?_,rfl⟩,?_⟩
 ·refine ⟨?_,by simp [esK],by simp [esK],entC_two _,fun i x hx => ?_⟩
  ·have : (esK (K.filter p)).length = (K.filter p).length := by simp [esK]
   rw [this];exact own_base ho hB
  ·simp only [esK,List.getElem?_map,Option.map_eq_some_iff] at hx;obtain ⟨k,hk,rfl⟩ := hx;have hkm : k ∈ K := (List.mem_filter.1 (List.mem_of_getElem? hk)).1;obtain ⟨rows,bss,g1,g2⟩ := h1.row k hkm;exact ⟨entC k,k.2.2.2,by simp [hk],by simp [hk],k.2.1,rows,bss,rfl,h.i64 k hkm,g1,g2⟩
 ·refine hap.of_count fun q => ?_
  have h2 := fpK_filter p K q;have h3 : ((K.filter p).map fun k => k.2.2.2).flatten = fpK (K.filter p) := rfl;rw [allB,h3];simp only [List.count_append]
  omega
end
theorem rnumber_any (k n : Int) (nm : ByteArray) (w : World) : Calls Tryz.prog 90 #[.agg #[.int .i64 k,.string nm],.int .i64 n] w fun e w' => e = .returned (.bool (nmrB k n)) ∧ Below w.heap.size w w' := by
 have hb : Below w.heap.size w (w.alloc (Obj.cells #[.int .i64 k,.string nm] 54)) := bra _
 have kk : k = 3 ∨ k = 6 ∨ k = 1 ∨ k = 2 ∨ (¬ k = 3 ∧ ¬ k = 6 ∧ ¬ k = 1 ∧ ¬ k = 2) := by omega
 rcases kk with rfl | rfl | rfl | rfl | ⟨h3,h6,h1,h2⟩
 ·by_cases h0 : n = 0
  ·subst h0
   have hr : nmrB 3 0 = true := by decide
   rw [hr];clear hr
   go_enter Tryz.func90,Tryz.ntmps90
   go_wp2_with fail;go_ret;exact ⟨rfl,hb⟩
  ·by_cases h1 : n = 1
   ·subst h1
    have hr : nmrB 3 1 = true := by decide
    rw [hr];clear hr
    go_enter Tryz.func90,Tryz.ntmps90
    go_wp2_with fail;go_ret;exact ⟨rfl,hb⟩
   ·have e0 : (n == 0) = false := by simpa using h0
    have e1 : (n == 1) = false := by simpa using h1
    have hr : nmrB 3 n = false := by simp [nmrB]; omega
    rw [hr];clear hr h0 h1
    go_enter Tryz.func90,Tryz.ntmps90
    go_wp2_with fail;go_ret;exact ⟨rfl,hb⟩
 ·by_cases h0 : 0 ≤ n
  ·have e0 : decide (0 ≤ n) = true := by simpa using h0
   by_cases h1 : n ≤ 2147483647
   ·have e1 : decide (n ≤ 2147483647) = true := by simpa using h1
    have hr : nmrB 6 n = true := by simp [nmrB]; omega
    rw [hr];clear hr h0 h1
    go_enter Tryz.func90,Tryz.ntmps90
    go_wp2_with fail;go_ret;exact ⟨rfl,hb⟩
   ·have e1 : decide (n ≤ 2147483647) = false := by simpa using h1
    have hr : nmrB 6 n = false := by simp [nmrB]; omega
    rw [hr];clear hr h0 h1
    go_enter Tryz.func90,Tryz.ntmps90
    go_wp2_with fail;go_ret;exact ⟨rfl,hb⟩
  ·have e0 : decide (0 ≤ n) = false := by simpa using h0
   have hr : nmrB 6 n = false := by simp [nmrB]; omega
   rw [hr];clear hr h0
   go_enter Tryz.func90,Tryz.ntmps90
   go_wp2_with fail;go_ret;exact ⟨rfl,hb⟩
 ·by_cases h0 : -2147483648 ≤ n
  ·have e0 : decide (-2147483648 ≤ n) = true := by simpa using h0
   by_cases h1 : n ≤ 2147483647
   ·have e1 : decide (n ≤ 2147483647) = true := by simpa using h1
    have hr : nmrB 1 n = true := by simp [nmrB]; omega
    rw [hr];clear hr h0 h1
    go_enter Tryz.func90,Tryz.ntmps90
    go_wp2_with fail;go_ret;exact ⟨rfl,hb⟩
   ·have e1 : decide (n ≤ 2147483647) = false := by simpa using h1
    have hr : nmrB 1 n = false := by simp [nmrB]; omega
    rw [hr];clear hr h0 h1
    go_enter Tryz.func90,Tryz.ntmps90
    go_wp2_with fail;go_ret;exact ⟨rfl,hb⟩
  ·have e0 : decide (-2147483648 ≤ n) = false := by simpa using h0
   have hr : nmrB 1 n = false := by simp [nmrB]; omega
   rw [hr];clear hr h0
   go_enter Tryz.func90,Tryz.ntmps90
   go_wp2_with fail;go_ret;exact ⟨rfl,hb⟩
 ·have hr : nmrB 2 n = true := by simp [nmrB]
  rw [hr];clear hr
  go_enter Tryz.func90,Tryz.ntmps90
  go_wp2_with fail;go_ret;exact ⟨rfl,hb⟩
 ·have e1 : (k == 1) = false := by simpa using h1
  have e2 : (k == 2) = false := by simpa using h2
  have e3 : (k == 3) = false := by simpa using h3
  have e6 : (k == 6) = false := by simpa using h6
  have hr : nmrB k n = false := by simp [nmrB,h3,h6,h1,h2]
  rw [hr];clear h1 h2 h3 h6 hr
  go_enter Tryz.func90,Tryz.ntmps90
  go_wp2_with fail;go_ret;exact ⟨rfl,hb⟩
theorem rkind_any (k : Int) (nm : ByteArray) (w : World) (hk : 1 ≤ k ∧ k ≤ 7) : Calls Tryz.prog 89 #[.agg #[.int .i64 k,.string nm]] w fun e w' => e = .returned (.int .i64 (kindT k)) ∧ Below w.heap.size w w' := by
 have hb : Below w.heap.size w (w.alloc (Obj.cells #[.int .i64 k,.string nm] 54)) := bra _
 have hc : k = 1 ∨ k = 2 ∨ k = 3 ∨ k = 4 ∨ k = 5 ∨ k = 6 ∨ k = 7 := by omega
 clear hk
 rcases hc with rfl | rfl | rfl | rfl | rfl | rfl | rfl <;>
 ·go_enter Tryz.func89,Tryz.ntmps89
  go_wp2_with fail;go_ret;exact ⟨rfl,hb⟩
def tlL : List UInt8 → Int
 | [] => -1
 | a :: _ => if ctU a = true then (a.toNat : Int) - 128 else -1
theorem tl_in (s : ByteArray) (i : Nat) (h : i < s.size) (a : 128 ≤ (s[i].toNat : Int)) (b : (s[i].toNat : Int) ≤ 191) : (s[i].toNat : Int) - 128 = tlL (s.data.toList.drop i) := by
 rw [drop_cons s i h]; simp only [tlL]; rw [if_pos (by simp [ctU]; omega)]
theorem tl_out (s : ByteArray) (i : Nat) (h : i < s.size) (a : (s[i].toNat : Int) < 128 ∨ 191 < (s[i].toNat : Int)) : -1 = tlL (s.data.toList.drop i) := by
 rw [drop_cons s i h]; simp only [tlL]; rw [if_neg (by simp [ctU]; omega)]
theorem tl_end (s : ByteArray) (i : Nat) (h : s.size ≤ i) : -1 = tlL (s.data.toList.drop i) := by
 rw [drop_none s i h]; rfl
theorem tail_any (s : ByteArray) (i : Int) (w : World) (hs : s.size ≤ 140737488351232) (hi : 0 ≤ i) :
  Calls Tryz.prog 116 #[.string s,.int .i64 i] w fun e w' => e = .returned (.int .i64 (tlL (s.data.toList.drop i.toNat))) ∧ w' = w := by
 by_cases h : i < s.size
 ·have hn : i.toNat < s.size := by omega
  go_enter Tryz.func116,Tryz.ntmps116
  go_wp2
  all_goals
   go_ret
   first
   | exact ⟨ret_int (tl_in s i.toNat hn (by omega) (by omega)),rfl⟩
   | exact ⟨ret_int (tl_out s i.toNat hn (by omega)),rfl⟩
 ·go_enter Tryz.func116,Tryz.ntmps116
  go_wp2
  go_ret;exact ⟨ret_int (tl_end s i.toNat (by omega)),rfl⟩
theorem rnext_out (s : ByteArray) (i : Int) (w : World) (h : i < 0 ∨ (s.size : Int) ≤ i) :
  Calls Tryz.prog 92 #[.string s,.int .i64 i] w fun e w' => e = .returned (nxV (nxL (atL s i))) ∧ w' = w := by
 have hx := atL_out s i h;have HX : Hid (nxL (atL s i) = none) := hx;clear hx
 rcases h with h | h
 ·go_enter Tryz.func92,Tryz.ntmps92
  go_wp2
  go_ret3
  exact ⟨ret_none HX.out,rfl⟩
 ·by_cases h0 : i < 0
  all_goals
   go_enter Tryz.func92,Tryz.ntmps92
   go_wp2
   go_ret3
   exact ⟨ret_none HX.out,rfl⟩
def accv (v0 : Int) (l : List UInt8) : Nat → Int
 | 0 => v0
 | k + 1 => 64 * accv v0 l k + tlL (l.drop (k + 1))
theorem nxL_lead1 (s : ByteArray) (i : Nat) (h : i < s.size) (ha : (s[i].toNat : Int) < 128) : nxL (atL s i) = some (s[i].toNat,1) := by
 rw [atL_in s i (by omega),Int.toNat_natCast,drop_cons s i h];simp only [nxL]; rw [if_pos (by omega)]
theorem nxL_lead0 (s : ByteArray) (i : Nat) (h : i < s.size) (h0 : 128 ≤ (s[i].toNat : Int)) (h1 : (s[i].toNat : Int) < 192 ∨ 248 ≤ (s[i].toNat : Int)) : nxL (atL s i) = none := by
 rw [atL_in s i (by omega),Int.toNat_natCast,drop_cons s i h];simp only [nxL]; rw [if_neg (by omega),if_neg (by omega),if_neg (by omega),if_neg (by omega)]
theorem rnext_lead1 (s : ByteArray) (i : Nat) (w : World) (hs : s.size ≤ 140737488351232) (h : i < s.size) (ha : (s[i].toNat : Int) < 128) :
  Calls Tryz.prog 92 #[.string s,.int .i64 (i : Int)] w fun e w' => e = .returned (nxV (nxL (atL s i))) ∧ w' = w := by
 have HX : Hid (nxL (atL s i) = some (s[i].toNat,1)) := nxL_lead1 s i h ha
 have hb : 0 ≤ (s[i].toNat : Int) := by omega
 go_enter Tryz.func92,Tryz.ntmps92
 go_wp2
 go_ret3
 exact ⟨ret_some _ _ HX.out rfl rfl,rfl⟩
theorem rnext_lead0 (s : ByteArray) (i : Nat) (w : World) (hs : s.size ≤ 140737488351232) (h : i < s.size) (h0 : 128 ≤ (s[i].toNat : Int)) (h1 : (s[i].toNat : Int) < 192 ∨ 248 ≤ (s[i].toNat : Int)) :
  Calls Tryz.prog 92 #[.string s,.int .i64 (i : Int)] w fun e w' => e = .returned (nxV (nxL (atL s i))) ∧ w' = w := by
 have HX : Hid (nxL (atL s i) = none) := nxL_lead0 s i h h0 h1
 have hb : (s[i].toNat : Int) < 256 := by have := s[i].toNat_lt; omega
 rcases h1 with h1 | h1
 all_goals
  go_enter Tryz.func92,Tryz.ntmps92
  go_wp2
  go_ret3
  exact ⟨ret_none HX.out,rfl⟩
theorem tl_neg {r : List UInt8} (h : tlL r < 0) : ∀ b r',r = b :: r' → ctU b = false := by
 rintro b r' rfl
 cases e : ctU b with
 | false => rfl
 | true => simp only [tlL,e,if_true] at h; simp [ctU] at e; omega
theorem tl_pos {r : List UInt8} (h : 0 ≤ tlL r) : ∃ b r',r = b :: r' ∧ ctU b = true ∧ tlL r = (b.toNat : Int) - 128 := by
 match r with
 | [] => simp [tlL] at h
 | b :: r' =>
  cases e : ctU b with
  | false => simp [tlL,e] at h
  | true => exact ⟨b,r',rfl,e,by simp [tlL,e]⟩
theorem tl_bd (r : List UInt8) : -1 ≤ tlL r ∧ tlL r ≤ 63 := by
 match r with
 | [] => simp [tlL]
 | b :: r' =>
  simp only [tlL]
  split
  ·rename_i e; simp [ctU] at e; omega
  ·omega
def okVr (v : Int) : Prop := v ≤ 1114111 ∧ ¬ (55296 ≤ v ∧ v ≤ 57343)
theorem bad_2 {a : UInt8} {r : List UInt8} (h0 : 192 ≤ a.toNat) (h1 : a.toNat < 224) (m : Nat) (hm : 1 ≤ m) (hn : m < 2) (h : tlL ((a :: r).drop m) < 0) : nxL (a :: r) = none := by
 obtain rfl : m = 1 := by omega
 have hc := tl_neg (r := r) h;simp only [nxL];rw [if_neg (by omega),if_pos ⟨h0,h1⟩]
 match r with
 | [] => rfl
 | b :: r' => simp [hc b r' rfl]
theorem bad_3 {a : UInt8} {r : List UInt8} (h0 : 224 ≤ a.toNat) (h1 : a.toNat < 240) (m : Nat) (hm : 1 ≤ m) (hn : m < 3) (h : tlL ((a :: r).drop m) < 0) : nxL (a :: r) = none := by
 simp only [nxL];rw [if_neg (by omega),if_neg (by omega),if_pos ⟨h0,h1⟩]
 match r with
 | [] => rfl
 | [b] => rfl
 | b :: c :: r' =>
  obtain rfl | rfl : m = 1 ∨ m = 2 := by omega
  ·have hc := tl_neg (r := b :: c :: r') h; simp [hc b _ rfl]
  ·have hc := tl_neg (r := c :: r') h; simp [hc c _ rfl]
theorem bad_4 {a : UInt8} {r : List UInt8} (h0 : 240 ≤ a.toNat) (h1 : a.toNat < 248) (m : Nat) (hm : 1 ≤ m) (hn : m < 4) (h : tlL ((a :: r).drop m) < 0) : nxL (a :: r) = none := by
 simp only [nxL];rw [if_neg (by omega),if_neg (by omega),if_neg (by omega),if_pos ⟨h0,h1⟩]
 match r with
 | [] => rfl
 | [b] => rfl
 | [b,c] => rfl
 | b :: c :: d :: r' =>
  obtain rfl | rfl | rfl : m = 1 ∨ m = 2 ∨ m = 3 := by omega
  ·have hc := tl_neg (r := b :: c :: d :: r') h; simp [hc b _ rfl]
  ·have hc := tl_neg (r := c :: d :: r') h; simp [hc c _ rfl]
  ·have hc := tl_neg (r := d :: r') h; simp [hc d _ rfl]
theorem good_2 {a : UInt8} {r : List UInt8} (h0 : 192 ≤ a.toNat) (h1 : a.toNat < 224) (h : ∀ m,1 ≤ m → m < 2 → 0 ≤ tlL ((a :: r).drop m)) :
  ∃ v : Nat,accv ((a.toNat : Int) - 192) (a :: r) 1 = v ∧ v ≤ 1000000000 ∧ (128 ≤ v ∧ okVr v → nxL (a :: r) = some (v,2)) ∧ (¬ (128 ≤ v ∧ okVr v) → nxL (a :: r) = none) := by
 obtain ⟨b,r',rfl,hb,eb⟩ := tl_pos (r := r) (h 1 (by omega) (by omega));have hl := two_lt h1 hb;have hb' := hb;simp only [ctU,Bool.and_eq_true,decide_eq_true_eq] at hb';refine ⟨two a b,?_,by omega,?_,?_⟩
 ·show 64 * ((a.toNat : Int) - 192) + tlL (b :: r') = _
  rw [eb]; simp only [two]; omega
 ·rintro ⟨g,_⟩;simp only [nxL];rw [if_neg (by omega),if_pos ⟨h0,h1⟩,if_pos ⟨hb,g⟩]
 ·intro g;simp only [nxL];rw [if_neg (by omega),if_pos ⟨h0,h1⟩,if_neg (fun x => g ⟨x.2,by simp only [okVr]; omega⟩)]
theorem good_3 {a : UInt8} {r : List UInt8} (h0 : 224 ≤ a.toNat) (h1 : a.toNat < 240) (h : ∀ m,1 ≤ m → m < 3 → 0 ≤ tlL ((a :: r).drop m)) :
  ∃ v : Nat,accv ((a.toNat : Int) - 224) (a :: r) 2 = v ∧ v ≤ 1000000000 ∧ (2048 ≤ v ∧ okVr v → nxL (a :: r) = some (v,3)) ∧ (¬ (2048 ≤ v ∧ okVr v) → nxL (a :: r) = none) := by
 obtain ⟨b,r1,rfl,hb,eb⟩ := tl_pos (r := r) (h 1 (by omega) (by omega));obtain ⟨c,r',rfl,hc,ec⟩ := tl_pos (r := r1) (h 2 (by omega) (by omega));have hl := three_lt h1 hb hc;have hb' := hb;have hc' := hc;simp only [ctU,Bool.and_eq_true,decide_eq_true_eq] at hb' hc';refine ⟨three a b c,?_,by omega,?_,?_⟩
 ·show 64 * (64 * ((a.toNat : Int) - 224) + tlL (b :: c :: r')) + tlL (c :: r') = _
  rw [eb,ec]; simp only [three]; omega
 ·rintro ⟨g,g2⟩;simp only [nxL];rw [if_neg (by omega),if_neg (by omega),if_pos ⟨h0,h1⟩,if_pos ⟨hb,hc,g,by simp only [okVr] at g2; omega⟩]
 ·intro g;simp only [nxL];rw [if_neg (by omega),if_neg (by omega),if_pos ⟨h0,h1⟩,if_neg (fun x => g ⟨x.2.2.1,by simp only [okVr]; omega⟩)]
theorem good_4 {a : UInt8} {r : List UInt8} (h0 : 240 ≤ a.toNat) (h1 : a.toNat < 248) (h : ∀ m,1 ≤ m → m < 4 → 0 ≤ tlL ((a :: r).drop m)) :
  ∃ v : Nat,accv ((a.toNat : Int) - 240) (a :: r) 3 = v ∧ v ≤ 1000000000 ∧ (65536 ≤ v ∧ okVr v → nxL (a :: r) = some (v,4)) ∧ (¬ (65536 ≤ v ∧ okVr v) → nxL (a :: r) = none) := by
 obtain ⟨b,r1,rfl,hb,eb⟩ := tl_pos (r := r) (h 1 (by omega) (by omega));obtain ⟨c,r2,rfl,hc,ec⟩ := tl_pos (r := r1) (h 2 (by omega) (by omega));obtain ⟨d,r',rfl,hd,ed⟩ := tl_pos (r := r2) (h 3 (by omega) (by omega));have hb' := hb;have hc' := hc;have hd' := hd;simp only [ctU,Bool.and_eq_true,decide_eq_true_eq] at hb' hc' hd';refine ⟨four a b c d,?_,by simp only [four]; omega,?_,?_⟩
 ·show 64 * (64 * (64 * ((a.toNat : Int) - 240) + tlL (b :: c :: d :: r')) + tlL (c :: d :: r')) + tlL (d :: r') = _
  rw [eb,ec,ed]; simp only [four]; omega
 ·rintro ⟨g,g2⟩;simp only [nxL];rw [if_neg (by omega),if_neg (by omega),if_neg (by omega),if_pos ⟨h0,h1⟩,if_pos ⟨hb,hc,hd,g,by simp only [okVr] at g2; omega⟩]
 ·intro g;simp only [nxL];rw [if_neg (by omega),if_neg (by omega),if_neg (by omega),if_pos ⟨h0,h1⟩,if_neg (fun x => g ⟨x.2.2.2.1,by simp only [okVr]; omega⟩)]
theorem accv_bd (v0 : Int) (l : List UInt8) (h0 : 0 ≤ v0) (h1 : v0 ≤ 31) (k : Nat) (hk : k ≤ 3) (h : ∀ m,1 ≤ m → m < k + 1 → 0 ≤ tlL (l.drop m)) : 0 ≤ accv v0 l k ∧ accv v0 l k ≤ 10000000 := by
 have b1 := tl_bd (l.drop 1);have b2 := tl_bd (l.drop 2);have b3 := tl_bd (l.drop 3)
 obtain rfl | rfl | rfl | rfl : k = 0 ∨ k = 1 ∨ k = 2 ∨ k = 3 := by omega
 ·simp only [accv]; omega
 ·have := h 1 (by omega) (by omega); simp only [accv,Nat.zero_add,Nat.reduceAdd]; omega
 ·have := h 1 (by omega) (by omega); have := h 2 (by omega) (by omega); simp only [accv,Nat.zero_add,Nat.reduceAdd]; omega
 ·have := h 1 (by omega) (by omega); have := h 2 (by omega) (by omega); have := h 3 (by omega) (by omega); simp only [accv,Nat.zero_add,Nat.reduceAdd]; omega
theorem rest_at (s : ByteArray) (i m : Nat) : s.data.toList.drop ((i : Int) + (m : Int)).toNat = (s.data.toList.drop i).drop m := by
 rw [List.drop_drop]; congr 1
theorem rnext_lead2 (s : ByteArray) (i : Nat) (w : World) (hs : s.size ≤ 140737488351232) (h : i < s.size) (h0 : 192 ≤ (s[i].toNat : Int)) (h1 : (s[i].toNat : Int) < 224) :
  Calls Tryz.prog 92 #[.string s,.int .i64 (i : Int)] w fun e w' => e = .returned (nxV (nxL (atL s i))) ∧ w' = w := by
 have hl0 : Hid (atL s i = s[i] :: s.data.toList.drop (i + 1)) := by rw [atL_in s i (by omega),Int.toNat_natCast,drop_cons s i h]; rfl
 have hl1 : Hid (atL s i = s.data.toList.drop i) := by rw [atL_in s i (by omega),Int.toNat_natCast]; rfl
 generalize atL s i = l at *
 have hd1 : decide (s.size ≤ i) = false := by simp; omega
 have hd2 : decide ((i : Int) < 0) = false := by simp
 have hd3 : decide ((s[i].toNat : Int) < 128) = false := by simp; omega
 go_enter Tryz.func92,Tryz.ntmps92
 go_wp2
 go_loop [9,11] (fun v j => ∃ m : Nat,1 ≤ m ∧ m ≤ 2 ∧ j = .int .i64 m ∧ v = .int .i64 (accv ((s[i].toNat : Int) - 192) l (m - 1)) ∧ Hid (∀ q,1 ≤ q → q < m → 0 ≤ tlL (l.drop q))) (fun _ j => 2 - (intOf j).toNat)
 case atStart => exact ⟨1,by omega,by omega,rfl,rfl,by intro q; omega⟩
 case round =>
  obtain ⟨m,hm1,hm2,rfl,rfl,H⟩ := hrel;have hbd := accv_bd ((s[i].toNat : Int) - 192) l (by omega) (by omega) (m - 1) (by omega) (fun q a b => H.out q a (by omega))
  by_cases hlt : m < 2
  ·have ht := tl_bd (l.drop m)
   have HT : Hid (tlL (s.data.toList.drop ((i : Int) + (m : Int)).toNat) = tlL (l.drop m)) := by rw [rest_at,← hl1.out]; rfl
   have HS : Hid (64 * accv ((s[i].toNat : Int) - 192) l (m - 1) + tlL (l.drop m) = accv ((s[i].toNat : Int) - 192) l m) := by
    obtain ⟨k,rfl⟩ : ∃ k,m = k + 1 := ⟨m - 1,by omega⟩
    rfl
   have HB : Hid (tlL (l.drop m) < 0 → nxL l = none) := fun hh => by
    have hx := hh;rw [hl0.out] at hx ⊢;exact bad_2 (by omega) (by omega) m hm1 hlt hx
   have HN : Hid (0 ≤ tlL (l.drop m) → ∀ q,1 ≤ q → q < m + 1 → 0 ≤ tlL (l.drop q)) := fun hh q a b => by
    by_cases e : q = m
    ·rw [e]; exact hh
    ·exact H.out q a (by omega)
   generalize accv ((s[i].toNat : Int) - 192) l (m - 1) = v at *;go_wp2_with fail;refine (tail_any s _ _ hs (by omega)).mono ?_;rintro e w' ⟨rfl,rfl⟩;rw [HT.out];generalize tlL (l.drop m) = t at *
   by_cases hneg : t < 0
   ·go_wp2
    go_ret3
    exact ⟨ret_none (HB.out hneg),rfl⟩
   ·go_wp2
    go_round
    case rel => exact ⟨m + 1,by omega,by omega,by go_num,by rw [HS.out]; rfl,HN.out (by omega)⟩
    case measure => simp [intOf]; omega
  ·obtain rfl : m = 2 := by omega
   obtain ⟨v,ev,hv,hyes,hno⟩ : ∃ v : Nat,accv ((s[i].toNat : Int) - 192) l (2 - 1) = v ∧ v ≤ 1000000000 ∧ (128 ≤ v ∧ okVr v → nxL l = some (v,2)) ∧ (¬ (128 ≤ v ∧ okVr v) → nxL l = none) := by
    have hg := H.out;rw [hl0.out] at hg ⊢;exact good_2 (by omega) (by omega) hg
   rw [ev];have HY : Hid (128 ≤ v ∧ okVr v → nxL l = some (v,2)) := hyes;have HNO : Hid (¬ (128 ≤ v ∧ okVr v) → nxL l = none) := hno;clear hyes hno ev hbd H
   go_wp2
   all_goals
    go_ret3
    first
    | exact ⟨ret_none (HNO.out (by simp only [okVr]; omega)),rfl⟩
    | exact ⟨ret_some _ _ (HY.out (by simp only [okVr]; omega)) rfl rfl,rfl⟩
theorem rnext_lead3 (s : ByteArray) (i : Nat) (w : World) (hs : s.size ≤ 140737488351232) (h : i < s.size) (h0 : 224 ≤ (s[i].toNat : Int)) (h1 : (s[i].toNat : Int) < 240) :
  Calls Tryz.prog 92 #[.string s,.int .i64 (i : Int)] w fun e w' => e = .returned (nxV (nxL (atL s i))) ∧ w' = w := by
 have hl0 : Hid (atL s i = s[i] :: s.data.toList.drop (i + 1)) := by rw [atL_in s i (by omega),Int.toNat_natCast,drop_cons s i h]; rfl
 have hl1 : Hid (atL s i = s.data.toList.drop i) := by rw [atL_in s i (by omega),Int.toNat_natCast]; rfl
 generalize atL s i = l at *
 have hd1 : decide (s.size ≤ i) = false := by simp; omega
 have hd2 : decide ((i : Int) < 0) = false := by simp
 have hd3 : decide ((s[i].toNat : Int) < 128) = false := by simp; omega
 go_enter Tryz.func92,Tryz.ntmps92
 go_wp2
 go_loop [9,11] (fun v j => ∃ m : Nat,1 ≤ m ∧ m ≤ 3 ∧ j = .int .i64 m ∧ v = .int .i64 (accv ((s[i].toNat : Int) - 224) l (m - 1)) ∧ Hid (∀ q,1 ≤ q → q < m → 0 ≤ tlL (l.drop q))) (fun _ j => 3 - (intOf j).toNat)
 case atStart => exact ⟨1,by omega,by omega,rfl,rfl,by intro q; omega⟩
 case round =>
  obtain ⟨m,hm1,hm2,rfl,rfl,H⟩ := hrel;have hbd := accv_bd ((s[i].toNat : Int) - 224) l (by omega) (by omega) (m - 1) (by omega) (fun q a b => H.out q a (by omega))
  by_cases hlt : m < 3
  ·have ht := tl_bd (l.drop m)
   have HT : Hid (tlL (s.data.toList.drop ((i : Int) + (m : Int)).toNat) = tlL (l.drop m)) := by rw [rest_at,← hl1.out]; rfl
   have HS : Hid (64 * accv ((s[i].toNat : Int) - 224) l (m - 1) + tlL (l.drop m) = accv ((s[i].toNat : Int) - 224) l m) := by
    obtain ⟨k,rfl⟩ : ∃ k,m = k + 1 := ⟨m - 1,by omega⟩
    rfl
   have HB : Hid (tlL (l.drop m) < 0 → nxL l = none) := fun hh => by
    have hx := hh;rw [hl0.out] at hx ⊢;exact bad_3 (by omega) (by omega) m hm1 hlt hx
   have HN : Hid (0 ≤ tlL (l.drop m) → ∀ q,1 ≤ q → q < m + 1 → 0 ≤ tlL (l.drop q)) := fun hh q a b => by
    by_cases e : q = m
    ·rw [e]; exact hh
    ·exact H.out q a (by omega)
   generalize accv ((s[i].toNat : Int) - 224) l (m - 1) = v at *;go_wp2_with fail;refine (tail_any s _ _ hs (by omega)).mono ?_;rintro e w' ⟨rfl,rfl⟩;rw [HT.out];generalize tlL (l.drop m) = t at *
   by_cases hneg : t < 0
   ·go_wp2
    go_ret3
    exact ⟨ret_none (HB.out hneg),rfl⟩
   ·go_wp2
    go_round
    case rel => exact ⟨m + 1,by omega,by omega,by go_num,by rw [HS.out]; rfl,HN.out (by omega)⟩
    case measure => simp [intOf]; omega
  ·obtain rfl : m = 3 := by omega
   obtain ⟨v,ev,hv,hyes,hno⟩ : ∃ v : Nat,accv ((s[i].toNat : Int) - 224) l (3 - 1) = v ∧ v ≤ 1000000000 ∧ (2048 ≤ v ∧ okVr v → nxL l = some (v,3)) ∧ (¬ (2048 ≤ v ∧ okVr v) → nxL l = none) := by
    have hg := H.out;rw [hl0.out] at hg ⊢;exact good_3 (by omega) (by omega) hg
   rw [ev];have HY : Hid (2048 ≤ v ∧ okVr v → nxL l = some (v,3)) := hyes;have HNO : Hid (¬ (2048 ≤ v ∧ okVr v) → nxL l = none) := hno;clear hyes hno ev hbd H
   go_wp2
   all_goals
    go_ret3
    first
    | exact ⟨ret_none (HNO.out (by simp only [okVr]; omega)),rfl⟩
    | exact ⟨ret_some _ _ (HY.out (by simp only [okVr]; omega)) rfl rfl,rfl⟩
theorem rnext_lead4 (s : ByteArray) (i : Nat) (w : World) (hs : s.size ≤ 140737488351232) (h : i < s.size) (h0 : 240 ≤ (s[i].toNat : Int)) (h1 : (s[i].toNat : Int) < 248) :
  Calls Tryz.prog 92 #[.string s,.int .i64 (i : Int)] w fun e w' => e = .returned (nxV (nxL (atL s i))) ∧ w' = w := by
 have hl0 : Hid (atL s i = s[i] :: s.data.toList.drop (i + 1)) := by rw [atL_in s i (by omega),Int.toNat_natCast,drop_cons s i h]; rfl
 have hl1 : Hid (atL s i = s.data.toList.drop i) := by rw [atL_in s i (by omega),Int.toNat_natCast]; rfl
 generalize atL s i = l at *
 have hd1 : decide (s.size ≤ i) = false := by simp; omega
 have hd2 : decide ((i : Int) < 0) = false := by simp
 have hd3 : decide ((s[i].toNat : Int) < 128) = false := by simp; omega
 go_enter Tryz.func92,Tryz.ntmps92
 go_wp2
 go_loop [9,11] (fun v j => ∃ m : Nat,1 ≤ m ∧ m ≤ 4 ∧ j = .int .i64 m ∧ v = .int .i64 (accv ((s[i].toNat : Int) - 240) l (m - 1)) ∧ Hid (∀ q,1 ≤ q → q < m → 0 ≤ tlL (l.drop q))) (fun _ j => 4 - (intOf j).toNat)
 case atStart => exact ⟨1,by omega,by omega,rfl,rfl,by intro q; omega⟩
 case round =>
  obtain ⟨m,hm1,hm2,rfl,rfl,H⟩ := hrel;have hbd := accv_bd ((s[i].toNat : Int) - 240) l (by omega) (by omega) (m - 1) (by omega) (fun q a b => H.out q a (by omega))
  by_cases hlt : m < 4
  ·have ht := tl_bd (l.drop m)
   have HT : Hid (tlL (s.data.toList.drop ((i : Int) + (m : Int)).toNat) = tlL (l.drop m)) := by rw [rest_at,← hl1.out]; rfl
   have HS : Hid (64 * accv ((s[i].toNat : Int) - 240) l (m - 1) + tlL (l.drop m) = accv ((s[i].toNat : Int) - 240) l m) := by
    obtain ⟨k,rfl⟩ : ∃ k,m = k + 1 := ⟨m - 1,by omega⟩
    rfl
   have HB : Hid (tlL (l.drop m) < 0 → nxL l = none) := fun hh => by
    have hx := hh;rw [hl0.out] at hx ⊢;exact bad_4 (by omega) (by omega) m hm1 hlt hx
   have HN : Hid (0 ≤ tlL (l.drop m) → ∀ q,1 ≤ q → q < m + 1 → 0 ≤ tlL (l.drop q)) := fun hh q a b => by
    by_cases e : q = m
    ·rw [e]; exact hh
    ·exact H.out q a (by omega)
   generalize accv ((s[i].toNat : Int) - 240) l (m - 1) = v at *;go_wp2_with fail;refine (tail_any s _ _ hs (by omega)).mono ?_;rintro e w' ⟨rfl,rfl⟩;rw [HT.out];generalize tlL (l.drop m) = t at *
   by_cases hneg : t < 0
   ·go_wp2
    go_ret3
    exact ⟨ret_none (HB.out hneg),rfl⟩
   ·go_wp2
    go_round
    case rel => exact ⟨m + 1,by omega,by omega,by go_num,by rw [HS.out]; rfl,HN.out (by omega)⟩
    case measure => simp [intOf]; omega
  ·obtain rfl : m = 4 := by omega
   obtain ⟨v,ev,hv,hyes,hno⟩ : ∃ v : Nat,accv ((s[i].toNat : Int) - 240) l (4 - 1) = v ∧ v ≤ 1000000000 ∧ (65536 ≤ v ∧ okVr v → nxL l = some (v,4)) ∧ (¬ (65536 ≤ v ∧ okVr v) → nxL l = none) := by
    have hg := H.out;rw [hl0.out] at hg ⊢;exact good_4 (by omega) (by omega) hg
   rw [ev];have HY : Hid (65536 ≤ v ∧ okVr v → nxL l = some (v,4)) := hyes;have HNO : Hid (¬ (65536 ≤ v ∧ okVr v) → nxL l = none) := hno;clear hyes hno ev hbd H
   go_wp2
   all_goals
    go_ret3
    first
    | exact ⟨ret_none (HNO.out (by simp only [okVr]; omega)),rfl⟩
    | exact ⟨ret_some _ _ (HY.out (by simp only [okVr]; omega)) rfl rfl,rfl⟩
theorem rnext_any (s : ByteArray) (i : Int) (w : World) (hs : s.size ≤ 140737488351232) :
  Calls Tryz.prog 92 #[.string s,.int .i64 i] w fun e w' => e = .returned (nxV (nxL (atL s i))) ∧ w' = w := by
 by_cases h : i < 0 ∨ (s.size : Int) ≤ i
 ·exact rnext_out s i w h
 ·obtain ⟨n,rfl⟩ := Int.eq_ofNat_of_zero_le (a := i) (by omega)
  have hn : n < s.size := by omega
  by_cases h1 : (s[n].toNat : Int) < 128
  ·exact rnext_lead1 s n w hs hn h1
  ·by_cases h2 : (s[n].toNat : Int) < 192 ∨ 248 ≤ (s[n].toNat : Int)
   ·exact rnext_lead0 s n w hs hn (by omega) h2
   ·by_cases h3 : (s[n].toNat : Int) < 224
    ·exact rnext_lead2 s n w hs hn (by omega) h3
    ·by_cases h4 : (s[n].toNat : Int) < 240
     ·exact rnext_lead3 s n w hs hn (by omega) h4
     ·exact rnext_lead4 s n w hs hn (by omega) (by omega)
theorem rdigit_any (r : Int) (w : World) :
  Calls Tryz.prog 56 #[.int .i32 r] w fun e w' => e = .returned (.bool (digB r)) ∧ w' = w := by
 go_enter Tryz.func56,Tryz.ntmps56
 go_wp2
 all_goals
  go_ret;exact ⟨ret_bool (by simp [digB]; try omega),rfl⟩
theorem rletter_any (r : Int) (w : World) :
  Calls Tryz.prog 54 #[.int .i32 r] w fun e w' => e = .returned (.bool (letB r)) ∧ w' = w := by
 go_enter Tryz.func54,Tryz.ntmps54
 go_wp2
 all_goals
  go_ret;refine ⟨ret_bool ?_,rfl⟩;rw [Bool.eq_iff_iff]
  simp [letB]
  try omega
theorem infoRune : (Tryz.prog.info? 21).map (fun i => (i.zero,i.size,i.bytes)) = some (some (.int .i32 0),1,4) := by kernel_rfl
def runeCells (rs : List Nat) : List Value := rs.map fun (c : Nat) => Value.int .i32 (c : Int)
theorem owns_cast {w : World} {b e : Nat} {v : Value} {n n' : Nat} {xs xs' : List Value} (h : w.ownsRow b e 1 v n xs) (hn : n' = n) (hx : xs' = xs) : w.ownsRow b e 1 v n' xs' := by
 rw [hn,hx]; exact h
theorem all_len {l : List UInt8} {pos c k : Nat} (hn : nxL (l.drop pos) = some (c,k)) (hp : pos ≤ l.length) : pos + k ≤ l.length ∧ 1 ≤ k ∧ k ≤ 4 := by
 obtain ⟨_,_,_,h4,h5,h6,_⟩ := nxL_some _ _ _ hn
 simp at h5
 omega
theorem rall_any (s : ByteArray) (w : World) (hs : s.size ≤ 20000) :
  Calls Tryz.prog 53 #[.string s] w fun e w' => ∃ v,e = .returned (.tuple #[v,.bool (validB s.data.toList)]) ∧
   w'.ownsRow w.heap.size 21 1 v (countN s.data.toList) (runeCells ((runesOf s.data.toList).getD [])) ∧ Below w.heap.size w w' := by
 obtain ⟨i0,hi,hz0,hz1,hz2⟩ := info_parts infoRune
 go_enter Tryz.func53,Tryz.ntmps53
 go_wp2_with fail
 go_loopw [4,5] (fun v at' wr => ∃ (pos : Nat) (acc : List Nat),at' = .int .i64 pos ∧ pos ≤ s.size ∧ acc.length ≤ pos ∧ Hid (Gone s.data.toList pos acc) ∧ wr.ownsRow w.heap.size 21 1 v acc.length (runeCells acc) ∧ Below w.heap.size w wr)
  (fun _ at' _ => s.size - (intOf at').toNat)
 case atStart => exact ⟨0,[],rfl,by omega,by simp,Gone.start _,World.ownsRow_nil _ _ _ _,Below.refl _ _⟩
 case round =>
  obtain ⟨pos,acc,rfl,hps,hap,H,hown,hbel⟩ := hrel
  by_cases hp : pos < s.size
  ·have HA : Hid (atL s pos = s.data.toList.drop pos) := by rw [atL_in s pos (by omega),Int.toNat_natCast]; rfl
   go_wp2_with fail;refine (rnext_any s _ _ (by omega)).mono ?_;rintro e w1 ⟨rfl,rfl⟩;rw [HA.out];generalize hx : nxL (s.data.toList.drop pos) = x
   cases x with
   | none =>
    have HR : Hid (runesOf s.data.toList = none) := H.out.bad (by rw [len_data]; exact hp) hx
    have H1 : Hid (validB s.data.toList = false) := by show _ = _; unfold validB; rw [HR.out]; rfl
    have H2 : Hid (countN s.data.toList = 0) := by show _ = _; unfold countN; rw [HR.out]; rfl
    have H3 : Hid ((runesOf s.data.toList).getD [] = []) := by show _ = _; rw [HR.out]; rfl
    simp only [nxV];clear hx;go_wp2_with fail
    go_ret2
    refine ⟨.slice none 0 0,?_,?_,hbel⟩
    ·rw [H1.out]; rfl
    ·rw [H2.out,H3.out]; exact World.ownsRow_nil _ _ _ _
   | some x =>
    obtain ⟨c,k⟩ := x;obtain ⟨g1,g2,g3⟩ := all_len hx (by rw [len_data]; omega);rw [len_data] at g1;have HG : Hid (Gone s.data.toList (pos + k) (acc ++ [c])) := H.out.step hx;clear hx;simp only [nxV];have hws := hbel.size
    go_wp2_with (first
     | (at_builtin; refine wpList_append_own _ rfl _ _ 115 rfl w.heap.size 21 i0 (.int .i32 0) 1 4 Tryz.underlying115 hi hz0 hz1 hz2 rfl (by decide) _ _ _ rfl (hown.alloc _) ⟨w1.heap.size,0,none⟩ 1 1 [.int .i32 (c : Int)] rfl rfl ?c1 ?c2 ?c3 ?c4 ?c5 ?_)
     | fail)
    case c1 =>
     intro j u hj
     match j,hj with
     | 0,hj => simp at hj; subst hj; simp [Addr.add]
    case c2 => intro u hu; simp at hu; subst hu; rfl
    case c3 => unfold maxLen; omega
    case c4 => omega
    case c5 => simp; omega
    intro v' w2 hown' hgrow _;have hb2 : Below w.heap.size w w2 := (hbel.alloc hws _).grown hgrow (by simp; omega) (fun k hk => (hown.lt k hk).1)
    have HO : Hid (w2.ownsRow w.heap.size 21 1 v' (acc ++ [c]).length (runeCells (acc ++ [c]))) := by
     have e1 : (acc ++ [c]).length = acc.length + 1 := by simp
     have e2 : runeCells (acc ++ [c]) = runeCells acc ++ [.int .i32 (c : Int)] := by simp [runeCells]
     show World.ownsRow _ _ _ _ _ _ _
     rw [e1,e2];exact hown'
    clear hown hown' hgrow;go_wp2_with fail
    go_roundw
    case rel => exact ⟨pos + k,acc ++ [c],by go_num,by omega,by simp; omega,HG,HO.out,hb2⟩
    case measure => simp [intOf]; omega
  ·have HR : Hid (runesOf s.data.toList = some acc) := H.out.done (by rw [len_data]; omega)
   have H1 : Hid (validB s.data.toList = true) := by show _ = _; unfold validB; rw [HR.out]; rfl
   have H2 : Hid (countN s.data.toList = acc.length) := by show _ = _; unfold countN; rw [HR.out]; rfl
   have H3 : Hid ((runesOf s.data.toList).getD [] = acc) := by show _ = _; rw [HR.out]; rfl
   have HO := owns_cast hown H2.out (congrArg runeCells H3.out);clear hown;go_wp2_with fail
   go_ret2
   exact ⟨_,by rw [H1.out]; rfl,HO,hbel⟩
theorem owns_form {w : World} {base e : Nat} {v : Value} {n : Nat} {xs : List Value} (h : w.ownsRow base e 1 v n xs) :
  ∃ a cap,v = .slice a n cap ∧ (0 < n → ∃ g,a = some ⟨g,0,none⟩ ∧ ∀ j,j < n → w.cell? ⟨g,j,none⟩ = xs[j]?) := by
 have h0 := h;obtain ⟨h1,h2⟩ := h
 rcases h2 with ⟨rfl,rfl⟩ | ⟨g,cap,cur,rfl,_⟩
 ·exact ⟨none,0,rfl,by omega⟩
 ·exact ⟨some ⟨g,0,none⟩,cap,rfl,fun _ => ⟨g,rfl,fun j hj => h0.cellAt j (by omega)⟩⟩
theorem rvalidB_any (s : ByteArray) (w : World) (hs : s.size ≤ 6000) :
  Calls Tryz.prog 91 #[.string s] w fun e w' => e = .returned (.bool (validB s.data.toList)) ∧ Below w.heap.size w w' := by
 go_enter Tryz.func91,Tryz.ntmps91
 go_wp2_with fail;refine (rall_any s _ (by omega)).mono ?_;rintro e w1 ⟨v,rfl,_,h1⟩;go_wp2_with fail;go_ret;exact ⟨rfl,h1⟩
end
section
open Go.ChangeShapes Go.WideShapes Go.ChangeAt Go.RowKit Go.Maps
theorem r7messageW_any {w0 w : World} {snm nm : ByteArray} {ae at' : Option Addr} {E ce T ct : Nat} {vm : Value} {ms : List MsS} (hw0 : Below w0.heap.size w0 w) (hr : MsIn w0 vm ms) :
  Calls Tryz.prog 25 #[.agg #[.string snm,vm,.slice ae E ce,.slice at' T ct],.string nm] w fun e w' => ∃ vf vr,e = .returned (.tuple #[.agg #[.string ((ms.find? (fun m => decide (m.name = nm))).getD zeroM).name,vf,vr],.bool (ms.find? (fun m => decide (m.name = nm))).isSome]) ∧ RowG w0 vf 5 (flRows ((ms.find? (fun m => decide (m.name = nm))).getD zeroM).fields) ∧ RowG w0 vr 1 (inRows ((ms.find? (fun m => decide (m.name = nm))).getD zeroM).reserved) ∧ Below w.heap.size w w' := by
 obtain ⟨a,c,rfl,q1,q2⟩ := hr.form2;have HR : Hid (MsIn w0 (.slice a ms.length c) ms) := hr;obtain ⟨N,hN⟩ : ∃ N,ms.length = N := ⟨_,rfl⟩;rw [hN] at HR q1 ⊢;have HN : Hid (ms.length = N) := hN;clear hN hr;obtain ⟨A,hA⟩ : ∃ A,(ms.find? (fun m => decide (m.name = nm))) = A := ⟨_,rfl⟩;rw [hA];have HA : Hid (A = ((ms.drop 0).find? (fun m => decide (m.name = nm)))) := hA.symm;clear hA;have BX0 : Blk ((w.alloc (.cells #[.string snm,.slice a N c,.slice ae E ce,.slice at' T ct] 26)).alloc (.cells #[.string ⟨#[]⟩,.slice none 0 0,.slice none 0 0] 52)) w.heap.size #[.string snm,.slice a N c,.slice ae E ce,.slice at' T ct] 26 := (Blk.new w _ _).below (bra _)
 have BR0 : Blk ((w.alloc (.cells #[.string snm,.slice a N c,.slice ae E ce,.slice at' T ct] 26)).alloc (.cells #[.string ⟨#[]⟩,.slice none 0 0,.slice none 0 0] 52)) (w.heap.size + 1) #[.string ⟨#[]⟩,.slice none 0 0,.slice none 0 0] 52 := by
  have := Blk.new (w.alloc (.cells #[.string snm,.slice a N c,.slice ae E ce,.slice at' T ct] 26)) #[.string ⟨#[]⟩,.slice none 0 0,.slice none 0 0] 52
  rwa [show (w.alloc (.cells #[.string snm,.slice a N c,.slice ae E ce,.slice at' T ct] 26)).heap.size = w.heap.size + 1 by simp] at this
 have hb0 : Below w.heap.size w ((w.alloc (.cells #[.string snm,.slice a N c,.slice ae E ce,.slice at' T ct] 26)).alloc (.cells #[.string ⟨#[]⟩,.slice none 0 0,.slice none 0 0] 52)) := (bra _).alloc (by simp) _
 go_enter Tryz.func25,Tryz.ntmps25
 go_wp2_with fail
 go_loopw [6] (fun iv wr => ∃ k : Nat,iv = .int .i64 (k : Int) ∧ k ≤ N ∧ Hid (A = ((ms.drop k).find? (fun m => decide (m.name = nm)))) ∧ Below w.heap.size w wr ∧ Blk wr (w.heap.size + 1) #[.string ⟨#[]⟩,.slice none 0 0,.slice none 0 0] 52 ∧ Blk wr w.heap.size #[.string snm,.slice a N c,.slice ae E ce,.slice at' T ct] 26) (fun iv _ => N - (intOf iv).toNat)
 case atStart => exact ⟨0,rfl,by omega,HA,hb0,BR0,BX0⟩
 case round =>
  obtain ⟨k,rfl,hk,HAk,hbel,BR,BX⟩ := hrel;clear BX0 BR0 hb0;have hlt2 : w.heap.size + 1 < wr.heap.size := BR.lt;have r0 := (BR.cell 0).trans rfl;have z0 := BR.froz 0;have r1 := (BR.cell 1).trans rfl;have z1 := BR.froz 1;have r2 := (BR.cell 2).trans rfl;have z2 := BR.froz 2;have x1 : wr.cell? ⟨w.heap.size,1,none⟩ = some (.slice a N c) := BX.cell 1
  by_cases hlt : k < N
  ·obtain ⟨f,hf⟩ : ∃ n,ms[k]? = some n := ⟨_,List.getElem?_eq_getElem (by rw [HN.out]; exact hlt)⟩;obtain ⟨g,off,vf,vr,rfl,c0',c1',c2',hrf,hrr⟩ := HR.out.get hf;have c0 := ((hw0.trans (hbel.mono hw0.size)).cell (World.block_lt_of_cell? _ _ c0')).trans c0';have c1 := ((hw0.trans (hbel.mono hw0.size)).cell (World.block_lt_of_cell? _ _ c1')).trans c1';have c2 := ((hw0.trans (hbel.mono hw0.size)).cell (World.block_lt_of_cell? _ _ c2')).trans c2';clear c0' c1' c2';have HF : Hid (RowG w0 vf 5 (flRows f.fields)) := hrf;have HV : Hid (RowG w0 vr 1 (inRows f.reserved)) := hrr;obtain ⟨a3,c3,rfl,_,_⟩ := hrf.form2;obtain ⟨a4,c4,rfl,_,_⟩ := hrr.form2;have HF : Hid (RowG w0 (.slice a3 (flRows f.fields).length c3) 5 (flRows f.fields)) := HF;have HV : Hid (RowG w0 (.slice a4 (inRows f.reserved).length c4) 1 (inRows f.reserved)) := HV
   have HA2 : Hid (A = if decide (f.name = nm) = true then some f else ((ms.drop (k + 1)).find? (fun m => decide (m.name = nm)))) := by
    show _ = _
    rw [HAk.out,drop_at hf,List.find?_cons]
    cases decide (f.name = nm) <;> rfl
   obtain ⟨f0,ff,fr⟩ := f;simp only at c0 c1 c2 HA2 HF HV;generalize hnF : (flRows ff).length = nF at *;generalize hnR : (inRows fr).length = nR at *;clear hrf hrr hf HAk hnF hnR
   by_cases he : f0 = nm
   ·subst he
    have HA3 : Hid (A = some ⟨f0,ff,fr⟩) := by show _ = _; rw [HA2.out,if_pos (by simp)]
    clear HA2;go_wp2_with fail;refine bodyPost_ret (results_two rfl _ _ _ ⟨w.heap.size + 1,0,none⟩ (.agg #[.string f0,.slice a3 nF c3,.slice a4 nR c4]) (by go_simp) (by go_simp)) rfl ?_;refine ⟨.slice a3 nF c3,.slice a4 nR c4,ret_two (by rw [HA3.out]; rfl) (by rw [HA3.out]; rfl),?_,?_,(Below.setCell (Below.setCell (Below.setCell hbel (by simp) _) (by simp) _) (by simp) _)⟩
    ·rw [HA3.out]; exact HF.out
    ·rw [HA3.out]; exact HV.out
   ·have hq := bytes_ne he
    have HA3 : Hid (A = ((ms.drop (k + 1)).find? (fun m => decide (m.name = nm)))) := by show _ = _; rw [HA2.out,if_neg (by simpa using he)]
    go_wp2_with fail
    go_roundw
    case rel => exact ⟨k + 1,by go_num,by omega,HA3,hbel,BR,BX⟩
    case measure => simp [intOf]; omega
  ·have HA2 : Hid (A = none) := by show _ = _; rw [HAk.out,drop_end (by rw [HN.out]; omega)]; rfl
   go_wp2_with fail;refine bodyPost_ret (results_two rfl _ _ _ ⟨w.heap.size + 1,0,none⟩ (.agg #[.string ⟨#[]⟩,.slice none 0 0,.slice none 0 0]) (by go_simp) (by go_simp)) rfl ?_;exact ⟨.slice none 0 0,.slice none 0 0,ret_two (by rw [HA2.out]; rfl) (by rw [HA2.out]; rfl),by rw [HA2.out]; exact RowG.nil _ _,by rw [HA2.out]; exact RowG.nil _ _,(Below.setCell (Below.setCell (Below.setCell hbel (by simp) _) (by simp) _) (by simp) _)⟩
end
end Go.Proofs.YtmgbhicogmclgaaGreat

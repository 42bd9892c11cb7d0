/- Part 6 of what the proof stands on. -/
import Derived.Test.YtmgbhicogmclgaaGreatPkWAE
import Derived.OneCell
namespace Go.Proofs.YtmgbhicogmclgaaGreat
set_option maxHeartbeats 8000000
set_option linter.unusedVariables false
set_option linter.unusedSimpArgs false
set_option maxRecDepth 20000
section
open Go.ChangeShapes Go.WideShapes Go.ChangeAt Go.RowKit
def dpL (m : Nat) (M : List (List (Int × List Tr))) : Nat := if M = [] then 0 else 1 + ((subsL M).map (dpN m)).foldr max 0
theorem mem_subsL {M : List (List (Int × List Tr))} {x : Tr} : x ∈ subsL M ↔ ∃ m ∈ M,x ∈ subs m := by simp [subsL,List.mem_flatMap]
theorem mem_msgsL {ts : List Tr} {m : List (Int × List Tr)} : m ∈ msgsL ts ↔ ∃ t ∈ ts,t.kind = 3 ∧ t.es = m := by
 simp only [msgsL,List.mem_map,List.mem_filter,beq_iff_eq]
 constructor
 ·rintro ⟨t,⟨h1,h2⟩,h3⟩; exact ⟨t,h1,h2,h3⟩
 ·rintro ⟨t,h1,h2,h3⟩; exact ⟨t,⟨h1,h2⟩,h3⟩
theorem dp_step {m : Nat} {ts : List Tr} {M : List (List (Int × List Tr))} (h : MsgS ts M) : (ts.map (dpN (m + 1))).foldr max 0 = dpL m M := by
 apply Nat.le_antisymm
 ·refine foldr_max_le fun d hd => ?_
  obtain ⟨t,ht,rfl⟩ := List.mem_map.1 hd;simp only [dpN]
  split
  ·rename_i hk
   have hm := h.2 t ht hk
   have hne : M ≠ [] := fun e => by rw [e] at hm; cases hm
   rw [dpL,if_neg hne];refine Nat.add_le_add_left (foldr_max_le fun d hd => ?_) 1;obtain ⟨x,hx,rfl⟩ := List.mem_map.1 hd;exact le_foldr_max (List.mem_map_of_mem (mem_subsL.2 ⟨_,hm,hx⟩))
  ·exact Nat.zero_le _
 ·unfold dpL
  split
  ·exact Nat.zero_le _
  ·rename_i hne
   obtain ⟨m0,hm0⟩ := List.exists_mem_of_ne_nil _ hne;obtain ⟨t0,ht0,hk0,rfl⟩ := mem_msgsL.1 (h.1.subset hm0);have hone : 1 ≤ (ts.map (dpN (m + 1))).foldr max 0 := Nat.le_trans (by simp [dpN,hk0]) (le_foldr_max (List.mem_map_of_mem ht0))
   have : ((subsL M).map (dpN m)).foldr max 0 ≤ (ts.map (dpN (m + 1))).foldr max 0 - 1 := foldr_max_le fun d hd => by
    obtain ⟨x,hx,rfl⟩ := List.mem_map.1 hd;obtain ⟨m1,hm1,hx⟩ := mem_subsL.1 hx;obtain ⟨t1,ht1,hk1,rfl⟩ := mem_msgsL.1 (h.1.subset hm1);have h2 : dpN (m + 1) t1 ≤ (ts.map (dpN (m + 1))).foldr max 0 := le_foldr_max (List.mem_map_of_mem ht1);have h3 : dpN m x ≤ ((subs t1.es).map (dpN m)).foldr max 0 := le_foldr_max (List.mem_map_of_mem hx)
    have h4 : dpN (m + 1) t1 = 1 + ((subs t1.es).map (dpN m)).foldr max 0 := by simp [dpN,hk1]
    rw [h4] at h2
    omega
   omega
theorem cntL_zero : ∀ ts : List Tr,cntL 0 ts = 0
 | [] => rfl
 | t :: l => by
  have := cntL_zero l;simp only [cntL,List.map_cons,List.sum_cons,cntN] at this ⊢
  omega
theorem cntL_append (m : Nat) (a b : List Tr) : cntL m (a ++ b) = cntL m a + cntL m b := by simp [cntL,List.sum_append]
theorem cnt_msgs (m : Nat) : ∀ ts : List Tr,cntL m (subsL (msgsL ts)) ≤ cntL (m + 1) ts
 | [] => by simp [cntL,subsL,msgsL]
 | t :: ts => by
  have ih := cnt_msgs m ts
  have h1 : cntL (m + 1) (t :: ts) = 1 + cntL m (subs t.es) + cntL (m + 1) ts := by simp [cntL,cntN]
  by_cases hk : t.kind = 3
  ·have h2 : subsL (msgsL (t :: ts)) = subs t.es ++ subsL (msgsL ts) := by simp [msgsL,hk,subsL]
   rw [h1,h2,cntL_append]
   omega
  ·have h2 : msgsL (t :: ts) = msgsL ts := by simp [msgsL,hk]
   rw [h1,h2]
   omega
theorem cnt_sub {m : Nat} {M M' : List (List (Int × List Tr))} (h : M.Sublist M') : cntL m (subsL M) ≤ cntL m (subsL M') := by
 induction h with
 | slnil => simp
 | cons a _ ih => simp only [subsL,List.flatMap_cons,cntL_append] at *; omega
 | cons_cons a _ ih => simp only [subsL,List.flatMap_cons,cntL_append] at *; omega
theorem cnt_step {m : Nat} {ts : List Tr} {M : List (List (Int × List Tr))} (h : MsgS ts M) : cntL m (subsL M) ≤ cntL (m + 1) ts := Nat.le_trans (cnt_sub h.1) (cnt_msgs m ts)
theorem len_cnt {m : Nat} {w : World} {v : Value} {ts : List Tr} (h : TrsQ m w v ts) : ts.length ≤ cntL m ts := by
 cases m with
 | zero =>
  cases ts with
  | nil => simp
  | cons t l =>
   obtain ⟨rows,_,_,h3⟩ := h;obtain ⟨r,_,hp⟩ := h3 0 t rfl;exact hp.elim
 | succ m => exact len_le_sum fun x hx => by simp [cntN]
theorem len_subsL {m : Nat} {w : World} {v : Value} {M : List (List (Int × List Tr))} (h : LvQ m w v M) : (subsL M).length ≤ cntL m (subsL M) := by
 cases m with
 | zero =>
  cases hs : subsL M with
  | nil => simp
  | cons t l =>
   have ht : t ∈ subsL M := by rw [hs]; simp
   obtain ⟨m0,hm0,hx⟩ := mem_subsL.1 ht;obtain ⟨e,he,hx⟩ := mem_subs.1 hx;obtain ⟨rows,_,_,h3⟩ := h;obtain ⟨i,hi,ei⟩ := List.getElem_of_mem hm0;obtain ⟨r,_,ve,rfl,hE,_⟩ := h3 i m0 (by rw [List.getElem?_eq_getElem hi,ei]);obtain ⟨rows2,_,_,h4⟩ := hE;obtain ⟨j,hj,ej⟩ := List.getElem_of_mem he;obtain ⟨r2,_,vt,rfl,_,hT⟩ := h4 j e (by rw [List.getElem?_eq_getElem hj,ej]);obtain ⟨rows3,_,_,h5⟩ := hT;obtain ⟨k,hk,ek⟩ := List.getElem_of_mem hx;obtain ⟨r3,_,hq⟩ := h5 k t (by rw [List.getElem?_eq_getElem hk,ek]);exact hq.elim
 | succ m => exact len_le_sum fun x hx => by simp [cntN]
theorem messages_any (n : Nat) (v : Value) (ts : List Tr) (w : World) (h : TrsQ n w v ts) (hl : ts.length ≤ 5000) : Calls Tryz.prog 42 #[v] w (MsgP (n - 1) ts w) := by
 cases n with
 | zero =>
  have : ts = [] := by
   cases ts with
   | nil => rfl
   | cons t l =>
    obtain ⟨rows,_,_,h3⟩ := h;obtain ⟨r,_,hp⟩ := h3 0 t rfl;exact hp.elim
  subst this;exact messages_step 0 v [] w (h.imp fun r x hx => by cases hx) hl
 | succ n => exact messages_step n v ts w h hl
theorem one_row {n : Nat} {w : World} {g : Nat} {r : List Value} {t : Tr} {ty : TypeId} (hb : Blk w g r.toArray ty) (h : TrQ n w r t) : TrsQ n w (.slice (some ⟨g, 0, none⟩) 1 1) [t] := by
  refine ⟨[r], ⟨some ⟨g, 0, none⟩, 1, rfl, by simp, by unfold maxLen; omega, by simp, fun _ => ⟨g, 0, rfl, fun i c u j hi hj => ?_⟩⟩, rfl, fun i x hx => ?_⟩
  · cases i with
    | zero =>
      obtain rfl : r = c := by simpa using hi
      rw [hb.cell]
      simpa using hj
    | succ i => simp at hi
  · cases i with
    | zero => obtain rfl : t = x := by simpa using hx
              exact ⟨r, rfl, h⟩
    | succ i => simp at hx
def TrV2 (n : Nat) (w : World) (v : Value) (t : Tr) : Prop := ∃ r,v = .agg r.toArray ∧ TrQ n w r t
theorem TrV2.open {n : Nat} {w : World} {v : Value} {t : Tr} (h : TrV2 n w v t) : ∃ ea el ec ra rl rc,v = .agg #[.int .i64 t.kind,.int .i64 t.n,.string t.s,.slice ea el ec,.slice ra rl rc] ∧ TrQ n w [.int .i64 t.kind,.int .i64 t.n,.string t.s,.slice ea el ec,.slice ra rl rc] t := by
 obtain ⟨r,rfl,h⟩ := h
 cases n with
 | zero => exact h.elim
 | succ n =>
  have h' := h;obtain ⟨ve,vr,rfl,_,_,_,_,h6,h7,_⟩ := h;obtain ⟨a1,c1,rfl,_⟩ := RowP.open h7;obtain ⟨a2,c2,rfl,_⟩ := h6.form2;exact ⟨_,_,_,_,_,_,rfl,h'⟩
theorem TrV2.below {n : Nat} {w w1 : World} {v : Value} {t : Tr} (h : TrV2 n w v t) (hb : Below w.heap.size w w1) : TrV2 n w1 v t := by
 obtain ⟨r,h1,h2⟩ := h;exact ⟨r,h1,h2.below hb⟩
theorem depth_any (n : Nat) (t : Tr) (v : Value) (w : World) (h : TrV2 n w v t) (hn : n ≤ 60) (hc : cntN n t ≤ 5000) :
  Calls Tryz.prog 40 #[v] w fun e w' => e = .returned (.int .i64 (dpN n t : Int)) ∧ Below w.heap.size w w' := by
 obtain ⟨ea,el,ec,ra,rl,rc,rfl,hq⟩ := h.open;have HQ : Hid (TrQ n w [.int .i64 t.kind,.int .i64 t.n,.string t.s,.slice ea el ec,.slice ra rl rc] t) := hq;have HC : Hid (cntN n t ≤ 5000) := hc
 obtain ⟨m,rfl⟩ : ∃ m,n = m + 1 := by
  cases n with
  | zero => exact hq.elim
  | succ m => exact ⟨m,rfl⟩
 clear h hq hc;obtain ⟨D,hD⟩ : ∃ D,dpN (m + 1) t = D := ⟨_,rfl⟩;have HD : Hid (dpN (m + 1) t = D) := hD
 have hD60 : D ≤ 60 := by have := dpN_le (m + 1) t; omega
 rw [hD];clear hD;generalize t.kind = K at *;generalize t.n = N at *;generalize t.s = S at *
 go_enter Tryz.func40,Tryz.ntmps40
 go_wp2_with fail;have hw2 : Below w.heap.size w ((w.alloc (Obj.cells #[.int .i64 K,.int .i64 N,.string S,.slice ea el ec,.slice ra rl rc] 30)).alloc (Obj.cells #[.int .i64 K,.int .i64 N,.string S,.slice ea el ec,.slice ra rl rc] 30)) := (bra _).alloc (by simp) _;refine (messages_any (m + 1) _ [t] _ (one_row (blk_new2T w _ _ _) (HQ.out.below hw2)) (by simp)).mono ?_;rintro e w1 ⟨lv,M,rfl,hM,hS,hb1⟩;have hb : Below w.heap.size w w1 := hw2.trans (hb1.mono hw2.size);have H0 : Hid (LvQ m w1 lv M) := hM
 have hdp : 0 + dpL m M = D := by
  rw [← HD.out,← dp_step hS]
  simp
 have hcn : cntL m (subsL M) ≤ 5000 := Nat.le_trans (cnt_step hS) (by have := HC.out; simpa [cntL] using this);have H1 : Hid (0 + dpL m M = D) := hdp;obtain ⟨la,lc,rfl,l1,l2, -⟩ := RowP.open hM;clear hM hS hb1 hw2 hdp HQ HC HD;go_wp2_with fail
 go_loopw [3,4] (fun dv lv wr => ∃ (d m : Nat) (M : List (List (Int × List Tr))),dv = .int .i64 (d : Int) ∧ Hid (LvQ m wr lv M) ∧ Hid (d + dpL m M = D) ∧ Hid (cntL m (subsL M) ≤ 5000) ∧ d ≤ D ∧ Below w.heap.size w wr) (fun dv _ _ => 101 - (intOf dv).toNat)
 case atStart => exact ⟨0,m,M,rfl,H0,H1,hcn,by omega,hb⟩
 case round =>
  clear H0 H1 hcn hb l1 l2;obtain ⟨d,m,M,rfl,HL,HD,HC,hdD,hb⟩ := hrel;obtain ⟨la,lc,rfl,l1,l2, -⟩ := RowP.open HL.out;unfold maxLen at l2
  have hd1 : decide ((d : Int) ≤ 100) = true := by simp; omega
  obtain ⟨Ml,hMl⟩ : ∃ k,M.length = k := ⟨_,rfl⟩;rw [hMl] at l1;have HL' : Hid (LvQ m wr (.slice la Ml lc) M) := hid (by rw [← hMl]; exact HL.out);rw [hMl];have HMl : Hid (M.length = Ml) := hMl;clear hMl HL
  by_cases h0 : Ml = 0
  ·subst h0;have hM0 : M = [] := List.eq_nil_of_length_eq_zero HMl.out
   have hdd : d = D := by have := HD.out; rw [hM0] at this; simpa [dpL] using this
   have HDD : Hid (d = D) := hdd;clear hM0 hdd;go_wp2_with fail;go_ret;refine ⟨?_,hb⟩;have := HDD.out;subst this
   rfl
  ·have hpos : 0 < Ml := by omega
   have hd2 : decide (0 < (Ml : Int)) = true := by simp; omega
   have hne : M ≠ [] := fun e => h0 (by rw [← HMl.out,e]; rfl)
   have hdpM : dpL m M = 1 + ((subsL M).map (dpN m)).foldr max 0 := by rw [dpL,if_neg hne]
   have HDP : Hid (d + (1 + ((subsL M).map (dpN m)).foldr max 0) = D) := hid (by rw [← hdpM]; exact HD.out);have hlen := len_subsL HL'.out;have hlen2 : (subsL M).length ≤ 5000 := Nat.le_trans hlen HC.out;have HI : Hid (Calls Tryz.prog 41 #[.slice la Ml lc] wr (InsP m M wr)) := inside_any m _ M wr HL'.out hlen2;have HLN : Hid ((subsL M).length ≤ 5000) := hlen2;clear hlen hlen2 hdpM hne HD;go_wp2_with fail;refine HI.out.mono ?_;rintro e w2 ⟨iv,rfl,hT,hb2⟩;have HM2 : Hid (Calls Tryz.prog 42 #[iv] w2 (MsgP (m - 1) (subsL M) w2)) := messages_any m iv (subsL M) w2 hT HLN.out;have hbw2 : Below w.heap.size w w2 := hb.trans (hb2.mono hb.size);obtain ⟨ia,ic,rfl, -⟩ := RowP.open hT;clear hT hb2 HI hb;generalize (subsL M).length = Sl at HM2 ⊢;go_wp2_with fail;refine HM2.out.mono ?_;rintro e w3 ⟨lv3,M3,rfl,hL3,hS3,hb3⟩;have hbw3 : Below w.heap.size w w3 := hbw2.trans (hb3.mono hbw2.size)
   have HD3 : Hid (d + 1 + dpL (m - 1) M3 = D) := by
    show _ = _
    cases m with
    | zero =>
     have h00 : subsL M = [] := by
      have := len_subsL HL'.out;have h1 : cntL 0 (subsL M) = 0 := cntL_zero _;exact List.eq_nil_of_length_eq_zero (by omega)
     have hM3 : M3 = [] := by
      have := hS3.1;rw [h00] at this
      simpa [msgsL] using this
     have := HDP.out;rw [h00] at this;rw [hM3]
     simpa [dpL] using this
    | succ m =>
     have h1 := dp_step (m := m) hS3;have := HDP.out;simp only [Nat.add_sub_cancel]
     omega
   have HC3 : Hid (cntL (m - 1) (subsL M3) ≤ 5000) := by
    show _ ≤ _
    cases m with
    | zero =>
     have h1 : cntL 0 (subsL M3) = 0 := cntL_zero _;simp only [Nat.zero_sub]
     omega
    | succ m => exact Nat.le_trans (cnt_step (m := m) hS3) HC.out
   have hdD3 : d + 1 ≤ D := by have := HD3.out; omega
   have HL3 : Hid (LvQ (m - 1) w3 lv3 M3) := hL3;clear hL3 hS3 hb3 hbw2 HM2 HC HDP HL';go_wp2_with fail
   go_roundw
   case rel => exact ⟨d + 1,m - 1,M3,by go_num,HL3,HD3,HC3,hdD3,hbw3⟩
   case measure => simp [intOf]; omega
def FunP (n : Nat) (w : World) (ts : List Tr) (f : FuncId) (caps : List Value) (p : Tr → Bool) : Prop :=
 ∀ W x r,Below w.heap.size w W → x ∈ ts → TrQ n W r x → Calls Tryz.prog f (.agg r.toArray :: caps).toArray W fun e w' => e = .returned (.bool (p x)) ∧ Below W.heap.size W w'
theorem indexW_any (n : Nat) (v : Value) (ts : List Tr) (w : World) (p : Tr → Bool) (h : TrsQ n w v ts) (hf : FunP n w ts 44 [] p) :
  Calls Tryz.prog 76 #[v,.func (.func 44) #[] #[]] w fun e w' => (∃ k : Int,e = .returned (.int .i64 k) ∧ (0 ≤ k ↔ ts.any p = true)) ∧ Below w.heap.size w w' := by
 obtain ⟨a,cap,rfl,h1,h2, -⟩ := RowP.open h;obtain ⟨N,hN⟩ : ∃ N,ts.length = N := ⟨_,rfl⟩;rw [hN] at h1 ⊢;have HH : Hid (TrsQ n w (.slice a N cap) ts) := hid (by rw [← hN]; exact h);have HN : Hid (ts.length = N) := hN;have HF : Hid (FunP n w ts 44 [] p) := hf;unfold maxLen at h2;clear h hN hf
 go_enter Tryz.func76,Tryz.ntmps76
 go_wp2_with fail
 go_loopw [8] (fun iv wr => ∃ i : Nat,iv = .int .i64 (i : Int) ∧ i ≤ N ∧ Hid (∀ x ∈ ts.take i,p x = false) ∧ Below w.heap.size w wr) (fun iv _ => N - (intOf iv).toNat)
 case atStart => exact ⟨0,rfl,by omega,(by simp : ∀ x ∈ ts.take 0,p x = false),Below.refl _ _⟩
 case round =>
  obtain ⟨i,rfl,hi,HI,hbel⟩ := hrel
  by_cases hlt : i < N
  ·obtain ⟨t,ht⟩ : ∃ r,ts[i]? = some r := ⟨_,List.getElem?_eq_getElem (by rw [HN.out]; exact hlt)⟩;obtain ⟨g,off,rfl,r,hr,hc⟩ := (HH.out.belowTQ hbel).get ht;have h5 := hr.five
   obtain ⟨r0,r1,r2,r3,r4,rfl⟩ : ∃ a b c d e,r = [a,b,c,d,e] := by
    match r,h5.1 with
    | [a,b,c,d,e],_ => exact ⟨a,b,c,d,e,rfl⟩
   have o0 := h5.2 r0 (by simp);have o1 := h5.2 r1 (by simp);have o2 := h5.2 r2 (by simp);have o3 := h5.2 r3 (by simp);have o4 := h5.2 r4 (by simp);obtain ⟨ea,el,ec,ra,rl,rc,e1, -⟩ := TrV2.open ⟨_,rfl,hr⟩;simp only [Value.agg.injEq,Array.mk.injEq,List.cons.injEq,and_true] at e1;obtain ⟨rfl,rfl,rfl,rfl,rfl⟩ := e1;have c0 := hc 0 _ rfl;have c1 := hc 1 _ rfl;have c2 := hc 2 _ rfl;have c3 := hc 3 _ rfl;have c4 := hc 4 _ rfl;simp only [Nat.add_zero] at c0;have HC := HF.out wr t _ hbel (List.mem_of_getElem? ht) hr;have HCC : Hid _ := HC;have HT : Hid (ts.take (i + 1) = ts.take i ++ [t]) := take_atQ ht;have HTM : Hid (t ∈ ts) := List.mem_of_getElem? ht;clear hc h5 o0 o1 o2 o3 o4 HC ht hr;obtain ⟨R,hR⟩ : ∃ R,p t = R := ⟨_,rfl⟩;have HR : Hid (p t = R) := hR;clear hR;go_wp2_with fail;refine Calls.mono HCC.out ?_;rintro e w2 ⟨rfl,hb2⟩;rw [HR.out];have hbw : Below w.heap.size w w2 := hbel.trans (hb2.mono hbel.size);clear HCC hb2 c0 c1 c2 c3 c4 hbel
   cases R with
   | true =>
    go_wp2_with fail;go_ret;exact ⟨⟨_,rfl,by simp only [Int.natCast_nonneg,true_iff]; exact List.any_eq_true.2 ⟨t,HTM.out,HR.out⟩⟩,hbw⟩
   | false =>
    go_wp2_with fail
    go_roundw
    case rel => exact ⟨i + 1,by go_num,by omega,(by
     rw [HT.out];intro x hx
     rcases List.mem_append.1 hx with hx | hx
     ·exact HI.out x hx
     ·obtain rfl : x = t := by simpa using hx
      exact HR.out : ∀ x ∈ ts.take (i + 1),p x = false),hbw⟩
    case measure => simp [intOf]; omega
  ·go_wp2_with fail;go_ret;have h5 := HI.out;rw [List.take_of_length_le (by rw [HN.out]; omega)] at h5;refine ⟨⟨-1,rfl,?_⟩,hbel⟩
   have : ts.any p = false := by rw [List.any_eq_false]; intro x hx; rw [h5 x hx]; simp
   rw [this]
   simp
theorem containsW_any (n : Nat) (v : Value) (ts : List Tr) (w : World) (p : Tr → Bool) (h : TrsQ n w v ts) (hf : FunP n w ts 44 [] p) :
  Calls Tryz.prog 43 #[v,.func (.func 44) #[] #[]] w fun e w' => e = .returned (.bool (ts.any p)) ∧ Below w.heap.size w w' := by
 have HI : Hid _ := indexW_any n v ts w p h hf;obtain ⟨a,cap,rfl,h1,h2, -⟩ := RowP.open h;clear h hf;generalize ts.length = N at *;obtain ⟨R,hR⟩ : ∃ R,ts.any p = R := ⟨_,rfl⟩;rw [hR] at HI ⊢;clear hR
 go_enter Tryz.func43,Tryz.ntmps43
 go_wp2_with fail;refine Calls.mono HI.out ?_;rintro e w2 ⟨⟨k,rfl,hk⟩,hb⟩;clear HI
 have hd : decide (0 ≤ k) = R := by
  cases R
  ·simpa using hk
  ·simpa using hk
 clear hk;go_wp2_with fail;go_ret;exact ⟨rfl,hb⟩
theorem indexK_any (b : Nat) (n : Nat) (v : Value) (ts : List Tr) (w : World) (p : Tr → Bool) (h : TrsQ n w v ts) (hf : FunP n w ts 123 [.pointer (some ⟨b,0,none⟩)] p) :
  Calls Tryz.prog 76 #[v,.func (.func 123) #[] #[.pointer (some ⟨b,0,none⟩)]] w fun e w' => (∃ k : Int,e = .returned (.int .i64 k) ∧ (0 ≤ k ↔ ts.any p = true)) ∧ Below w.heap.size w w' := by
 obtain ⟨a,cap,rfl,h1,h2, -⟩ := RowP.open h;obtain ⟨N,hN⟩ : ∃ N,ts.length = N := ⟨_,rfl⟩;rw [hN] at h1 ⊢;have HH : Hid (TrsQ n w (.slice a N cap) ts) := hid (by rw [← hN]; exact h);have HN : Hid (ts.length = N) := hN;have HF : Hid (FunP n w ts 123 [.pointer (some ⟨b,0,none⟩)] p) := hf;unfold maxLen at h2;clear h hN hf
 go_enter Tryz.func76,Tryz.ntmps76
 go_wp2_with fail
 go_loopw [8] (fun iv wr => ∃ i : Nat,iv = .int .i64 (i : Int) ∧ i ≤ N ∧ Hid (∀ x ∈ ts.take i,p x = false) ∧ Below w.heap.size w wr) (fun iv _ => N - (intOf iv).toNat)
 case atStart => exact ⟨0,rfl,by omega,(by simp : ∀ x ∈ ts.take 0,p x = false),Below.refl _ _⟩
 case round =>
  obtain ⟨i,rfl,hi,HI,hbel⟩ := hrel
  by_cases hlt : i < N
  ·obtain ⟨t,ht⟩ : ∃ r,ts[i]? = some r := ⟨_,List.getElem?_eq_getElem (by rw [HN.out]; exact hlt)⟩;obtain ⟨g,off,rfl,r,hr,hc⟩ := (HH.out.belowTQ hbel).get ht;have h5 := hr.five
   obtain ⟨r0,r1,r2,r3,r4,rfl⟩ : ∃ a b c d e,r = [a,b,c,d,e] := by
    match r,h5.1 with
    | [a,b,c,d,e],_ => exact ⟨a,b,c,d,e,rfl⟩
   have o0 := h5.2 r0 (by simp);have o1 := h5.2 r1 (by simp);have o2 := h5.2 r2 (by simp);have o3 := h5.2 r3 (by simp);have o4 := h5.2 r4 (by simp);obtain ⟨ea,el,ec,ra,rl,rc,e1, -⟩ := TrV2.open ⟨_,rfl,hr⟩;simp only [Value.agg.injEq,Array.mk.injEq,List.cons.injEq,and_true] at e1;obtain ⟨rfl,rfl,rfl,rfl,rfl⟩ := e1;have c0 := hc 0 _ rfl;have c1 := hc 1 _ rfl;have c2 := hc 2 _ rfl;have c3 := hc 3 _ rfl;have c4 := hc 4 _ rfl;simp only [Nat.add_zero] at c0;have HC := HF.out wr t _ hbel (List.mem_of_getElem? ht) hr;have HCC : Hid _ := HC;have HT : Hid (ts.take (i + 1) = ts.take i ++ [t]) := take_atQ ht;have HTM : Hid (t ∈ ts) := List.mem_of_getElem? ht;clear hc h5 o0 o1 o2 o3 o4 HC ht hr;obtain ⟨R,hR⟩ : ∃ R,p t = R := ⟨_,rfl⟩;have HR : Hid (p t = R) := hR;clear hR;go_wp2_with fail;refine Calls.mono HCC.out ?_;rintro e w2 ⟨rfl,hb2⟩;rw [HR.out];have hbw : Below w.heap.size w w2 := hbel.trans (hb2.mono hbel.size);clear HCC hb2 c0 c1 c2 c3 c4 hbel
   cases R with
   | true =>
    go_wp2_with fail;go_ret;exact ⟨⟨_,rfl,by simp only [Int.natCast_nonneg,true_iff]; exact List.any_eq_true.2 ⟨t,HTM.out,HR.out⟩⟩,hbw⟩
   | false =>
    go_wp2_with fail
    go_roundw
    case rel => exact ⟨i + 1,by go_num,by omega,(by
     rw [HT.out];intro x hx
     rcases List.mem_append.1 hx with hx | hx
     ·exact HI.out x hx
     ·obtain rfl : x = t := by simpa using hx
      exact HR.out : ∀ x ∈ ts.take (i + 1),p x = false),hbw⟩
    case measure => simp [intOf]; omega
  ·go_wp2_with fail;go_ret;have h5 := HI.out;rw [List.take_of_length_le (by rw [HN.out]; omega)] at h5;refine ⟨⟨-1,rfl,?_⟩,hbel⟩
   have : ts.any p = false := by rw [List.any_eq_false]; intro x hx; rw [h5 x hx]; simp
   rw [this]
   simp
theorem containsK_any (b : Nat) (n : Nat) (v : Value) (ts : List Tr) (w : World) (p : Tr → Bool) (h : TrsQ n w v ts) (hf : FunP n w ts 123 [.pointer (some ⟨b,0,none⟩)] p) :
  Calls Tryz.prog 43 #[v,.func (.func 123) #[] #[.pointer (some ⟨b,0,none⟩)]] w fun e w' => e = .returned (.bool (ts.any p)) ∧ Below w.heap.size w w' := by
 have HI : Hid _ := indexK_any b n v ts w p h hf;obtain ⟨a,cap,rfl,h1,h2, -⟩ := RowP.open h;clear h hf;generalize ts.length = N at *;obtain ⟨R,hR⟩ : ∃ R,ts.any p = R := ⟨_,rfl⟩;rw [hR] at HI ⊢;clear hR
 go_enter Tryz.func43,Tryz.ntmps43
 go_wp2_with fail;refine Calls.mono HI.out ?_;rintro e w2 ⟨⟨k,rfl,hk⟩,hb⟩;clear HI
 have hd : decide (0 ≤ k) = R := by
  cases R
  ·simpa using hk
  ·simpa using hk
 clear hk;go_wp2_with fail;go_ret;exact ⟨rfl,hb⟩
theorem indexP_any (b : Nat) (n : Nat) (v : Value) (ts : List Tr) (w : World) (p : Tr → Bool) (h : TrsQ n w v ts) (hf : FunP n w ts 82 [.pointer (some ⟨b,0,none⟩)] p) :
  Calls Tryz.prog 76 #[v,.func (.func 82) #[] #[.pointer (some ⟨b,0,none⟩)]] w fun e w' => (∃ k : Int,e = .returned (.int .i64 k) ∧ (0 ≤ k ↔ ts.any p = true)) ∧ Below w.heap.size w w' := by
 obtain ⟨a,cap,rfl,h1,h2, -⟩ := RowP.open h;obtain ⟨N,hN⟩ : ∃ N,ts.length = N := ⟨_,rfl⟩;rw [hN] at h1 ⊢;have HH : Hid (TrsQ n w (.slice a N cap) ts) := hid (by rw [← hN]; exact h);have HN : Hid (ts.length = N) := hN;have HF : Hid (FunP n w ts 82 [.pointer (some ⟨b,0,none⟩)] p) := hf;unfold maxLen at h2;clear h hN hf
 go_enter Tryz.func76,Tryz.ntmps76
 go_wp2_with fail
 go_loopw [8] (fun iv wr => ∃ i : Nat,iv = .int .i64 (i : Int) ∧ i ≤ N ∧ Hid (∀ x ∈ ts.take i,p x = false) ∧ Below w.heap.size w wr) (fun iv _ => N - (intOf iv).toNat)
 case atStart => exact ⟨0,rfl,by omega,(by simp : ∀ x ∈ ts.take 0,p x = false),Below.refl _ _⟩
 case round =>
  obtain ⟨i,rfl,hi,HI,hbel⟩ := hrel
  by_cases hlt : i < N
  ·obtain ⟨t,ht⟩ : ∃ r,ts[i]? = some r := ⟨_,List.getElem?_eq_getElem (by rw [HN.out]; exact hlt)⟩;obtain ⟨g,off,rfl,r,hr,hc⟩ := (HH.out.belowTQ hbel).get ht;have h5 := hr.five
   obtain ⟨r0,r1,r2,r3,r4,rfl⟩ : ∃ a b c d e,r = [a,b,c,d,e] := by
    match r,h5.1 with
    | [a,b,c,d,e],_ => exact ⟨a,b,c,d,e,rfl⟩
   have o0 := h5.2 r0 (by simp);have o1 := h5.2 r1 (by simp);have o2 := h5.2 r2 (by simp);have o3 := h5.2 r3 (by simp);have o4 := h5.2 r4 (by simp);obtain ⟨ea,el,ec,ra,rl,rc,e1, -⟩ := TrV2.open ⟨_,rfl,hr⟩;simp only [Value.agg.injEq,Array.mk.injEq,List.cons.injEq,and_true] at e1;obtain ⟨rfl,rfl,rfl,rfl,rfl⟩ := e1;have c0 := hc 0 _ rfl;have c1 := hc 1 _ rfl;have c2 := hc 2 _ rfl;have c3 := hc 3 _ rfl;have c4 := hc 4 _ rfl;simp only [Nat.add_zero] at c0;have HC := HF.out wr t _ hbel (List.mem_of_getElem? ht) hr;have HCC : Hid _ := HC;have HT : Hid (ts.take (i + 1) = ts.take i ++ [t]) := take_atQ ht;have HTM : Hid (t ∈ ts) := List.mem_of_getElem? ht;clear hc h5 o0 o1 o2 o3 o4 HC ht hr;obtain ⟨R,hR⟩ : ∃ R,p t = R := ⟨_,rfl⟩;have HR : Hid (p t = R) := hR;clear hR;go_wp2_with fail;refine Calls.mono HCC.out ?_;rintro e w2 ⟨rfl,hb2⟩;rw [HR.out];have hbw : Below w.heap.size w w2 := hbel.trans (hb2.mono hbel.size);clear HCC hb2 c0 c1 c2 c3 c4 hbel
   cases R with
   | true =>
    go_wp2_with fail;go_ret;exact ⟨⟨_,rfl,by simp only [Int.natCast_nonneg,true_iff]; exact List.any_eq_true.2 ⟨t,HTM.out,HR.out⟩⟩,hbw⟩
   | false =>
    go_wp2_with fail
    go_roundw
    case rel => exact ⟨i + 1,by go_num,by omega,(by
     rw [HT.out];intro x hx
     rcases List.mem_append.1 hx with hx | hx
     ·exact HI.out x hx
     ·obtain rfl : x = t := by simpa using hx
      exact HR.out : ∀ x ∈ ts.take (i + 1),p x = false),hbw⟩
    case measure => simp [intOf]; omega
  ·go_wp2_with fail;go_ret;have h5 := HI.out;rw [List.take_of_length_le (by rw [HN.out]; omega)] at h5;refine ⟨⟨-1,rfl,?_⟩,hbel⟩
   have : ts.any p = false := by rw [List.any_eq_false]; intro x hx; rw [h5 x hx]; simp
   rw [this]
   simp
theorem containsP_any (b : Nat) (n : Nat) (v : Value) (ts : List Tr) (w : World) (p : Tr → Bool) (h : TrsQ n w v ts) (hf : FunP n w ts 82 [.pointer (some ⟨b,0,none⟩)] p) :
  Calls Tryz.prog 43 #[v,.func (.func 82) #[] #[.pointer (some ⟨b,0,none⟩)]] w fun e w' => e = .returned (.bool (ts.any p)) ∧ Below w.heap.size w w' := by
 have HI : Hid _ := indexP_any b n v ts w p h hf;obtain ⟨a,cap,rfl,h1,h2, -⟩ := RowP.open h;clear h hf;generalize ts.length = N at *;obtain ⟨R,hR⟩ : ∃ R,ts.any p = R := ⟨_,rfl⟩;rw [hR] at HI ⊢;clear hR
 go_enter Tryz.func43,Tryz.ntmps43
 go_wp2_with fail;refine Calls.mono HI.out ?_;rintro e w2 ⟨⟨k,rfl,hk⟩,hb⟩;clear HI
 have hd : decide (0 ≤ k) = R := by
  cases R
  ·simpa using hk
  ·simpa using hk
 clear hk;go_wp2_with fail;go_ret;exact ⟨rfl,hb⟩
theorem pfits_any (f : FlS) (x : Tr) (a1 a2 : Option Addr) (n1 c1 n2 c2 : Nat) (w : World) (hk : 1 ≤ f.kind ∧ f.kind ≤ 7) (hS : x.s.size ≤ 140737488351232) :
  Calls Tryz.prog 83 #[.agg #[.int .i64 f.kind,.string f.tname],.agg #[.int .i64 x.kind,.int .i64 x.n,.string x.s,.slice a1 n1 c1,.slice a2 n2 c2]] w fun e w' => e = .returned (.bool (pfitB f x)) ∧ Below w.heap.size w w' := by
 obtain ⟨V,hV⟩ : ∃ V,pfitB f x = V := ⟨_,rfl⟩;have HV : Hid ((decide (x.kind = kindT f.kind) && (if f.kind = 3 ∨ f.kind = 6 then nmrB f.kind x.n else if f.kind = 4 then validB x.s.data.toList else true)) = V) := hV;rw [hV];clear hV;generalize f.kind = k at *;generalize f.tname = tn at *;generalize x.kind = K at *;generalize x.n = N at *;generalize x.s = S at *;have hbw : Below w.heap.size w ((w.alloc (Obj.cells #[.int .i64 k,.string tn] 54)).alloc (Obj.cells #[.int .i64 K,.int .i64 N,.string S,.slice a1 n1 c1,.slice a2 n2 c2] 30)) := (bra _).alloc (by simp) _;have BT : Blk ((w.alloc (Obj.cells #[.int .i64 k,.string tn] 54)).alloc (Obj.cells #[.int .i64 K,.int .i64 N,.string S,.slice a1 n1 c1,.slice a2 n2 c2] 30)) (w.heap.size + 1) #[.int .i64 K,.int .i64 N,.string S,.slice a1 n1 c1,.slice a2 n2 c2] 30 := blk_new2T _ _ _ _;have HSZ : Hid (S.size ≤ 140737488351232) := hS;clear hS;obtain ⟨hk1,hk2⟩ := hk
 have hc : k = 1 ∨ k = 2 ∨ k = 3 ∨ k = 4 ∨ k = 5 ∨ k = 6 ∨ k = 7 := by omega
 clear hk1 hk2
 rcases hc with rfl | rfl | rfl | rfl | rfl | rfl | rfl
 ·skip
  have HW : Hid ((K == 1) = V) := hid (by
   rw [← HV.out]
   show (K == 1) = (decide (K = 1) && true)
   rw [Bool.and_true]; rfl)
  clear HV BT
  go_enter Tryz.func83,Tryz.ntmps83
  go_wp2_with fail;go_ret;exact ⟨congrArg (fun b => Ending.returned (.bool b)) HW.out,hbw⟩
 ·skip
  have HW : Hid ((K == 1) = V) := hid (by
   rw [← HV.out]
   show (K == 1) = (decide (K = 1) && true)
   rw [Bool.and_true]; rfl)
  clear HV BT
  go_enter Tryz.func83,Tryz.ntmps83
  go_wp2_with fail;go_ret;exact ⟨congrArg (fun b => Ending.returned (.bool b)) HW.out,hbw⟩
 ·skip
  obtain ⟨R,hR⟩ : ∃ R,nmrB 3 N = R := ⟨_,rfl⟩
  have HC : Hid (∀ W,Calls Tryz.prog 111 #[.agg #[.int .i64 3,.string tn],.int .i64 N] W fun e w' => e = .returned (.bool R) ∧ Below W.heap.size W w') := fun W => by rw [← hR]; exact number_any 3 N tn W
  have HW : Hid ((decide (K = 1) && R) = V) := hid (by rw [← HV.out,← hR]; rfl);clear hR HV
  go_enter Tryz.func83,Tryz.ntmps83
  go_wp2_with fail;refine (HC.out _).mono ?_;rintro e W1 ⟨rfl,hb1⟩;have BT1 := BT.below hb1;have hbw1 := hbw.trans (hb1.mono hbw.size);have t0 := (BT1.cell 0).trans rfl;clear HC hb1 BT BT1
  cases R with
  | false =>
   go_wp2_with fail;go_ret;exact ⟨congrArg (fun b => Ending.returned (.bool b)) (by rw [← HW.out,Bool.and_false] : false = V),hbw1⟩
  | true =>
   go_wp2_with fail;go_ret;exact ⟨congrArg (fun b => Ending.returned (.bool b)) (by rw [← HW.out,Bool.and_true]; rfl : (K == 1) = V),hbw1⟩
 ·skip
  obtain ⟨R,hR⟩ : ∃ R,validB S.data.toList = R := ⟨_,rfl⟩
  have HC : Hid (∀ W,Calls Tryz.prog 112 #[.string S] W fun e w' => e = .returned (.bool R) ∧ Below W.heap.size W w') := fun W => by rw [← hR]; exact valid_any S W HSZ.out
  have HW : Hid ((decide (K = 2) && R) = V) := hid (by rw [← HV.out,← hR]; rfl);clear hR HV
  go_enter Tryz.func83,Tryz.ntmps83
  go_wp2_with fail;refine (HC.out _).mono ?_;rintro e W1 ⟨rfl,hb1⟩;have BT1 := BT.below hb1;have hbw1 := hbw.trans (hb1.mono hbw.size);have t0 := (BT1.cell 0).trans rfl;clear HC hb1 BT BT1
  cases R with
  | false =>
   go_wp2_with fail;go_ret;exact ⟨congrArg (fun b => Ending.returned (.bool b)) (by rw [← HW.out,Bool.and_false] : false = V),hbw1⟩
  | true =>
   go_wp2_with fail;go_ret;exact ⟨congrArg (fun b => Ending.returned (.bool b)) (by rw [← HW.out,Bool.and_true]; rfl : (K == 2) = V),hbw1⟩
 ·skip
  have HW : Hid ((K == 2) = V) := hid (by
   rw [← HV.out]
   show (K == 2) = (decide (K = 2) && true)
   rw [Bool.and_true]; rfl)
  clear HV BT
  go_enter Tryz.func83,Tryz.ntmps83
  go_wp2_with fail;go_ret;exact ⟨congrArg (fun b => Ending.returned (.bool b)) HW.out,hbw⟩
 ·skip
  obtain ⟨R,hR⟩ : ∃ R,nmrB 6 N = R := ⟨_,rfl⟩
  have HC : Hid (∀ W,Calls Tryz.prog 111 #[.agg #[.int .i64 6,.string tn],.int .i64 N] W fun e w' => e = .returned (.bool R) ∧ Below W.heap.size W w') := fun W => by rw [← hR]; exact number_any 6 N tn W
  have HW : Hid ((decide (K = 1) && R) = V) := hid (by rw [← HV.out,← hR]; rfl);clear hR HV
  go_enter Tryz.func83,Tryz.ntmps83
  go_wp2_with fail;refine (HC.out _).mono ?_;rintro e W1 ⟨rfl,hb1⟩;have BT1 := BT.below hb1;have hbw1 := hbw.trans (hb1.mono hbw.size);have t0 := (BT1.cell 0).trans rfl;clear HC hb1 BT BT1
  cases R with
  | false =>
   go_wp2_with fail;go_ret;exact ⟨congrArg (fun b => Ending.returned (.bool b)) (by rw [← HW.out,Bool.and_false] : false = V),hbw1⟩
  | true =>
   go_wp2_with fail;go_ret;exact ⟨congrArg (fun b => Ending.returned (.bool b)) (by rw [← HW.out,Bool.and_true]; rfl : (K == 1) = V),hbw1⟩
 ·skip
  have HW : Hid ((K == 3) = V) := hid (by
   rw [← HV.out]
   show (K == 3) = (decide (K = 3) && true)
   rw [Bool.and_true]; rfl)
  clear HV BT
  go_enter Tryz.func83,Tryz.ntmps83
  go_wp2_with fail;go_ret;exact ⟨congrArg (fun b => Ending.returned (.bool b)) HW.out,hbw⟩
theorem pfun_any (b : Nat) (f : FlS) (w : World) (n : Nat) (ts : List Tr) (hB : Blk w b #[.string f.name,.int .i64 f.tag,.int .i64 f.label,.int .i64 f.kind,.string f.tname] 56) (hk : 1 ≤ f.kind ∧ f.kind ≤ 7) (hS : ∀ x ∈ ts,x.s.size ≤ 140737488351232) : FunP n w ts 82 [.pointer (some ⟨b,0,none⟩)] (fun x => !pfitB f x) := by
 intro W x r hW hx hr;obtain ⟨a1,n1,c1,a2,n2,c2,e1, -⟩ := TrV2.open ⟨_,rfl,hr⟩;simp only [Value.agg.injEq,Array.mk.injEq] at e1;have HF : Hid (∀ U,Calls Tryz.prog 83 #[.agg #[.int .i64 f.kind,.string f.tname],.agg #[.int .i64 x.kind,.int .i64 x.n,.string x.s,.slice a1 n1 c1,.slice a2 n2 c2]] U fun e w' => e = .returned (.bool (pfitB f x)) ∧ Below U.heap.size U w') := fun U => pfits_any f x a1 a2 n1 c1 n2 c2 U hk (hS x hx)
 have BF := hB.below hW;have e2 : r = [.int .i64 x.kind,.int .i64 x.n,.string x.s,.slice a1 n1 c1,.slice a2 n2 c2] := e1;subst e2;obtain ⟨V,hV⟩ : ∃ V,pfitB f x = V := ⟨_,rfl⟩;simp only [hV] at HF ⊢;clear hV e1 hr hx hS hk;generalize f.kind = k at *;generalize f.tname = tn at *;generalize x.kind = K at *;generalize x.n = N at *;generalize x.s = S at *;have al : Below W.heap.size W (W.alloc (Obj.cells #[.int .i64 K,.int .i64 N,.string S,.slice a1 n1 c1,.slice a2 n2 c2] 30)) := bra _;have BF1 := BF.below al;have f3 := (BF1.cell 3).trans rfl;have f4 := (BF1.cell 4).trans rfl;have hbl : b < W.heap.size := BF.lt;clear BF BF1 hB
 go_enter Tryz.func82,Tryz.ntmps82
 go_wp2_with fail;refine (HF.out _).mono ?_;rintro e W1 ⟨rfl,hb1⟩;have hbw1 := al.trans (hb1.mono al.size);clear HF hb1 f3 f4;go_wp2_with fail;go_ret;exact ⟨rfl,hbw1⟩
theorem clamp_any (n : Int) (w : World) : Calls Tryz.prog 13 #[.int .i64 n] w fun e w' => e = .returned (.int .i64 (clampI n)) ∧ Below w.heap.size w w' := by
 have hb : Below w.heap.size w w := Below.refl _ _;obtain ⟨K,hK⟩ : ∃ K,clampI n = K := ⟨_,rfl⟩;have HK : Hid (clampI n = K) := hK;rw [hK];clear hK
 go_enter Tryz.func13,Tryz.ntmps13
 go_wp2_with fail
 all_goals
  go_ret;refine ⟨congrArg (fun z : Int => Ending.returned (Value.int .i64 z)) ?_,hb⟩;rw [← HK.out,clampI]
  repeat (first | omega | split at * | split)
theorem flat_set {size : Nat} : ∀ (rs : List (List Value)),(∀ r ∈ rs,r.length = size) → ∀ (j : Nat) (r : List Value),rs[j]? = some r → ∀ (c : Nat) (u : Value),c < size → rs.flatten.set (j * size + c) u = (rs.set j (r.set c u)).flatten
 | [],_,j,r,h,_,_,_ => by simp at h
 | x :: l,hl,0,r,h,c,u,hc => by
  obtain rfl : x = r := by simpa using h
  have hx := hl x (List.mem_cons_self ..);rw [List.flatten_cons,Nat.zero_mul,Nat.zero_add,List.set_append_left _ _ (by omega),List.set_cons_zero,List.flatten_cons]
 | x :: l,hl,j + 1,r,h,c,u,hc => by
  have hx := hl x (List.mem_cons_self ..);have ih := flat_set l (fun r hr => hl r (List.mem_cons_of_mem _ hr)) j r (by simpa using h) c u hc;rw [List.flatten_cons,List.set_append_right _ _ (by rw [hx,Nat.add_mul]; omega),List.set_cons_succ,List.flatten_cons,← ih]
  congr 2
  rw [hx,Nat.add_mul]; omega
def set5 (w : World) (g o : Nat) (a b c d e : Value) : World := ((((w.setCell ⟨g,o,none⟩ a).setCell ⟨g,o + 1,none⟩ b).setCell ⟨g,o + 2,none⟩ c).setCell ⟨g,o + 3,none⟩ d).setCell ⟨g,o + 4,none⟩ e
theorem set5_kp (w : World) (g o : Nat) (a b c d e : Value) : Kp (fun q => q = g) w (set5 w g o a b c d e) := by
 unfold set5;refine Kp.setCell ?_ (fun _ => by simp) _;refine Kp.setCell ?_ (fun _ => by simp) _;refine Kp.setCell ?_ (fun _ => by simp) _;refine Kp.setCell ?_ (fun _ => by simp) _;refine Kp.setCell ?_ (fun _ => by simp) _;exact Kp.refl _ _
theorem own_set5 {w : World} {B ty g n cap : Nat} {rows : List (List Value)} (h : w.ownsRow B ty 5 (.slice (some ⟨g,0,none⟩) n cap) n rows.flatten) (hl : ∀ r ∈ rows,r.length = 5) {j : Nat} (hj : j < rows.length) (a b c d e : Value) :
  (set5 w g (j * 5) a b c d e).ownsRow B ty 5 (.slice (some ⟨g,0,none⟩) n cap) n (rows.set j [a,b,c,d,e]).flatten := by
 obtain ⟨r,hr⟩ : ∃ r,rows[j]? = some r := ⟨_,List.getElem?_eq_getElem hj⟩;have h5 := hl r (List.mem_of_getElem? hr)
 have hset : ∀ (rs : List (List Value)) (q : List Value),(∀ r ∈ rs,r.length = 5) → q.length = 5 → ∀ r ∈ rs.set j q,r.length = 5 := fun rs q h1 h2 r hr => by
  rcases List.mem_or_eq_of_mem_set hr with hr | rfl
  ·exact h1 r hr
  ·exact h2
 have step : ∀ (W : World) (rs : List (List Value)) (q : List Value) (k : Nat) (u : Value),W.ownsRow B ty 5 (.slice (some ⟨g,0,none⟩) n cap) n (rs.set j q).flatten → (∀ r ∈ rs,r.length = 5) → q.length = 5 → j < rs.length → k < 5 → (W.setCell ⟨g,j * 5 + k,none⟩ u).ownsRow B ty 5 (.slice (some ⟨g,0,none⟩) n cap) n (rs.set j (q.set k u)).flatten := fun W rs q k u h1 h2 h3 h4 h5 => by
  have h6 := (h1.stored (j * 5 + k) u).1;rw [flat_set (rs.set j q) (hset rs q h2 h3) j q (by rw [List.getElem?_set,if_pos rfl,if_pos h4]) k u h5,List.set_set] at h6;exact h6
 have e0 : rows.set j r = rows := by
  obtain ⟨h1,h2⟩ := List.getElem?_eq_some_iff.1 hr;rw [← h2,List.set_getElem_self]
 match r,h5,hr,e0 with
 | [x0,x1,x2,x3,x4],_,hr,e0 =>
  have s0 := step w rows [x0,x1,x2,x3,x4] 0 a (by rw [e0]; exact h) hl rfl hj (by decide);have s1 := step _ rows [a,x1,x2,x3,x4] 1 b s0 hl rfl hj (by decide);have s2 := step _ rows [a,b,x2,x3,x4] 2 c s1 hl rfl hj (by decide);have s3 := step _ rows [a,b,c,x3,x4] 3 d s2 hl rfl hj (by decide);have s4 := step _ rows [a,b,c,d,x4] 4 e s3 hl rfl hj (by decide);exact s4
theorem set5_sm {w : World} {g o : Nat} {a b c d e : Value} {bs : List Nat} (h : g ∉ bs) : Sm w (set5 w g o a b c d e) bs := by
 intro k hk;have hne : k ≠ g := fun e => h (e ▸ hk)
 unfold set5;rw [Below.heap_setCell _ _ _ _ hne,Below.heap_setCell _ _ _ _ hne,Below.heap_setCell _ _ _ _ hne,Below.heap_setCell _ _ _ _ hne,Below.heap_setCell _ _ _ _ hne]
theorem blk_set5 {w : World} {b : Nat} {c0 c1 c2 c3 c4 x0 x1 x2 x3 x4 : Value} {t : TypeId} (h : Blk w b #[c0,c1,c2,c3,c4] t) : Blk (set5 w b 0 x0 x1 x2 x3 x4) b #[x0,x1,x2,x3,x4] t := ((((h.set 0 x0 rfl).set 1 x1 rfl).set 2 x2 rfl).set 3 x3 rfl).set 4 x4 rfl
theorem pblk4 (w : World) (c1 c2 c3 c4 : Array Value) (t1 t2 t3 t4 : TypeId) : Blk ((((w.alloc (Obj.cells c1 t1)).alloc (Obj.cells c2 t2)).alloc (Obj.cells c3 t3)).alloc (Obj.cells c4 t4)) w.heap.size c1 t1 ∧ Blk ((((w.alloc (Obj.cells c1 t1)).alloc (Obj.cells c2 t2)).alloc (Obj.cells c3 t3)).alloc (Obj.cells c4 t4)) (w.heap.size + 1) c2 t2 ∧ Blk ((((w.alloc (Obj.cells c1 t1)).alloc (Obj.cells c2 t2)).alloc (Obj.cells c3 t3)).alloc (Obj.cells c4 t4)) (w.heap.size + 2) c3 t3 ∧ Blk ((((w.alloc (Obj.cells c1 t1)).alloc (Obj.cells c2 t2)).alloc (Obj.cells c3 t3)).alloc (Obj.cells c4 t4)) (w.heap.size + 3) c4 t4 ∧ Below w.heap.size w ((((w.alloc (Obj.cells c1 t1)).alloc (Obj.cells c2 t2)).alloc (Obj.cells c3 t3)).alloc (Obj.cells c4 t4)) := by
 have s1 : (w.alloc (Obj.cells c1 t1)).heap.size = w.heap.size + 1 := by simp
 have s2 : ((w.alloc (Obj.cells c1 t1)).alloc (Obj.cells c2 t2)).heap.size = w.heap.size + 2 := by simp
 have s3 : (((w.alloc (Obj.cells c1 t1)).alloc (Obj.cells c2 t2)).alloc (Obj.cells c3 t3)).heap.size = w.heap.size + 3 := by simp
 have al : ∀ (W : World) (x : Obj),Below W.heap.size W (W.alloc x) := fun W x => bra _
 have b1 := Blk.new w c1 t1;have b2 := Blk.new (w.alloc (Obj.cells c1 t1)) c2 t2;have b3 := Blk.new ((w.alloc (Obj.cells c1 t1)).alloc (Obj.cells c2 t2)) c3 t3;have b4 := Blk.new (((w.alloc (Obj.cells c1 t1)).alloc (Obj.cells c2 t2)).alloc (Obj.cells c3 t3)) c4 t4;rw [s1] at b2;rw [s2] at b3;rw [s3] at b4;refine ⟨((b1.below (al _ _)).below (al _ _)).below (al _ _),(b2.below (al _ _)).below (al _ _),b3.below (al _ _),b4,?_⟩;exact ((((Below.refl _ w).alloc (Nat.le_refl _) _).alloc (by omega) _).alloc (by omega) _).alloc (by omega) _
end
section
open Go.ChangeShapes Go.WideShapes Go.ChangeAt Go.RowKit Go.Maps
theorem numR_low {n : Int} (h : n < 0) : numR n = false := by unfold numR; rw [decide_eq_false (by omega)]
theorem numR_high {n : Int} (h : 2147483647 < n) : numR n = false := by unfold numR; rw [decide_eq_false (by omega)]
theorem numR_in {n : Int} (h : ¬ n < 0) (h2 : ¬ 2147483647 < n) : numR n = true := by unfold numR; rw [decide_eq_true (by omega)]
theorem cvalues_any {w : World} {v : Value} {vs : List NmS} (hr : RowG w v 2 (nmRows vs)) (hl : vs.length ≤ 30000) (hw : ∀ f ∈ vs,NmW f) :
  Calls Tryz.prog 73 #[v] w fun e w' => e = .returned (.int .i64 (chkVs [] [] vs)) ∧ Below w.heap.size w w' := by
 obtain ⟨a,c,rfl,q1,q2⟩ := hr.form2
 have hN : (nmRows vs).length = vs.length := by simp [nmRows]
 rw [hN] at hr q1 ⊢;clear hN;obtain ⟨N,hN⟩ : ∃ N,vs.length = N := ⟨_,rfl⟩;rw [hN] at hr q1 hl ⊢;have HN : Hid (vs.length = N) := hN;have HR : Hid (RowG w (.slice a N c) 2 (nmRows vs)) := hr;have HW : Hid (∀ f ∈ vs,NmW f) := hw;clear hN hr hw;obtain ⟨A,hA⟩ : ∃ A,chkVs [] [] vs = A := ⟨_,rfl⟩;rw [hA];have HA : Hid (A = chkVs [] [] vs) := hA.symm;clear hA;have hmm := @run_makeMap Tryz.prog
 go_enter Tryz.func73,Tryz.ntmps73
 go_wp2_with fail;clear hmm;have HM0 : SetS ((w.alloc (.map #[] 0)).alloc (.map #[] 0)) w.heap.size 0 [] := SetK.below (SetK.made 9 w) (bra _)
 have HM1 : SetI ((w.alloc (.map #[] 0)).alloc (.map #[] 0)) (w.heap.size + 1) 0 [] := by
  have := SetK.made 3 (w.alloc (.map #[] 0))
  rwa [show (w.alloc (.map #[] 0)).heap.size = w.heap.size + 1 by simp] at this
 have KP0 : Below w.heap.size w ((w.alloc (.map #[] 0)).alloc (.map #[] 0)) := (bra _).alloc (by simp) _;obtain ⟨bn,hbn⟩ : ∃ n,w.heap.size = n := ⟨_,rfl⟩;rw [hbn] at HM0 HM1 KP0 ⊢;have HB : Hid (w.heap.size = bn) := hbn;clear hbn
 go_loopw [11] (fun iv wr => ∃ (k : Nat) (al : List ByteArray) (t : List Int),iv = .int .i64 (k : Int) ∧ k ≤ N ∧ Hid (A = chkVs al t (vs.drop k)) ∧ Hid (SetS wr bn k al) ∧ Hid (SetI wr (bn + 1) k t) ∧ Below bn w wr) (fun iv _ => N - (intOf iv).toNat)
 case atStart => exact ⟨0,[],[],rfl,by omega,HA,HM0,HM1,KP0⟩
 case round =>
  obtain ⟨k,al,t,rfl,hk,HAk,HSn,HSt,hbel⟩ := hrel;clear HM0 HM1 KP0;have hbw : bn + 1 < wr.heap.size := SetK.lt HSt.out
  have hbW : Below w.heap.size w wr := by rw [HB.out]; exact hbel
  by_cases hlt : k < N
  ·obtain ⟨f,hf⟩ : ∃ n,vs[k]? = some n := ⟨_,List.getElem?_eq_getElem (by rw [HN.out]; exact hlt)⟩
   have hrr : (nmRows vs)[k]? = some f.cells := by simp [nmRows,hf]
   obtain ⟨g,off,rfl,c1⟩ := (HR.out.below hbW).get hrr;have hfw := HW.out _ (List.mem_of_getElem? hf);obtain ⟨f0,f1⟩ := f;obtain ⟨w1',w2'⟩ := hfw;simp only at w1' w2'
   have HA2 : Hid (A = if freshB f0 al = false then 6 else if numB f1 t = false then 11 else chkVs (al ++ [f0]) (t ++ [f1]) (vs.drop (k + 1))) := by
    show _ = _
    rw [HAk.out,drop_at hf]; rfl
   have p0 := c1 0 _ rfl;have p1 := c1 1 _ rfl;simp only [Nat.add_zero] at p0 p1;clear c1 hrr hf HAk hbW;go_wp2_with fail;clear p0 p1;have hba : Below wr.heap.size wr (wr.alloc (.cells #[.string f0,.int .i64 f1] 61)) := bra _;have BX := Blk.new wr #[.string f0,.int .i64 f1] 61;refine (newname_any (SetK.below HSn.out hba) w1' (by omega)).mono ?_;rintro e w1 ⟨rfl,hs1,hk1⟩;have HS1 : Hid _ := hs1;clear hs1;have hb1 : Below bn w w1 := (hbel.alloc (by omega) _).trans (hk1.toBelow (by simp; omega) (fun k e => by omega))
   cases h1 : freshB f0 al
   ·go_wp2_with fail;go_ret;exact ⟨ret_int (by rw [HA2.out,if_pos h1]),by rw [HB.out]; exact hb1⟩
   ·have BX1 := BX.kp hk1 (by omega);have b1 : w1.cell? ⟨wr.heap.size,1,none⟩ = some (.int .i64 f1) := BX1.cell 1
    by_cases hlo : f1 < 0
    ·go_wp2_with fail;go_ret;exact ⟨ret_int (by rw [HA2.out,if_neg (by rw [h1]; decide),if_pos (by unfold numB; rw [numR_low hlo]; rfl)]),by rw [HB.out]; exact hb1⟩
    ·by_cases hhi : 2147483647 < f1
     ·go_wp2_with fail;go_ret;exact ⟨ret_int (by rw [HA2.out,if_neg (by rw [h1]; decide),if_pos (by unfold numB; rw [numR_high hhi]; rfl)]),by rw [HB.out]; exact hb1⟩
     ·have HNB : Hid (numB f1 t = !memI f1 t) := by show _ = _; unfold numB; rw [numR_in hlo hhi]; rfl
      go_wp2_with fail;clear b1;refine (add_int (SetK.kp (SetK.below HSt.out hba) hk1 (by omega)) w2' (by omega)).mono ?_;rintro e w2 ⟨rfl,hs2,hk2⟩;have HS2 : Hid _ := hs2;clear hs2;have hb2 : Below bn w w2 := hb1.trans (hk2.toBelow (by have := hb1.size; have := HB.out; omega) (fun k e => by omega))
      cases h2 : memI f1 t
      ·have HA3 : Hid (A = chkVs (al ++ [f0]) (t ++ [f1]) (vs.drop (k + 1))) := by
        show _ = _
        rw [HA2.out,if_neg (by rw [h1]; decide),if_neg (by rw [HNB.out,h2]; decide)]
       have HS1' : Hid (SetS w2 bn (k + 1) (al ++ [f0])) := SetK.kp (HS1.out h1) hk2 (by omega);have HS2' : Hid (SetI w2 (bn + 1) (k + 1) (t ++ [f1])) := HS2.out h2;clear HS1 HS2 hbel hb1 hba hk1 hk2 BX BX1 HA2;go_wp2_with fail
       go_roundw
       case rel => exact ⟨k + 1,_,_,by go_num,by omega,HA3,HS1',HS2',hb2⟩
       case measure => simp [intOf]; omega
      ·go_wp2_with fail;go_ret;exact ⟨ret_int (by rw [HA2.out,if_neg (by rw [h1]; decide),if_pos (by rw [HNB.out,h2]; rfl)]),by rw [HB.out]; exact hb2⟩
  ·go_wp2_with fail;go_ret;exact ⟨ret_int (by rw [HAk.out,drop_end (by rw [HN.out]; omega)]; rfl),hbW⟩
theorem typeB_msg (mn en : List ByteArray) (t : ByteArray) : typeB mn en 7 t = memB t mn := by
 unfold typeB; simp
theorem cmethods_any {w : World} {v : Value} {ts : List MtS} {mn en : List ByteArray} {bY ny : Nat} {T : List (Int × ByteArray)}
  (hr : RowG w v 3 (mtRows ts)) (hl : ts.length ≤ 30000) (hT : SetT w bY ny T) (hTt : ∀ k s,memT (k,s) T = typeB mn en k s) (hw : ∀ f ∈ ts,MtW f) :
  Calls Tryz.prog 37 #[v,.map (some bY)] w fun e w' => e = .returned (.int .i64 (chkTs mn [] ts)) ∧ Below w.heap.size w w' := by
 obtain ⟨a,c,rfl,q1,q2⟩ := hr.form2
 have hN : (mtRows ts).length = ts.length := by simp [mtRows]
 rw [hN] at hr q1 ⊢;clear hN;obtain ⟨N,hN⟩ : ∃ N,ts.length = N := ⟨_,rfl⟩;rw [hN] at hr q1 hl ⊢;have HN : Hid (ts.length = N) := hN;have HR : Hid (RowG w (.slice a N c) 3 (mtRows ts)) := hr;have HT : Hid (SetT w bY ny T) := hT
 have HTT : Hid (∀ s,memT (7,s) T = memB s mn) := fun s => by rw [hTt,typeB_msg]
 have HW : Hid (∀ f ∈ ts,MtW f) := hw;clear hN hr hT hTt hw;obtain ⟨A,hA⟩ : ∃ A,chkTs mn [] ts = A := ⟨_,rfl⟩;rw [hA];have HA : Hid (A = chkTs mn [] ts) := hA.symm;clear hA;have hmm := @run_makeMap Tryz.prog
 go_enter Tryz.func37,Tryz.ntmps37
 go_wp2_with fail;clear hmm;have HM0 := SetK.made 9 w;have KP0 : Below w.heap.size w (w.alloc (.map #[] 0)) := bra _;obtain ⟨bn,hbn⟩ : ∃ n,w.heap.size = n := ⟨_,rfl⟩;rw [hbn] at HM0 KP0 ⊢;have HB : Hid (w.heap.size = bn) := hbn;clear hbn
 go_loopw [11] (fun iv wr => ∃ (k : Nat) (al : List ByteArray),iv = .int .i64 (k : Int) ∧ k ≤ N ∧ Hid (A = chkTs mn al (ts.drop k)) ∧ Hid (SetS wr bn k al) ∧ Below bn w wr) (fun iv _ => N - (intOf iv).toNat)
 case atStart => exact ⟨0,[],rfl,by omega,HA,HM0,KP0⟩
 case round =>
  obtain ⟨k,al,rfl,hk,HAk,HSn,hbel⟩ := hrel;clear HM0 KP0;have hbw : bn < wr.heap.size := SetK.lt HSn.out
  have hbW : Below w.heap.size w wr := by rw [HB.out]; exact hbel
  by_cases hlt : k < N
  ·obtain ⟨f,hf⟩ : ∃ n,ts[k]? = some n := ⟨_,List.getElem?_eq_getElem (by rw [HN.out]; exact hlt)⟩
   have hrr : (mtRows ts)[k]? = some f.cells := by simp [mtRows,hf]
   obtain ⟨g,off,rfl,c1⟩ := (HR.out.below hbW).get hrr;have hfw := HW.out _ (List.mem_of_getElem? hf);obtain ⟨f0,f1,f2⟩ := f;obtain ⟨w1',w2',w3'⟩ := hfw;simp only at w1' w2' w3'
   have HA2 : Hid (A = if freshB f0 al = false then 6 else if (memB f1 mn && memB f2 mn) = false then 8 else chkTs mn (al ++ [f0]) (ts.drop (k + 1))) := by
    show _ = _
    rw [HAk.out,drop_at hf]; rfl
   have p0 := c1 0 _ rfl;have p1 := c1 1 _ rfl;have p2 := c1 2 _ rfl;simp only [Nat.add_zero] at p0 p1 p2;have HTr : Hid (SetT wr bY ny T) := SetK.below HT.out hbW
   have hYn : bY < bn := by have := SetK.lt HT.out; have := HB.out; omega
   clear c1 hrr hf HAk hbW;go_wp2_with fail;clear p0 p1 p2;have hba : Below wr.heap.size wr (wr.alloc (.cells #[.string f0,.string f1,.string f2] 63)) := bra _;have BX := Blk.new wr #[.string f0,.string f1,.string f2] 63;refine (newname_any (SetK.below HSn.out hba) w1' (by omega)).mono ?_;rintro e w1 ⟨rfl,hs1,hk1⟩;have HS1 : Hid _ := hs1;clear hs1;have hb1 : Below bn w w1 := (hbel.alloc (by omega) _).trans (hk1.toBelow (by simp; omega) (fun k e => by omega))
   cases h1 : freshB f0 al
   ·go_wp2_with fail;go_ret;exact ⟨ret_int (by rw [HA2.out,if_pos h1]),by rw [HB.out]; exact hb1⟩
   ·have BX1 := BX.kp hk1 (by omega);have b1 : w1.cell? ⟨wr.heap.size,1,none⟩ = some (.string f1) := BX1.cell 1;have HT1 : Hid (SetT w1 bY ny T) := SetK.kp (SetK.below HTr.out hba) hk1 (by omega);go_wp2_with fail;refine (msgtype_any _ _).mono ?_;rintro e w2 ⟨rfl,hb2⟩;clear b1;go_wp2_with fail;refine (has_ty (SetK.below HT1.out hb2) ⟨by decide,by decide⟩ w2').mono ?_;rintro e w3 ⟨rfl,hb3⟩;rw [HTT.out];have hb13 : Below w1.heap.size w1 w3 := hb2.trans (hb3.mono hb2.size)
    have hbn1 : bn ≤ w1.heap.size := by have := hb1.size; have := HB.out; omega
    have hb03 : Below bn w w3 := hb1.trans (hb13.mono hbn1)
    cases h2 : memB f1 mn
    ·go_wp2_with fail;go_ret;exact ⟨ret_int (by rw [HA2.out,if_neg (by rw [h1]; decide),if_pos (by rw [h2]; rfl)]),by rw [HB.out]; exact hb03⟩
    ·have BX3 := BX1.below hb13;have b2 : w3.cell? ⟨wr.heap.size,2,none⟩ = some (.string f2) := BX3.cell 2;clear hb2 hb3;go_wp2_with fail;refine (msgtype_any _ _).mono ?_;rintro e w4 ⟨rfl,hb4⟩;clear b2;go_wp2_with fail;refine (has_ty (SetK.below (SetK.below HT1.out hb13) hb4) ⟨by decide,by decide⟩ w3').mono ?_;rintro e w5 ⟨rfl,hb5⟩;rw [HTT.out];have hb35 : Below w3.heap.size w3 w5 := hb4.trans (hb5.mono hb4.size);have hb05 : Below bn w w5 := hb03.trans (hb35.mono (Nat.le_trans hbn1 hb13.size))
     cases h3 : memB f2 mn
     ·go_wp2_with fail;go_ret;exact ⟨ret_int (by rw [HA2.out,if_neg (by rw [h1]; decide),if_pos (by rw [h2,h3]; rfl)]),by rw [HB.out]; exact hb05⟩
     ·have HA3 : Hid (A = chkTs mn (al ++ [f0]) (ts.drop (k + 1))) := by
       show _ = _
       rw [HA2.out,if_neg (by rw [h1]; decide),if_neg (by rw [h2,h3]; decide)]
      have HS1' : Hid (SetS w5 bn (k + 1) (al ++ [f0])) := SetK.below (SetK.below (HS1.out h1) hb13) hb35;clear HS1 hbel hb1 hba hk1 BX BX1 BX3 HA2 hb03 hb35 hb13 hb4 hb5 HT1;go_wp2_with fail
      go_roundw
      case rel => exact ⟨k + 1,_,by go_num,by omega,HA3,HS1',hb05⟩
      case measure => simp [intOf]; omega
  ·go_wp2_with fail;go_ret;exact ⟨ret_int (by rw [HAk.out,drop_end (by rw [HN.out]; omega)]; rfl),hbW⟩
theorem cfields_any {w : World} {v : Value} {fs : List FlS} {mn en : List ByteArray} {bt nt bY ny : Nat} {L : List Int} {T : List (Int × ByteArray)}
  (hr : RowG w v 5 (flRows fs)) (hl : fs.length ≤ 30000) (hI : SetI w bt nt L) (hnt : nt ≤ 100000) (hT : SetT w bY ny T) (hne : bY ≠ bt) (hTt : ∀ k s,memT (k,s) T = typeB mn en k s) (hw : ∀ f ∈ fs,FlW f) :
  Calls Tryz.prog 70 #[v,.map (some bt),.map (some bY)] w fun e w' => e = .returned (.int .i64 (chkFs mn en [] L fs)) ∧ Kp (fun k => k = bt) w w' := by
 obtain ⟨a,c,rfl,q1,q2⟩ := hr.form2
 have hN : (flRows fs).length = fs.length := by simp [flRows]
 rw [hN] at hr q1 ⊢;clear hN;obtain ⟨N,hN⟩ : ∃ N,fs.length = N := ⟨_,rfl⟩;rw [hN] at hr q1 hl ⊢;have HN : Hid (fs.length = N) := hN;have HR : Hid (RowG w (.slice a N c) 5 (flRows fs)) := hr;have HI : Hid (SetI w bt nt L) := hI;have HT : Hid (SetT w bY ny T) := hT;have HTT : Hid (∀ k s,memT (k,s) T = typeB mn en k s) := hTt;have HW : Hid (∀ f ∈ fs,FlW f) := hw;have hbt : bt < w.heap.size := SetK.lt hI;clear hN hr hI hT hTt hw;obtain ⟨A,hA⟩ : ∃ A,chkFs mn en [] L fs = A := ⟨_,rfl⟩;rw [hA];have HA : Hid (A = chkFs mn en [] L fs) := hA.symm;clear hA;have hmm := @run_makeMap Tryz.prog
 go_enter Tryz.func70,Tryz.ntmps70
 go_wp2_with fail;clear hmm;have HM0 := SetK.made 9 w;have KP0 : Kp (fun k => k = bt) w (w.alloc (.map #[] 0)) := (Kp.refl _ _).alloc _;have HI0 : Hid (SetI (w.alloc (.map #[] 0)) bt nt L) := SetK.kp HI.out (S := fun _ => False) ((Kp.refl _ _).alloc _) (fun e => e);obtain ⟨bn,hbn⟩ : ∃ n,w.heap.size = n := ⟨_,rfl⟩;rw [hbn] at HM0 hbt ⊢;have HB : Hid (w.heap.size = bn) := hbn;clear hbn
 go_loopw [13] (fun iv wr => ∃ (k : Nat) (al : List ByteArray) (t : List Int),iv = .int .i64 (k : Int) ∧ k ≤ N ∧ Hid (A = chkFs mn en al t (fs.drop k)) ∧ Hid (SetS wr bn k al) ∧ Hid (SetI wr bt (nt + k) t) ∧ Kp (fun k => k = bt) w wr) (fun iv _ => N - (intOf iv).toNat)
 case atStart => exact ⟨0,[],L,rfl,by omega,HA,HM0,HI0,KP0⟩
 case round =>
  obtain ⟨k,al,t,rfl,hk,HAk,HSn,HSt,hkp⟩ := hrel;clear HM0 KP0 HI0;have hbw : bn < wr.heap.size := SetK.lt HSn.out
  by_cases hlt : k < N
  ·obtain ⟨f,hf⟩ : ∃ n,fs[k]? = some n := ⟨_,List.getElem?_eq_getElem (by rw [HN.out]; exact hlt)⟩
   have hrr : (flRows fs)[k]? = some f.cells := by simp [flRows,hf]
   obtain ⟨g,off,rfl,c1⟩ := (HR.out.kpM hkp (SetK.no HI.out)).get hrr;have hfw := HW.out _ (List.mem_of_getElem? hf);obtain ⟨f0,f1,f2,f3,f4⟩ := f;obtain ⟨w1',w2',w3',w4',w5'⟩ := hfw;simp only at w1' w2' w3' w4' w5'
   have HA2 : Hid (A = if freshB f0 al = false then 6 else if tagB f1 t = false then 7 else if (labB f2 && typeB mn en f3 f4) = false then 8 else chkFs mn en (al ++ [f0]) (t ++ [f1]) (fs.drop (k + 1))) := by
    show _ = _
    rw [HAk.out,drop_at hf]; rfl
   have p0 := c1 0 _ rfl;have p1 := c1 1 _ rfl;have p2 := c1 2 _ rfl;have p3 := c1 3 _ rfl;have p4 := c1 4 _ rfl;simp only [Nat.add_zero] at p0 p1 p2 p3 p4;clear c1 hrr hf HAk;have HTr : Hid (SetT wr bY ny T) := SetK.kp HT.out hkp hne;go_wp2_with fail;clear p0 p1 p2 p3 p4;have hba : Below wr.heap.size wr (wr.alloc (.cells #[.string f0,.int .i64 f1,.int .i64 f2,.int .i64 f3,.string f4] 56)) := bra _;have BX := Blk.new wr #[.string f0,.int .i64 f1,.int .i64 f2,.int .i64 f3,.string f4] 56;refine (newname_any (SetK.below HSn.out hba) w1' (by omega)).mono ?_;rintro e w1 ⟨rfl,hs1,hk1⟩;have HS1 : Hid _ := hs1;clear hs1;have hkp1 : Kp (fun k => k = bt) w w1 := (hkp.below hba).new hk1 (by rw [HB.out]; omega)
   cases h1 : freshB f0 al
   ·go_wp2_with fail;go_ret;exact ⟨ret_int (by rw [HA2.out,if_pos h1]),hkp1⟩
   ·have BX1 := BX.kp hk1 (by omega);have b1 : w1.cell? ⟨wr.heap.size,1,none⟩ = some (.int .i64 f1) := BX1.cell 1;go_wp2_with fail;clear b1;refine (newtag_any (SetK.kp (SetK.below HSt.out hba) hk1 (by omega)) w3' (by omega)).mono ?_;rintro e w2 ⟨rfl,hs2,hk2⟩;have HS2 : Hid _ := hs2;clear hs2;have hkp2 : Kp (fun k => k = bt) w w2 := hkp1.trans hk2
    cases h2 : tagB f1 t
    ·go_wp2_with fail;go_ret;exact ⟨ret_int (by rw [HA2.out,if_neg (by rw [h1]; decide),if_pos h2]),hkp2⟩
    ·have BX2 := BX1.kp hk2 (by omega);have b2 : w2.cell? ⟨wr.heap.size,2,none⟩ = some (.int .i64 f2) := BX2.cell 2;have b3 : w2.cell? ⟨wr.heap.size,3,none⟩ = some (.int .i64 f3) := BX2.cell 3;have b4 : w2.cell? ⟨wr.heap.size,4,none⟩ = some (.string f4) := BX2.cell 4;go_wp2_with fail;refine (islabel_any _ _).mono ?_;rintro e w3 ⟨rfl,rfl⟩
     cases h3 : labB f2
     ·go_wp2_with fail;go_ret;exact ⟨ret_int (by rw [HA2.out,if_neg (by rw [h1]; decide),if_neg (by rw [h2]; decide),if_pos (by rw [h3]; rfl)]),hkp2⟩
     ·go_wp2_with fail;clear b2 b3 b4;refine (has_ty (SetK.kp (SetK.kp (SetK.below HTr.out hba) hk1 (by have := SetK.lt HT.out; have := HB.out; omega)) hk2 hne) w5' w2').mono ?_;rintro e w4 ⟨rfl,hb4⟩;rw [HTT.out]
      cases h4 : typeB mn en f3 f4
      ·go_wp2_with fail;go_ret;exact ⟨ret_int (by rw [HA2.out,if_neg (by rw [h1]; decide),if_neg (by rw [h2]; decide),if_pos (by rw [h3,h4]; rfl)]),hkp2.below hb4⟩
      ·have HA3 : Hid (A = chkFs mn en (al ++ [f0]) (t ++ [f1]) (fs.drop (k + 1))) := by
        show _ = _
        rw [HA2.out,if_neg (by rw [h1]; decide),if_neg (by rw [h2]; decide),if_neg (by rw [h3,h4]; decide)]
       have HS1' : Hid (SetS w4 bn (k + 1) (al ++ [f0])) := SetK.below (SetK.kp (HS1.out h1) hk2 (by omega)) hb4;have HS2' : Hid (SetI w4 bt (nt + (k + 1)) (t ++ [f1])) := SetK.below (HS2.out h2) hb4;have hkp4 := hkp2.below hb4;clear HS1 HS2 hkp hkp1 hkp2 hba hk1 hk2 hb4 BX BX1 BX2 HA2 HTr;go_wp2_with fail
       go_roundw
       case rel => exact ⟨k + 1,_,_,by go_num,by omega,HA3,HS1',HS2',hkp4⟩
       case measure => simp [intOf]; omega
  ·go_wp2_with fail;go_ret;exact ⟨ret_int (by rw [HAk.out,drop_end (by rw [HN.out]; omega)]; rfl),hkp⟩
theorem take_at {α : Type} {l : List α} {k : Nat} {x : α} (h : l[k]? = some x) : l.take (k + 1) = l.take k ++ [x] := by
 rw [List.take_add_one,h]; rfl
def zeroV (vs : List NmS) : Bool := vs.any fun v => decide (v.n = 0)
theorem indexf_any {w : World} {v : Value} {vs : List NmS} (hr : RowG w v 2 (nmRows vs)) (hl : vs.length ≤ 30000) :
  Calls Tryz.prog 106 #[v,.func (.func 72) #[] #[]] w fun e w' => (∃ n : Int,e = .returned (.int .i64 n) ∧ decide (0 ≤ n) = zeroV vs) ∧ Below w.heap.size w w' := by
 obtain ⟨a,c,rfl,q1,q2⟩ := hr.form2
 have hN : (nmRows vs).length = vs.length := by simp [nmRows]
 rw [hN] at hr q1 ⊢;clear hN;obtain ⟨N,hN⟩ : ∃ N,vs.length = N := ⟨_,rfl⟩;rw [hN] at hr q1 hl ⊢;have HN : Hid (vs.length = N) := hN;have HR : Hid (RowG w (.slice a N c) 2 (nmRows vs)) := hr;clear hN hr;obtain ⟨A,hA⟩ : ∃ A,zeroV vs = A := ⟨_,rfl⟩;rw [hA];have HA : Hid (A = zeroV vs) := hA.symm;clear hA
 go_enter Tryz.func106,Tryz.ntmps106
 go_wp2_with fail
 go_loopw [8] (fun iv wr => ∃ k : Nat,iv = .int .i64 (k : Int) ∧ k ≤ N ∧ Hid (A = zeroV (vs.drop k)) ∧ Below w.heap.size w wr) (fun iv _ => N - (intOf iv).toNat)
 case atStart => exact ⟨0,rfl,by omega,HA,Below.refl _ _⟩
 case round =>
  obtain ⟨k,rfl,hk,HAk,hbel⟩ := hrel
  by_cases hlt : k < N
  ·obtain ⟨f,hf⟩ : ∃ n,vs[k]? = some n := ⟨_,List.getElem?_eq_getElem (by rw [HN.out]; exact hlt)⟩
   have hrr : (nmRows vs)[k]? = some f.cells := by simp [nmRows,hf]
   obtain ⟨g,off,rfl,c1⟩ := (HR.out.below hbel).get hrr;obtain ⟨f0,f1⟩ := f
   have HA2 : Hid (A = (decide (f1 = 0) || zeroV (vs.drop (k + 1)))) := by
    show _ = _
    rw [HAk.out,drop_at hf]; rfl
   have p0 := c1 0 _ rfl;have p1 := c1 1 _ rfl;simp only [Nat.add_zero] at p0 p1;clear c1 hrr hf HAk;go_wp2_with fail;clear p0 p1;refine (iszero_any _ _ _).mono ?_;rintro e w1 ⟨rfl,hb1⟩;have hb2 : Below w.heap.size w w1 := hbel.trans (hb1.mono hbel.size)
   cases hz : decide (f1 = 0)
   ·have HA3 : Hid (A = zeroV (vs.drop (k + 1))) := by show _ = _; rw [HA2.out,hz]; rfl
    clear hbel hb1 HA2;go_wp2_with fail
    go_roundw
    case rel => exact ⟨k + 1,by go_num,by omega,HA3,hb2⟩
    case measure => simp [intOf]; omega
   ·go_wp2_with fail;go_ret;exact ⟨⟨(k : Int),rfl,by rw [HA2.out,hz,decide_eq_true (by omega)]; rfl⟩,hb2⟩
  ·go_wp2_with fail;go_ret;exact ⟨⟨-1,rfl,by rw [HAk.out,drop_end (by rw [HN.out]; omega)]; rfl⟩,hbel⟩
theorem contf_any {w : World} {v : Value} {vs : List NmS} (hr : RowG w v 2 (nmRows vs)) (hl : vs.length ≤ 30000) :
  Calls Tryz.prog 71 #[v,.func (.func 72) #[] #[]] w fun e w' => e = .returned (.bool (zeroV vs)) ∧ Below w.heap.size w w' := by
 have HC := indexf_any hr hl;clear hr hl
 go_enter Tryz.func71,Tryz.ntmps71
 go_wp2_with fail;refine HC.mono ?_;rintro e w1 ⟨⟨n,rfl,hn⟩,hb1⟩;have HN : Hid _ := hn;clear hn;go_wp2_with fail;go_ret;exact ⟨ret_bool HN.out,hb1⟩
theorem cenum_any {w : World} {vv : Value} {nm : ByteArray} {vs : List NmS} {bn nn : Nat} {L : List ByteArray} (hr : RowG w vv 2 (nmRows vs)) (hl : vs.length ≤ 30000) (hS : SetS w bn nn L) (hnn : nn ≤ 100000) (hw : EnW ⟨nm,vs⟩) :
  Calls Tryz.prog 36 #[.agg #[.string nm,vv],.map (some bn)] w fun e w' => e = .returned (.int .i64 (if freshB nm L = false then 6 else chkEb ⟨nm,vs⟩)) ∧ (freshB nm L = true → SetS w' bn (nn + 1) (L ++ [nm])) ∧ Kp (fun k => k = bn) w w' := by
 have HR : Hid (RowG w vv 2 (nmRows vs)) := hr;obtain ⟨a,c,rfl,q1,q2⟩ := hr.form2
 have hN : (nmRows vs).length = vs.length := by simp [nmRows]
 rw [hN] at q1 HR ⊢;obtain ⟨N,hN2⟩ : ∃ N,vs.length = N := ⟨_,rfl⟩;rw [hN2] at q1 HR ⊢;have HN : Hid (vs.length = N) := hN2;have HS : Hid (SetS w bn nn L) := hS;obtain ⟨w1',hwv⟩ := hw;have HW : Hid (∀ f ∈ vs,NmW f) := hwv;have HL : Hid (vs.length ≤ 30000) := hl;simp only at w1';clear hr hN hN2 hS hwv hl;obtain ⟨A,hA⟩ : ∃ A,(if freshB nm L = false then 6 else chkEb ⟨nm,vs⟩) = A := ⟨_,rfl⟩;rw [hA];have HA : Hid (A = if freshB nm L = false then 6 else chkEb ⟨nm,vs⟩) := hA.symm;clear hA;have hba : Below w.heap.size w (w.alloc (.cells #[.string nm,.slice a N c] 59)) := bra _;have BX := Blk.new w #[.string nm,.slice a N c] 59;have hbw : bn < w.heap.size := SetK.lt HS.out
 go_enter Tryz.func36,Tryz.ntmps36
 go_wp2_with fail;refine (newname_any (SetK.below HS.out hba) w1' (by omega)).mono ?_;rintro e w1 ⟨rfl,hs1,hk1⟩;have HS1 : Hid _ := hs1;clear hs1;have hkp1 : Kp (fun k => k = bn) w w1 := (Kp.ofBelow hba).trans hk1
 cases h1 : freshB nm L
 ·have H1 : Hid (freshB nm L = false) := h1;clear h1;go_wp2_with fail;go_ret;exact ⟨ret_int (by rw [HA.out,if_pos H1.out]),(fun e => by rw [H1.out] at e; cases e),hkp1⟩
 ·have H1 : Hid (freshB nm L = true) := h1;clear h1
  have HX : Hid (chkEb ⟨nm,vs⟩ = A) := by show _ = _; rw [HA.out,if_neg (by rw [H1.out]; decide)]
  have BX1 := BX.kp hk1 (by omega);have b1 : w1.cell? ⟨w.heap.size,1,none⟩ = some (.slice a N c) := BX1.cell 1
  by_cases hbig : 16 < N
  ·have HE : Hid (4 = A) := by show _ = _; rw [← HX.out]; unfold chkEb; simp only; rw [if_pos (by rw [HN.out]; exact hbig)]
   go_wp2_with fail;go_ret;exact ⟨ret_int HE.out,(fun _ => HS1.out H1.out),hkp1⟩
  ·have HR1 : Hid (RowG w1 (.slice a N c) 2 (nmRows vs)) := (HR.out.kpM hkp1 (SetK.no HS.out));go_wp2_with fail;refine (contf_any HR1.out HL.out).mono ?_;rintro e w2 ⟨rfl,hb2⟩
   cases h2 : zeroV vs
   ·have HE : Hid (12 = A) := by show _ = _; rw [← HX.out]; unfold chkEb; simp only; rw [if_neg (by rw [HN.out]; exact hbig),if_pos (show zeroE ⟨nm,vs⟩ = false from h2)]
    go_wp2_with fail;go_ret;exact ⟨ret_int HE.out,(fun _ => SetK.below (HS1.out H1.out) hb2),hkp1.below hb2⟩
   ·have HE : Hid (chkVs [] [] vs = A) := by
     show _ = _; rw [← HX.out]; unfold chkEb; simp only
     rw [if_neg (by rw [HN.out]; exact hbig),if_neg (by show ¬ zeroV vs = false; rw [h2]; decide)]
    have b2 : w2.cell? ⟨w.heap.size,1,none⟩ = some (.slice a N c) := (BX1.below hb2).cell 1;clear b1;go_wp2_with fail;refine (cvalues_any (HR1.out.below hb2) HL.out HW.out).mono ?_;rintro e w3 ⟨rfl,hb3⟩;rw [HE.out];clear b2;go_wp2_with fail;go_ret;exact ⟨rfl,(fun _ => SetK.below (SetK.below (HS1.out H1.out) hb2) hb3),(hkp1.below hb2).below hb3⟩
theorem cmsg_any {w : World} {vf vr : Value} {nm : ByteArray} {fs : List FlS} {ns : List Int} {mn en : List ByteArray} {bn nn bY ny : Nat} {L : List ByteArray} {T : List (Int × ByteArray)}
  (hf : RowG w vf 5 (flRows fs)) (hr : RowG w vr 1 (inRows ns)) (hlf : fs.length ≤ 30000) (hlr : ns.length ≤ 30000) (hS : SetS w bn nn L) (hnn : nn ≤ 100000) (hT : SetT w bY ny T) (hne : bY ≠ bn) (hTt : ∀ k s,memT (k,s) T = typeB mn en k s) (hw : MsW ⟨nm,fs,ns⟩) :
  Calls Tryz.prog 35 #[.agg #[.string nm,vf,vr],.map (some bn),.map (some bY)] w fun e w' => e = .returned (.int .i64 (if freshB nm L = false then 6 else chkMb mn en ⟨nm,fs,ns⟩)) ∧ (freshB nm L = true → SetS w' bn (nn + 1) (L ++ [nm])) ∧ Kp (fun k => k = bn) w w' := by
 have HF : Hid (RowG w vf 5 (flRows fs)) := hf;have HR : Hid (RowG w vr 1 (inRows ns)) := hr;obtain ⟨a,c,rfl,q1,q2⟩ := hf.form2;obtain ⟨ar,cr,rfl,q3,q4⟩ := hr.form2
 have e1 : (flRows fs).length = fs.length := by simp [flRows]
 have e2 : (inRows ns).length = ns.length := by simp [inRows]
 rw [e1] at q1 HF ⊢;rw [e2] at q3 HR ⊢;obtain ⟨N,hN⟩ : ∃ N,fs.length = N := ⟨_,rfl⟩;obtain ⟨R,hR⟩ : ∃ N,ns.length = N := ⟨_,rfl⟩;have HL : Hid (fs.length ≤ 30000) := hlf;rw [hN] at q1 HF hlf ⊢;rw [hR] at q3 HR hlr ⊢;have HN : Hid (fs.length = N) := hN;have HNR : Hid (ns.length = R) := hR;have HS : Hid (SetS w bn nn L) := hS;have HT : Hid (SetT w bY ny T) := hT;have HTT : Hid (∀ k s,memT (k,s) T = typeB mn en k s) := hTt;obtain ⟨w1',hwf,hwr⟩ := hw;have HWF : Hid (∀ f ∈ fs,FlW f) := hwf;have HWR : Hid (∀ f ∈ ns,I64 f) := hwr;simp only at w1';clear hf hr e1 e2 hN hR hS hT hTt hwf hwr;obtain ⟨B,hB⟩ : ∃ A,(if freshB nm L = false then 6 else chkMb mn en ⟨nm,fs,ns⟩) = A := ⟨_,rfl⟩;rw [hB];have HA : Hid (B = if freshB nm L = false then 6 else chkMb mn en ⟨nm,fs,ns⟩) := hB.symm;clear hB;have hba : Below w.heap.size w (w.alloc (.cells #[.string nm,.slice a N c,.slice ar R cr] 52)) := bra _;have BX := Blk.new w #[.string nm,.slice a N c,.slice ar R cr] 52;have hbw : bn < w.heap.size := SetK.lt HS.out;have hmm := @run_makeMap Tryz.prog
 go_enter Tryz.func35,Tryz.ntmps35
 go_wp2_with fail;refine (newname_any (SetK.below HS.out hba) w1' (by omega)).mono ?_;rintro e w1 ⟨rfl,hs1,hk1⟩;have HS1 : Hid _ := hs1;clear hs1;have hkp1 : Kp (fun k => k = bn) w w1 := (Kp.ofBelow hba).trans hk1
 cases h1 : freshB nm L
 ·have H1 : Hid (freshB nm L = false) := h1;clear h1;go_wp2_with fail;go_ret;exact ⟨ret_int (by rw [HA.out,if_pos H1.out]),(fun e => by rw [H1.out] at e; cases e),hkp1⟩
 ·have H1 : Hid (freshB nm L = true) := h1;clear h1
  have HX : Hid (chkMb mn en ⟨nm,fs,ns⟩ = B) := by show _ = _; rw [HA.out,if_neg (by rw [H1.out]; decide)]
  clear HA;have BX1 := BX.kp hk1 (by omega);have b1 : w1.cell? ⟨w.heap.size,1,none⟩ = some (.slice a N c) := BX1.cell 1;have b2 : w1.cell? ⟨w.heap.size,2,none⟩ = some (.slice ar R cr) := BX1.cell 2
  by_cases hbig : 16 < N
  ·have HE : Hid (4 = B) := by show _ = _; rw [← HX.out]; unfold chkMb; rw [if_pos (by unfold bigM; simp only; rw [HN.out,decide_eq_true (.inl hbig)])]
   go_wp2_with fail;go_ret;exact ⟨ret_int HE.out,(fun _ => HS1.out H1.out),hkp1⟩
  ·have hd : decide (16 < N) = false := by simpa using hbig
   by_cases hbigr : 32 < R
   ·have HE : Hid (4 = B) := by show _ = _; rw [← HX.out]; unfold chkMb; rw [if_pos (by unfold bigM; simp only; rw [HNR.out,decide_eq_true (.inr hbigr)])]
    go_wp2_with fail;go_ret;exact ⟨ret_int HE.out,(fun _ => HS1.out H1.out),hkp1⟩
   ·have HE : Hid (B = orE (chkRes [] ns) (chkFs mn en [] ns fs)) := by
     show _ = _; rw [← HX.out]; unfold chkMb
     rw [if_neg (by unfold bigM; simp only; rw [HNR.out,HN.out,decide_eq_false (by omega)]; decide)]
    obtain ⟨A,hA⟩ : ∃ A,chkRes [] ns = A := ⟨_,rfl⟩;have HA : Hid (A = chkRes (ns.take 0) (ns.drop 0)) := hA.symm
    have HB : Hid (B = orE A (chkFs mn en [] ns fs)) := by show _ = _; rw [HE.out,hA]
    clear hA HE
    have hdr : decide (32 < R) = false := by simpa using hbigr
    have HF1 : Hid (RowG w1 (.slice a N c) 5 (flRows fs)) := HF.out.kpM hkp1 (SetK.no HS.out);have HR1 : Hid (RowG w1 (.slice ar R cr) 1 (inRows ns)) := HR.out.kpM hkp1 (SetK.no HS.out);have HT1 : Hid (SetT w1 bY ny T) := SetK.kp HT.out hkp1 hne;have hxw : w.heap.size < w1.heap.size := BX1.lt;go_wp2_with fail;clear hmm b1 b2;have HM0 := SetK.made 3 w1;have KP0 : Below w1.heap.size w1 (w1.alloc (.map #[] 0)) := bra _
    have hbw1 : bn < w1.heap.size := by have := hkp1.size; omega
    have hbY1 : bY < w1.heap.size := SetK.lt HT1.out;obtain ⟨bt,hbt⟩ : ∃ n,w1.heap.size = n := ⟨_,rfl⟩;rw [hbt] at HM0 KP0 hbw1 hbY1 ⊢;have HBT : Hid (w1.heap.size = bt) := hbt;clear hbt
    go_loopw [29] (fun iv wr => ∃ (k : Nat),iv = .int .i64 (k : Int) ∧ k ≤ R ∧ Hid (A = chkRes (ns.take k) (ns.drop k)) ∧ Hid (SetI wr bt k (ns.take k)) ∧ Below bt w1 wr) (fun iv _ => R - (intOf iv).toNat)
    case atStart => exact ⟨0,rfl,by omega,HA,HM0,KP0⟩
    case round =>
     obtain ⟨k,rfl,hk,HAk,HSt,hbel⟩ := hrel;clear HM0 KP0
     have hbW : Below w1.heap.size w1 wr := by rw [HBT.out]; exact hbel
     have hbtw : bt < wr.heap.size := SetK.lt HSt.out
     by_cases hlt : k < R
     ·obtain ⟨n,hn⟩ : ∃ n,ns[k]? = some n := ⟨_,List.getElem?_eq_getElem (by rw [HNR.out]; exact hlt)⟩
      have hrr : (inRows ns)[k]? = some [.int .i64 n] := by simp [inRows,hn]
      obtain ⟨g,off,rfl,c1⟩ := (HR1.out.below hbW).get hrr;have hn64 := HWR.out _ (List.mem_of_getElem? hn)
      have HA2 : Hid (A = if tagB n (ns.take k) = true then chkRes (ns.take k ++ [n]) (ns.drop (k + 1)) else 7) := by
       show _ = _
       rw [HAk.out,drop_at hn]; rfl
      have HTK : Hid (ns.take (k + 1) = ns.take k ++ [n]) := take_at hn;have p0 := c1 0 _ rfl;simp only [Nat.mul_one,Nat.add_zero] at p0;clear c1 hrr hn HAk hbW;go_wp2_with fail;clear p0;refine (newtag_any HSt.out hn64 (by omega)).mono ?_;rintro e w2 ⟨rfl,hs2,hk2⟩;have HS2 : Hid _ := hs2;clear hs2;have hb2 : Below bt w1 w2 := hbel.trans (hk2.toBelow (by omega) (fun k e => by omega))
      cases h2 : tagB n (ns.take k)
      ·have HB2 : Hid (7 = B) := by show _ = _; rw [HB.out,HA2.out,if_neg (by rw [h2]; decide),orE_ne (by decide)]
       go_wp2_with fail;go_ret
       have hbW2 : Below w1.heap.size w1 w2 := by rw [HBT.out]; exact hb2
       exact ⟨ret_int HB2.out,(fun _ => SetK.below (HS1.out H1.out) hbW2),hkp1.below hbW2⟩
      ·have HA3 : Hid (A = chkRes (ns.take (k + 1)) (ns.drop (k + 1))) := by
        show _ = _
        rw [HA2.out,if_pos h2,HTK.out]
       have HS2' : Hid (SetI w2 bt (k + 1) (ns.take (k + 1))) := by
        show SetI _ _ _ _
        rw [HTK.out]; exact HS2.out h2
       clear HS2 hbel hk2 HA2 HTK;go_wp2_with fail
       go_roundw
       case rel => exact ⟨k + 1,by go_num,by omega,HA3,HS2',hb2⟩
       case measure => simp [intOf]; omega
     ·have HB2 : Hid (chkFs mn en [] ns fs = B) := by show _ = _; rw [HB.out,HAk.out,drop_end (by rw [HNR.out]; omega)]; exact (orE_zero _).symm
      have HS2 : Hid (SetI wr bt k ns) := by
       have := HSt.out;rw [List.take_of_length_le (by rw [HNR.out]; omega)] at this;exact this
      have b1 : wr.cell? ⟨w.heap.size,1,none⟩ = some (.slice a N c) := (BX1.below hbW).cell 1;go_wp2_with fail;clear b1;refine (cfields_any (HF1.out.below hbW) HL.out HS2.out (by omega) (SetK.below HT1.out hbW) (by omega) HTT.out HWF.out).mono ?_;rintro e w2 ⟨rfl,hk2⟩;rw [HB2.out];go_wp2_with fail;go_ret;have hb2 : Below w1.heap.size w1 w2 := hbW.trans (hk2.toBelow hbW.size (fun k e => by have := HBT.out; omega));exact ⟨rfl,(fun _ => SetK.below (HS1.out H1.out) hb2),hkp1.below hb2⟩
theorem cwhole_any {w : World} {am ae at' : Option Addr} {cm ce ct : Nat} (s : ScS) (hs : s.name.size ≤ 140737488351232) (h1 : s.msgs.length ≤ 30000) (h2 : s.enums.length ≤ 30000) (h3 : s.methods.length ≤ 30000) :
  Calls Tryz.prog 33 #[.agg #[.string s.name,.slice am s.msgs.length cm,.slice ae s.enums.length ce,.slice at' s.methods.length ct]] w fun e w' => e = .returned (.int .i64 (wholeA s)) ∧ Below w.heap.size w w' := by
 obtain ⟨nm,ms,es,ts⟩ := s;simp only at *
 have HE : Hid (wholeA ⟨nm,ms,es,ts⟩ = if nameB nm = false then 6 else if ms.length = 0 then 12 else if (10 < ms.length ∨ 6 < es.length ∨ 6 < ts.length) then 4 else 0) := by
  show _ = _; unfold wholeA bigS; simp only [decide_eq_true_eq]
 generalize wholeA ⟨nm,ms,es,ts⟩ = A at *;generalize ms.length = M at *;generalize es.length = E at *;generalize ts.length = T at *;have hba : Below w.heap.size w (w.alloc (.cells #[.string nm,.slice am M cm,.slice ae E ce,.slice at' T ct] 26)) := bra _;have BX := Blk.new w #[.string nm,.slice am M cm,.slice ae E ce,.slice at' T ct] 26;have key : ∀ w1,Below (w.alloc (.cells #[.string nm,.slice am M cm,.slice ae E ce,.slice at' T ct] 26)).heap.size (w.alloc (.cells #[.string nm,.slice am M cm,.slice ae E ce,.slice at' T ct] 26)) w1 → Below w.heap.size w w1 := fun w1 h => hba.trans (h.mono hba.size)
 cases hn : nameB nm
 ·rw [hn,if_pos rfl] at HE
  go_enter Tryz.func33,Tryz.ntmps33
  go_wp2_with fail;refine (name_any _ _ hs).mono ?_;rintro e w1 ⟨rfl,hb1⟩;rw [hn];go_wp2_with fail;go_ret;exact ⟨ret_int HE.out.symm,key _ hb1⟩
 ·rw [hn,if_neg (by decide)] at HE
  by_cases h0 : M = 0
  ·rw [if_pos h0] at HE;subst h0
   go_enter Tryz.func33,Tryz.ntmps33
   go_wp2_with fail;refine (name_any _ _ hs).mono ?_;rintro e w1 ⟨rfl,hb1⟩;rw [hn];have b1 : w1.cell? ⟨w.heap.size,1,none⟩ = some (.slice am 0 cm) := (BX.below hb1).cell 1;go_wp2_with fail;go_ret;exact ⟨ret_int HE.out.symm,key _ hb1⟩
  ·rw [if_neg h0] at HE
   have h0' : ((M : Int) == 0) = false := by simpa using h0
   have body : ∀ V : Int,(if (10 < M ∨ 6 < E ∨ 6 < T) then (4 : Int) else 0) = V → A = V := fun V h => HE.out.trans h
   clear HE;have HBd : Hid (∀ V : Int,(if (10 < M ∨ 6 < E ∨ 6 < T) then (4 : Int) else 0) = V → A = V) := body;clear body
   go_enter Tryz.func33,Tryz.ntmps33
   go_wp2_with fail;refine (name_any _ _ hs).mono ?_;rintro e w1 ⟨rfl,hb1⟩;rw [hn];have b1 : w1.cell? ⟨w.heap.size,1,none⟩ = some (.slice am M cm) := (BX.below hb1).cell 1;have b2 : w1.cell? ⟨w.heap.size,2,none⟩ = some (.slice ae E ce) := (BX.below hb1).cell 2;have b3 : w1.cell? ⟨w.heap.size,3,none⟩ = some (.slice at' T ct) := (BX.below hb1).cell 3;have HK : Hid (Below w.heap.size w w1) := key _ hb1;clear key hb1 BX hba
   by_cases g1 : 10 < M
   ·go_wp2_with fail;go_ret;exact ⟨ret_int (HBd.out 4 (if_pos (.inl g1))).symm,HK.out⟩
   ·by_cases g2 : 6 < E
    ·go_wp2_with fail;go_ret;exact ⟨ret_int (HBd.out 4 (if_pos (.inr (.inl g2)))).symm,HK.out⟩
    ·by_cases g3 : 6 < T
     ·go_wp2_with fail;go_ret;exact ⟨ret_int (HBd.out 4 (if_pos (.inr (.inr g3)))).symm,HK.out⟩
     ·go_wp2_with fail;go_ret;exact ⟨ret_int (HBd.out 0 (if_neg (by omega))).symm,HK.out⟩
theorem SetK.perm {k : TypeId} {w : World} {b n : Nat} {L L' : List Value} (h : SetK k w b n L) (hp : ∀ v,v ∈ L ↔ v ∈ L') : SetK k w b n L' := by
 obtain ⟨D,h1,h2⟩ := h;exact ⟨D,h1,fun v kl hv => (h2 v kl hv).trans (hp v)⟩
theorem ins_wp {ops : Array Oper} {Q : Exit → Act → World → Prop} {K : Act → World → Prop} {a : Act} {w : World} {i : Nat} {o : Oper} {m kt vt b n : Nat} {L : List (Int × ByteArray)} {p : Int × ByteArray} (hi : ops[i]? = some o) (hg : o.guard = none) (hd : o.dst = none)
  (hop : o.op = .insert 85 (.tmp m) (.tmp kt) (.tmp vt)) (hm : a.eval (.tmp m) = .map (some b)) (hk : a.eval (.tmp kt) = tyV p) (hv : a.eval (.tmp vt) = .agg #[]) (hp : I64 p.1) (hps : p.2.size ≤ 140737488351232)
  (hS : SetT w b n L) (hn : n < 1000000) (hK : ∀ w',SetT w' b (n + 1) (L ++ [p]) → w.grownBy w' (some b) → K a w') : wpOp Tryz.prog ops Q i K a w := by
 obtain ⟨D,hown,h2⟩ := hS;obtain ⟨kl,hkey⟩ := key_ty hp hps;obtain ⟨w',hrun,r1,r2⟩ := hown.update lawT Tryz.underlying85 (by unfold maxLen; omega) hkey (unitElem_mk (H := Unit))
 have hS' : SetT w' b (n + 1) (L ++ [p]) := by
  have := SetK.put lawT hown.isMap h2 hkey r1;unfold SetT;rw [List.map_append];exact this
 unfold wpOp;simp only [hi]
 have hwt : Region.wanted o (yielded ops a.tmps) = true := by unfold Region.wanted; rw [hg]
 rw [if_pos hwt];refine .inl ?_;unfold Oper.wp
 simp [execOp,hop,hm,hk,hv,hrun,Result.andThen,hd]
 rw [Oper.upon_skip,hd];exact hK w' hS' r2
def five (b1 b2 b3 b4 b5 : Bool) : List (Int × ByteArray) := (if b1 then [(1,⟨#[]⟩)] else []) ++ (if b2 then [(2,⟨#[]⟩)] else []) ++ (if b3 then [(3,⟨#[]⟩)] else []) ++ (if b4 then [(4,⟨#[]⟩)] else []) ++ (if b5 then [(5,⟨#[]⟩)] else [])
def lst5 (b1 b2 b3 b4 b5 : Bool) : Array Bool := #[true,true,true,b1,true,true,b2,true,true,b3,true,true,b4,true,true,b5,false,false]
def rd5 (b1 b2 b3 b4 b5 : Bool) : List Nat := if b1 && b2 && b3 && b4 && b5 then [16] else (if b1 then [] else [3]) ++ (if b2 then [] else [6]) ++ (if b3 then [] else [9]) ++ (if b4 then [] else [12]) ++ (if b5 then [] else [15])
def cnt5 (b1 b2 b3 b4 b5 : Bool) : Nat := (if b1 then 0 else 1) + (if b2 then 0 else 1) + (if b3 then 0 else 1) + (if b4 then 0 else 1) + (if b5 then 0 else 1)
theorem rd5_mem : ∀ (b1 b2 b3 b4 b5 : Bool),cnt5 b1 b2 b3 b4 b5 ≠ 0 → ∀ i ∈ rd5 b1 b2 b3 b4 b5,(i = 3 ∧ b1 = false) ∨ (i = 6 ∧ b2 = false) ∨ (i = 9 ∧ b3 = false) ∨ (i = 12 ∧ b4 = false) ∨ (i = 15 ∧ b5 = false) := by
 intro b1 b2 b3 b4 b5
 cases b1 <;> cases b2 <;> cases b3 <;> cases b4 <;> cases b5 <;> simp [rd5,cnt5]
theorem rd5_ne : ∀ (b1 b2 b3 b4 b5 : Bool),rd5 b1 b2 b3 b4 b5 ≠ [] := by decide
theorem mem5 {p : Int × ByteArray} {b1 b2 b3 b4 b5 : Bool} : p ∈ five b1 b2 b3 b4 b5 ↔ (b1 = true ∧ p = (1,⟨#[]⟩)) ∨ (b2 = true ∧ p = (2,⟨#[]⟩)) ∨ (b3 = true ∧ p = (3,⟨#[]⟩)) ∨ (b4 = true ∧ p = (4,⟨#[]⟩)) ∨ (b5 = true ∧ p = (5,⟨#[]⟩)) := by
 cases b1 <;> cases b2 <;> cases b3 <;> cases b4 <;> cases b5 <;> simp [five]
theorem setT_perm {w : World} {b n : Nat} {L L' : List (Int × ByteArray)} (h : SetT w b n L) (hp : ∀ v,v ∈ L ↔ v ∈ L') : SetT w b n L' := by
 refine SetK.perm h fun v => ?_
 simp only [List.mem_map]
 constructor
 ·rintro ⟨p,h1,h2⟩; exact ⟨p,(hp p).1 h1,h2⟩
 ·rintro ⟨p,h1,h2⟩; exact ⟨p,(hp p).2 h1,h2⟩
theorem rg_five {ops : Array Oper} {Q : Exit → Act → World → Prop} {a : Act} {b B : Nat} {w0 : World} {o3 o6 o9 o12 o15 : Oper} (hB : B ≤ b)
  (h3 : ops[3]? = some o3) (g3 : o3.guard = none) (d3 : o3.dst = none) (p3 : o3.op = .insert 85 (.tmp 8) (.tmp 9) (.tmp 10))
  (h6 : ops[6]? = some o6) (g6 : o6.guard = none) (d6 : o6.dst = none) (p6 : o6.op = .insert 85 (.tmp 8) (.tmp 11) (.tmp 12))
  (h9 : ops[9]? = some o9) (g9 : o9.guard = none) (d9 : o9.dst = none) (p9 : o9.op = .insert 85 (.tmp 8) (.tmp 13) (.tmp 14))
  (h12 : ops[12]? = some o12) (g12 : o12.guard = none) (d12 : o12.dst = none) (p12 : o12.op = .insert 85 (.tmp 8) (.tmp 15) (.tmp 16))
  (h15 : ops[15]? = some o15) (g15 : o15.guard = none) (d15 : o15.dst = none) (p15 : o15.op = .insert 85 (.tmp 8) (.tmp 17) (.tmp 18))
  (hm : a.eval (.tmp 8) = .map (some b)) (k1 : a.eval (.tmp 9) = tyV (1,⟨#[]⟩)) (v1 : a.eval (.tmp 10) = .agg #[]) (k2 : a.eval (.tmp 11) = tyV (2,⟨#[]⟩)) (v2 : a.eval (.tmp 12) = .agg #[]) (k3 : a.eval (.tmp 13) = tyV (3,⟨#[]⟩)) (v3 : a.eval (.tmp 14) = .agg #[])
  (k4 : a.eval (.tmp 15) = tyV (4,⟨#[]⟩)) (v4 : a.eval (.tmp 16) = .agg #[]) (k5 : a.eval (.tmp 17) = tyV (5,⟨#[]⟩)) (v5 : a.eval (.tmp 18) = .agg #[])
  (hrd : ∀ b1 b2 b3 b4 b5,Region.ready .any ops (lst5 b1 b2 b3 b4 b5) = rd5 b1 b2 b3 b4 b5)
  (fin : ∀ w n,n ≤ 5 → Below B w0 w → SetT w b n (five true true true true true) → wpAnyH Tryz.prog .any ops Q (fun _ => True) 2 (lst5 true true true true true) a w) :
  ∀ (n m : Nat) (b1 b2 b3 b4 b5 : Bool),cnt5 b1 b2 b3 b4 b5 = n → m + n ≤ 5 → ∀ w,B ≤ w.heap.size → Below B w0 w → SetT w b m (five b1 b2 b3 b4 b5) → wpAnyH Tryz.prog .any ops Q (fun _ => True) (n + 2) (lst5 b1 b2 b3 b4 b5) a w
 | 0,m,b1,b2,b3,b4,b5,hc,hmn,w,hw,hbel,hS => by
  have : b1 = true ∧ b2 = true ∧ b3 = true ∧ b4 = true ∧ b5 = true := by
   revert hc; cases b1 <;> cases b2 <;> cases b3 <;> cases b4 <;> cases b5 <;> simp [cnt5]
  obtain ⟨rfl,rfl,rfl,rfl,rfl⟩ := this;exact fin w m (by omega) hbel hS
 | n + 1,m,b1,b2,b3,b4,b5,hc,hmn,w,hw,hbel,hS => by
  have ih := rg_five hB h3 g3 d3 p3 h6 g6 d6 p6 h9 g9 d9 p9 h12 g12 d12 p12 h15 g15 d15 p15 hm k1 v1 k2 v2 k3 v3 k4 v4 k5 v5 hrd fin n (m + 1);refine ⟨fun h => absurd ((hrd b1 b2 b3 b4 b5).symm.trans h) (rd5_ne b1 b2 b3 b4 b5),fun i hi => ?_⟩;rw [hrd] at hi;have hgb : ∀ w',w.grownBy w' (some b) → Below B w0 w' := fun w' hg => hbel.grown hg hw (fun j hj => by cases hj; exact hB)
  have hgs : ∀ w',w.grownBy w' (some b) → B ≤ w'.heap.size := fun w' hg => Nat.le_trans hw hg.size
  rcases rd5_mem b1 b2 b3 b4 b5 (by omega) i hi with ⟨rfl,rfl⟩ | ⟨rfl,rfl⟩ | ⟨rfl,rfl⟩ | ⟨rfl,rfl⟩ | ⟨rfl,rfl⟩
  ·refine ins_wp (p := (1,⟨#[]⟩)) h3 g3 d3 p3 hm k1 v1 ⟨by decide,by decide⟩ (by decide) hS (by omega) (fun w' hS' hg => ⟨trivial,?_⟩);exact ih true b2 b3 b4 b5 (by revert hc; unfold cnt5; simp only [if_true,if_false,Bool.false_eq_true]; omega) (by omega) w' (hgs w' hg) (hgb w' hg) (setT_perm hS' (fun v => by rw [List.mem_append,mem5,mem5]; simp [or_comm,or_left_comm,or_assoc]))
  ·refine ins_wp (p := (2,⟨#[]⟩)) h6 g6 d6 p6 hm k2 v2 ⟨by decide,by decide⟩ (by decide) hS (by omega) (fun w' hS' hg => ⟨trivial,?_⟩);exact ih b1 true b3 b4 b5 (by revert hc; unfold cnt5; simp only [if_true,if_false,Bool.false_eq_true]; omega) (by omega) w' (hgs w' hg) (hgb w' hg) (setT_perm hS' (fun v => by rw [List.mem_append,mem5,mem5]; simp [or_comm,or_left_comm,or_assoc]))
  ·refine ins_wp (p := (3,⟨#[]⟩)) h9 g9 d9 p9 hm k3 v3 ⟨by decide,by decide⟩ (by decide) hS (by omega) (fun w' hS' hg => ⟨trivial,?_⟩);exact ih b1 b2 true b4 b5 (by revert hc; unfold cnt5; simp only [if_true,if_false,Bool.false_eq_true]; omega) (by omega) w' (hgs w' hg) (hgb w' hg) (setT_perm hS' (fun v => by rw [List.mem_append,mem5,mem5]; simp [or_comm,or_left_comm,or_assoc]))
  ·refine ins_wp (p := (4,⟨#[]⟩)) h12 g12 d12 p12 hm k4 v4 ⟨by decide,by decide⟩ (by decide) hS (by omega) (fun w' hS' hg => ⟨trivial,?_⟩);exact ih b1 b2 b3 true b5 (by revert hc; unfold cnt5; simp only [if_true,if_false,Bool.false_eq_true]; omega) (by omega) w' (hgs w' hg) (hgb w' hg) (setT_perm hS' (fun v => by rw [List.mem_append,mem5,mem5]; simp [or_comm,or_left_comm,or_assoc]))
  ·refine ins_wp (p := (5,⟨#[]⟩)) h15 g15 d15 p15 hm k5 v5 ⟨by decide,by decide⟩ (by decide) hS (by omega) (fun w' hS' hg => ⟨trivial,?_⟩);exact ih b1 b2 b3 b4 true (by revert hc; unfold cnt5; simp only [if_true,if_false,Bool.false_eq_true]; omega) (by omega) w' (hgs w' hg) (hgb w' hg) (setT_perm hS' (fun v => by rw [List.mem_append,mem5,mem5]; simp [or_comm,or_left_comm,or_assoc]))
end
end Go.Proofs.YtmgbhicogmclgaaGreat

/- Part 13 of what the proof stands on. -/
import Derived.Test.YtiajaocckkghgaaGreatPkEAL
namespace Go.Proofs.YtiajaocckkghgaaGreat
set_option maxHeartbeats 8000000
set_option linter.unusedVariables false
set_option linter.unusedSimpArgs false
set_option maxRecDepth 20000
section
open Go.ChangeShapes Go.WideShapes Go.ChangeAt Go.RowKit
theorem DtrP.alloc {n : Nat} {R : Tr × Int} {w : World} {e : Ending} {W : World} (h : DtrP n R w e W) (o : Obj) : DtrP n R w e (W.alloc o) := by
 obtain ⟨r,bs,he,ht,ha,hb⟩ := h;have al : Below W.heap.size W (W.alloc o) := bra _;exact ⟨r,bs,he,ht.sm (Sm.below al fun k hk => (ha.2 k hk).2),ha.mono al.size,hb.trans (al.mono hb.size)⟩
theorem run_und {M : ByteArray → List Nat → Tr × Int} {fs : List FlS} {l : List Fd} {es : List (Int × List Tr)} {rest : List Fd} (h : runD M fs ⟨[],[]⟩ l = (⟨es,rest⟩,0)) (tag : Int) : (undE es tag).length ≤ 64 := by
 have h0 : (runD M fs ⟨[],[]⟩ l).2 = 0 := by rw [h]
 have hr := run_ran h0;have hf := (run_fit l).1 h0;rw [h] at hr
 cases hq : fldOf fs tag with
 | none =>
  rw [und_none]
  ·simp
  ·intro e he e1;obtain ⟨f,h3⟩ := hr.kn e he;rw [e1,hq] at h3; cases h3
 | some f =>
  rw [hr.und tag f hq];have h1 := fldT_len (label := f.label) (xs := (ofT l tag).map fun r => (treeD M f r).1) (fun h3 => by rw [List.length_map]; exact hf.2 tag f hq h3)
  split at h1 <;> omega
theorem run_cnt {M : ByteArray → List Nat → Tr × Int} {fs : List FlS} {l : List Fd} {es : List (Int × List Tr)} {rest : List Fd} (h : runD M fs ⟨[],[]⟩ l = (⟨es,rest⟩,0)) : es.length ≤ fs.length ∧ rest.length ≤ l.length := by
 have h0 : (runD M fs ⟨[],[]⟩ l).2 = 0 := by rw [h]
 have hr := run_ran h0;rw [h] at hr
 constructor
 ·have h1 : (es.map Prod.fst).Nodup := hr.ris.nodup
  have h2 : ∀ t ∈ es.map Prod.fst,t ∈ fs.map FlS.tag := fun t ht => by
   obtain ⟨e,he,rfl⟩ := List.mem_map.1 ht;obtain ⟨f,hf⟩ := hr.kn e he;exact List.mem_map.2 ⟨f,fld_mem hf,fld_tag0 hf⟩
  have h3 := nodup_lenR _ _ h1 h2
  simpa using h3
 ·have h1 : rest = l.filter (fun r => (fldOf fs r.tag).isNone) := hr.rest;rw [h1]; exact List.length_filter_le _ _
theorem get_64 {ns : List Nat} (hb : ∀ n ∈ ns,n < 256) {L : List Fd} (h : getL ns = (L,0)) : ∀ r ∈ L,Is64 r.tag ∧ Is64 r.wire ∧ Is64 r.n ∧ r.b.size ≤ 140737488351232 := fun r hr => by
 obtain ⟨hp,hn⟩ := putL_get hb h;obtain ⟨ho,_,_⟩ := putL_inv (rs := L) (by rw [hp]);have h1 := List.all_eq_true.1 ho r hr;have h2 := hn r hr;have h0 := h1;simp only [okF,okV,Bool.and_eq_true,Bool.or_eq_true,decide_eq_true_eq,beq_iff_eq] at h1;unfold Is64 at h2 ⊢;obtain ⟨h3,h5⟩ := h1;refine ⟨by omega,?_,h2,?_⟩
 ·rcases h5 with h5 | h5
  ·have := h5.1; omega
  ·have := h5.1.1; omega
 ·rcases h5 with h5 | h5
  ·rw [ok_num h0 h5.1]; show (0 : Nat) ≤ 140737488351232; omega
  ·have := (ok_txt h0 h5.1.1).2; omega
theorem sortF_lenD (l : List Fd) : (sortF l).length = l.length := (sortF_perm l).length_eq
theorem OutAt.own {w : World} {g : Nat} {xs : List Fd} {B N : Nat} (h : OutAt w g xs 0) (hB : B ≤ g) (hN : xs.length = N) (hm : N ≤ maxLen) : w.ownsRow B 61 4 (.slice (some ⟨g,0,none⟩) N N) N (rawCells xs) := by
 obtain ⟨junk,h1,h2⟩ := h;have hj : junk = [] := List.eq_nil_of_length_eq_zero (by omega);subst hj;rw [List.append_nil] at h1;have hl := rawCells_len xs;exact ⟨by omega,.inr ⟨g,N,_,rfl,hB,h1,Nat.le_refl _,hm,by simp [hl]; omega,by simp; rw [List.take_of_length_le]; omega⟩⟩
theorem run_next {M : ByteArray → List Nat → Tr × Int} {fs : List FlS} {l : List Fd} {i : Nat} {r : Fd} {st : Ds} (hx : l[i]? = some r) (h : runD M fs ⟨[],[]⟩ (l.take i) = (st,0)) : runD M fs ⟨[],[]⟩ (l.take (i + 1)) = oneD M fs st r ∧ ((oneD M fs st r).2 ≠ 0 → runD M fs ⟨[],[]⟩ l = oneD M fs st r) := by
 obtain ⟨hi,rfl⟩ := List.getElem?_eq_some_iff.1 hx
 have e1 : runD M fs ⟨[],[]⟩ (l.take (i + 1)) = oneD M fs st l[i] := by
  rw [List.take_succ_eq_append_getElem hi,runD_app _ _ _ _ _ (by rw [h]),h,runD_one]
 refine ⟨e1,fun h0 => ?_⟩;have h2 := runD_err M fs (l.take (i + 1)) (l.drop (i + 1)) ⟨[],[]⟩ (by rw [e1]; exact h0);rw [List.take_append_drop] at h2;rw [h2,e1]
theorem dmsg_step (s : ScS) (sn : ByteArray) (ma ea ta : Option Addr) (mn mc en ec tn tc : Nat) (hfl : ∀ m ∈ s.msgs,m.fields.length ≤ 20 ∧ m.reserved.length ≤ 40) (d n : Nat) (hd : d + n = 10)
  (IH : d < 10 → ∀ nm v ns w,ByS w v ns → ScIn w (.agg #[.string sn,.slice ma mn mc,.slice ea en ec,.slice ta tn tc]) s → Calls Tryz.prog 31 #[.agg #[.string sn,.slice ma mn mc,.slice ea en ec,.slice ta tn tc],.string nm,v,.int .i64 ((d : Int) + 1)] w (DtrP (n + 1) (decM n s nm ns) w))
  (nm : ByteArray) (v : Value) (ns : List Nat) (w : World) (hv : ByS w v ns) (hs : ScIn w (.agg #[.string sn,.slice ma mn mc,.slice ea en ec,.slice ta tn tc]) s) :
  Calls Tryz.prog 31 #[.agg #[.string sn,.slice ma mn mc,.slice ea en ec,.slice ta tn tc],.string nm,v,.int .i64 (d : Int)] w (DtrP (n + 2) (decM (n + 1) s nm ns) w) := by
 have hmm := @run_makeMap Tryz.prog;obtain ⟨R,hR⟩ : ∃ R,decM (n + 1) s nm ns = R := ⟨_,rfl⟩;have HR : Hid (decM (n + 1) s nm ns = R) := hR;rw [hR];obtain ⟨ba,bcap,rfl,hbh,hblt,hbc,hbm,hadr⟩ := hv;obtain ⟨BL,hBL⟩ : ∃ z,ns.length = z := ⟨_,rfl⟩;have HBY : Hid (ns.length = BL ∧ Holds w ba ns ∧ (∀ k ∈ ns,k < 256) ∧ BL ≤ bcap ∧ bcap ≤ maxLen ∧ (ns = [] ∨ ∃ g off,ba = some ⟨g,off,none⟩)) := ⟨hBL,hbh,hblt,by omega,hbm,hadr⟩;have HSC : Hid (ScIn w (.agg #[.string sn,.slice ma mn mc,.slice ea en ec,.slice ta tn tc]) s) := hs;obtain ⟨vm,ve,vt,hse,hms, -, -⟩ := hs;simp only [Value.agg.injEq,Array.mk.injEq,List.cons.injEq,and_true] at hse;obtain ⟨hse0,rfl,rfl,rfl⟩ := hse;obtain ⟨X,hX⟩ : ∃ X,msgOf s nm = X := ⟨_,rfl⟩;have HX : Hid (msgOf s nm = X) := hX;have HFL : Hid (∀ m ∈ s.msgs,m.fields.length ≤ 20 ∧ m.reserved.length ≤ 40) := hfl;obtain ⟨BS,BD,BT,hbw⟩ := dblk3r w #[.string sn,.slice ma mn mc,.slice ea en ec,.slice ta tn tc] #[.int .i64 (d : Int)] #[.int .i64 0,.int .i64 0,.string ⟨#[]⟩,.slice none 0 0,.slice none 0 0] 26 3 33
 have HCM : Hid (Calls Tryz.prog 42 #[.agg #[.string sn,.slice ma mn mc,.slice ea en ec,.slice ta tn tc],.string nm] (((w.alloc (Obj.cells #[.string sn,.slice ma mn mc,.slice ea en ec,.slice ta tn tc] 26)).alloc (Obj.cells #[.int .i64 (d : Int)] 3)).alloc (Obj.cells #[.int .i64 0,.int .i64 0,.string ⟨#[]⟩,.slice none 0 0,.slice none 0 0] 33)) fun e w' => ∃ vf vr,e = .returned (.tuple #[.agg #[.string (X.getD zeroM).name,vf,vr],.bool X.isSome]) ∧ w'.ownsRow (((w.alloc (Obj.cells #[.string sn,.slice ma mn mc,.slice ea en ec,.slice ta tn tc] 26)).alloc (Obj.cells #[.int .i64 (d : Int)] 3)).alloc (Obj.cells #[.int .i64 0,.int .i64 0,.string ⟨#[]⟩,.slice none 0 0,.slice none 0 0] 33)).heap.size 58 5 vf (X.getD zeroM).fields.length (flRows (X.getD zeroM).fields).flatten ∧ w'.ownsRow (((w.alloc (Obj.cells #[.string sn,.slice ma mn mc,.slice ea en ec,.slice ta tn tc] 26)).alloc (Obj.cells #[.int .i64 (d : Int)] 3)).alloc (Obj.cells #[.int .i64 0,.int .i64 0,.string ⟨#[]⟩,.slice none 0 0,.slice none 0 0] 33)).heap.size 3 1 vr (X.getD zeroM).reserved.length (inRows (X.getD zeroM).reserved).flatten ∧ Below (((w.alloc (Obj.cells #[.string sn,.slice ma mn mc,.slice ea en ec,.slice ta tn tc] 26)).alloc (Obj.cells #[.int .i64 (d : Int)] 3)).alloc (Obj.cells #[.int .i64 0,.int .i64 0,.string ⟨#[]⟩,.slice none 0 0,.slice none 0 0] 33)).heap.size (((w.alloc (Obj.cells #[.string sn,.slice ma mn mc,.slice ea en ec,.slice ta tn tc] 26)).alloc (Obj.cells #[.int .i64 (d : Int)] 3)).alloc (Obj.cells #[.int .i64 0,.int .i64 0,.string ⟨#[]⟩,.slice none 0 0,.slice none 0 0] 33)) w') := (by
  rw [← hX]
  exact cmessage_any (hms.below hbw) hfl : Calls Tryz.prog _ _ _ _)
 have HI : Hid (d < 10 → ∀ nm v ns w,ByS w v ns → ScIn w (.agg #[.string sn,.slice ma mn mc,.slice ea en ec,.slice ta tn tc]) s → Calls Tryz.prog 31 #[.agg #[.string sn,.slice ma mn mc,.slice ea en ec,.slice ta tn tc],.string nm,v,.int .i64 ((d : Int) + 1)] w (DtrP (n + 1) (decM n s nm ns) w)) := IH;have HD : Hid (d + n = 10) := hd;rw [hBL];clear hR hbh hblt hbc hbm hadr hBL hms hse0 hX hfl IH hd
 go_enter Tryz.func31,Tryz.ntmps31
 go_wp2_with fail;obtain ⟨b0,hb0⟩ : ∃ z,w.heap.size = z := ⟨_,rfl⟩;have HBZ : Hid (w.heap.size = b0) := hb0;generalize (((w.alloc (Obj.cells #[.string sn,.slice ma mn mc,.slice ea en ec,.slice ta tn tc] 26)).alloc (Obj.cells #[.int .i64 (d : Int)] 3)).alloc (Obj.cells #[.int .i64 0,.int .i64 0,.string ⟨#[]⟩,.slice none 0 0,.slice none 0 0] 33)) = WA at *;rw [hb0] at BS BD BT;simp only [hb0];clear hb0;have BSH : Hid (Blk WA b0 #[.string sn,.slice ma mn mc,.slice ea en ec,.slice ta tn tc] 26) := BS;have BDH : Hid (Blk WA (b0 + 1) #[.int .i64 (d : Int)] 3) := BD;have BTH : Hid (Blk WA (b0 + 2) #[.int .i64 0,.int .i64 0,.string ⟨#[]⟩,.slice none 0 0,.slice none 0 0] 33) := BT;have HBW : Hid (Below w.heap.size w WA) := hbw;obtain ⟨s0,s1,s2,s3⟩ := cl4 BS;clear BS BD BT hbw
 have FIN : Hid (∀ (W : World) (x0 x1 x2 x3 x4 : Value) (bs : List Nat) (y : Int),Below WA.heap.size WA W → TrO (n + 2) w.heap.size W [x0,x1,x2,x3,x4] R.1 bs → Apt w.heap.size W bs → b0 + 2 ∉ bs → R.2 = y → DtrP (n + 2) R w (.returned (.tuple #[.agg #[x0,x1,x2,x3,x4],.int .i64 y])) (set5 W (b0 + 2) 0 x0 x1 x2 x3 x4)) := fun W x0 x1 x2 x3 x4 bs y hW h1 h2 h3 h4 =>
  DtrP.done (HBW.out.trans (hW.mono HBW.out.size)) (by have := HBZ.out; omega) h1 h2 h3 h4
 have ZFIN : Hid (∀ (W : World) (y : Int),Below WA.heap.size WA W → R = (tr0,y) → DtrP (n + 2) R w (.returned (.tuple #[.agg #[.int .i64 0,.int .i64 0,.string ⟨#[]⟩,.slice none 0 0,.slice none 0 0],.int .i64 y])) (set5 W (b0 + 2) 0 (.int .i64 0) (.int .i64 0) (.string ⟨#[]⟩) (.slice none 0 0) (.slice none 0 0))) := fun W y hW hR =>
  FIN.out W _ _ _ _ _ [] y hW (by rw [hR]; exact TrO.zeroO (n + 1) _ W) (Apt.nil _ _) (by simp) (by rw [hR])
 go_wp2_with fail;refine HCM.out.mono ?_;rintro e w2 ⟨vf,vr,rfl,hvf,hvr,hb2⟩;clear HCM s0 s1 s2 s3;have HRF : Hid (RowG w2 vf 5 (flRows (X.getD zeroM).fields)) := (RowG.own (fun r hr => by simp only [flRows,List.mem_map] at hr; obtain ⟨_,_,rfl⟩ := hr; rfl) (by decide) hvf).1;obtain ⟨fa,fc,rfl⟩ := own_form hvf;obtain ⟨ra,rc,rfl⟩ := own_form hvr;obtain ⟨fl,hfl⟩ : ∃ z,(X.getD zeroM).fields.length = z := ⟨_,rfl⟩;obtain ⟨rl,hrl⟩ : ∃ z,(X.getD zeroM).reserved.length = z := ⟨_,rfl⟩;obtain ⟨mnm,hmnm⟩ : ∃ z,(X.getD zeroM).name = z := ⟨_,rfl⟩;rw [hfl] at HRF;rw [hfl,hrl,hmnm];have HW2 : Hid (Below WA.heap.size WA w2) := hb2;clear hvf hvr hfl hrl hmnm;have al3 : Below w2.heap.size w2 (w2.alloc (Obj.cells #[.string mnm,.slice fa fl fc,.slice ra rl rc] 50)) := bra _;have hw3 : Below WA.heap.size WA (w2.alloc (Obj.cells #[.string mnm,.slice fa fl fc,.slice ra rl rc] 50)) := hb2.trans (al3.mono hb2.size)
 cases X with
 | none =>
  have HX1 : Hid (R = (tr0,14)) := hid (by rw [← HR.out]; simp only [decM,HX.out]);clear al3 hw3;have BT5 := BTH.out.below hb2;obtain ⟨t0,t1,t2,t3,t4⟩ := cl5 BT5;obtain ⟨z0,z1,z2,z3,z4⟩ := fz5 BT5;have ltT := BT5.lt;clear BT5;simp only [Option.isSome_none];go_wp2_with fail;refine bodyPost_ret (results_two rfl _ _ _ ⟨b0 + 2,0,none⟩ (.agg #[.int .i64 0,.int .i64 0,.string ⟨#[]⟩,.slice none 0 0,.slice none 0 0]) (by go_simp) (by go_simp)) rfl ?_;exact (ZFIN.out w2 _ HW2.out HX1.out).alloc _
 | some m =>
  have HMM : Hid (m.fields.length ≤ 20) := (HFL.out m (msg_mem HX.out)).1;simp only [Option.getD_some] at HRF;obtain ⟨G,hG⟩ : ∃ G,getL ns = G := ⟨_,rfl⟩;have HG : Hid (getL ns = G) := hG
  have HGET : Hid (Calls Tryz.prog 56 #[.slice ba BL bcap] (w2.alloc (Obj.cells #[.string mnm,.slice fa fl fc,.slice ra rl rc] 50)) fun e w' => ∃ v,e = .returned (.tuple #[v,.int .i64 (G.2 : Int)]) ∧ w'.ownsRow (w2.alloc (Obj.cells #[.string mnm,.slice fa fl fc,.slice ra rl rc] 50)).heap.size 61 4 v G.1.length (rawCells G.1) ∧ Below (w2.alloc (Obj.cells #[.string mnm,.slice fa fl fc,.slice ra rl rc] 50)).heap.size (w2.alloc (Obj.cells #[.string mnm,.slice fa fl fc,.slice ra rl rc] 50)) w') := (by
   rw [← hG];have hb := HBW.out.trans (hw3.mono HBW.out.size)
   exact wget_any ba ns BL bcap _ HBY.out.1 (HBY.out.2.1.below hb) HBY.out.2.2.1 HBY.out.2.2.2.1 HBY.out.2.2.2.2.1 HBY.out.2.2.2.2.2 : Calls Tryz.prog _ _ _ _)
  have HR3 : Hid (R = if (G.2 : Nat) ≠ 0 then (tr0,(G.2 : Int)) else if (runD (decM n s) m.fields ⟨[],[]⟩ G.1).2 ≠ 0 then (tr0,(runD (decM n s) m.fields ⟨[],[]⟩ G.1).2) else (⟨3,0,⟨#[]⟩,(runD (decM n s) m.fields ⟨[],[]⟩ G.1).1.es,sortF (runD (decM n s) m.fields ⟨[],[]⟩ G.1).1.rest⟩,0)) := (by rw [← HR.out]; simp only [decM,HX.out,HG.out] : R = _);have HG1 : Hid (G.1.length ≤ 4096) := hid (by rw [← hG]; exact getL_len HBY.out.2.2.1);have HG64 : Hid (G.2 = 0 → ∀ r ∈ G.1,Is64 r.tag ∧ Is64 r.wire ∧ Is64 r.n ∧ r.b.size ≤ 140737488351232) := fun h0 => get_64 HBY.out.2.2.1 (by rw [hG]; exact Prod.ext rfl h0)
  have BM3 : Blk (w2.alloc (Obj.cells #[.string mnm,.slice fa fl fc,.slice ra rl rc] 50)) w2.heap.size #[.string mnm,.slice fa fl fc,.slice ra rl rc] 50 := Blk.new w2 _ _;have BMH : Hid (Blk (w2.alloc (Obj.cells #[.string mnm,.slice fa fl fc,.slice ra rl rc] 50)) w2.heap.size #[.string mnm,.slice fa fl fc,.slice ra rl rc] 50) := BM3;have HRF3 : Hid (RowG (w2.alloc (Obj.cells #[.string mnm,.slice fa fl fc,.slice ra rl rc] 50)) (.slice fa fl fc) 5 (flRows m.fields)) := HRF.out.below al3;clear hG BM3 HRF al3;simp only [Option.isSome_some];go_wp2_with fail;refine HGET.out.mono ?_;rintro e w4 ⟨v,rfl,hown,hb4⟩;have hw4 : Below WA.heap.size WA w4 := hw3.trans (hb4.mono hw3.size);have HW4 : Hid (Below WA.heap.size WA w4) := hw4;have BM4 := BMH.out.below hb4;have HRF4 : Hid (RowG w4 (.slice fa fl fc) 5 (flRows m.fields)) := HRF3.out.below hb4;obtain ⟨bM,hbM⟩ : ∃ z,w2.heap.size = z := ⟨_,rfl⟩;rw [hbM] at BM4;simp only [hbM];clear hbM BMH HRF3 HGET hb4 hw3 HW2;obtain ⟨L,E⟩ := G;simp only at hown HR3 HG1 HG64 ⊢
  by_cases hE : E = 0
  rotate_left
  ·have hne : ((E : Int) != 0) = true := by simp; omega
   have HX1 : Hid (R = (tr0,(E : Int))) := (by rw [HR3.out,if_pos hE] : R = _);clear hE HR3 HG1 HG64;obtain ⟨va,vc,rfl⟩ := own_form hown;have BT5 := BTH.out.below hw4;obtain ⟨t0,t1,t2,t3,t4⟩ := cl5 BT5;obtain ⟨z0,z1,z2,z3,z4⟩ := fz5 BT5;have ltT := BT5.lt;clear BT5;clear hown;go_wp2_with fail;refine bodyPost_ret (results_two rfl _ _ _ ⟨b0 + 2,0,none⟩ (.agg #[.int .i64 0,.int .i64 0,.string ⟨#[]⟩,.slice none 0 0,.slice none 0 0]) (by go_simp) (by go_simp)) rfl ?_;exact ZFIN.out w4 _ HW4.out HX1.out
  subst hE;simp only [show ((0 : Nat) : Int) = 0 from rfl];have HR4 : Hid (R = if (runD (decM n s) m.fields ⟨[],[]⟩ L).2 ≠ 0 then (tr0,(runD (decM n s) m.fields ⟨[],[]⟩ L).2) else (⟨3,0,⟨#[]⟩,(runD (decM n s) m.fields ⟨[],[]⟩ L).1.es,sortF (runD (decM n s) m.fields ⟨[],[]⟩ L).1.rest⟩,0)) := (by rw [HR3.out,if_neg (by simp)] : R = _);have HL64 : Hid (∀ r ∈ L,Is64 r.tag ∧ Is64 r.wire ∧ Is64 r.n ∧ r.b.size ≤ 140737488351232) := HG64.out rfl;clear HR3 HG64;obtain ⟨la,lc,rfl, -,hlb,hlc1,hlc2,hlh⟩ := own_openR hown;have HLH : Hid (HoldsR w4 la L ∧ (L = [] ∨ ∃ g off,la = some ⟨g,off,none⟩)) := ⟨hlh,own_adrR hlb⟩;obtain ⟨N,hN⟩ : ∃ z,L.length = z := ⟨_,rfl⟩;have HN : Hid (L.length = N) := hN
  have hN4 : N ≤ 4096 := by rw [← hN]; exact HG1.out
  rw [hN] at hlc1 ⊢;unfold maxLen at hlc2;clear hlb hlh hown hN HG1;have KM5 : KMap (((w4.alloc (Obj.map #[] 0)).alloc (Obj.cells #[.map (some w4.heap.size)] 106)).alloc (Obj.cells #[.slice none 0 0] 31)) w4.heap.size 0 [] := ((KMap.made w4).below (bra _)).below (bra _)
  have BK5 : Blk (((w4.alloc (Obj.map #[] 0)).alloc (Obj.cells #[.map (some w4.heap.size)] 106)).alloc (Obj.cells #[.slice none 0 0] 31)) (w4.heap.size + 1) #[.map (some w4.heap.size)] 106 := (by
   have h1 := Blk.new (w4.alloc (Obj.map #[] 0)) #[.map (some w4.heap.size)] 106;have h2 := h1.below ((Below.refl _ _).alloc (Nat.le_refl _) (Obj.cells #[.slice none 0 0] 31))
   rwa [World.size_alloc] at h2)
  have BR5 : Blk (((w4.alloc (Obj.map #[] 0)).alloc (Obj.cells #[.map (some w4.heap.size)] 106)).alloc (Obj.cells #[.slice none 0 0] 31)) (w4.heap.size + 2) #[.slice none 0 0] 31 := (by
   have h1 := Blk.new ((w4.alloc (Obj.map #[] 0)).alloc (Obj.cells #[.map (some w4.heap.size)] 106)) #[.slice none 0 0] 31
   rwa [World.size_alloc,World.size_alloc] at h1)
  have hz5 : (((w4.alloc (Obj.map #[] 0)).alloc (Obj.cells #[.map (some w4.heap.size)] 106)).alloc (Obj.cells #[.slice none 0 0] 31)).heap.size = w4.heap.size + 3 := by simp
  have hb5 : Below w4.heap.size w4 (((w4.alloc (Obj.map #[] 0)).alloc (Obj.cells #[.map (some w4.heap.size)] 106)).alloc (Obj.cells #[.slice none 0 0] 31)) := ((bra _).alloc (by simp) _).alloc (by simp; omega) _;go_wp2_with fail;obtain ⟨bm,hbm⟩ : ∃ z,w4.heap.size = z := ⟨_,rfl⟩;have HBM : Hid (w4.heap.size = bm) := hbm;rw [hbm] at KM5 BK5 BR5 hz5 hb5;simp only [hbm];clear hbm;generalize ((w4.alloc (Obj.map #[] 0)).alloc (Obj.cells #[.map (some bm)] 106)).alloc (Obj.cells #[.slice none 0 0] 31) = W5 at *;have HST : Hid (DcS (n + 1) (bm + 3) (bm + 2) bm 0 [] (.slice none 0 0) [] W5) := DcS.nil KM5 BR5 (by omega) (by omega);have HBK5 : Hid (Blk W5 (bm + 1) #[.map (some bm)] 106) := BK5;have HZ5 : Hid (bm + 3 ≤ W5.heap.size) := hid (by rw [hz5]; exact Nat.le_refl _);clear KM5 BK5 BR5 hz5
  go_loopw [42] (fun iv wr => ∃ (i c : Nat) (K : List KE) (vr : Value) (rest : List Fd),iv = .int .i64 (i : Int) ∧ i ≤ N ∧ Hid (runD (decM n s) m.fields ⟨[],[]⟩ (L.take i) = (⟨esK K,rest⟩,0)) ∧ Hid (DcS (n + 1) (bm + 3) (bm + 2) bm c K vr rest wr) ∧ Hid (c ≤ i) ∧ Hid (Blk wr (bm + 1) #[.map (some bm)] 106) ∧ Hid (bm + 3 ≤ wr.heap.size) ∧ Below bm w4 wr) (fun iv _ => N - (intOf iv).toNat)
  case atStart => exact ⟨0,0,[],_,[],rfl,by omega,rfl,HST,Nat.le_refl _,HBK5,HZ5,hb5⟩
  case round =>
   obtain ⟨i,c,K,vr,rest,rfl,hi,HRU,HDS,HC,HBK,HBZr,hbr⟩ := hrel
   have hbr4 : Below w4.heap.size w4 wr := by rw [HBM.out]; exact hbr
   have hwr : Below WA.heap.size WA wr := HW4.out.trans (hbr4.mono HW4.out.size)
   by_cases hlt : i < N
   ·obtain ⟨r,hx⟩ : ∃ r,L[i]? = some r := ⟨_,List.getElem?_eq_getElem (by rw [HN.out]; exact hlt)⟩
    obtain ⟨g,off,rfl⟩ : ∃ g off,la = some ⟨g,off,none⟩ := by
     rcases HLH.out.2 with h0 | h0
     ·rw [h0] at hx; simp at hx
     ·exact h0
    have HX6 : Hid (L[i]? = some r) := hx;have HR6 : Hid (Is64 r.tag ∧ Is64 r.wire ∧ Is64 r.n ∧ r.b.size ≤ 140737488351232) := HL64.out r (List.mem_of_getElem? hx);obtain ⟨rt,rk,rn,rb⟩ := r;obtain ⟨c0,c1,c2,c3⟩ := (HLH.out.1.below hbr4).at hx;simp only at c0 c1 c2 c3;have al : Below wr.heap.size wr (wr.alloc (Obj.cells #[.int .i64 rt,.int .i64 rk,.int .i64 rn,.string rb] 61)) := bra _;have hwc : Below WA.heap.size WA (wr.alloc (Obj.cells #[.int .i64 rt,.int .i64 rk,.int .i64 rn,.string rb] 61)) := hwr.trans (al.mono hwr.size);have hw4c : Below w4.heap.size w4 (wr.alloc (Obj.cells #[.int .i64 rt,.int .i64 rk,.int .i64 rn,.string rb] 61)) := hbr4.trans (al.mono hbr4.size)
    have HHA : Hid (Calls Tryz.prog 57 #[.agg #[.int .i64 rt,.int .i64 rk,.int .i64 rn,.string rb],.pointer (some ⟨bM,0,none⟩),.pointer (some ⟨bm + 2,0,none⟩),.pointer (some ⟨b0,0,none⟩),.pointer (some ⟨b0 + 1,0,none⟩),.pointer (some ⟨bm + 1,0,none⟩)] (wr.alloc (Obj.cells #[.int .i64 rt,.int .i64 rk,.int .i64 rn,.string rb] 61)) (HanP (n + 1) (bm + 3) (bm + 2) bm c (oneD (decM n s) m.fields ⟨esK K,rest⟩ ⟨rt,rk,rn,rb⟩) (wr.alloc (Obj.cells #[.int .i64 rt,.int .i64 rk,.int .i64 rn,.string rb] 61)))) :=
     dhand_any s sn ma ea ta mn mc en ec tn tc d n HD.out HI.out mnm fa ra fl fc rl rc m.fields bM (bm + 2) b0 (b0 + 1) (bm + 1) bm (bm + 3) c K vr rest (wr.alloc (Obj.cells #[.int .i64 rt,.int .i64 rk,.int .i64 rn,.string rb] 61))
      (HSC.out.below (HBW.out.trans (hwc.mono HBW.out.size))) (HRF4.out.below hw4c) (HDS.out.below al) ⟨BM4.below hw4c,BSH.out.below hwc,BDH.out.below hwc,HBK.out.below al⟩ (Nat.le_trans HBZr.out al.size)
      (by have := HC.out; omega) (by have h1 := (run_cnt HRU.out).2; have h2 : (L.take i).length ≤ i := List.length_take_le _ _; omega) (fun tag => run_und HRU.out tag) ⟨rt,rk,rn,rb⟩ HR6.out
    obtain ⟨RR,hRR⟩ : ∃ z,oneD (decM n s) m.fields ⟨esK K,rest⟩ ⟨rt,rk,rn,rb⟩ = z := ⟨_,rfl⟩;have HNX : Hid (runD (decM n s) m.fields ⟨[],[]⟩ (L.take (i + 1)) = RR ∧ (RR.2 ≠ 0 → runD (decM n s) m.fields ⟨[],[]⟩ L = RR)) := (by rw [← hRR]; exact run_next hx HRU.out : _ ∧ _);rw [hRR] at HHA;have HWC : Hid (Below WA.heap.size WA (wr.alloc (Obj.cells #[.int .i64 rt,.int .i64 rk,.int .i64 rn,.string rb] 61)) ∧ Below bm w4 (wr.alloc (Obj.cells #[.int .i64 rt,.int .i64 rk,.int .i64 rn,.string rb] 61)) ∧ Below wr.heap.size wr (wr.alloc (Obj.cells #[.int .i64 rt,.int .i64 rk,.int .i64 rn,.string rb] 61))) := ⟨hwc,(by rw [← HBM.out]; exact hw4c),al⟩;clear hRR hx al hwc hw4c;go_wp2_with fail;refine HHA.out.mono ?_;rintro e w6 ⟨K',c',vr',rest',rfl,hc',hK',hD6,hk6⟩;obtain ⟨RS,RE⟩ := RR;simp only at hK' HNX ⊢;have hz6 : bm + 3 ≤ w6.heap.size := Nat.le_trans (Nat.le_trans HBZr.out HWC.out.2.2.size) hk6.size;have hb6 : Below bm w4 w6 := HWC.out.2.1.trans (hk6.toBelow (Nat.le_trans (by omega) (Nat.le_trans HBZr.out HWC.out.2.2.size)) (fun k e => by rcases e with e | e | e <;> omega));have hw6 : Below WA.heap.size WA w6 := HW4.out.trans ((by rw [HBM.out]; exact hb6 : Below w4.heap.size w4 w6).mono HW4.out.size);have HBK6 : Hid (Blk w6 (bm + 1) #[.map (some bm)] 106) := ((HBK.out.below HWC.out.2.2).kp hk6 (by omega) : Blk _ _ _ _);have HDS6 : Hid (DcS (n + 1) (bm + 3) (bm + 2) bm c' K' vr' rest' w6) := hD6;have HZ6 : Hid (bm + 3 ≤ w6.heap.size) := hz6;have HW6 : Hid (Below WA.heap.size WA w6) := hw6
    by_cases hE : RE = 0
    rotate_left
    ·have hne : (RE != 0) = true := by simpa using hE
     have HX1 : Hid (R = (tr0,RE)) := (by
      rw [HR4.out,HNX.out.2 hE];simp only
      rw [if_pos hE] : R = _)
     clear hE HR4 HNX HRU HC hc' hK' hD6 hk6 c0 c1 c2 c3;have BT5 := BTH.out.below hw6;obtain ⟨t0,t1,t2,t3,t4⟩ := cl5 BT5;obtain ⟨z0,z1,z2,z3,z4⟩ := fz5 BT5;have ltT := BT5.lt;clear BT5;clear hw6;go_wp2_with fail;refine bodyPost_ret (results_two rfl _ _ _ ⟨b0 + 2,0,none⟩ (.agg #[.int .i64 0,.int .i64 0,.string ⟨#[]⟩,.slice none 0 0,.slice none 0 0]) (by go_simp) (by go_simp)) rfl ?_;exact ZFIN.out w6 _ HW6.out HX1.out
    ·subst hE;have HRU6 : Hid (runD (decM n s) m.fields ⟨[],[]⟩ (L.take (i + 1)) = (⟨esK K',rest'⟩,0)) := (by rw [HNX.out.1,← hK' rfl] : _ = _);have HC6 : Hid (c' ≤ i + 1) := hid (by have := HC.out; omega);clear HNX HRU HC hc' hK' hD6 hk6 c0 c1 c2 c3 hz6 hw6;go_wp2_with fail
     go_roundw
     case rel => exact ⟨i + 1,c',K',vr',rest',by go_num,by omega,HRU6,HDS6,HC6,HBK6,HZ6,hb6⟩
     case measure => simp [intOf]; omega
   ·obtain rfl : i = N := by omega
    have e1 : L.take i = L := List.take_of_length_le (by rw [HN.out]; exact Nat.le_refl _);have hru := HRU.out;rw [e1] at hru
    have HX1 : Hid (R = (⟨3,0,⟨#[]⟩,esK K,sortF rest⟩,0)) := (by
     rw [HR4.out,hru]
     simp : R = _)
    have HCN : Hid (c ≤ 4096 ∧ K.length ≤ 20 ∧ rest.length ≤ 4096) := (by
     have h1 := run_cnt hru
     have h2 : (esK K).length = K.length := by simp [esK]
     have := HC.out;have := HMM.out;have := HN.out
     exact ⟨by omega,by omega,by omega⟩ : _ ∧ _ ∧ _)
    obtain ⟨xa,xc,hvx, -,hxb,hxc1,hxc2,hxh⟩ := own_openR HDS.out.rr;obtain ⟨RL,hRL⟩ : ∃ z,rest.length = z := ⟨_,rfl⟩;have HRL : Hid (rest.length = RL) := hRL
    have HEN : Hid (∀ W,Below wr.heap.size wr W → Calls Tryz.prog 61 #[.map (some bm)] W fun e w' => ∃ ve rows bss,e = .returned ve ∧ RowO (EtO (TrO (n + 1) (bm + 3)) (bm + 3)) (bm + 3) 80 2 w' ve (esK K) rows bss ∧ Apt (bm + 3) w' (blkOf vr ++ allB ve bss) ∧ Below W.heap.size W w') := fun W hW =>
     dentries_any (HDS.out.below hW) (by have := HCN.out.1; omega) (Nat.le_trans HBZr.out hW.size) (by have := HCN.out.2.1; omega)
    have HSO : Hid (∀ W,Below wr.heap.size wr W → Calls Tryz.prog 28 #[.slice xa RL xc] W fun e w' => ∃ g,e = .returned (.slice (some ⟨g,0,none⟩) RL RL) ∧ W.heap.size ≤ g ∧ g < w'.heap.size ∧ OutAt w' g (sortF rest) 0 ∧ Below W.heap.size W w') := fun W hW =>
     sorted_out rest xa RL xc W HRL.out (by have := HCN.out.2.2; have := HRL.out; omega) (own_adrR hxb) (by rw [← HRL.out]; exact hxc1) hxc2 (hxh.below hW)
    have HRB : Hid (Blk wr (bm + 2) #[.slice xa RL xc] 31) := (by have := HDS.out.rb; rw [hvx,hRL] at this; exact this : Blk _ _ _ _);have HF64 : Hid (Fd64 rest) := HDS.out.r64;have BT5 := BTH.out.below hwr;obtain ⟨t0,t1,t2,t3,t4⟩ := cl5 BT5;obtain ⟨z0,z1,z2,z3,z4⟩ := fz5 BT5;have ltT := BT5.lt;clear BT5;clear hvx hxb hxc1 hxc2 hxh hRL hru e1 HR4 HRU HC;go_wp2_with fail;refine M_region (T := fun W => Below wr.heap.size wr W) (m := 5) (by kernel_rfl) ?_;have hS : Below wr.heap.size wr wr.drew := (Below.refl _ _).drew;refine M_tk 0 54 (.map (some bm)) (fun w' hw' => ?_) hS (bts 7 1) ?_
    ·have f0 := ((HBK.out.below hw').cell 0).trans rfl; go_simp
    refine M_tk 2 56 (.slice xa RL xc) (fun w' hw' => ?_) hS (bts 7 5) ?_
    ·have f0 := ((HRB.out.below hw').cell 0).trans rfl; go_simp
    refine M_cl 1 55 61 #[.map (some bm)] (bts 7 7) rfl (fun W => by go_simp) ?_;refine (HEN.out _ hS).mono ?_;rintro e W1 ⟨ve,rows,bss,rfl,hrow,hapt,hb1⟩;obtain ⟨ya,yc,rfl⟩ := own_form hrow.own;generalize hyn : (esK K).length = yn at *;have HSZ1 : Hid (wr.heap.size ≤ W1.heap.size) := hid (Nat.le_trans hS.size hb1.size);have HRW : Hid (RowO (EtO (TrO (n + 1) (bm + 3)) (bm + 3)) (bm + 3) 80 2 W1 (.slice ya yn yc) (esK K) rows bss ∧ Apt (bm + 3) W1 (blkOf vr ++ allB (.slice ya yn yc) bss)) := ⟨hrow,hapt⟩;have hS0 := hS;have hS : Below wr.heap.size wr W1 := hS0.trans (hb1.mono hS0.size);clear hS0 hb1 hrow hapt hyn;refine ⟨_,rfl,hS,?_⟩;simp only [zsA,zsZ,zsS];refine M_cl 3 57 28 #[.slice xa RL xc] (bts 7 15) rfl (fun W => by go_simp) ?_;refine (HSO.out _ hS).mono ?_;rintro e W2 ⟨gs,rfl,hg1,hg2,hout,hb2⟩;have HOU : Hid (W1.heap.size ≤ gs ∧ gs < W2.heap.size ∧ OutAt W2 gs (sortF rest) 0 ∧ Below W1.heap.size W1 W2) := ⟨hg1,hg2,hout,hb2⟩;have hS0 := hS;have hS : Below wr.heap.size wr W2 := hS0.trans (hb2.mono hS0.size);clear hS0 hb2 hg1 hg2 hout;refine ⟨_,rfl,hS,?_⟩;simp only [zsA,zsZ,zsS];refine M_tk 4 58 (.agg #[.int .i64 3,.int .i64 0,.string ⟨#[]⟩,.slice ya yn yc,.slice (some ⟨gs,0,none⟩) RL RL]) (fun w' hw' => ?_) hS (bts 7 31) ?_
    ·go_simp
    clear t0 t1 t2 t3 t4 z0 z1 z2 z3 z4 ltT;have hw2' : Below WA.heap.size WA W2 := hwr.trans (hS.mono hwr.size);have BT5 := BTH.out.below hw2';obtain ⟨t0,t1,t2,t3,t4⟩ := cl5 BT5;obtain ⟨z0,z1,z2,z3,z4⟩ := fz5 BT5;have ltT := BT5.lt;clear BT5;refine M_st 5 (((((W2.setCell ⟨b0 + 2,0,none⟩ (.int .i64 3)).setCell ⟨b0 + 2,1,none⟩ (.int .i64 0)).setCell ⟨b0 + 2,2,none⟩ (.string ⟨#[]⟩)).setCell ⟨b0 + 2,3,none⟩ (.slice ya yn yc)).setCell ⟨b0 + 2,4,none⟩ (.slice (some ⟨gs,0,none⟩) RL RL)) (bts 7 63) rfl (by go_simp) ?_;refine M_rA 6 9 (.int .i64 0) (((((W2.setCell ⟨b0 + 2,0,none⟩ (.int .i64 3)).setCell ⟨b0 + 2,1,none⟩ (.int .i64 0)).setCell ⟨b0 + 2,2,none⟩ (.string ⟨#[]⟩)).setCell ⟨b0 + 2,3,none⟩ (.slice ya yn yc)).setCell ⟨b0 + 2,4,none⟩ (.slice (some ⟨gs,0,none⟩) RL RL)) (bts 7 127) rfl (by go_simp) ?_;simp only [zsA,zsZ,zsS];refine M_done (by kernel_rfl) ?_ _;have HS2 : Hid (Below WA.heap.size WA W2) := hw2'
    have HFI : Hid (DtrP (n + 2) R w (.returned (.tuple #[.agg #[.int .i64 3,.int .i64 0,.string ⟨#[]⟩,.slice ya yn yc,.slice (some ⟨gs,0,none⟩) RL RL],.int .i64 0])) (set5 W2 (b0 + 2) 0 (.int .i64 3) (.int .i64 0) (.string ⟨#[]⟩) (.slice ya yn yc) (.slice (some ⟨gs,0,none⟩) RL RL))) := (by
     have hb := HOU.out.2.2.2
     have hle : w.heap.size ≤ bm + 3 := by have := HW4.out.size; have := HBW.out.size; have := HBM.out; omega
     have hrw := HRW.out.1;have hap := HRW.out.2;have hsm : Sm W1 W2 (allB (.slice ya yn yc) bss) := Sm.below hb fun k hk => (hap.2 k (List.mem_append.2 (.inr hk))).2
     have hrow2 : RowO (EtO (TrO (n + 1) (bm + 3)) (bm + 3)) (bm + 3) 80 2 W2 (.slice ya yn yc) (esK K) rows bss := hrw.sm hsm fun _ _ _ hp hb => hp.sm hb
     have hB1 : bm + 3 ≤ W1.heap.size := Nat.le_trans HBZr.out HSZ1.out;have hgB : bm + 3 ≤ gs := Nat.le_trans hB1 HOU.out.1
     have hown : W2.ownsRow (bm + 3) 61 4 (.slice (some ⟨gs,0,none⟩) RL RL) (sortF rest).length (rawCells (sortF rest)) := by
      have h1 := HOU.out.2.2.1.own (B := bm + 3) hgB (N := RL) (by rw [sortF_lenD]; exact HRL.out) (by unfold maxLen; have := HCN.out.2.2; have := HRL.out; omega);rw [sortF_lenD,HRL.out]; exact h1
     have hTO : TrO (n + 2) (bm + 3) W2 [.int .i64 3,.int .i64 0,.string ⟨#[]⟩,.slice ya yn yc,.slice (some ⟨gs,0,none⟩) RL RL] ⟨3,0,⟨#[]⟩,esK K,sortF rest⟩ (blkOf (.slice (some ⟨gs,0,none⟩) RL RL) ++ allB (.slice ya yn yc) bss) :=
      ⟨_,_,rows,bss,rfl,(by unfold Is64; simp),is64_0,(show (0 : Nat) ≤ 140737488351232 by omega),fun f hf => HF64.out f ((sortF_perm rest).mem_iff.1 hf),hown,hrow2,rfl⟩
     have hapt : Apt (bm + 3) W2 (blkOf (.slice (some ⟨gs,0,none⟩) RL RL) ++ allB (.slice ya yn yc) bss) :=
      (Apt.append hap.right (⟨by simp,by simp; exact ⟨HOU.out.1,HOU.out.2.1⟩⟩ : Apt W1.heap.size W2 [gs]) hB1 (Nat.le_refl _) hb.size).of_count fun q => by
       show List.count q ([gs] ++ allB (.slice ya yn yc) bss) ≤ List.count q (allB (.slice ya yn yc) bss ++ [gs])
       rw [List.count_append,List.count_append]
       omega
     refine FIN.out W2 _ _ _ _ _ (blkOf (.slice (some ⟨gs,0,none⟩) RL RL) ++ allB (.slice ya yn yc) bss) 0 HS2.out ?_ ?_ ?_ (by rw [HX1.out])
     ·rw [HX1.out]; exact hTO.base hle
     ·exact Apt.base hapt hle
     ·intro hc;have := (hapt.2 _ hc).1;have := HW4.out.size;have := HBM.out;have := BTH.out.lt
      omega)
    clear hS hw2';go_wp2_with fail;refine bodyPost_ret (results_two rfl _ _ _ ⟨b0 + 2,0,none⟩ (.agg #[.int .i64 3,.int .i64 0,.string ⟨#[]⟩,.slice ya yn yc,.slice (some ⟨gs,0,none⟩) RL RL]) (by go_simp) (by go_simp)) rfl ?_;exact HFI.out
theorem dmsg_any (s : ScS) (sn : ByteArray) (ma ea ta : Option Addr) (mn mc en ec tn tc : Nat) (hfl : ∀ m ∈ s.msgs,m.fields.length ≤ 20 ∧ m.reserved.length ≤ 40) : ∀ (n d : Nat) (hd : d + n = 10) (nm : ByteArray) (v : Value) (ns : List Nat) (w : World),ByS w v ns → ScIn w (.agg #[.string sn,.slice ma mn mc,.slice ea en ec,.slice ta tn tc]) s →
  Calls Tryz.prog 31 #[.agg #[.string sn,.slice ma mn mc,.slice ea en ec,.slice ta tn tc],.string nm,v,.int .i64 (d : Int)] w (DtrP (n + 2) (decM (n + 1) s nm ns) w)
 | 0,d,hd,nm,v,ns,w,hv,hs => dmsg_step s sn ma ea ta mn mc en ec tn tc hfl d 0 hd (fun h => absurd h (by omega)) nm v ns w hv hs
 | n + 1,d,hd,nm,v,ns,w,hv,hs => dmsg_step s sn ma ea ta mn mc en ec tn tc hfl d (n + 1) hd (fun _ nm v ns w hv hs => by
   have h1 := dmsg_any s sn ma ea ta mn mc en ec tn tc hfl n (d + 1) (by omega) nm v ns w hv hs
   simpa using h1) nm v ns w hv hs
end
section
theorem digs_pos (a : Nat) : 1 ≤ (digs a).length := List.length_pos_iff.2 (digs_ne a)
theorem sum_leF {α : Type} {f g : α → Nat} {l : List α} (h : ∀ x ∈ l,f x ≤ g x) : (l.map f).sum ≤ (l.map g).sum := by
 induction l with
 | nil => simp
 | cons a l ih =>
  have h1 := h a (List.mem_cons_self ..);have h2 := ih fun x hx => h x (List.mem_cons_of_mem _ hx)
  simp only [List.map_cons,List.sum_cons]; omega
theorem cnt_ents (n : Nat) (B : Tr → List Nat × Nat) : ∀ (es : List (Int × List Tr)),(∀ e ∈ es,∀ x ∈ e.2,cntN n x ≤ (fieldN (flE B e.1 x).1).length) → ((subs es).map (cntN n)).sum ≤ widE B es
 | [],_ => by simp [subs]
 | e :: es,h => by
  have ih := cnt_ents n B es fun e' he => h e' (List.mem_cons_of_mem _ he)
  have h1 := sum_leF (f := cntN n) (g := fun x => (fieldN (flE B e.1 x).1).length) (l := e.2) (h e (List.mem_cons_self ..))
  have e1 : wid ((enE B e).map (·.1)) = (e.2.map fun x => (fieldN (flE B e.1 x).1).length).sum := by
   simp [wid,enE,List.map_map,Function.comp_def]
  rw [widE_one,e1];simp only [subs,List.flatMap_cons,List.map_append,List.sum_append] at ih ⊢
  omega
theorem fieldN_two (r : Fd) (hw : r.wire = 0 ∨ r.wire = 1) : 2 ≤ (fieldN r).length ∧ (r.wire = 1 → r.b.size + 2 ≤ (fieldN r).length) := by
 have h1 := digs_pos
 rcases hw with h | h
 ·refine ⟨?_,fun e => absurd e (by omega)⟩;have := h1 ((2 * r.tag + r.wire).toNat);simp only [fieldN,h,List.length_append]
  simp
  have a := h1 ((2 * r.tag).toNat);have b := h1 (zigN r.n).toNat
  omega
 ·have a := h1 ((2 * r.tag + 1).toNat);have b := h1 r.b.size;have c := bytesN_len r.b;simp only [fieldN,h,List.length_append]
  simp
  omega
theorem flE_ok {B : Tr → List Nat × Nat} {tag : Int} {x : Tr} (h : (flE B tag x).2 = 0) :
  (x.kind = 1 → (flE B tag x).1 = ⟨tag,0,x.n,⟨#[]⟩⟩) ∧ (x.kind = 2 → x.s.size ≤ 4096 ∧ (flE B tag x).1 = ⟨tag,1,0,x.s⟩) ∧ (x.kind = 3 → (B x).2 = 0 ∧ (flE B tag x).1 = ⟨tag,1,0,strN (B x).1⟩) := by
 refine ⟨fun hk => by rw [flE,if_pos hk],fun hk => ?_,fun hk => ?_⟩
 ·have h1 : ¬ x.kind = 1 := by omega
  by_cases hs : 4096 < x.s.size
  ·rw [flE,if_neg h1,if_pos hk,if_pos hs] at h; exact absurd h (by decide)
  ·rw [flE,if_neg h1,if_pos hk,if_neg hs]; exact ⟨by omega,rfl⟩
 ·have h1 : ¬ x.kind = 1 := by omega
  have h2 : ¬ x.kind = 2 := by omega
  by_cases hs : (B x).2 ≠ 0
  ·rw [flE,if_neg h1,if_neg h2,if_pos hs] at h; exact absurd h hs
  ·rw [flE,if_neg h1,if_neg h2,if_neg hs]; exact ⟨by omega,rfl⟩
theorem cnt_leaf (n : Nat) (k v : Int) (b : ByteArray) : cntN n ⟨k,v,b,[],[]⟩ ≤ 1 := by
 cases n with
 | zero => simp [cntN]
 | succ n => simp [cntN,subs]
theorem byt_inv {n : Nat} {t : Tr} (hb : (bytE (n + 1) t).2 = 0) : errE (fsE (bytE n) t.es) = 0 ∧ (∀ r ∈ t.rest,okF r = true) ∧ (bytE (n + 1) t).1.length = widE (bytE n) t.es + wid t.rest ∧ (bytE (n + 1) t).1.length ≤ 4096 := by
 have he : errE (fsE (bytE n) t.es) = 0 := by
  simp only [bytE,ofR] at hb
  by_cases e : errE (fsE (bytE n) t.es) = 0
  ·exact e
  ·unfold rwE at hb;rw [if_pos e] at hb;rw [if_pos (by exact e)] at hb;exact absurd hb e
 have eb : bytE (n + 1) t = putL (sortF ((fsE (bytE n) t.es).map (·.1) ++ t.rest)) := by
  simp only [bytE,ofR,rwE_ok he];rw [if_neg (by simp)]
 rw [eb] at hb ⊢;obtain ⟨ho,hl,hp⟩ := putL_inv hb;rw [hp];refine ⟨he,fun r hr => List.all_eq_true.1 ho r ((sortF_perm _).mem_iff.2 (List.mem_append.2 (.inr hr))),?_,hl⟩;simp only;rw [wid_flat,wid_perm (sortF_perm _),wid_app]
 rfl
theorem okF_wire {r : Fd} (h : okF r = true) : r.wire = 0 ∨ r.wire = 1 := by
 simp only [okF,okV,Bool.and_eq_true,Bool.or_eq_true,decide_eq_true_eq,beq_iff_eq] at h
 rcases h.2 with h | h
 ·exact .inl h.1
 ·exact .inr h.1.1
theorem fit_cnt : ∀ (k n : Nat) (s : ScS) (nm : ByteArray) (t : Tr),DFit k s nm t → (bytE n t).2 = 0 → cntN n t ≤ 1 + (bytE n t).1.length
 | 0,_,_,_,_,h,_ => h.elim
 | _,0,_,_,_,_,_ => by simp [cntN]
 | k + 1,n + 1,s,nm,t,h,hb => by
  obtain ⟨m,hm,hk3,hr,hes,h1,h2⟩ := h;obtain ⟨he,_,hlen,_⟩ := byt_inv hb;have hall := errE_all he
  have hx : ∀ e ∈ t.es,∀ x ∈ e.2,cntN n x ≤ (fieldN (flE (bytE n) e.1 x).1).length := fun e he' x hx => by
   obtain ⟨f,_,_,_,hxs⟩ := hes e he';have h0 : (flE (bytE n) e.1 x).2 = 0 := hall _ (List.mem_flatMap.2 ⟨e,he',List.mem_map.2 ⟨x,hx,rfl⟩⟩);obtain ⟨g1,g2,g3⟩ := flE_ok h0
   rcases (hxs x hx).1 with ⟨_,hq,_⟩ | ⟨_,hq,_⟩ | ⟨_,hq⟩
   ·have hk : x.kind = 1 := by rw [hq]
    have := (fieldN_two ⟨e.1,0,x.n,⟨#[]⟩⟩ (.inl rfl)).1
    have hc : cntN n x ≤ 1 := by rw [hq]; exact cnt_leaf _ _ _ _
    rw [g1 hk]; omega
   ·have hk : x.kind = 2 := by rw [hq]
    have := (fieldN_two ⟨e.1,1,0,x.s⟩ (.inr rfl)).1
    have hc : cntN n x ≤ 1 := by rw [hq]; exact cnt_leaf _ _ _ _
    rw [(g2 hk).2]; omega
   ·obtain ⟨g4,g5⟩ := g3 hq.kind;have := (fieldN_two ⟨e.1,1,0,strN (bytE n x).1⟩ (.inr rfl)).2 rfl;have hc := fit_cnt k n s _ x hq g4;have h3 : (strN (bytE n x).1).size = (bytE n x).1.length := strN_size _;simp only at this;rw [g5]; omega
  have hsum := cnt_ents n (bytE n) t.es hx;simp only [cntN]
  omega
theorem ris_len : ∀ {es : List (Int × List Tr)} (lo hi : Int),RisE es → (∀ e ∈ es,lo < e.1 ∧ e.1 ≤ hi) → (es.length : Int) ≤ max 0 (hi - lo)
 | [],lo,hi,_,_ => by simp only [List.length_nil]; omega
 | e :: l,lo,hi,hr,h => by
  have h0 := h e (List.mem_cons_self ..);rw [RisE,List.pairwise_cons] at hr;have ih := ris_len e.1 hi hr.2 fun x hx => ⟨hr.1 x hx,(h x (List.mem_cons_of_mem _ hx)).2⟩
  simp only [List.length_cons]
  omega
theorem wid_len : ∀ (l : List Fd),(∀ r ∈ l,okF r = true) → 2 * l.length ≤ wid l
 | [],_ => by simp
 | r :: l,h => by
  have ih := wid_len l fun x hx => h x (List.mem_cons_of_mem _ hx)
  have := (fieldN_two r (okF_wire (h r (List.mem_cons_self ..)))).1;simp only [wid,List.map_cons,List.sum_cons,List.length_cons] at ih ⊢
  omega
theorem fit_small : ∀ (k n : Nat) (s : ScS) (nm : ByteArray) (t : Tr),OkS s → DFit k s nm t → k < n → (bytE n t).2 = 0 → SmN n t
 | 0,_,_,_,_,_,h,_,_ => h.elim
 | _,0,_,_,_,_,_,h,_ => absurd h (by omega)
 | k + 1,n + 1,s,nm,t,hs,h,hkn,hb => by
  obtain ⟨m,hm,hk3,hr,hes,h1,h2⟩ := h;obtain ⟨he,hro,hlen,hle⟩ := byt_inv hb;have hall := errE_all he;refine ⟨?_,?_,?_,fun f hf => ?_,fun e he' => ?_⟩
  ·rw [hk3.2.2]; show (0 : Nat) ≤ 5000; omega
  ·have := wid_len t.rest hro; omega
  ·have hl := ris_len 0 500 hr fun e he' => by
    obtain ⟨f,hf,_⟩ := hes e he';have ho := (ok_field hs hm hf).2.1
    have ht : f.tag = e.1 := by simpa using List.find?_some hf
    simp only [tagR,decide_eq_true_eq] at ho
    omega
   omega
  ·rcases okF_wire (hro f hf) with hw | hw
   ·rw [ok_num (hro f hf) hw]; show (0 : Nat) ≤ 5000; omega
   ·have := (ok_txt (hro f hf) hw).2; omega
  ·obtain ⟨f,_,_,hl,hxs⟩ := hes e he';refine ⟨by split at hl <;> omega,fun x hx => ?_⟩;have h0 : (flE (bytE n) e.1 x).2 = 0 := hall _ (List.mem_flatMap.2 ⟨e,he',List.mem_map.2 ⟨x,hx,rfl⟩⟩);obtain ⟨g1,g2,g3⟩ := flE_ok h0
   have hn : n = n - 1 + 1 := by omega
   rcases (hxs x hx).1 with ⟨_,hq,_⟩ | ⟨_,hq,_⟩ | ⟨_,hq⟩
   ·rw [hn,hq];refine ⟨?_,?_,?_,by simp,by simp⟩
    ·show (0 : Nat) ≤ 5000; omega
    ·simp
    ·simp
   ·have hk : x.kind = 2 := by rw [hq]
    have := (g2 hk).1;rw [hn,hq];refine ⟨?_,?_,?_,by simp,by simp⟩
    ·show x.s.size ≤ 5000; omega
    ·simp
    ·simp
   ·exact fit_small k n s _ x hs hq (by omega) (g3 hq.kind).1
theorem dec_small {k n : Nat} {s : ScS} {nm : ByteArray} {ns : List Nat} (hs : OkS s) (hk : k < n) (hb : ∀ b ∈ ns,b < 256) (h : (decM k s nm ns).2 = 0) : SmN n (decM k s nm ns).1 ∧ cntN n (decM k s nm ns).1 ≤ 4097 := by
 obtain ⟨h1,h2⟩ := dcd_len k n s nm ns hk hb h;obtain ⟨h3,_⟩ := dec_fit k s nm ns hb h;refine ⟨fit_small k n s nm _ hs h3 hk h1,?_⟩;have h4 := fit_cnt k n s nm _ h3 h1;have h5 : (bytE n (decM k s nm ns).1).1.length ≤ 4096 := bytE_le n _
 omega
end
section
open Go.ChangeShapes Go.WideShapes Go.ChangeAt Go.RowKit Go.Maps
theorem numR_low {n : Int} (h : n < 0) : numR n = false := by unfold numR; rw [decide_eq_false (by omega)]
theorem numR_high {n : Int} (h : 2147483647 < n) : numR n = false := by unfold numR; rw [decide_eq_false (by omega)]
theorem numR_in {n : Int} (h : ¬ n < 0) (h2 : ¬ 2147483647 < n) : numR n = true := by unfold numR; rw [decide_eq_true (by omega)]
theorem cvalues_any {w : World} {v : Value} {vs : List NmS} (hr : RowG w v 2 (nmRows vs)) (hl : vs.length ≤ 30000) (hw : ∀ f ∈ vs,NmW f) :
  Calls Tryz.prog 104 #[v] w fun e w' => e = .returned (.int .i64 (chkVs [] [] vs)) ∧ Below w.heap.size w w' := by
 obtain ⟨a,c,rfl,q1,q2⟩ := hr.form2
 have hN : (nmRows vs).length = vs.length := by simp [nmRows]
 rw [hN] at hr q1 ⊢;clear hN;obtain ⟨N,hN⟩ : ∃ N,vs.length = N := ⟨_,rfl⟩;rw [hN] at hr q1 hl ⊢;have HN : Hid (vs.length = N) := hN;have HR : Hid (RowG w (.slice a N c) 2 (nmRows vs)) := hr;have HW : Hid (∀ f ∈ vs,NmW f) := hw;clear hN hr hw;obtain ⟨A,hA⟩ : ∃ A,chkVs [] [] vs = A := ⟨_,rfl⟩;rw [hA];have HA : Hid (A = chkVs [] [] vs) := hA.symm;clear hA;have hmm := @run_makeMap Tryz.prog
 go_enter Tryz.func104,Tryz.ntmps104
 go_wp2_with fail;clear hmm;have HM0 : SetS ((w.alloc (.map #[] 0)).alloc (.map #[] 0)) w.heap.size 0 [] := SetK.below (SetK.made 9 w) (bra _)
 have HM1 : SetI ((w.alloc (.map #[] 0)).alloc (.map #[] 0)) (w.heap.size + 1) 0 [] := by
  have := SetK.made 3 (w.alloc (.map #[] 0))
  rwa [show (w.alloc (.map #[] 0)).heap.size = w.heap.size + 1 by simp] at this
 have KP0 : Below w.heap.size w ((w.alloc (.map #[] 0)).alloc (.map #[] 0)) := (bra _).alloc (by simp) _;obtain ⟨bn,hbn⟩ : ∃ n,w.heap.size = n := ⟨_,rfl⟩;rw [hbn] at HM0 HM1 KP0 ⊢;have HB : Hid (w.heap.size = bn) := hbn;clear hbn
 go_loopw [11] (fun iv wr => ∃ (k : Nat) (al : List ByteArray) (t : List Int),iv = .int .i64 (k : Int) ∧ k ≤ N ∧ Hid (A = chkVs al t (vs.drop k)) ∧ Hid (SetS wr bn k al) ∧ Hid (SetI wr (bn + 1) k t) ∧ Below bn w wr) (fun iv _ => N - (intOf iv).toNat)
 case atStart => exact ⟨0,[],[],rfl,by omega,HA,HM0,HM1,KP0⟩
 case round =>
  obtain ⟨k,al,t,rfl,hk,HAk,HSn,HSt,hbel⟩ := hrel;clear HM0 HM1 KP0;have hbw : bn + 1 < wr.heap.size := SetK.lt HSt.out
  have hbW : Below w.heap.size w wr := by rw [HB.out]; exact hbel
  by_cases hlt : k < N
  ·obtain ⟨f,hf⟩ : ∃ n,vs[k]? = some n := ⟨_,List.getElem?_eq_getElem (by rw [HN.out]; exact hlt)⟩
   have hrr : (nmRows vs)[k]? = some f.cells := by simp [nmRows,hf]
   obtain ⟨g,off,rfl,c1⟩ := (HR.out.below hbW).get hrr;have hfw := HW.out _ (List.mem_of_getElem? hf);obtain ⟨f0,f1⟩ := f;obtain ⟨w1',w2'⟩ := hfw;simp only at w1' w2'
   have HA2 : Hid (A = if freshB f0 al = false then 6 else if numB f1 t = false then 11 else chkVs (al ++ [f0]) (t ++ [f1]) (vs.drop (k + 1))) := by
    show _ = _
    rw [HAk.out,drop_at hf]; rfl
   have p0 := c1 0 _ rfl;have p1 := c1 1 _ rfl;simp only [Nat.add_zero] at p0 p1;clear c1 hrr hf HAk hbW;go_wp2_with fail;clear p0 p1;have hba : Below wr.heap.size wr (wr.alloc (.cells #[.string f0,.int .i64 f1] 70)) := bra _;have BX := Blk.new wr #[.string f0,.int .i64 f1] 70;refine (newname_any (SetK.below HSn.out hba) w1' (by omega)).mono ?_;rintro e w1 ⟨rfl,hs1,hk1⟩;have HS1 : Hid _ := hs1;clear hs1;have hb1 : Below bn w w1 := (hbel.alloc (by omega) _).trans (hk1.toBelow (by simp; omega) (fun k e => by omega))
   cases h1 : freshB f0 al
   ·go_wp2_with fail;go_ret;exact ⟨ret_int (by rw [HA2.out,if_pos h1]),by rw [HB.out]; exact hb1⟩
   ·have BX1 := BX.kp hk1 (by omega);have b1 : w1.cell? ⟨wr.heap.size,1,none⟩ = some (.int .i64 f1) := BX1.cell 1
    by_cases hlo : f1 < 0
    ·go_wp2_with fail;go_ret;exact ⟨ret_int (by rw [HA2.out,if_neg (by rw [h1]; decide),if_pos (by unfold numB; rw [numR_low hlo]; rfl)]),by rw [HB.out]; exact hb1⟩
    ·by_cases hhi : 2147483647 < f1
     ·go_wp2_with fail;go_ret;exact ⟨ret_int (by rw [HA2.out,if_neg (by rw [h1]; decide),if_pos (by unfold numB; rw [numR_high hhi]; rfl)]),by rw [HB.out]; exact hb1⟩
     ·have HNB : Hid (numB f1 t = !memI f1 t) := by show _ = _; unfold numB; rw [numR_in hlo hhi]; rfl
      go_wp2_with fail;clear b1;refine (add_int (SetK.kp (SetK.below HSt.out hba) hk1 (by omega)) w2' (by omega)).mono ?_;rintro e w2 ⟨rfl,hs2,hk2⟩;have HS2 : Hid _ := hs2;clear hs2;have hb2 : Below bn w w2 := hb1.trans (hk2.toBelow (by have := hb1.size; have := HB.out; omega) (fun k e => by omega))
      cases h2 : memI f1 t
      ·have HA3 : Hid (A = chkVs (al ++ [f0]) (t ++ [f1]) (vs.drop (k + 1))) := by
        show _ = _
        rw [HA2.out,if_neg (by rw [h1]; decide),if_neg (by rw [HNB.out,h2]; decide)]
       have HS1' : Hid (SetS w2 bn (k + 1) (al ++ [f0])) := SetK.kp (HS1.out h1) hk2 (by omega);have HS2' : Hid (SetI w2 (bn + 1) (k + 1) (t ++ [f1])) := HS2.out h2;clear HS1 HS2 hbel hb1 hba hk1 hk2 BX BX1 HA2;go_wp2_with fail
       go_roundw
       case rel => exact ⟨k + 1,_,_,by go_num,by omega,HA3,HS1',HS2',hb2⟩
       case measure => simp [intOf]; omega
      ·go_wp2_with fail;go_ret;exact ⟨ret_int (by rw [HA2.out,if_neg (by rw [h1]; decide),if_pos (by rw [HNB.out,h2]; rfl)]),by rw [HB.out]; exact hb2⟩
  ·go_wp2_with fail;go_ret;exact ⟨ret_int (by rw [HAk.out,drop_end (by rw [HN.out]; omega)]; rfl),hbW⟩
theorem typeB_msg (mn en : List ByteArray) (t : ByteArray) : typeB mn en 7 t = memB t mn := by
 unfold typeB; simp
theorem cmethods_any {w : World} {v : Value} {ts : List MtS} {mn en : List ByteArray} {bY ny : Nat} {T : List (Int × ByteArray)}
  (hr : RowG w v 3 (mtRows ts)) (hl : ts.length ≤ 30000) (hT : SetT w bY ny T) (hTt : ∀ k s,memT (k,s) T = typeB mn en k s) (hw : ∀ f ∈ ts,MtW f) :
  Calls Tryz.prog 55 #[v,.map (some bY)] w fun e w' => e = .returned (.int .i64 (chkTs mn [] ts)) ∧ Below w.heap.size w w' := by
 obtain ⟨a,c,rfl,q1,q2⟩ := hr.form2
 have hN : (mtRows ts).length = ts.length := by simp [mtRows]
 rw [hN] at hr q1 ⊢;clear hN;obtain ⟨N,hN⟩ : ∃ N,ts.length = N := ⟨_,rfl⟩;rw [hN] at hr q1 hl ⊢;have HN : Hid (ts.length = N) := hN;have HR : Hid (RowG w (.slice a N c) 3 (mtRows ts)) := hr;have HT : Hid (SetT w bY ny T) := hT
 have HTT : Hid (∀ s,memT (7,s) T = memB s mn) := fun s => by rw [hTt,typeB_msg]
 have HW : Hid (∀ f ∈ ts,MtW f) := hw;clear hN hr hT hTt hw;obtain ⟨A,hA⟩ : ∃ A,chkTs mn [] ts = A := ⟨_,rfl⟩;rw [hA];have HA : Hid (A = chkTs mn [] ts) := hA.symm;clear hA;have hmm := @run_makeMap Tryz.prog
 go_enter Tryz.func55,Tryz.ntmps55
 go_wp2_with fail;clear hmm;have HM0 := SetK.made 9 w;have KP0 : Below w.heap.size w (w.alloc (.map #[] 0)) := bra _;obtain ⟨bn,hbn⟩ : ∃ n,w.heap.size = n := ⟨_,rfl⟩;rw [hbn] at HM0 KP0 ⊢;have HB : Hid (w.heap.size = bn) := hbn;clear hbn
 go_loopw [11] (fun iv wr => ∃ (k : Nat) (al : List ByteArray),iv = .int .i64 (k : Int) ∧ k ≤ N ∧ Hid (A = chkTs mn al (ts.drop k)) ∧ Hid (SetS wr bn k al) ∧ Below bn w wr) (fun iv _ => N - (intOf iv).toNat)
 case atStart => exact ⟨0,[],rfl,by omega,HA,HM0,KP0⟩
 case round =>
  obtain ⟨k,al,rfl,hk,HAk,HSn,hbel⟩ := hrel;clear HM0 KP0;have hbw : bn < wr.heap.size := SetK.lt HSn.out
  have hbW : Below w.heap.size w wr := by rw [HB.out]; exact hbel
  by_cases hlt : k < N
  ·obtain ⟨f,hf⟩ : ∃ n,ts[k]? = some n := ⟨_,List.getElem?_eq_getElem (by rw [HN.out]; exact hlt)⟩
   have hrr : (mtRows ts)[k]? = some f.cells := by simp [mtRows,hf]
   obtain ⟨g,off,rfl,c1⟩ := (HR.out.below hbW).get hrr;have hfw := HW.out _ (List.mem_of_getElem? hf);obtain ⟨f0,f1,f2⟩ := f;obtain ⟨w1',w2',w3'⟩ := hfw;simp only at w1' w2' w3'
   have HA2 : Hid (A = if freshB f0 al = false then 6 else if (memB f1 mn && memB f2 mn) = false then 8 else chkTs mn (al ++ [f0]) (ts.drop (k + 1))) := by
    show _ = _
    rw [HAk.out,drop_at hf]; rfl
   have p0 := c1 0 _ rfl;have p1 := c1 1 _ rfl;have p2 := c1 2 _ rfl;simp only [Nat.add_zero] at p0 p1 p2;have HTr : Hid (SetT wr bY ny T) := SetK.below HT.out hbW
   have hYn : bY < bn := by have := SetK.lt HT.out; have := HB.out; omega
   clear c1 hrr hf HAk hbW;go_wp2_with fail;clear p0 p1 p2;have hba : Below wr.heap.size wr (wr.alloc (.cells #[.string f0,.string f1,.string f2] 72)) := bra _;have BX := Blk.new wr #[.string f0,.string f1,.string f2] 72;refine (newname_any (SetK.below HSn.out hba) w1' (by omega)).mono ?_;rintro e w1 ⟨rfl,hs1,hk1⟩;have HS1 : Hid _ := hs1;clear hs1;have hb1 : Below bn w w1 := (hbel.alloc (by omega) _).trans (hk1.toBelow (by simp; omega) (fun k e => by omega))
   cases h1 : freshB f0 al
   ·go_wp2_with fail;go_ret;exact ⟨ret_int (by rw [HA2.out,if_pos h1]),by rw [HB.out]; exact hb1⟩
   ·have BX1 := BX.kp hk1 (by omega);have b1 : w1.cell? ⟨wr.heap.size,1,none⟩ = some (.string f1) := BX1.cell 1;have HT1 : Hid (SetT w1 bY ny T) := SetK.kp (SetK.below HTr.out hba) hk1 (by omega);go_wp2_with fail;refine (msgtype_any _ _).mono ?_;rintro e w2 ⟨rfl,hb2⟩;clear b1;go_wp2_with fail;refine (has_ty (SetK.below HT1.out hb2) ⟨by decide,by decide⟩ w2').mono ?_;rintro e w3 ⟨rfl,hb3⟩;rw [HTT.out];have hb13 : Below w1.heap.size w1 w3 := hb2.trans (hb3.mono hb2.size)
    have hbn1 : bn ≤ w1.heap.size := by have := hb1.size; have := HB.out; omega
    have hb03 : Below bn w w3 := hb1.trans (hb13.mono hbn1)
    cases h2 : memB f1 mn
    ·go_wp2_with fail;go_ret;exact ⟨ret_int (by rw [HA2.out,if_neg (by rw [h1]; decide),if_pos (by rw [h2]; rfl)]),by rw [HB.out]; exact hb03⟩
    ·have BX3 := BX1.below hb13;have b2 : w3.cell? ⟨wr.heap.size,2,none⟩ = some (.string f2) := BX3.cell 2;clear hb2 hb3;go_wp2_with fail;refine (msgtype_any _ _).mono ?_;rintro e w4 ⟨rfl,hb4⟩;clear b2;go_wp2_with fail;refine (has_ty (SetK.below (SetK.below HT1.out hb13) hb4) ⟨by decide,by decide⟩ w3').mono ?_;rintro e w5 ⟨rfl,hb5⟩;rw [HTT.out];have hb35 : Below w3.heap.size w3 w5 := hb4.trans (hb5.mono hb4.size);have hb05 : Below bn w w5 := hb03.trans (hb35.mono (Nat.le_trans hbn1 hb13.size))
     cases h3 : memB f2 mn
     ·go_wp2_with fail;go_ret;exact ⟨ret_int (by rw [HA2.out,if_neg (by rw [h1]; decide),if_pos (by rw [h2,h3]; rfl)]),by rw [HB.out]; exact hb05⟩
     ·have HA3 : Hid (A = chkTs mn (al ++ [f0]) (ts.drop (k + 1))) := by
       show _ = _
       rw [HA2.out,if_neg (by rw [h1]; decide),if_neg (by rw [h2,h3]; decide)]
      have HS1' : Hid (SetS w5 bn (k + 1) (al ++ [f0])) := SetK.below (SetK.below (HS1.out h1) hb13) hb35;clear HS1 hbel hb1 hba hk1 BX BX1 BX3 HA2 hb03 hb35 hb13 hb4 hb5 HT1;go_wp2_with fail
      go_roundw
      case rel => exact ⟨k + 1,_,by go_num,by omega,HA3,HS1',hb05⟩
      case measure => simp [intOf]; omega
  ·go_wp2_with fail;go_ret;exact ⟨ret_int (by rw [HAk.out,drop_end (by rw [HN.out]; omega)]; rfl),hbW⟩
theorem cfields_any {w : World} {v : Value} {fs : List FlS} {mn en : List ByteArray} {bt nt bY ny : Nat} {L : List Int} {T : List (Int × ByteArray)}
  (hr : RowG w v 5 (flRows fs)) (hl : fs.length ≤ 30000) (hI : SetI w bt nt L) (hnt : nt ≤ 100000) (hT : SetT w bY ny T) (hne : bY ≠ bt) (hTt : ∀ k s,memT (k,s) T = typeB mn en k s) (hw : ∀ f ∈ fs,FlW f) :
  Calls Tryz.prog 101 #[v,.map (some bt),.map (some bY)] w fun e w' => e = .returned (.int .i64 (chkFs mn en [] L fs)) ∧ Kp (fun k => k = bt) w w' := by
 obtain ⟨a,c,rfl,q1,q2⟩ := hr.form2
 have hN : (flRows fs).length = fs.length := by simp [flRows]
 rw [hN] at hr q1 ⊢;clear hN;obtain ⟨N,hN⟩ : ∃ N,fs.length = N := ⟨_,rfl⟩;rw [hN] at hr q1 hl ⊢;have HN : Hid (fs.length = N) := hN;have HR : Hid (RowG w (.slice a N c) 5 (flRows fs)) := hr;have HI : Hid (SetI w bt nt L) := hI;have HT : Hid (SetT w bY ny T) := hT;have HTT : Hid (∀ k s,memT (k,s) T = typeB mn en k s) := hTt;have HW : Hid (∀ f ∈ fs,FlW f) := hw;have hbt : bt < w.heap.size := SetK.lt hI;clear hN hr hI hT hTt hw;obtain ⟨A,hA⟩ : ∃ A,chkFs mn en [] L fs = A := ⟨_,rfl⟩;rw [hA];have HA : Hid (A = chkFs mn en [] L fs) := hA.symm;clear hA;have hmm := @run_makeMap Tryz.prog
 go_enter Tryz.func101,Tryz.ntmps101
 go_wp2_with fail;clear hmm;have HM0 := SetK.made 9 w;have KP0 : Kp (fun k => k = bt) w (w.alloc (.map #[] 0)) := (Kp.refl _ _).alloc _;have HI0 : Hid (SetI (w.alloc (.map #[] 0)) bt nt L) := SetK.kp HI.out (S := fun _ => False) ((Kp.refl _ _).alloc _) (fun e => e);obtain ⟨bn,hbn⟩ : ∃ n,w.heap.size = n := ⟨_,rfl⟩;rw [hbn] at HM0 hbt ⊢;have HB : Hid (w.heap.size = bn) := hbn;clear hbn
 go_loopw [13] (fun iv wr => ∃ (k : Nat) (al : List ByteArray) (t : List Int),iv = .int .i64 (k : Int) ∧ k ≤ N ∧ Hid (A = chkFs mn en al t (fs.drop k)) ∧ Hid (SetS wr bn k al) ∧ Hid (SetI wr bt (nt + k) t) ∧ Kp (fun k => k = bt) w wr) (fun iv _ => N - (intOf iv).toNat)
 case atStart => exact ⟨0,[],L,rfl,by omega,HA,HM0,HI0,KP0⟩
 case round =>
  obtain ⟨k,al,t,rfl,hk,HAk,HSn,HSt,hkp⟩ := hrel;clear HM0 KP0 HI0;have hbw : bn < wr.heap.size := SetK.lt HSn.out
  by_cases hlt : k < N
  ·obtain ⟨f,hf⟩ : ∃ n,fs[k]? = some n := ⟨_,List.getElem?_eq_getElem (by rw [HN.out]; exact hlt)⟩
   have hrr : (flRows fs)[k]? = some f.cells := by simp [flRows,hf]
   obtain ⟨g,off,rfl,c1⟩ := (HR.out.kpM hkp (SetK.no HI.out)).get hrr;have hfw := HW.out _ (List.mem_of_getElem? hf);obtain ⟨f0,f1,f2,f3,f4⟩ := f;obtain ⟨w1',w2',w3',w4',w5'⟩ := hfw;simp only at w1' w2' w3' w4' w5'
   have HA2 : Hid (A = if freshB f0 al = false then 6 else if tagB f1 t = false then 7 else if (labB f2 && typeB mn en f3 f4) = false then 8 else chkFs mn en (al ++ [f0]) (t ++ [f1]) (fs.drop (k + 1))) := by
    show _ = _
    rw [HAk.out,drop_at hf]; rfl
   have p0 := c1 0 _ rfl;have p1 := c1 1 _ rfl;have p2 := c1 2 _ rfl;have p3 := c1 3 _ rfl;have p4 := c1 4 _ rfl;simp only [Nat.add_zero] at p0 p1 p2 p3 p4;clear c1 hrr hf HAk;have HTr : Hid (SetT wr bY ny T) := SetK.kp HT.out hkp hne;go_wp2_with fail;clear p0 p1 p2 p3 p4;have hba : Below wr.heap.size wr (wr.alloc (.cells #[.string f0,.int .i64 f1,.int .i64 f2,.int .i64 f3,.string f4] 58)) := bra _;have BX := Blk.new wr #[.string f0,.int .i64 f1,.int .i64 f2,.int .i64 f3,.string f4] 58;refine (newname_any (SetK.below HSn.out hba) w1' (by omega)).mono ?_;rintro e w1 ⟨rfl,hs1,hk1⟩;have HS1 : Hid _ := hs1;clear hs1;have hkp1 : Kp (fun k => k = bt) w w1 := (hkp.below hba).new hk1 (by rw [HB.out]; omega)
   cases h1 : freshB f0 al
   ·go_wp2_with fail;go_ret;exact ⟨ret_int (by rw [HA2.out,if_pos h1]),hkp1⟩
   ·have BX1 := BX.kp hk1 (by omega);have b1 : w1.cell? ⟨wr.heap.size,1,none⟩ = some (.int .i64 f1) := BX1.cell 1;go_wp2_with fail;clear b1;refine (newtag_any (SetK.kp (SetK.below HSt.out hba) hk1 (by omega)) w3' (by omega)).mono ?_;rintro e w2 ⟨rfl,hs2,hk2⟩;have HS2 : Hid _ := hs2;clear hs2;have hkp2 : Kp (fun k => k = bt) w w2 := hkp1.trans hk2
    cases h2 : tagB f1 t
    ·go_wp2_with fail;go_ret;exact ⟨ret_int (by rw [HA2.out,if_neg (by rw [h1]; decide),if_pos h2]),hkp2⟩
    ·have BX2 := BX1.kp hk2 (by omega);have b2 : w2.cell? ⟨wr.heap.size,2,none⟩ = some (.int .i64 f2) := BX2.cell 2;have b3 : w2.cell? ⟨wr.heap.size,3,none⟩ = some (.int .i64 f3) := BX2.cell 3;have b4 : w2.cell? ⟨wr.heap.size,4,none⟩ = some (.string f4) := BX2.cell 4;go_wp2_with fail;refine (islabel_any _ _).mono ?_;rintro e w3 ⟨rfl,rfl⟩
     cases h3 : labB f2
     ·go_wp2_with fail;go_ret;exact ⟨ret_int (by rw [HA2.out,if_neg (by rw [h1]; decide),if_neg (by rw [h2]; decide),if_pos (by rw [h3]; rfl)]),hkp2⟩
     ·go_wp2_with fail;clear b2 b3 b4;refine (has_ty (SetK.kp (SetK.kp (SetK.below HTr.out hba) hk1 (by have := SetK.lt HT.out; have := HB.out; omega)) hk2 hne) w5' w2').mono ?_;rintro e w4 ⟨rfl,hb4⟩;rw [HTT.out]
      cases h4 : typeB mn en f3 f4
      ·go_wp2_with fail;go_ret;exact ⟨ret_int (by rw [HA2.out,if_neg (by rw [h1]; decide),if_neg (by rw [h2]; decide),if_pos (by rw [h3,h4]; rfl)]),hkp2.below hb4⟩
      ·have HA3 : Hid (A = chkFs mn en (al ++ [f0]) (t ++ [f1]) (fs.drop (k + 1))) := by
        show _ = _
        rw [HA2.out,if_neg (by rw [h1]; decide),if_neg (by rw [h2]; decide),if_neg (by rw [h3,h4]; decide)]
       have HS1' : Hid (SetS w4 bn (k + 1) (al ++ [f0])) := SetK.below (SetK.kp (HS1.out h1) hk2 (by omega)) hb4;have HS2' : Hid (SetI w4 bt (nt + (k + 1)) (t ++ [f1])) := SetK.below (HS2.out h2) hb4;have hkp4 := hkp2.below hb4;clear HS1 HS2 hkp hkp1 hkp2 hba hk1 hk2 hb4 BX BX1 BX2 HA2 HTr;go_wp2_with fail
       go_roundw
       case rel => exact ⟨k + 1,_,_,by go_num,by omega,HA3,HS1',HS2',hkp4⟩
       case measure => simp [intOf]; omega
  ·go_wp2_with fail;go_ret;exact ⟨ret_int (by rw [HAk.out,drop_end (by rw [HN.out]; omega)]; rfl),hkp⟩
theorem take_at {α : Type} {l : List α} {k : Nat} {x : α} (h : l[k]? = some x) : l.take (k + 1) = l.take k ++ [x] := by
 rw [List.take_add_one,h]; rfl
def zeroV (vs : List NmS) : Bool := vs.any fun v => decide (v.n = 0)
theorem indexf_any {w : World} {v : Value} {vs : List NmS} (hr : RowG w v 2 (nmRows vs)) (hl : vs.length ≤ 30000) :
  Calls Tryz.prog 143 #[v,.func (.func 103) #[] #[]] w fun e w' => (∃ n : Int,e = .returned (.int .i64 n) ∧ decide (0 ≤ n) = zeroV vs) ∧ Below w.heap.size w w' := by
 obtain ⟨a,c,rfl,q1,q2⟩ := hr.form2
 have hN : (nmRows vs).length = vs.length := by simp [nmRows]
 rw [hN] at hr q1 ⊢;clear hN;obtain ⟨N,hN⟩ : ∃ N,vs.length = N := ⟨_,rfl⟩;rw [hN] at hr q1 hl ⊢;have HN : Hid (vs.length = N) := hN;have HR : Hid (RowG w (.slice a N c) 2 (nmRows vs)) := hr;clear hN hr;obtain ⟨A,hA⟩ : ∃ A,zeroV vs = A := ⟨_,rfl⟩;rw [hA];have HA : Hid (A = zeroV vs) := hA.symm;clear hA
 go_enter Tryz.func143,Tryz.ntmps143
 go_wp2_with fail
 go_loopw [8] (fun iv wr => ∃ k : Nat,iv = .int .i64 (k : Int) ∧ k ≤ N ∧ Hid (A = zeroV (vs.drop k)) ∧ Below w.heap.size w wr) (fun iv _ => N - (intOf iv).toNat)
 case atStart => exact ⟨0,rfl,by omega,HA,Below.refl _ _⟩
 case round =>
  obtain ⟨k,rfl,hk,HAk,hbel⟩ := hrel
  by_cases hlt : k < N
  ·obtain ⟨f,hf⟩ : ∃ n,vs[k]? = some n := ⟨_,List.getElem?_eq_getElem (by rw [HN.out]; exact hlt)⟩
   have hrr : (nmRows vs)[k]? = some f.cells := by simp [nmRows,hf]
   obtain ⟨g,off,rfl,c1⟩ := (HR.out.below hbel).get hrr;obtain ⟨f0,f1⟩ := f
   have HA2 : Hid (A = (decide (f1 = 0) || zeroV (vs.drop (k + 1)))) := by
    show _ = _
    rw [HAk.out,drop_at hf]; rfl
   have p0 := c1 0 _ rfl;have p1 := c1 1 _ rfl;simp only [Nat.add_zero] at p0 p1;clear c1 hrr hf HAk;go_wp2_with fail;clear p0 p1;refine (iszero_any _ _ _).mono ?_;rintro e w1 ⟨rfl,hb1⟩;have hb2 : Below w.heap.size w w1 := hbel.trans (hb1.mono hbel.size)
   cases hz : decide (f1 = 0)
   ·have HA3 : Hid (A = zeroV (vs.drop (k + 1))) := by show _ = _; rw [HA2.out,hz]; rfl
    clear hbel hb1 HA2;go_wp2_with fail
    go_roundw
    case rel => exact ⟨k + 1,by go_num,by omega,HA3,hb2⟩
    case measure => simp [intOf]; omega
   ·go_wp2_with fail;go_ret;exact ⟨⟨(k : Int),rfl,by rw [HA2.out,hz,decide_eq_true (by omega)]; rfl⟩,hb2⟩
  ·go_wp2_with fail;go_ret;exact ⟨⟨-1,rfl,by rw [HAk.out,drop_end (by rw [HN.out]; omega)]; rfl⟩,hbel⟩
theorem contf_any {w : World} {v : Value} {vs : List NmS} (hr : RowG w v 2 (nmRows vs)) (hl : vs.length ≤ 30000) :
  Calls Tryz.prog 102 #[v,.func (.func 103) #[] #[]] w fun e w' => e = .returned (.bool (zeroV vs)) ∧ Below w.heap.size w w' := by
 have HC := indexf_any hr hl;clear hr hl
 go_enter Tryz.func102,Tryz.ntmps102
 go_wp2_with fail;refine HC.mono ?_;rintro e w1 ⟨⟨n,rfl,hn⟩,hb1⟩;have HN : Hid _ := hn;clear hn;go_wp2_with fail;go_ret;exact ⟨ret_bool HN.out,hb1⟩
theorem cenum_any {w : World} {vv : Value} {nm : ByteArray} {vs : List NmS} {bn nn : Nat} {L : List ByteArray} (hr : RowG w vv 2 (nmRows vs)) (hl : vs.length ≤ 30000) (hS : SetS w bn nn L) (hnn : nn ≤ 100000) (hw : EnW ⟨nm,vs⟩) :
  Calls Tryz.prog 54 #[.agg #[.string nm,vv],.map (some bn)] w fun e w' => e = .returned (.int .i64 (if freshB nm L = false then 6 else chkEb ⟨nm,vs⟩)) ∧ (freshB nm L = true → SetS w' bn (nn + 1) (L ++ [nm])) ∧ Kp (fun k => k = bn) w w' := by
 have HR : Hid (RowG w vv 2 (nmRows vs)) := hr;obtain ⟨a,c,rfl,q1,q2⟩ := hr.form2
 have hN : (nmRows vs).length = vs.length := by simp [nmRows]
 rw [hN] at q1 HR ⊢;obtain ⟨N,hN2⟩ : ∃ N,vs.length = N := ⟨_,rfl⟩;rw [hN2] at q1 HR ⊢;have HN : Hid (vs.length = N) := hN2;have HS : Hid (SetS w bn nn L) := hS;obtain ⟨w1',hwv⟩ := hw;have HW : Hid (∀ f ∈ vs,NmW f) := hwv;have HL : Hid (vs.length ≤ 30000) := hl;simp only at w1';clear hr hN hN2 hS hwv hl;obtain ⟨A,hA⟩ : ∃ A,(if freshB nm L = false then 6 else chkEb ⟨nm,vs⟩) = A := ⟨_,rfl⟩;rw [hA];have HA : Hid (A = if freshB nm L = false then 6 else chkEb ⟨nm,vs⟩) := hA.symm;clear hA;have hba : Below w.heap.size w (w.alloc (.cells #[.string nm,.slice a N c] 68)) := bra _;have BX := Blk.new w #[.string nm,.slice a N c] 68;have hbw : bn < w.heap.size := SetK.lt HS.out
 go_enter Tryz.func54,Tryz.ntmps54
 go_wp2_with fail;refine (newname_any (SetK.below HS.out hba) w1' (by omega)).mono ?_;rintro e w1 ⟨rfl,hs1,hk1⟩;have HS1 : Hid _ := hs1;clear hs1;have hkp1 : Kp (fun k => k = bn) w w1 := (Kp.ofBelow hba).trans hk1
 cases h1 : freshB nm L
 ·have H1 : Hid (freshB nm L = false) := h1;clear h1;go_wp2_with fail;go_ret;exact ⟨ret_int (by rw [HA.out,if_pos H1.out]),(fun e => by rw [H1.out] at e; cases e),hkp1⟩
 ·have H1 : Hid (freshB nm L = true) := h1;clear h1
  have HX : Hid (chkEb ⟨nm,vs⟩ = A) := by show _ = _; rw [HA.out,if_neg (by rw [H1.out]; decide)]
  have BX1 := BX.kp hk1 (by omega);have b1 : w1.cell? ⟨w.heap.size,1,none⟩ = some (.slice a N c) := BX1.cell 1
  by_cases hbig : 16 < N
  ·have HE : Hid (4 = A) := by show _ = _; rw [← HX.out]; unfold chkEb; simp only; rw [if_pos (by rw [HN.out]; exact hbig)]
   go_wp2_with fail;go_ret;exact ⟨ret_int HE.out,(fun _ => HS1.out H1.out),hkp1⟩
  ·have HR1 : Hid (RowG w1 (.slice a N c) 2 (nmRows vs)) := (HR.out.kpM hkp1 (SetK.no HS.out));go_wp2_with fail;refine (contf_any HR1.out HL.out).mono ?_;rintro e w2 ⟨rfl,hb2⟩
   cases h2 : zeroV vs
   ·have HE : Hid (12 = A) := by show _ = _; rw [← HX.out]; unfold chkEb; simp only; rw [if_neg (by rw [HN.out]; exact hbig),if_pos (show zeroE ⟨nm,vs⟩ = false from h2)]
    go_wp2_with fail;go_ret;exact ⟨ret_int HE.out,(fun _ => SetK.below (HS1.out H1.out) hb2),hkp1.below hb2⟩
   ·have HE : Hid (chkVs [] [] vs = A) := by
     show _ = _; rw [← HX.out]; unfold chkEb; simp only
     rw [if_neg (by rw [HN.out]; exact hbig),if_neg (by show ¬ zeroV vs = false; rw [h2]; decide)]
    have b2 : w2.cell? ⟨w.heap.size,1,none⟩ = some (.slice a N c) := (BX1.below hb2).cell 1;clear b1;go_wp2_with fail;refine (cvalues_any (HR1.out.below hb2) HL.out HW.out).mono ?_;rintro e w3 ⟨rfl,hb3⟩;rw [HE.out];clear b2;go_wp2_with fail;go_ret;exact ⟨rfl,(fun _ => SetK.below (SetK.below (HS1.out H1.out) hb2) hb3),(hkp1.below hb2).below hb3⟩
theorem cmsg_any {w : World} {vf vr : Value} {nm : ByteArray} {fs : List FlS} {ns : List Int} {mn en : List ByteArray} {bn nn bY ny : Nat} {L : List ByteArray} {T : List (Int × ByteArray)}
  (hf : RowG w vf 5 (flRows fs)) (hr : RowG w vr 1 (inRows ns)) (hlf : fs.length ≤ 30000) (hlr : ns.length ≤ 30000) (hS : SetS w bn nn L) (hnn : nn ≤ 100000) (hT : SetT w bY ny T) (hne : bY ≠ bn) (hTt : ∀ k s,memT (k,s) T = typeB mn en k s) (hw : MsW ⟨nm,fs,ns⟩) :
  Calls Tryz.prog 53 #[.agg #[.string nm,vf,vr],.map (some bn),.map (some bY)] w fun e w' => e = .returned (.int .i64 (if freshB nm L = false then 6 else chkMb mn en ⟨nm,fs,ns⟩)) ∧ (freshB nm L = true → SetS w' bn (nn + 1) (L ++ [nm])) ∧ Kp (fun k => k = bn) w w' := by
 have HF : Hid (RowG w vf 5 (flRows fs)) := hf;have HR : Hid (RowG w vr 1 (inRows ns)) := hr;obtain ⟨a,c,rfl,q1,q2⟩ := hf.form2;obtain ⟨ar,cr,rfl,q3,q4⟩ := hr.form2
 have e1 : (flRows fs).length = fs.length := by simp [flRows]
 have e2 : (inRows ns).length = ns.length := by simp [inRows]
 rw [e1] at q1 HF ⊢;rw [e2] at q3 HR ⊢;obtain ⟨N,hN⟩ : ∃ N,fs.length = N := ⟨_,rfl⟩;obtain ⟨R,hR⟩ : ∃ N,ns.length = N := ⟨_,rfl⟩;have HL : Hid (fs.length ≤ 30000) := hlf;rw [hN] at q1 HF hlf ⊢;rw [hR] at q3 HR hlr ⊢;have HN : Hid (fs.length = N) := hN;have HNR : Hid (ns.length = R) := hR;have HS : Hid (SetS w bn nn L) := hS;have HT : Hid (SetT w bY ny T) := hT;have HTT : Hid (∀ k s,memT (k,s) T = typeB mn en k s) := hTt;obtain ⟨w1',hwf,hwr⟩ := hw;have HWF : Hid (∀ f ∈ fs,FlW f) := hwf;have HWR : Hid (∀ f ∈ ns,I64 f) := hwr;simp only at w1';clear hf hr e1 e2 hN hR hS hT hTt hwf hwr;obtain ⟨B,hB⟩ : ∃ A,(if freshB nm L = false then 6 else chkMb mn en ⟨nm,fs,ns⟩) = A := ⟨_,rfl⟩;rw [hB];have HA : Hid (B = if freshB nm L = false then 6 else chkMb mn en ⟨nm,fs,ns⟩) := hB.symm;clear hB;have hba : Below w.heap.size w (w.alloc (.cells #[.string nm,.slice a N c,.slice ar R cr] 50)) := bra _;have BX := Blk.new w #[.string nm,.slice a N c,.slice ar R cr] 50;have hbw : bn < w.heap.size := SetK.lt HS.out;have hmm := @run_makeMap Tryz.prog
 go_enter Tryz.func53,Tryz.ntmps53
 go_wp2_with fail;refine (newname_any (SetK.below HS.out hba) w1' (by omega)).mono ?_;rintro e w1 ⟨rfl,hs1,hk1⟩;have HS1 : Hid _ := hs1;clear hs1;have hkp1 : Kp (fun k => k = bn) w w1 := (Kp.ofBelow hba).trans hk1
 cases h1 : freshB nm L
 ·have H1 : Hid (freshB nm L = false) := h1;clear h1;go_wp2_with fail;go_ret;exact ⟨ret_int (by rw [HA.out,if_pos H1.out]),(fun e => by rw [H1.out] at e; cases e),hkp1⟩
 ·have H1 : Hid (freshB nm L = true) := h1;clear h1
  have HX : Hid (chkMb mn en ⟨nm,fs,ns⟩ = B) := by show _ = _; rw [HA.out,if_neg (by rw [H1.out]; decide)]
  clear HA;have BX1 := BX.kp hk1 (by omega);have b1 : w1.cell? ⟨w.heap.size,1,none⟩ = some (.slice a N c) := BX1.cell 1;have b2 : w1.cell? ⟨w.heap.size,2,none⟩ = some (.slice ar R cr) := BX1.cell 2
  by_cases hbig : 16 < N
  ·have HE : Hid (4 = B) := by show _ = _; rw [← HX.out]; unfold chkMb; rw [if_pos (by unfold bigM; simp only; rw [HN.out,decide_eq_true (.inl hbig)])]
   go_wp2_with fail;go_ret;exact ⟨ret_int HE.out,(fun _ => HS1.out H1.out),hkp1⟩
  ·have hd : decide (16 < N) = false := by simpa using hbig
   by_cases hbigr : 32 < R
   ·have HE : Hid (4 = B) := by show _ = _; rw [← HX.out]; unfold chkMb; rw [if_pos (by unfold bigM; simp only; rw [HNR.out,decide_eq_true (.inr hbigr)])]
    go_wp2_with fail;go_ret;exact ⟨ret_int HE.out,(fun _ => HS1.out H1.out),hkp1⟩
   ·have HE : Hid (B = orE (chkRes [] ns) (chkFs mn en [] ns fs)) := by
     show _ = _; rw [← HX.out]; unfold chkMb
     rw [if_neg (by unfold bigM; simp only; rw [HNR.out,HN.out,decide_eq_false (by omega)]; decide)]
    obtain ⟨A,hA⟩ : ∃ A,chkRes [] ns = A := ⟨_,rfl⟩;have HA : Hid (A = chkRes (ns.take 0) (ns.drop 0)) := hA.symm
    have HB : Hid (B = orE A (chkFs mn en [] ns fs)) := by show _ = _; rw [HE.out,hA]
    clear hA HE
    have hdr : decide (32 < R) = false := by simpa using hbigr
    have HF1 : Hid (RowG w1 (.slice a N c) 5 (flRows fs)) := HF.out.kpM hkp1 (SetK.no HS.out);have HR1 : Hid (RowG w1 (.slice ar R cr) 1 (inRows ns)) := HR.out.kpM hkp1 (SetK.no HS.out);have HT1 : Hid (SetT w1 bY ny T) := SetK.kp HT.out hkp1 hne;have hxw : w.heap.size < w1.heap.size := BX1.lt;go_wp2_with fail;clear hmm b1 b2;have HM0 := SetK.made 3 w1;have KP0 : Below w1.heap.size w1 (w1.alloc (.map #[] 0)) := bra _
    have hbw1 : bn < w1.heap.size := by have := hkp1.size; omega
    have hbY1 : bY < w1.heap.size := SetK.lt HT1.out;obtain ⟨bt,hbt⟩ : ∃ n,w1.heap.size = n := ⟨_,rfl⟩;rw [hbt] at HM0 KP0 hbw1 hbY1 ⊢;have HBT : Hid (w1.heap.size = bt) := hbt;clear hbt
    go_loopw [29] (fun iv wr => ∃ (k : Nat),iv = .int .i64 (k : Int) ∧ k ≤ R ∧ Hid (A = chkRes (ns.take k) (ns.drop k)) ∧ Hid (SetI wr bt k (ns.take k)) ∧ Below bt w1 wr) (fun iv _ => R - (intOf iv).toNat)
    case atStart => exact ⟨0,rfl,by omega,HA,HM0,KP0⟩
    case round =>
     obtain ⟨k,rfl,hk,HAk,HSt,hbel⟩ := hrel;clear HM0 KP0
     have hbW : Below w1.heap.size w1 wr := by rw [HBT.out]; exact hbel
     have hbtw : bt < wr.heap.size := SetK.lt HSt.out
     by_cases hlt : k < R
     ·obtain ⟨n,hn⟩ : ∃ n,ns[k]? = some n := ⟨_,List.getElem?_eq_getElem (by rw [HNR.out]; exact hlt)⟩
      have hrr : (inRows ns)[k]? = some [.int .i64 n] := by simp [inRows,hn]
      obtain ⟨g,off,rfl,c1⟩ := (HR1.out.below hbW).get hrr;have hn64 := HWR.out _ (List.mem_of_getElem? hn)
      have HA2 : Hid (A = if tagB n (ns.take k) = true then chkRes (ns.take k ++ [n]) (ns.drop (k + 1)) else 7) := by
       show _ = _
       rw [HAk.out,drop_at hn]; rfl
      have HTK : Hid (ns.take (k + 1) = ns.take k ++ [n]) := take_at hn;have p0 := c1 0 _ rfl;simp only [Nat.mul_one,Nat.add_zero] at p0;clear c1 hrr hn HAk hbW;go_wp2_with fail;clear p0;refine (newtag_any HSt.out hn64 (by omega)).mono ?_;rintro e w2 ⟨rfl,hs2,hk2⟩;have HS2 : Hid _ := hs2;clear hs2;have hb2 : Below bt w1 w2 := hbel.trans (hk2.toBelow (by omega) (fun k e => by omega))
      cases h2 : tagB n (ns.take k)
      ·have HB2 : Hid (7 = B) := by show _ = _; rw [HB.out,HA2.out,if_neg (by rw [h2]; decide),orE_ne (by decide)]
       go_wp2_with fail;go_ret
       have hbW2 : Below w1.heap.size w1 w2 := by rw [HBT.out]; exact hb2
       exact ⟨ret_int HB2.out,(fun _ => SetK.below (HS1.out H1.out) hbW2),hkp1.below hbW2⟩
      ·have HA3 : Hid (A = chkRes (ns.take (k + 1)) (ns.drop (k + 1))) := by
        show _ = _
        rw [HA2.out,if_pos h2,HTK.out]
       have HS2' : Hid (SetI w2 bt (k + 1) (ns.take (k + 1))) := by
        show SetI _ _ _ _
        rw [HTK.out]; exact HS2.out h2
       clear HS2 hbel hk2 HA2 HTK;go_wp2_with fail
       go_roundw
       case rel => exact ⟨k + 1,by go_num,by omega,HA3,HS2',hb2⟩
       case measure => simp [intOf]; omega
     ·have HB2 : Hid (chkFs mn en [] ns fs = B) := by show _ = _; rw [HB.out,HAk.out,drop_end (by rw [HNR.out]; omega)]; exact (orE_zero _).symm
      have HS2 : Hid (SetI wr bt k ns) := by
       have := HSt.out;rw [List.take_of_length_le (by rw [HNR.out]; omega)] at this;exact this
      have b1 : wr.cell? ⟨w.heap.size,1,none⟩ = some (.slice a N c) := (BX1.below hbW).cell 1;go_wp2_with fail;clear b1;refine (cfields_any (HF1.out.below hbW) HL.out HS2.out (by omega) (SetK.below HT1.out hbW) (by omega) HTT.out HWF.out).mono ?_;rintro e w2 ⟨rfl,hk2⟩;rw [HB2.out];go_wp2_with fail;go_ret;have hb2 : Below w1.heap.size w1 w2 := hbW.trans (hk2.toBelow hbW.size (fun k e => by have := HBT.out; omega));exact ⟨rfl,(fun _ => SetK.below (HS1.out H1.out) hb2),hkp1.below hb2⟩
theorem cwhole_any {w : World} {am ae at' : Option Addr} {cm ce ct : Nat} (s : ScS) (hs : s.name.size ≤ 140737488351232) (h1 : s.msgs.length ≤ 30000) (h2 : s.enums.length ≤ 30000) (h3 : s.methods.length ≤ 30000) :
  Calls Tryz.prog 51 #[.agg #[.string s.name,.slice am s.msgs.length cm,.slice ae s.enums.length ce,.slice at' s.methods.length ct]] w fun e w' => e = .returned (.int .i64 (wholeA s)) ∧ Below w.heap.size w w' := by
 obtain ⟨nm,ms,es,ts⟩ := s;simp only at *
 have HE : Hid (wholeA ⟨nm,ms,es,ts⟩ = if nameB nm = false then 6 else if ms.length = 0 then 12 else if (10 < ms.length ∨ 6 < es.length ∨ 6 < ts.length) then 4 else 0) := by
  show _ = _; unfold wholeA bigS; simp only [decide_eq_true_eq]
 generalize wholeA ⟨nm,ms,es,ts⟩ = A at *;generalize ms.length = M at *;generalize es.length = E at *;generalize ts.length = T at *;have hba : Below w.heap.size w (w.alloc (.cells #[.string nm,.slice am M cm,.slice ae E ce,.slice at' T ct] 26)) := bra _;have BX := Blk.new w #[.string nm,.slice am M cm,.slice ae E ce,.slice at' T ct] 26;have key : ∀ w1,Below (w.alloc (.cells #[.string nm,.slice am M cm,.slice ae E ce,.slice at' T ct] 26)).heap.size (w.alloc (.cells #[.string nm,.slice am M cm,.slice ae E ce,.slice at' T ct] 26)) w1 → Below w.heap.size w w1 := fun w1 h => hba.trans (h.mono hba.size)
 cases hn : nameB nm
 ·rw [hn,if_pos rfl] at HE
  go_enter Tryz.func51,Tryz.ntmps51
  go_wp2_with fail;refine (name_any _ _ hs).mono ?_;rintro e w1 ⟨rfl,hb1⟩;rw [hn];go_wp2_with fail;go_ret;exact ⟨ret_int HE.out.symm,key _ hb1⟩
 ·rw [hn,if_neg (by decide)] at HE
  by_cases h0 : M = 0
  ·rw [if_pos h0] at HE;subst h0
   go_enter Tryz.func51,Tryz.ntmps51
   go_wp2_with fail;refine (name_any _ _ hs).mono ?_;rintro e w1 ⟨rfl,hb1⟩;rw [hn];have b1 : w1.cell? ⟨w.heap.size,1,none⟩ = some (.slice am 0 cm) := (BX.below hb1).cell 1;go_wp2_with fail;go_ret;exact ⟨ret_int HE.out.symm,key _ hb1⟩
  ·rw [if_neg h0] at HE
   have h0' : ((M : Int) == 0) = false := by simpa using h0
   have body : ∀ V : Int,(if (10 < M ∨ 6 < E ∨ 6 < T) then (4 : Int) else 0) = V → A = V := fun V h => HE.out.trans h
   clear HE;have HBd : Hid (∀ V : Int,(if (10 < M ∨ 6 < E ∨ 6 < T) then (4 : Int) else 0) = V → A = V) := body;clear body
   go_enter Tryz.func51,Tryz.ntmps51
   go_wp2_with fail;refine (name_any _ _ hs).mono ?_;rintro e w1 ⟨rfl,hb1⟩;rw [hn];have b1 : w1.cell? ⟨w.heap.size,1,none⟩ = some (.slice am M cm) := (BX.below hb1).cell 1;have b2 : w1.cell? ⟨w.heap.size,2,none⟩ = some (.slice ae E ce) := (BX.below hb1).cell 2;have b3 : w1.cell? ⟨w.heap.size,3,none⟩ = some (.slice at' T ct) := (BX.below hb1).cell 3;have HK : Hid (Below w.heap.size w w1) := key _ hb1;clear key hb1 BX hba
   by_cases g1 : 10 < M
   ·go_wp2_with fail;go_ret;exact ⟨ret_int (HBd.out 4 (if_pos (.inl g1))).symm,HK.out⟩
   ·by_cases g2 : 6 < E
    ·go_wp2_with fail;go_ret;exact ⟨ret_int (HBd.out 4 (if_pos (.inr (.inl g2)))).symm,HK.out⟩
    ·by_cases g3 : 6 < T
     ·go_wp2_with fail;go_ret;exact ⟨ret_int (HBd.out 4 (if_pos (.inr (.inr g3)))).symm,HK.out⟩
     ·go_wp2_with fail;go_ret;exact ⟨ret_int (HBd.out 0 (if_neg (by omega))).symm,HK.out⟩
theorem SetK.perm {k : TypeId} {w : World} {b n : Nat} {L L' : List Value} (h : SetK k w b n L) (hp : ∀ v,v ∈ L ↔ v ∈ L') : SetK k w b n L' := by
 obtain ⟨D,h1,h2⟩ := h;exact ⟨D,h1,fun v kl hv => (h2 v kl hv).trans (hp v)⟩
theorem ins_wp {ops : Array Oper} {Q : Exit → Act → World → Prop} {K : Act → World → Prop} {a : Act} {w : World} {i : Nat} {o : Oper} {m kt vt b n : Nat} {L : List (Int × ByteArray)} {p : Int × ByteArray} (hi : ops[i]? = some o) (hg : o.guard = none) (hd : o.dst = none)
  (hop : o.op = .insert 98 (.tmp m) (.tmp kt) (.tmp vt)) (hm : a.eval (.tmp m) = .map (some b)) (hk : a.eval (.tmp kt) = tyV p) (hv : a.eval (.tmp vt) = .agg #[]) (hp : I64 p.1) (hps : p.2.size ≤ 140737488351232)
  (hS : SetT w b n L) (hn : n < 1000000) (hK : ∀ w',SetT w' b (n + 1) (L ++ [p]) → w.grownBy w' (some b) → K a w') : wpOp Tryz.prog ops Q i K a w := by
 obtain ⟨D,hown,h2⟩ := hS;obtain ⟨kl,hkey⟩ := key_ty hp hps;obtain ⟨w',hrun,r1,r2⟩ := hown.update lawT Tryz.underlying98 (by unfold maxLen; omega) hkey (unitElem_mk (H := Unit))
 have hS' : SetT w' b (n + 1) (L ++ [p]) := by
  have := SetK.put lawT hown.isMap h2 hkey r1;unfold SetT;rw [List.map_append];exact this
 unfold wpOp;simp only [hi]
 have hwt : Region.wanted o (yielded ops a.tmps) = true := by unfold Region.wanted; rw [hg]
 rw [if_pos hwt];refine .inl ?_;unfold Oper.wp
 simp [execOp,hop,hm,hk,hv,hrun,Result.andThen,hd]
 rw [Oper.upon_skip,hd];exact hK w' hS' r2
def five (b1 b2 b3 b4 b5 : Bool) : List (Int × ByteArray) := (if b1 then [(1,⟨#[]⟩)] else []) ++ (if b2 then [(2,⟨#[]⟩)] else []) ++ (if b3 then [(3,⟨#[]⟩)] else []) ++ (if b4 then [(4,⟨#[]⟩)] else []) ++ (if b5 then [(5,⟨#[]⟩)] else [])
def lst5 (b1 b2 b3 b4 b5 : Bool) : Array Bool := #[true,true,true,b1,true,true,b2,true,true,b3,true,true,b4,true,true,b5,false,false]
def rd5 (b1 b2 b3 b4 b5 : Bool) : List Nat := if b1 && b2 && b3 && b4 && b5 then [16] else (if b1 then [] else [3]) ++ (if b2 then [] else [6]) ++ (if b3 then [] else [9]) ++ (if b4 then [] else [12]) ++ (if b5 then [] else [15])
def cnt5 (b1 b2 b3 b4 b5 : Bool) : Nat := (if b1 then 0 else 1) + (if b2 then 0 else 1) + (if b3 then 0 else 1) + (if b4 then 0 else 1) + (if b5 then 0 else 1)
theorem rd5_mem : ∀ (b1 b2 b3 b4 b5 : Bool),cnt5 b1 b2 b3 b4 b5 ≠ 0 → ∀ i ∈ rd5 b1 b2 b3 b4 b5,(i = 3 ∧ b1 = false) ∨ (i = 6 ∧ b2 = false) ∨ (i = 9 ∧ b3 = false) ∨ (i = 12 ∧ b4 = false) ∨ (i = 15 ∧ b5 = false) := by
 intro b1 b2 b3 b4 b5
 cases b1 <;> cases b2 <;> cases b3 <;> cases b4 <;> cases b5 <;> simp [rd5,cnt5]
theorem rd5_ne : ∀ (b1 b2 b3 b4 b5 : Bool),rd5 b1 b2 b3 b4 b5 ≠ [] := by decide
theorem mem5 {p : Int × ByteArray} {b1 b2 b3 b4 b5 : Bool} : p ∈ five b1 b2 b3 b4 b5 ↔ (b1 = true ∧ p = (1,⟨#[]⟩)) ∨ (b2 = true ∧ p = (2,⟨#[]⟩)) ∨ (b3 = true ∧ p = (3,⟨#[]⟩)) ∨ (b4 = true ∧ p = (4,⟨#[]⟩)) ∨ (b5 = true ∧ p = (5,⟨#[]⟩)) := by
 cases b1 <;> cases b2 <;> cases b3 <;> cases b4 <;> cases b5 <;> simp [five]
theorem setT_perm {w : World} {b n : Nat} {L L' : List (Int × ByteArray)} (h : SetT w b n L) (hp : ∀ v,v ∈ L ↔ v ∈ L') : SetT w b n L' := by
 refine SetK.perm h fun v => ?_
 simp only [List.mem_map]
 constructor
 ·rintro ⟨p,h1,h2⟩; exact ⟨p,(hp p).1 h1,h2⟩
 ·rintro ⟨p,h1,h2⟩; exact ⟨p,(hp p).2 h1,h2⟩
theorem rg_five {ops : Array Oper} {Q : Exit → Act → World → Prop} {a : Act} {b B : Nat} {w0 : World} {o3 o6 o9 o12 o15 : Oper} (hB : B ≤ b)
  (h3 : ops[3]? = some o3) (g3 : o3.guard = none) (d3 : o3.dst = none) (p3 : o3.op = .insert 98 (.tmp 8) (.tmp 9) (.tmp 10))
  (h6 : ops[6]? = some o6) (g6 : o6.guard = none) (d6 : o6.dst = none) (p6 : o6.op = .insert 98 (.tmp 8) (.tmp 11) (.tmp 12))
  (h9 : ops[9]? = some o9) (g9 : o9.guard = none) (d9 : o9.dst = none) (p9 : o9.op = .insert 98 (.tmp 8) (.tmp 13) (.tmp 14))
  (h12 : ops[12]? = some o12) (g12 : o12.guard = none) (d12 : o12.dst = none) (p12 : o12.op = .insert 98 (.tmp 8) (.tmp 15) (.tmp 16))
  (h15 : ops[15]? = some o15) (g15 : o15.guard = none) (d15 : o15.dst = none) (p15 : o15.op = .insert 98 (.tmp 8) (.tmp 17) (.tmp 18))
  (hm : a.eval (.tmp 8) = .map (some b)) (k1 : a.eval (.tmp 9) = tyV (1,⟨#[]⟩)) (v1 : a.eval (.tmp 10) = .agg #[]) (k2 : a.eval (.tmp 11) = tyV (2,⟨#[]⟩)) (v2 : a.eval (.tmp 12) = .agg #[]) (k3 : a.eval (.tmp 13) = tyV (3,⟨#[]⟩)) (v3 : a.eval (.tmp 14) = .agg #[])
  (k4 : a.eval (.tmp 15) = tyV (4,⟨#[]⟩)) (v4 : a.eval (.tmp 16) = .agg #[]) (k5 : a.eval (.tmp 17) = tyV (5,⟨#[]⟩)) (v5 : a.eval (.tmp 18) = .agg #[])
  (hrd : ∀ b1 b2 b3 b4 b5,Region.ready .any ops (lst5 b1 b2 b3 b4 b5) = rd5 b1 b2 b3 b4 b5)
  (fin : ∀ w n,n ≤ 5 → Below B w0 w → SetT w b n (five true true true true true) → wpAnyH Tryz.prog .any ops Q (fun _ => True) 2 (lst5 true true true true true) a w) :
  ∀ (n m : Nat) (b1 b2 b3 b4 b5 : Bool),cnt5 b1 b2 b3 b4 b5 = n → m + n ≤ 5 → ∀ w,B ≤ w.heap.size → Below B w0 w → SetT w b m (five b1 b2 b3 b4 b5) → wpAnyH Tryz.prog .any ops Q (fun _ => True) (n + 2) (lst5 b1 b2 b3 b4 b5) a w
 | 0,m,b1,b2,b3,b4,b5,hc,hmn,w,hw,hbel,hS => by
  have : b1 = true ∧ b2 = true ∧ b3 = true ∧ b4 = true ∧ b5 = true := by
   revert hc; cases b1 <;> cases b2 <;> cases b3 <;> cases b4 <;> cases b5 <;> simp [cnt5]
  obtain ⟨rfl,rfl,rfl,rfl,rfl⟩ := this;exact fin w m (by omega) hbel hS
 | n + 1,m,b1,b2,b3,b4,b5,hc,hmn,w,hw,hbel,hS => by
  have ih := rg_five hB h3 g3 d3 p3 h6 g6 d6 p6 h9 g9 d9 p9 h12 g12 d12 p12 h15 g15 d15 p15 hm k1 v1 k2 v2 k3 v3 k4 v4 k5 v5 hrd fin n (m + 1);refine ⟨fun h => absurd ((hrd b1 b2 b3 b4 b5).symm.trans h) (rd5_ne b1 b2 b3 b4 b5),fun i hi => ?_⟩;rw [hrd] at hi;have hgb : ∀ w',w.grownBy w' (some b) → Below B w0 w' := fun w' hg => hbel.grown hg hw (fun j hj => by cases hj; exact hB)
  have hgs : ∀ w',w.grownBy w' (some b) → B ≤ w'.heap.size := fun w' hg => Nat.le_trans hw hg.size
  rcases rd5_mem b1 b2 b3 b4 b5 (by omega) i hi with ⟨rfl,rfl⟩ | ⟨rfl,rfl⟩ | ⟨rfl,rfl⟩ | ⟨rfl,rfl⟩ | ⟨rfl,rfl⟩
  ·refine ins_wp (p := (1,⟨#[]⟩)) h3 g3 d3 p3 hm k1 v1 ⟨by decide,by decide⟩ (by decide) hS (by omega) (fun w' hS' hg => ⟨trivial,?_⟩);exact ih true b2 b3 b4 b5 (by revert hc; unfold cnt5; simp only [if_true,if_false,Bool.false_eq_true]; omega) (by omega) w' (hgs w' hg) (hgb w' hg) (setT_perm hS' (fun v => by rw [List.mem_append,mem5,mem5]; simp [or_comm,or_left_comm,or_assoc]))
  ·refine ins_wp (p := (2,⟨#[]⟩)) h6 g6 d6 p6 hm k2 v2 ⟨by decide,by decide⟩ (by decide) hS (by omega) (fun w' hS' hg => ⟨trivial,?_⟩);exact ih b1 true b3 b4 b5 (by revert hc; unfold cnt5; simp only [if_true,if_false,Bool.false_eq_true]; omega) (by omega) w' (hgs w' hg) (hgb w' hg) (setT_perm hS' (fun v => by rw [List.mem_append,mem5,mem5]; simp [or_comm,or_left_comm,or_assoc]))
  ·refine ins_wp (p := (3,⟨#[]⟩)) h9 g9 d9 p9 hm k3 v3 ⟨by decide,by decide⟩ (by decide) hS (by omega) (fun w' hS' hg => ⟨trivial,?_⟩);exact ih b1 b2 true b4 b5 (by revert hc; unfold cnt5; simp only [if_true,if_false,Bool.false_eq_true]; omega) (by omega) w' (hgs w' hg) (hgb w' hg) (setT_perm hS' (fun v => by rw [List.mem_append,mem5,mem5]; simp [or_comm,or_left_comm,or_assoc]))
  ·refine ins_wp (p := (4,⟨#[]⟩)) h12 g12 d12 p12 hm k4 v4 ⟨by decide,by decide⟩ (by decide) hS (by omega) (fun w' hS' hg => ⟨trivial,?_⟩);exact ih b1 b2 b3 true b5 (by revert hc; unfold cnt5; simp only [if_true,if_false,Bool.false_eq_true]; omega) (by omega) w' (hgs w' hg) (hgb w' hg) (setT_perm hS' (fun v => by rw [List.mem_append,mem5,mem5]; simp [or_comm,or_left_comm,or_assoc]))
  ·refine ins_wp (p := (5,⟨#[]⟩)) h15 g15 d15 p15 hm k5 v5 ⟨by decide,by decide⟩ (by decide) hS (by omega) (fun w' hS' hg => ⟨trivial,?_⟩);exact ih b1 b2 b3 b4 true (by revert hc; unfold cnt5; simp only [if_true,if_false,Bool.false_eq_true]; omega) (by omega) w' (hgs w' hg) (hgb w' hg) (setT_perm hS' (fun v => by rw [List.mem_append,mem5,mem5]; simp [or_comm,or_left_comm,or_assoc]))
end
end Go.Proofs.YtiajaocckkghgaaGreat

/- Part 11 of what the proof stands on. -/
import Derived.Test.YtmgbhicogmclgaaGreatPkWAJ
namespace Go.Proofs.YtmgbhicogmclgaaGreat
set_option maxHeartbeats 8000000
set_option linter.unusedVariables false
set_option linter.unusedSimpArgs false
set_option maxRecDepth 20000
open Go.ChangeShapes Go.WideShapes Go.ChangeAt Go.RowKit
theorem dblk2r (w : World) (c1 c2 : Array Value) (t1 t2 : TypeId) : Blk ((w.alloc (Obj.cells c1 t1)).alloc (Obj.cells c2 t2)) w.heap.size c1 t1 ∧ Blk ((w.alloc (Obj.cells c1 t1)).alloc (Obj.cells c2 t2)) (w.heap.size + 1) c2 t2 ∧ Below w.heap.size w ((w.alloc (Obj.cells c1 t1)).alloc (Obj.cells c2 t2)) := by
 have al : ∀ (W : World) (x : Obj),Below W.heap.size W (W.alloc x) := fun W x => bra _
 have b2 := Blk.new (w.alloc (Obj.cells c1 t1)) c2 t2;rw [World.size_alloc] at b2;exact ⟨(Blk.new w c1 t1).below (al _ _),b2,((Below.refl _ w).alloc (Nat.le_refl _) _).alloc (by simp) _⟩
theorem r12put_any {n B bt : Nat} {K : List KE} {ve vr : Value} {rest : List Fd} {w : World} {r : List Value} {x : Tr} {bs : List Nat} (h : RdS n B bt K ve vr rest w) (hR : RisE K) (fn : ByteArray) (ft fl fk : Int) (ftn : ByteArray) (h64 : Is64 ft) (hx : TrO n B w r x bs) (hap : Apt B w (((fpK K ++ blkOf ve) ++ blkOf vr) ++ bs)) (hB : B ≤ w.heap.size) (hl : ∀ k ∈ K,k.2.2.1.length ≤ 64) (hN : K.length ≤ 1000) :
  Calls Tryz.prog 63 #[.pointer (some ⟨bt,0,none⟩),.agg #[.string fn,.int .i64 ft,.int .i64 fl,.int .i64 fk,.string ftn],.agg r.toArray] w (RputP n B bt vr rest (setR ⟨fn,ft,fl,fk,ftn⟩ x (esK K)) (!(decide (fl = 3) && decide ((undE (esK K) ft).length = 64))) w) := by
 obtain ⟨a1,c1,a2,c2,hr⟩ := hx.lens;generalize x.es.length = n1 at hr;generalize x.rest.length = n2 at hr;obtain ⟨R,hRR⟩ : ∃ R,setR ⟨fn,ft,fl,fk,ftn⟩ x (esK K) = R := ⟨_,rfl⟩;have HR : Hid (setE ft (if fl = 3 then undE (esK K) ft ++ [x] else [x]) (esK K) = R) := hRR;obtain ⟨b,hb⟩ : ∃ z,(!(decide (fl = 3) && decide ((undE (esK K) ft).length = 64))) = z := ⟨_,rfl⟩;have HB : Hid ((!(decide (fl = 3) && decide ((undE (esK K) ft).length = 64))) = b) := hb;rw [hRR,hb];obtain ⟨ea,ec,hve,hnc,hcm,hrow⟩ := h.form;obtain ⟨N,hNN⟩ : ∃ N,K.length = N := ⟨_,rfl⟩;rw [hNN] at hve hnc hN;subst hve;obtain ⟨BF,BX,hbw⟩ := dblk2r w #[.string fn,.int .i64 ft,.int .i64 fl,.int .i64 fk,.string ftn] #[.int .i64 x.kind,.int .i64 x.n,.string x.s,.slice a1 n1 c1,.slice a2 n2 c2] 56 30;have HNK : Hid (K.length = N) := hNN;have HX : Hid (r = [.int .i64 x.kind,.int .i64 x.n,.string x.s,.slice a1 n1 c1,.slice a2 n2 c2]) := hr;have HH : Hid (RdS n B bt K (.slice ea N ec) vr rest w ∧ RisE K ∧ Is64 ft ∧ TrO n B w r x bs ∧ Apt B w (((fpK K ++ blkOf (.slice ea N ec)) ++ blkOf vr) ++ bs) ∧ B ≤ w.heap.size ∧ (∀ k ∈ K,k.2.2.1.length ≤ 64)) := ⟨h,hR,h64,hx,hap,hB,hl⟩;rw [hr];unfold maxLen at hcm;clear hRR hb h hR h64 hx hap hB hl hrow hNN hr
 go_enter Tryz.func63,Tryz.ntmps63
 go_wp2_with fail;obtain ⟨b0,hb0⟩ : ∃ z,w.heap.size = z := ⟨_,rfl⟩;have HBZ : Hid (w.heap.size = b0) := hb0;generalize ((w.alloc (Obj.cells #[.string fn,.int .i64 ft,.int .i64 fl,.int .i64 fk,.string ftn] 56)).alloc (Obj.cells #[.int .i64 x.kind,.int .i64 x.n,.string x.s,.slice a1 n1 c1,.slice a2 n2 c2] 30)) = WA at *;rw [hb0] at BF BX
 try simp only [hb0]
 clear hb0;have HBW : Hid (Below w.heap.size w WA) := hbw;have HBX : Hid (Blk WA b0 #[.string fn,.int .i64 ft,.int .i64 fl,.int .i64 fk,.string ftn] 56 ∧ Blk WA (b0 + 1) #[.int .i64 x.kind,.int .i64 x.n,.string x.s,.slice a1 n1 c1,.slice a2 n2 c2] 30) := ⟨BF,BX⟩
 have HWA : Hid (RdS n B bt K (.slice ea N ec) vr rest WA ∧ TrO n B WA r x bs ∧ Apt B WA (((fpK K ++ blkOf (.slice ea N ec)) ++ blkOf vr) ++ bs) ∧ B ≤ WA.heap.size) := (by
  obtain ⟨h,hR,h64,hx,hap,hB,hl⟩ := HH.out
  exact ⟨h.below hbw,hx.sm (Sm.below hbw fun k hk => (hap.2 k (List.mem_append.2 (.inr hk))).2),hap.mono hbw.size,Nat.le_trans hB hbw.size⟩ : _ ∧ _)
 have HNB : Hid (∀ q ∈ (fpK K ++ blkOf (.slice ea N ec)) ++ blkOf vr,q ≠ b0 ∧ q ≠ b0 + 1) := fun q hq => by
  have h1 := (HH.out.2.2.2.2.1.2 q (List.mem_append.2 (.inl hq))).2;have := HBZ.out
  omega
 clear BF BX hbw
 go_loopw [7] (fun iv wr => ∃ i : Nat,iv = .int .i64 (i : Int) ∧ i ≤ N ∧ Hid (∀ k ∈ K.take i,k.1 ≠ ft) ∧ Below WA.heap.size WA wr) (fun iv _ => N - (intOf iv).toNat)
 case atStart => exact ⟨0,rfl,by omega,(by simp : ∀ k ∈ K.take 0,k.1 ≠ ft),Below.refl _ _⟩
 case round =>
  obtain ⟨i,rfl,hi,HNE,hbr⟩ := hrel;have BF := HBX.out.1.below hbr;have hRW := HWA.out.1.below hbr;have f1 := (BF.cell 1).trans rfl;have f2 := (BF.cell 2).trans rfl;have t3 := (hRW.tb.cell 3).trans rfl;clear BF
  by_cases hlt : i < N
  ·obtain ⟨k,hk⟩ : ∃ k,K[i]? = some k := ⟨_,List.getElem?_eq_getElem (by rw [HNK.out]; exact hlt)⟩;obtain ⟨ea',ec',he, -, -,hrow⟩ := hRW.form;simp only [Value.slice.injEq] at he;obtain ⟨rfl, -, -⟩ := he;obtain ⟨ge,rfl,hg1,hg2,hgf,hgc⟩ := hrow (by intro e; rw [e] at hk; simp at hk);obtain ⟨p1,p2⟩ := hgc i k hk;obtain ⟨rows,bss,q1,q2⟩ := hRW.row k (List.mem_of_getElem? hk);obtain ⟨ka,kc,hkv⟩ := own_form q1.own;obtain ⟨kt,kv,kts,kb⟩ := k;simp only at hkv p1 p2 q1 q2;have HK : Hid (K[i]? = some (kt,kv,kts,kb)) := hk;have hl64 : kts.length ≤ 64 := HH.out.2.2.2.2.2.2 _ (List.mem_of_getElem? hk);obtain ⟨kn,hkn⟩ : ∃ z,kts.length = z := ⟨_,rfl⟩;have HKN : Hid (kts.length = kn) := hkn;rw [hkn] at hkv hl64;subst hkv
   have HKB : Hid (∀ q ∈ blkOf (.slice ka kn kc),B ≤ q ∧ q < WA.heap.size ∧ q ≠ ge ∧ q ∈ fpK K) := fun q hq => (by
    have hm : q ∈ fpK K := fpK_mem (List.mem_of_getElem? hk) q (by simp only; rw [q2]; exact List.mem_append.2 (.inl hq));have h1 := (HWA.out.1.ap.2 q (by simp [hm]));refine ⟨h1.1,h1.2,fun e => ?_,hm⟩;subst e
    exact HWA.out.1.ap.left.apart q hm (by simp [blkOf,Value.ownBlock]) : _)
   have HGE : Hid (B ≤ ge ∧ ge < wr.heap.size ∧ ∀ o,wr.frozen? ⟨ge,o,none⟩ = false) := ⟨hg1,hg2,hgf⟩;have HRW : Hid (RdS n B bt K (.slice (some ⟨ge,0,none⟩) N ec) vr rest wr) := hRW;clear hk hkn hrow hgc q1 q2 hRW hg1 hg2 hgf
   by_cases hkt : ft = kt
   rotate_left
   ·have d : (kt != ft) = true := by simpa using fun e => hkt e.symm
    have HNE2 : Hid (∀ k ∈ K.take (i + 1),k.1 ≠ ft) := hid (by
     intro y hy;obtain ⟨hi',hge⟩ := List.getElem?_eq_some_iff.1 HK.out;rw [List.take_succ_eq_append_getElem hi',hge] at hy
     rcases List.mem_append.1 hy with hy | hy
     ·exact HNE.out y hy
     ·obtain rfl := List.mem_singleton.1 hy
      exact fun e => hkt e.symm)
    clear hkt f2 HRW HGE HKB p2;go_wp2_with fail
    go_quiet (fail)
    have hbn := below_drewN nq hbr;clear p1 t3 f1;go_wp2_with fail
    go_roundw
    case rel => exact ⟨i + 1,by go_num,by omega,HNE2,hbn⟩
    case measure => simp [intOf]; omega
   subst hkt;clear HNE
   by_cases h3 : fl = 3
   rotate_left
   ·have d3 : (fl != 3) = true := by simpa using h3
    have HBT : Hid (b = true) := hid (by rw [← HB.out]; simp [h3]);have HR1 : Hid (setE ft [x] (esK K) = R) := hid (by have := HR.out; rwa [if_neg h3] at this);clear h3 HB HR;go_wp2_with fail
    go_quiet (fail)
    have hbn := below_drewN nq hbr;have hbq : Below wr.heap.size wr (wr.drewN nq) := below_drewN nq (Below.refl _ _);clear p1 t3 f1
    go_upto_region 6 with fail
    clear f2;generalize hwq : wr.drewN nq = wq at *;have HRQ : Hid (RdS n B bt K (.slice (some ⟨ge,0,none⟩) N ec) vr rest wq.drew) := ((HRW.out.below hbq).below (Below.refl _ _).drew : RdS _ _ _ _ _ _ _ _);have HBQ : Hid (Below WA.heap.size WA wq.drew) := hbn.drew
    have HFI : Hid (RputP n B bt vr rest R b w (.returned (.bool true)) ((wq.drew.alloc (Obj.cells #[.int .i64 x.kind,.int .i64 x.n,.string x.s,.slice a1 n1 c1,.slice a2 n2 c2] 30)).setCell ⟨ge,i * 2 + 1,none⟩ (.slice (some ⟨wq.heap.size,0,none⟩) 1 1))) := (by
     obtain ⟨-,hx,hap,hB⟩ := HWA.out;have h1 := rput_set (w := wq.drew) HRQ.out HH.out.2.1 (Nat.le_trans hB HBQ.out.size) (hx.sm (Sm.below HBQ.out fun k hk => (hap.2 k (List.mem_append.2 (.inr hk))).2)) (hap.mono HBQ.out.size) HK.out;rw [HX.out,HR1.out] at h1;rw [HBT.out]
     exact h1.elder (HBW.out.trans (HBQ.out.mono HBW.out.size)) : RputP _ _ _ _ _ _ _ _ _ _)
    have HCE : Hid (∀ W,Below wq.heap.size wq W → W.cell? ⟨bt,3,none⟩ = some (.slice (some ⟨ge,0,none⟩) N ec) ∧ W.cell? ⟨b0 + 1,0,none⟩ = some (.int .i64 x.kind) ∧ W.cell? ⟨b0 + 1,1,none⟩ = some (.int .i64 x.n) ∧ W.cell? ⟨b0 + 1,2,none⟩ = some (.string x.s) ∧ W.cell? ⟨b0 + 1,3,none⟩ = some (.slice a1 n1 c1) ∧ W.cell? ⟨b0 + 1,4,none⟩ = some (.slice a2 n2 c2)) := fun W hW => by
     have h1 := (HRW.out.below hbq).below hW;have hb := HBX.out.2.below (hbn.trans (hW.mono hbn.size));exact ⟨(h1.tb.cell 3).trans rfl,(hb.cell 0).trans rfl,(hb.cell 1).trans rfl,(hb.cell 2).trans rfl,(hb.cell 3).trans rfl,(hb.cell 4).trans rfl⟩
    have hgl : ge < wq.heap.size := Nat.lt_of_lt_of_le HGE.out.2.1 hbq.size;have hz : wq.frozen? ⟨ge,i * 2 + 1,none⟩ = false := (World.frozen?_of_block (a := ⟨ge,i * 2 + 1,none⟩) (hbq.block ge HGE.out.2.1)).trans (HGE.out.2.2 _);have hgc : wq.cell? ⟨ge,i * 2 + 1,none⟩ = some (.slice ka kn kc) := (World.cell?_of_block (a := ⟨ge,i * 2 + 1,none⟩) (hbq.block ge HGE.out.2.1)).trans p2;clear p2;clear HRQ HBQ HRW hbn hbq hwq hbr;refine M_region (T := fun W => Below wq.heap.size wq W) (m := 9) (by kernel_rfl) ?_;have hS : Below wq.heap.size wq wq.drew := (Below.refl _ _).drew;refine M_tk 0 32 (.pointer (some ⟨bt,0,none⟩)) (fun w' hw' => ?_) hS (bts 10 1) ?_
    ·go_simp
    refine M_tk 1 33 (.pointer (some ⟨bt,0,none⟩)) (fun w' hw' => ?_) hS (bts 10 3) ?_
    ·go_simp
    refine M_tk 2 34 (.pointer (some ⟨bt,3,none⟩)) (fun w' hw' => ?_) hS (bts 10 7) ?_
    ·go_simp
    refine M_tk 3 35 (.slice (some ⟨ge,0,none⟩) N ec) (fun w' hw' => ?_) hS (bts 10 15) ?_
    ·obtain ⟨g0,g1,g2,g3,g4,g5⟩ := HCE.out _ hw'; go_simp
    refine M_tk 4 36 (.int .i64 (i : Int)) (fun w' hw' => ?_) hS (bts 10 31) ?_
    ·go_simp
    refine M_tk 5 37 (.agg #[.int .i64 x.kind,.int .i64 x.n,.string x.s,.slice a1 n1 c1,.slice a2 n2 c2]) (fun w' hw' => ?_) hS (bts 10 63) ?_
    ·obtain ⟨g0,g1,g2,g3,g4,g5⟩ := HCE.out _ hw'; go_simp
    refine M_rn 6 38 (.slice (some ⟨wq.heap.size,0,none⟩) 1 1) (wq.drew.alloc (Obj.cells #[.int .i64 x.kind,.int .i64 x.n,.string x.s,.slice a1 n1 c1,.slice a2 n2 c2] 30)) (bts 10 127) rfl (by go_simp) (hS.alloc (Nat.le_refl _) _) ?_;simp only [zsA,zsZ,zsS];have hS2 : Below wq.heap.size wq (wq.drew.alloc (Obj.cells #[.int .i64 x.kind,.int .i64 x.n,.string x.s,.slice a1 n1 c1,.slice a2 n2 c2] 30)) := hS.alloc (Nat.le_refl _) _;refine M_rn 7 39 (.pointer (some ⟨ge,i * 2,none⟩)) (wq.drew.alloc (Obj.cells #[.int .i64 x.kind,.int .i64 x.n,.string x.s,.slice a1 n1 c1,.slice a2 n2 c2] 30)) (bts 10 255) rfl (by go_simp) hS2 ?_;simp only [zsA,zsZ,zsS];refine M_rn 8 40 (.pointer (some ⟨ge,i * 2 + 1,none⟩)) (wq.drew.alloc (Obj.cells #[.int .i64 x.kind,.int .i64 x.n,.string x.s,.slice a1 n1 c1,.slice a2 n2 c2] 30)) (bts 10 511) rfl (by go_simp) hS2 ?_;simp only [zsA,zsZ,zsS];refine M_st 9 ((wq.drew.alloc (Obj.cells #[.int .i64 x.kind,.int .i64 x.n,.string x.s,.slice a1 n1 c1,.slice a2 n2 c2] 30)).setCell ⟨ge,i * 2 + 1,none⟩ (.slice (some ⟨wq.heap.size,0,none⟩) 1 1)) (bts 10 1023) rfl (by go_simp) ?_;refine M_done (by kernel_rfl) ?_ _;clear hS hS2 HCE hgl hz hgc;go_wp2_with fail;go_ret;exact HFI.out
   subst h3
   have HBT : Hid (b = !(decide (kn = 64))) := hid (by
    have h1 := HB.out;have h2 := und_at HH.out.2.1 HK.out;simp only at h2;rw [h2,HKN.out] at h1
    rw [← h1]; simp)
   have HR1 : Hid (setE ft (undE (esK K) ft ++ [x]) (esK K) = R) := hid (by have := HR.out; rwa [if_pos rfl] at this);clear HB HR;go_wp2_with fail
   go_quiet (fail)
   have hbn := below_drewN nq hbr;have hbq : Below wr.heap.size wr (wr.drewN nq) := below_drewN nq (Below.refl _ _);clear p1 t3 f1
   go_upto_region 8 with fail
   clear f2;generalize hwq : wr.drewN nq = wq at *;have HRQ : Hid (RdS n B bt K (.slice (some ⟨ge,0,none⟩) N ec) vr rest wq.drew) := ((HRW.out.below hbq).below (Below.refl _ _).drew : RdS _ _ _ _ _ _ _ _);have HBQ : Hid (Below WA.heap.size WA wq.drew) := hbn.drew
   have HMO : Hid (∃ va M vc W',kn + 1 = M ∧ (Builtin.append_ #[67,67] 67 #[.slice ka kn kc,.slice (some ⟨wq.heap.size,0,none⟩) 1 1]).run Tryz.prog (wq.drew.alloc (Obj.cells #[.int .i64 x.kind,.int .i64 x.n,.string x.s,.slice a1 n1 c1,.slice a2 n2 c2] 30)) = .ok (.slice va M vc) W' ∧ Kp (fun q => q ∈ blkOf (.slice ka kn kc)) wq W' ∧
     (W'.setCell ⟨ge,i * 2 + 1,none⟩ (.slice va M vc)).cell? ⟨bt,3,none⟩ = some (.slice (some ⟨ge,0,none⟩) N ec) ∧ (W'.setCell ⟨ge,i * 2 + 1,none⟩ (.slice va M vc)).cell? ⟨ge,i * 2 + 1,none⟩ = some (.slice va M vc) ∧ ∀ b,RputP n B bt vr rest R b w (.returned (.bool b)) (W'.setCell ⟨ge,i * 2 + 1,none⟩ (.slice va M vc))) := (by
    obtain ⟨-,hx,hap,hB⟩ := HWA.out;obtain ⟨va,vc,W',r1,k1,c1',c2',h1⟩ := rput_more (w := wq.drew) HRQ.out HH.out.2.1 (Nat.le_trans hB HBQ.out.size) (hx.sm (Sm.below HBQ.out fun k hk => (hap.2 k (List.mem_append.2 (.inr hk))).2)) (hap.mono HBQ.out.size) HK.out (by simp only; rw [HKN.out]; exact hl64);simp only at r1 c1' c2' h1 k1;rw [HKN.out] at r1 c1' c2' h1;rw [HX.out] at r1;rw [HR1.out] at h1
    exact ⟨va,kn + 1,vc,W',rfl,r1,(Kp.ofBelow ((Below.refl _ _).drew : Below wq.heap.size wq wq.drew)).trans2 k1 (fun _ _ hi => hi),c1',c2',fun b => (h1 b).elder (HBW.out.trans (HBQ.out.mono HBW.out.size))⟩ : ∃ va M vc W',_)
   obtain ⟨va,M,vc,W',hM,e1,e2,e3,e4,e5⟩ := HMO.out;have HAP : Hid ((Builtin.append_ #[67,67] 67 #[.slice ka kn kc,.slice (some ⟨wq.heap.size,0,none⟩) 1 1]).run Tryz.prog (wq.drew.alloc (Obj.cells #[.int .i64 x.kind,.int .i64 x.n,.string x.s,.slice a1 n1 c1,.slice a2 n2 c2] 30)) = .ok (.slice va M vc) W') := e1;have HFI : Hid (∀ b,RputP n B bt vr rest R b w (.returned (.bool b)) (W'.setCell ⟨ge,i * 2 + 1,none⟩ (.slice va M vc))) := e5;have HKW : Hid (Kp (fun q => q ∈ blkOf (.slice ka kn kc)) wq W') := e2;have HC5 : Hid ((W'.setCell ⟨ge,i * 2 + 1,none⟩ (.slice va M vc)).cell? ⟨bt,3,none⟩ = some (.slice (some ⟨ge,0,none⟩) N ec) ∧ (W'.setCell ⟨ge,i * 2 + 1,none⟩ (.slice va M vc)).cell? ⟨ge,i * 2 + 1,none⟩ = some (.slice va M vc)) := ⟨e3,e4⟩
   have HDB : Hid (decide ((M : Int) ≤ 64) = b ∧ decide (M ≤ 64) = b) := (by
    rw [HBT.out]
    by_cases h : kn = 64
    ·have h1 : ¬ (M : Int) ≤ 64 := by omega
     have h2 : ¬ M ≤ 64 := by omega
     simp [h,h1,h2]
    ·have h1 : (M : Int) ≤ 64 := by omega
     have h2 : M ≤ 64 := by omega
     simp [h,h1,h2] : _ ∧ _)
   have HCE : Hid (∀ W,Kp (fun q => q ∈ blkOf (.slice ka kn kc)) wq W → W.cell? ⟨bt,3,none⟩ = some (.slice (some ⟨ge,0,none⟩) N ec) ∧ W.cell? ⟨ge,i * 2 + 1,none⟩ = some (.slice ka kn kc) ∧ (∀ o,W.frozen? ⟨ge,o,none⟩ = false) ∧ W.cell? ⟨b0 + 1,0,none⟩ = some (.int .i64 x.kind) ∧ W.cell? ⟨b0 + 1,1,none⟩ = some (.int .i64 x.n) ∧ W.cell? ⟨b0 + 1,2,none⟩ = some (.string x.s) ∧ W.cell? ⟨b0 + 1,3,none⟩ = some (.slice a1 n1 c1) ∧ W.cell? ⟨b0 + 1,4,none⟩ = some (.slice a2 n2 c2)) := fun W hW => by
    have h1 := HRW.out.below hbq;have hbx := HBX.out.2.below hbn
    have n1' : bt ∉ blkOf (.slice ka kn kc) := fun e => by have := (HKB.out _ e).1; have := h1.lt; omega
    have n2' : ge ∉ blkOf (.slice ka kn kc) := fun e => (HKB.out _ e).2.2.1 rfl
    have n3' : b0 + 1 ∉ blkOf (.slice ka kn kc) := fun e => (HNB.out _ (by have := (HKB.out _ e).2.2.2; simp [this])).2 rfl
    have hb := hbx.kp hW n3';have hgl : ge < wq.heap.size := Nat.lt_of_lt_of_le HGE.out.2.1 hbq.size;have h2 := (World.cell?_of_block (a := ⟨ge,i * 2 + 1,none⟩) (hbq.block ge HGE.out.2.1)).trans p2;exact ⟨((h1.tb.kp hW n1').cell 3).trans rfl,hW.cell h2 n2',fun o => (World.frozen?_of_block (a := ⟨ge,o,none⟩) ((hW.block ge hgl n2').trans (hbq.block ge HGE.out.2.1))).trans (HGE.out.2.2 o),(hb.cell 0).trans rfl,(hb.cell 1).trans rfl,(hb.cell 2).trans rfl,(hb.cell 3).trans rfl,(hb.cell 4).trans rfl⟩
   clear HRQ HBQ HRW hbn hbq hwq hbr HMO hM e1 e2 e3 e4 e5 p2 HR1 HBT HH HWA;refine M_region (T := fun W => Kp (fun q => q ∈ blkOf (.slice ka kn kc)) wq W) (m := 18) (by kernel_rfl) ?_;have hS : Kp (fun q => q ∈ blkOf (.slice ka kn kc)) wq wq.drew := Kp.ofBelow (Below.refl _ _).drew;refine M_tk 0 41 (.pointer (some ⟨bt,0,none⟩)) (fun w' hw' => ?_) hS (bts 19 1) ?_
   ·go_simp
   refine M_tk 1 42 (.pointer (some ⟨bt,0,none⟩)) (fun w' hw' => ?_) hS (bts 19 3) ?_
   ·go_simp
   refine M_tk 2 43 (.pointer (some ⟨bt,3,none⟩)) (fun w' hw' => ?_) hS (bts 19 7) ?_
   ·go_simp
   refine M_tk 3 44 (.slice (some ⟨ge,0,none⟩) N ec) (fun w' hw' => ?_) hS (bts 19 15) ?_
   ·obtain ⟨g0,gg,gf,g1,g2,g3,g4,g5⟩ := HCE.out _ hw'; clear gf; go_simp
   refine M_tk 4 45 (.int .i64 (i : Int)) (fun w' hw' => ?_) hS (bts 19 31) ?_
   ·go_simp
   refine M_tk 5 46 (.pointer (some ⟨bt,0,none⟩)) (fun w' hw' => ?_) hS (bts 19 63) ?_
   ·go_simp
   refine M_tk 6 47 (.pointer (some ⟨bt,0,none⟩)) (fun w' hw' => ?_) hS (bts 19 127) ?_
   ·go_simp
   refine M_tk 7 48 (.pointer (some ⟨bt,3,none⟩)) (fun w' hw' => ?_) hS (bts 19 255) ?_
   ·go_simp
   refine M_tk 8 49 (.slice (some ⟨ge,0,none⟩) N ec) (fun w' hw' => ?_) hS (bts 19 511) ?_
   ·obtain ⟨g0,gg,gf,g1,g2,g3,g4,g5⟩ := HCE.out _ hw'; clear gf; go_simp
   refine M_tk 9 50 (.int .i64 (i : Int)) (fun w' hw' => ?_) hS (bts 19 1023) ?_
   ·go_simp
   refine M_tk 10 51 (.pointer (some ⟨ge,i * 2,none⟩)) (fun w' hw' => ?_) hS (bts 19 2047) ?_
   ·go_simp
   refine M_tk 11 52 (.pointer (some ⟨ge,i * 2 + 1,none⟩)) (fun w' hw' => ?_) hS (bts 19 4095) ?_
   ·go_simp
   refine M_tk 12 53 (.slice ka kn kc) (fun w' hw' => ?_) hS (bts 19 8191) ?_
   ·obtain ⟨g0,gg,gf,g1,g2,g3,g4,g5⟩ := HCE.out _ hw'; clear gf; go_simp
   refine M_tk 13 54 (.agg #[.int .i64 x.kind,.int .i64 x.n,.string x.s,.slice a1 n1 c1,.slice a2 n2 c2]) (fun w' hw' => ?_) hS (bts 19 16383) ?_
   ·obtain ⟨g0,gg,gf,g1,g2,g3,g4,g5⟩ := HCE.out _ hw'; clear gf; go_simp
   refine M_rn 14 55 (.slice (some ⟨wq.heap.size,0,none⟩) 1 1) (wq.drew.alloc (Obj.cells #[.int .i64 x.kind,.int .i64 x.n,.string x.s,.slice a1 n1 c1,.slice a2 n2 c2] 30)) (bts 19 32767) rfl (by go_simp) (hS.alloc _) ?_;simp only [zsA,zsZ,zsS];refine M_rn 15 56 (.slice va M vc) (W') (bts 19 65535) rfl (append_run rfl rfl rfl HAP.out) HKW.out ?_;simp only [zsA,zsZ,zsS];refine M_rn 16 57 (.pointer (some ⟨ge,i * 2,none⟩)) (W') (bts 19 131071) rfl (by go_simp) HKW.out ?_;simp only [zsA,zsZ,zsS];refine M_rn 17 58 (.pointer (some ⟨ge,i * 2 + 1,none⟩)) (W') (bts 19 262143) rfl (by go_simp) HKW.out ?_;simp only [zsA,zsZ,zsS];obtain ⟨-,gg,gf, -⟩ := HCE.out W' HKW.out;have hz := gf (i * 2 + 1);refine M_st 18 (W'.setCell ⟨ge,i * 2 + 1,none⟩ (.slice va M vc)) (bts 19 524287) rfl (by clear gf; go_simp) ?_;refine M_done (by kernel_rfl) ?_ _;clear hS HCE gg gf hz HAP HKW;obtain ⟨g0,g1⟩ := HC5.out;generalize W'.setCell ⟨ge,i * 2 + 1,none⟩ (.slice va M vc) = W5 at *;go_wp2_with fail;go_ret
   first
   | (rw [HDB.out.1]; exact HFI.out b)
   | (rw [HDB.out.2]; exact HFI.out b)
  ·obtain rfl : i = N := by omega
   have HNE2 : Hid (∀ k ∈ K,k.1 ≠ ft) := hid (by
    have := HNE.out
    rwa [List.take_of_length_le (by rw [HNK.out]; exact Nat.le_refl _)] at this)
   have HUN : Hid (b = true) := hid (by
    have h1 : undE (esK K) ft = [] := und_none fun e he => by
     obtain ⟨k,hk,rfl⟩ := List.mem_map.1 he;exact HNE2.out k hk
    rw [← HB.out,h1]; simp)
   have HRW : Hid (RdS n B bt K (.slice ea i ec) vr rest wr) := hRW;clear hRW HNE hlt hi f2
   go_upto_region 10 with fail
   have HPU : Hid (∃ g c W' fp,(Builtin.append_ #[27,27] 27 #[.slice ea i ec,.slice (some ⟨wr.heap.size + 1,0,none⟩) 1 1]).run Tryz.prog ((wr.drew.alloc (Obj.cells #[.int .i64 x.kind,.int .i64 x.n,.string x.s,.slice a1 n1 c1,.slice a2 n2 c2] 30)).alloc (Obj.cells #[.int .i64 ft,.slice (some ⟨wr.heap.size,0,none⟩) 1 1] 69)) = .ok (.slice (some ⟨g,0,none⟩) (i + 1) c) W' ∧ Kp (fun q => q ∈ blkOf (.slice ea i ec)) wr W' ∧
     RdS n B bt (K ++ [(ft,(.slice (some ⟨wr.heap.size,0,none⟩) 1 1,[x],fp))]) (.slice (some ⟨g,0,none⟩) (i + 1) c) vr rest (W'.setCell ⟨bt,3,none⟩ (.slice (some ⟨g,0,none⟩) (i + 1) c)) ∧ Kp (fun q => B ≤ q ∨ q = bt) w (W'.setCell ⟨bt,3,none⟩ (.slice (some ⟨g,0,none⟩) (i + 1) c))) := (by
    obtain ⟨-,hx,hap,hB⟩ := HWA.out;have hbd : Below WA.heap.size WA wr.drew := hbr.drew;obtain ⟨g,c,W',fp,r1,k1,h1,k2⟩ := rput_push (w := wr.drew) (HRW.out.below ((Below.refl _ _).drew)) (Nat.le_trans hB hbd.size) (hx.sm (Sm.below hbd fun k hk => (hap.2 k (List.mem_append.2 (.inr hk))).2)) (hap.mono hbd.size) HH.out.2.2.1 (by rw [HNK.out]; exact hN);rw [HNK.out] at r1 h1 k2;rw [HX.out] at r1
    exact ⟨g,c,W',fp,r1,(Kp.ofBelow ((Below.refl _ _).drew : Below wr.heap.size wr wr.drew)).trans2 k1 (fun _ _ hi => hi),h1,(Kp.ofBelow (HBW.out.trans (hbd.mono HBW.out.size))).trans2 k2 (fun _ _ hi => hi)⟩ : ∃ g c W' fp,_)
   obtain ⟨g,c,W',fp,e1,e2,e3,e4⟩ := HPU.out;have HAP : Hid ((Builtin.append_ #[27,27] 27 #[.slice ea i ec,.slice (some ⟨wr.heap.size + 1,0,none⟩) 1 1]).run Tryz.prog ((wr.drew.alloc (Obj.cells #[.int .i64 x.kind,.int .i64 x.n,.string x.s,.slice a1 n1 c1,.slice a2 n2 c2] 30)).alloc (Obj.cells #[.int .i64 ft,.slice (some ⟨wr.heap.size,0,none⟩) 1 1] 69)) = .ok (.slice (some ⟨g,0,none⟩) (i + 1) c) W') := e1;have HKW : Hid (Kp (fun q => q ∈ blkOf (.slice ea i ec)) wr W') := e2;have HS5 : Hid (RdS n B bt (K ++ [(ft,(.slice (some ⟨wr.heap.size,0,none⟩) 1 1,[x],fp))]) (.slice (some ⟨g,0,none⟩) (i + 1) c) vr rest (W'.setCell ⟨bt,3,none⟩ (.slice (some ⟨g,0,none⟩) (i + 1) c)) ∧ Kp (fun q => B ≤ q ∨ q = bt) w (W'.setCell ⟨bt,3,none⟩ (.slice (some ⟨g,0,none⟩) (i + 1) c))) := ⟨e3,e4⟩
   have HCE : Hid (∀ W,Kp (fun q => q ∈ blkOf (.slice ea i ec)) wr W → W.cell? ⟨bt,3,none⟩ = some (.slice ea i ec) ∧ W.frozen? ⟨bt,3,none⟩ = false ∧ W.cell? ⟨b0,1,none⟩ = some (.int .i64 ft) ∧ W.cell? ⟨b0 + 1,0,none⟩ = some (.int .i64 x.kind) ∧ W.cell? ⟨b0 + 1,1,none⟩ = some (.int .i64 x.n) ∧ W.cell? ⟨b0 + 1,2,none⟩ = some (.string x.s) ∧ W.cell? ⟨b0 + 1,3,none⟩ = some (.slice a1 n1 c1) ∧ W.cell? ⟨b0 + 1,4,none⟩ = some (.slice a2 n2 c2)) := fun W hW => by
    have hh := HRW.out;have n1' : bt ∉ blkOf (.slice ea i ec) := fun e => hh.ne bt (by simp [e]) rfl
    have n2' : b0 ∉ blkOf (.slice ea i ec) := fun e => (HNB.out b0 (by simp [e])).1 rfl
    have n3' : b0 + 1 ∉ blkOf (.slice ea i ec) := fun e => (HNB.out (b0 + 1) (by simp [e])).2 rfl
    have hf := (HBX.out.1.below hbr).kp hW n2';have hb := (HBX.out.2.below hbr).kp hW n3';have ht := hh.tb.kp hW n1';exact ⟨(ht.cell 3).trans rfl,ht.froz 3,(hf.cell 1).trans rfl,(hb.cell 0).trans rfl,(hb.cell 1).trans rfl,(hb.cell 2).trans rfl,(hb.cell 3).trans rfl,(hb.cell 4).trans rfl⟩
   clear HRW HPU e1 e2 e3 e4 f1 t3 hbr HWA;refine M_region (T := fun W => Kp (fun q => q ∈ blkOf (.slice ea i ec)) wr W) (m := 14) (by kernel_rfl) ?_;have hS : Kp (fun q => q ∈ blkOf (.slice ea i ec)) wr wr.drew := Kp.ofBelow (Below.refl _ _).drew;refine M_tk 0 69 (.pointer (some ⟨bt,0,none⟩)) (fun w' hw' => ?_) hS (bts 15 1) ?_
   ·go_simp
   refine M_tk 1 70 (.pointer (some ⟨bt,0,none⟩)) (fun w' hw' => ?_) hS (bts 15 3) ?_
   ·go_simp
   refine M_tk 2 71 (.pointer (some ⟨bt,0,none⟩)) (fun w' hw' => ?_) hS (bts 15 7) ?_
   ·go_simp
   refine M_tk 3 72 (.pointer (some ⟨bt,3,none⟩)) (fun w' hw' => ?_) hS (bts 15 15) ?_
   ·go_simp
   refine M_tk 4 73 (.slice ea i ec) (fun w' hw' => ?_) hS (bts 15 31) ?_
   ·obtain ⟨g0,gf,gt,g1,g2,g3,g4,g5⟩ := HCE.out _ hw'; clear gf; go_simp
   refine M_tk 5 74 (.pointer (some ⟨b0,1,none⟩)) (fun w' hw' => ?_) hS (bts 15 63) ?_
   ·go_simp
   refine M_tk 6 75 (.int .i64 ft) (fun w' hw' => ?_) hS (bts 15 127) ?_
   ·obtain ⟨g0,gf,gt,g1,g2,g3,g4,g5⟩ := HCE.out _ hw'; clear gf; go_simp
   refine M_tk 7 76 (.agg #[.int .i64 x.kind,.int .i64 x.n,.string x.s,.slice a1 n1 c1,.slice a2 n2 c2]) (fun w' hw' => ?_) hS (bts 15 255) ?_
   ·obtain ⟨g0,gf,gt,g1,g2,g3,g4,g5⟩ := HCE.out _ hw'; clear gf; go_simp
   refine M_rn 8 77 (.slice (some ⟨wr.heap.size,0,none⟩) 1 1) (wr.drew.alloc (Obj.cells #[.int .i64 x.kind,.int .i64 x.n,.string x.s,.slice a1 n1 c1,.slice a2 n2 c2] 30)) (bts 15 511) rfl (by go_simp) (hS.alloc _) ?_;simp only [zsA,zsZ,zsS];refine M_rn 9 78 (.agg #[.int .i64 ft,.slice (some ⟨wr.heap.size,0,none⟩) 1 1]) (wr.drew.alloc (Obj.cells #[.int .i64 x.kind,.int .i64 x.n,.string x.s,.slice a1 n1 c1,.slice a2 n2 c2] 30)) (bts 15 1023) rfl (by go_simp) (hS.alloc _) ?_;simp only [zsA,zsZ,zsS];refine M_rn 10 79 (.slice (some ⟨wr.heap.size + 1,0,none⟩) 1 1) ((wr.drew.alloc (Obj.cells #[.int .i64 x.kind,.int .i64 x.n,.string x.s,.slice a1 n1 c1,.slice a2 n2 c2] 30)).alloc (Obj.cells #[.int .i64 ft,.slice (some ⟨wr.heap.size,0,none⟩) 1 1] 69)) (bts 15 2047) rfl (by go_simp) ((hS.alloc _).alloc _) ?_;simp only [zsA,zsZ,zsS];refine M_rn 11 80 (.slice (some ⟨g,0,none⟩) (i + 1) c) (W') (bts 15 4095) rfl (append_run rfl rfl rfl HAP.out) HKW.out ?_;simp only [zsA,zsZ,zsS];refine M_rn 12 81 (.pointer (some ⟨bt,0,none⟩)) (W') (bts 15 8191) rfl (by go_simp) HKW.out ?_;simp only [zsA,zsZ,zsS];refine M_rn 13 82 (.pointer (some ⟨bt,3,none⟩)) (W') (bts 15 16383) rfl (by go_simp) HKW.out ?_;simp only [zsA,zsZ,zsS];obtain ⟨gg,hz, -⟩ := HCE.out W' HKW.out;refine M_st 14 (W'.setCell ⟨bt,3,none⟩ (.slice (some ⟨g,0,none⟩) (i + 1) c)) (bts 15 32767) rfl (by go_simp) ?_;refine M_done (by kernel_rfl) ?_ _;clear hS HCE gg hz HAP HKW;generalize W'.setCell ⟨bt,3,none⟩ (.slice (some ⟨g,0,none⟩) (i + 1) c) = W5 at *;have g0 := (HS5.out.1.tb.cell 3).trans rfl;generalize wr.heap.size = bv at *;go_wp2_with fail;clear g0
   go_loopw [8] (fun kv wi => ∃ (P Q : List KE) (k : Nat),kv = .int .i64 (k : Int) ∧ k ≤ i ∧ Hid (P.length = k) ∧ Hid (K = P ++ Q) ∧ Hid (∀ q ∈ Q,ft < q.1) ∧ Hid (RdS n B bt (P ++ (ft,(.slice (some ⟨bv,0,none⟩) 1 1,[x],fp)) :: Q) (.slice (some ⟨g,0,none⟩) (i + 1) c) vr rest wi) ∧ Kp (fun q => B ≤ q ∨ q = bt) w wi) (fun kv _ => (intOf kv).toNat)
   case atStart => exact ⟨K,[],i,by go_num,Nat.le_refl _,HNK,(by simp : K = K ++ []),(by simp : ∀ q ∈ ([] : List KE),ft < q.1),HS5.out.1,HS5.out.2⟩
   case round =>
    obtain ⟨P,Q,k,rfl,hki,HPL,HKP,HQ,HRD,hkp⟩ := hrel;have hRD := HRD.out;have t3 := (hRD.tb.cell 3).trans rfl;obtain ⟨ea',ec',he,hnc2,hcm2,hrow⟩ := hRD.form;simp only [Value.slice.injEq] at he;obtain ⟨rfl, -,rfl⟩ := he;obtain ⟨ge',hge',hg1,hg2,hgf,hgc⟩ := hrow (by simp);simp only [Option.some.injEq,Addr.mk.injEq,and_true] at hge';subst hge'
    cases k with
    | zero =>
     obtain rfl : P = [] := List.eq_nil_of_length_eq_zero HPL.out;have HFI : Hid (RputP n B bt vr rest R b w (.returned (.bool true)) wr → True) := fun _ => trivial
     have HEN : Hid (∀ W,Below wr.heap.size wr W → RputP n B bt vr rest R b w (.returned (.bool true)) W) := fun W hW => by
      rw [HUN.out];exact ⟨rfl,fun _ => ⟨_,_,rput_end HH.out.2.1 HNE2.out HKP.out HQ.out (.inl rfl) _ _ HR.out,hRD.below hW⟩,hkp.trans2 (Kp.ofBelow (S := fun _ => False) hW) (fun _ _ e => e.elim)⟩
     clear HFI hRD HRD hrow hgc hgf HPL HKP HQ hkp hnc2 hcm2;go_wp2_with fail
     go_quiet (fail)
     have hbn : Below wr.heap.size wr (wr.drewN nq) := below_drewN nq (Below.refl _ _);have HE2 : Hid (RputP n B bt vr rest R b w (.returned (.bool true)) (wr.drewN nq)) := HEN.out _ hbn;go_wp2_with fail;go_ret;exact HE2.out
    | succ j =>
     obtain ⟨P',z,rfl⟩ : ∃ P' z,P = P' ++ [z] := by
      rcases List.eq_nil_or_concat P with h | ⟨P',z,h⟩
      ·have := HPL.out; rw [h] at this; simp at this
      ·exact ⟨P',z,by rw [h,List.concat_eq_append]⟩
     have HPL' : Hid (P'.length = j) := hid (by have := HPL.out; simpa using this)
     have hre : P' ++ [z] ++ (ft,(.slice (some ⟨bv,0,none⟩) 1 1,[x],fp)) :: Q = P' ++ z :: (ft,(.slice (some ⟨bv,0,none⟩) 1 1,[x],fp)) :: Q := by simp
     rw [hre] at hRD hgc;obtain ⟨p0,p1⟩ := hgc j z (by rw [List.getElem?_append_right (by rw [HPL'.out]; exact Nat.le_refl _),HPL'.out]; simp);obtain ⟨d0,d1⟩ := hgc (j + 1) (ft,(.slice (some ⟨bv,0,none⟩) 1 1,[x],fp)) (by rw [List.getElem?_append_right (by rw [HPL'.out]; omega),HPL'.out]; simp);obtain ⟨rows,bss,q1,q2⟩ := hRD.row z (by simp);obtain ⟨za,zc,hzv⟩ := own_form q1.own;have HRD2 : Hid (RdS n B bt (P' ++ z :: (ft,(.slice (some ⟨bv,0,none⟩) 1 1,[x],fp)) :: Q) (.slice (some ⟨g,0,none⟩) (i + 1) c) vr rest wr) := hRD;have HZK : Hid (z ∈ K) := hid (by rw [HKP.out]; simp);obtain ⟨zt,zv,zts,zb⟩ := z;simp only at hzv p0 p1 d0 d1 HZK;generalize zts.length = zn at hzv;subst hzv;have HGF : Hid (B ≤ g ∧ g < wr.heap.size ∧ ∀ o,wr.frozen? ⟨g,o,none⟩ = false) := ⟨hg1,hg2,hgf⟩
     have hwj : IntKind.i64.wrap (j : Int) = (j : Int) := by rw [IntKind.wrap_i64]; omega
     clear hRD HRD hrow hgc hgf q1 q2 hre HPL hg1 hg2 hnc2 hcm2
     by_cases hyt : ft < zt
     ·have d : decide (ft < zt) = true := by simp [hyt]
      have HQ2 : Hid (∀ q ∈ (zt,(.slice za zn zc,zts,zb)) :: Q,ft < q.1) := hid (by
       intro q hq
       rcases List.mem_cons.1 hq with rfl | hq
       ·exact hyt
       ·exact HQ.out q hq)
      have HKP2 : Hid (K = P' ++ (zt,(.slice za zn zc,zts,zb)) :: Q) := hid (by rw [HKP.out]; simp);clear HQ HKP;go_wp2_with fail
      go_quiet (fail)
      have hbq : Below wr.heap.size wr (wr.drewN nq) := below_drewN nq (Below.refl _ _)
      go_upto_region 14 with fail
      generalize wr.drewN nq = wq at *
      have HCE : Hid (∀ W,Below wq.heap.size wq W → W.cell? ⟨bt,3,none⟩ = some (.slice (some ⟨g,0,none⟩) (i + 1) c) ∧ W.cell? ⟨g,j * 2,none⟩ = some (.int .i64 zt) ∧ W.cell? ⟨g,j * 2 + 1,none⟩ = some (.slice za zn zc) ∧ W.cell? ⟨g,(j + 1) * 2,none⟩ = some (.int .i64 ft) ∧ W.cell? ⟨g,(j + 1) * 2 + 1,none⟩ = some (.slice (some ⟨bv,0,none⟩) 1 1)) := fun W hW => by
       have hb := hbq.trans (hW.mono hbq.size);have cc : ∀ o u,wr.cell? ⟨g,o,none⟩ = some u → W.cell? ⟨g,o,none⟩ = some u := fun o u h => (World.cell?_of_block (a := ⟨g,o,none⟩) (hb.block g HGF.out.2.1)).trans h
       exact ⟨((HRD2.out.below hb).tb.cell 3).trans rfl,cc _ _ p0,cc _ _ p1,cc _ _ d0,cc _ _ d1⟩
      have HSW : Hid (RdS n B bt (P' ++ (ft,(.slice (some ⟨bv,0,none⟩) 1 1,[x],fp)) :: (zt,(.slice za zn zc,zts,zb)) :: Q) (.slice (some ⟨g,0,none⟩) (i + 1) c) vr rest ((((wq.drew.setCell ⟨g,(j + 1) * 2,none⟩ (.int .i64 zt)).setCell ⟨g,(j + 1) * 2 + 1,none⟩ (.slice za zn zc)).setCell ⟨g,j * 2,none⟩ (.int .i64 ft)).setCell ⟨g,j * 2 + 1,none⟩ (.slice (some ⟨bv,0,none⟩) 1 1)) ∧
        Kp (fun q => B ≤ q ∨ q = bt) w ((((wq.drew.setCell ⟨g,(j + 1) * 2,none⟩ (.int .i64 zt)).setCell ⟨g,(j + 1) * 2 + 1,none⟩ (.slice za zn zc)).setCell ⟨g,j * 2,none⟩ (.int .i64 ft)).setCell ⟨g,j * 2 + 1,none⟩ (.slice (some ⟨bv,0,none⟩) 1 1))) := (by
       obtain ⟨s1,s2⟩ := (HRD2.out.below (hbq.drew)).swap (j * 2) (by rw [HPL'.out]) ((j + 1) * 2) (by omega);refine ⟨s1,(hkp.trans2 (Kp.ofBelow (S := fun _ => False) hbq.drew) (fun _ _ e => e.elim)).trans2 s2 fun q _ hq => ?_⟩
       left; rw [hq]; exact HGF.out.1 : _ ∧ _)
      have HFZ : Hid (∀ o,wq.frozen? ⟨g,o,none⟩ = false) := fun o => (World.frozen?_of_block (a := ⟨g,o,none⟩) (hbq.block g HGF.out.2.1)).trans (HGF.out.2.2 o)
      clear p0 p1 d0 d1 t3 hkp HGF HRD2;refine M_region (T := fun W => Below wq.heap.size wq W) (m := 27) (by kernel_rfl) ?_;have hS : Below wq.heap.size wq wq.drew := (Below.refl _ _).drew;refine M_tk 0 113 (.pointer (some ⟨bt,0,none⟩)) (fun w' hw' => ?_) hS (bts 30 1) ?_
      ·go_simp
      refine M_tk 1 114 (.pointer (some ⟨bt,0,none⟩)) (fun w' hw' => ?_) hS (bts 30 3) ?_
      ·go_simp
      refine M_tk 2 115 (.pointer (some ⟨bt,3,none⟩)) (fun w' hw' => ?_) hS (bts 30 7) ?_
      ·go_simp
      refine M_tk 3 116 (.slice (some ⟨g,0,none⟩) (i + 1) c) (fun w' hw' => ?_) hS (bts 30 15) ?_
      ·obtain ⟨g0,g1,g2,g3,g4⟩ := HCE.out _ hw'; go_simp
      refine M_tk 4 117 (.int .i64 ((j + 1 : Nat) : Int)) (fun w' hw' => ?_) hS (bts 30 31) ?_
      ·go_simp
      refine M_tA 5 118 (.pointer (some ⟨bt,0,none⟩)) (fun w' hw' => ?_) hS (bts 30 63) ?_
      ·go_simp
      refine M_tA 6 119 (.pointer (some ⟨bt,0,none⟩)) (fun w' hw' => ?_) hS (bts 30 127) ?_
      ·go_simp
      refine M_tA 7 120 (.pointer (some ⟨bt,3,none⟩)) (fun w' hw' => ?_) hS (bts 30 255) ?_
      ·go_simp
      refine M_tk 8 121 (.slice (some ⟨g,0,none⟩) (i + 1) c) (fun w' hw' => ?_) hS (bts 30 511) ?_
      ·obtain ⟨g0,g1,g2,g3,g4⟩ := HCE.out _ hw'; go_simp
      refine M_tA 9 122 (.int .i64 ((j + 1 : Nat) : Int)) (fun w' hw' => ?_) hS (bts 30 1023) ?_
      ·go_simp
      refine M_tA 10 123 (.int .i64 (j : Int)) (fun w' hw' => ?_) hS (bts 30 2047) ?_
      ·go_simp
      refine M_tk 11 124 (.pointer (some ⟨bt,0,none⟩)) (fun w' hw' => ?_) hS (bts 30 4095) ?_
      ·go_simp
      refine M_tk 12 125 (.pointer (some ⟨bt,0,none⟩)) (fun w' hw' => ?_) hS (bts 30 8191) ?_
      ·go_simp
      refine M_tk 13 126 (.pointer (some ⟨bt,3,none⟩)) (fun w' hw' => ?_) hS (bts 30 16383) ?_
      ·go_simp
      refine M_tk 14 127 (.slice (some ⟨g,0,none⟩) (i + 1) c) (fun w' hw' => ?_) hS (bts 30 32767) ?_
      ·obtain ⟨g0,g1,g2,g3,g4⟩ := HCE.out _ hw'; go_simp
      refine M_tk 15 128 (.int .i64 ((j + 1 : Nat) : Int)) (fun w' hw' => ?_) hS (bts 30 65535) ?_
      ·go_simp
      refine M_tk 16 129 (.int .i64 (j : Int)) (fun w' hw' => ?_) hS (bts 30 131071) ?_
      ·go_simp
      refine M_tk 17 130 (.pointer (some ⟨g,j * 2,none⟩)) (fun w' hw' => ?_) hS (bts 30 262143) ?_
      ·go_simp; try (intro hq; exfalso; omega)
      refine M_tk 18 131 (.agg #[.int .i64 zt,.slice za zn zc]) (fun w' hw' => ?_) hS (bts 30 524287) ?_
      ·obtain ⟨g0,g1,g2,g3,g4⟩ := HCE.out _ hw'; go_simp
      refine M_tA 19 132 (.pointer (some ⟨bt,0,none⟩)) (fun w' hw' => ?_) hS (bts 30 1048575) ?_
      ·go_simp
      refine M_tA 20 133 (.pointer (some ⟨bt,0,none⟩)) (fun w' hw' => ?_) hS (bts 30 2097151) ?_
      ·go_simp
      refine M_tA 21 134 (.pointer (some ⟨bt,3,none⟩)) (fun w' hw' => ?_) hS (bts 30 4194303) ?_
      ·go_simp
      refine M_tk 22 135 (.slice (some ⟨g,0,none⟩) (i + 1) c) (fun w' hw' => ?_) hS (bts 30 8388607) ?_
      ·obtain ⟨g0,g1,g2,g3,g4⟩ := HCE.out _ hw'; go_simp
      refine M_tA 23 136 (.int .i64 ((j + 1 : Nat) : Int)) (fun w' hw' => ?_) hS (bts 30 16777215) ?_
      ·go_simp
      refine M_tA 24 137 (.pointer (some ⟨g,(j + 1) * 2,none⟩)) (fun w' hw' => ?_) hS (bts 30 33554431) ?_
      ·go_simp; try (intro hq; exfalso; omega)
      refine M_tk 25 138 (.agg #[.int .i64 ft,.slice (some ⟨bv,0,none⟩) 1 1]) (fun w' hw' => ?_) hS (bts 30 67108863) ?_
      ·obtain ⟨g0,g1,g2,g3,g4⟩ := HCE.out _ hw'; go_simp
      refine M_tk 26 139 (.pointer (some ⟨g,(j + 1) * 2,none⟩)) (fun w' hw' => ?_) hS (bts 30 134217727) ?_
      ·go_simp; try (intro hq; exfalso; omega)
      obtain ⟨-,g1,g2,g3,g4⟩ := HCE.out wq (Below.refl _ _);have y0 := HFZ.out (j * 2);have y1 := HFZ.out (j * 2 + 1);have y2 := HFZ.out ((j + 1) * 2);have y3 := HFZ.out ((j + 1) * 2 + 1);refine M_st 27 ((wq.drew.setCell ⟨g,(j + 1) * 2,none⟩ (.int .i64 zt)).setCell ⟨g,(j + 1) * 2 + 1,none⟩ (.slice za zn zc)) (bts 30 268435455) rfl (by go_simp) ?_;refine M_rA 28 140 (.pointer (some ⟨g,j * 2,none⟩)) ((wq.drew.setCell ⟨g,(j + 1) * 2,none⟩ (.int .i64 zt)).setCell ⟨g,(j + 1) * 2 + 1,none⟩ (.slice za zn zc)) (bts 30 536870911) rfl (by go_simp; try (intro hq; exfalso; omega)) ?_;simp only [zsA,zsZ,zsS];refine M_st 29 ((((wq.drew.setCell ⟨g,(j + 1) * 2,none⟩ (.int .i64 zt)).setCell ⟨g,(j + 1) * 2 + 1,none⟩ (.slice za zn zc)).setCell ⟨g,j * 2,none⟩ (.int .i64 ft)).setCell ⟨g,j * 2 + 1,none⟩ (.slice (some ⟨bv,0,none⟩) 1 1)) (bts 30 1073741823) rfl (by go_simp) ?_;refine M_done (by kernel_rfl) ?_ _;clear hS HCE HFZ g1 g2 g3 g4 y0 y1 y2 y3;generalize ((((wq.drew.setCell ⟨g,(j + 1) * 2,none⟩ (.int .i64 zt)).setCell ⟨g,(j + 1) * 2 + 1,none⟩ (.slice za zn zc)).setCell ⟨g,j * 2,none⟩ (.int .i64 ft)).setCell ⟨g,j * 2 + 1,none⟩ (.slice (some ⟨bv,0,none⟩) 1 1)) = w9 at *;go_wp2_with fail
      go_roundw
      case rel => exact ⟨P',(zt,(.slice za zn zc,zts,zb)) :: Q,j,by first | rfl | go_num,by omega,HPL',HKP2,HQ2,HSW.out.1,HSW.out.2⟩
      case measure => simp [intOf]
     ·have d : decide (ft < zt) = false := by simp; omega
      have HEN : Hid (∀ W,Below wr.heap.size wr W → RputP n B bt vr rest R b w (.returned (.bool true)) W) := fun W hW => by
       rw [HUN.out]
       have h1 : zt < ft := by have := HNE2.out _ HZK.out; simp only at this; omega
       have h3 := rput_end (P := P' ++ [(zt,(.slice za zn zc,zts,zb))]) (x := x) HH.out.2.1 HNE2.out HKP.out HQ.out (.inr ⟨P',_,rfl,h1⟩) (.slice (some ⟨bv,0,none⟩) 1 1) fp HR.out;refine ⟨rfl,fun _ => ⟨_,.slice (some ⟨g,0,none⟩) (i + 1) c,h3,?_⟩,hkp.trans2 (Kp.ofBelow (S := fun _ => False) hW) (fun _ _ e => e.elim)⟩;have h2 := HRD2.out.below hW
       simpa using h2
      clear HRD2 HKP HQ hkp HGF HZK hyt;go_wp2_with fail
      go_quiet (fail)
      have hbn : Below wr.heap.size wr (wr.drewN nq) := below_drewN nq (Below.refl _ _);have HE2 : Hid (RputP n B bt vr rest R b w (.returned (.bool true)) (wr.drewN nq)) := HEN.out _ hbn;clear p0 p1 d0 d1 t3;go_wp2_with fail;go_ret;exact HE2.out
end Go.Proofs.YtmgbhicogmclgaaGreat

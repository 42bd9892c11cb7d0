/- Part 15 of what the proof stands on. -/
import Derived.Test.YtmgbhicogmclgaaGreatPkWAN
namespace Go.Proofs.YtmgbhicogmclgaaGreat
set_option maxHeartbeats 8000000
set_option linter.unusedVariables false
set_option linter.unusedSimpArgs false
set_option maxRecDepth 20000
open Go.ChangeShapes Go.WideShapes Go.ChangeAt Go.RowKit
theorem dblk3r (w : World) (c1 c2 c3 : Array Value) (t1 t2 t3 : TypeId) : Blk (((w.alloc (Obj.cells c1 t1)).alloc (Obj.cells c2 t2)).alloc (Obj.cells c3 t3)) w.heap.size c1 t1 ∧ Blk (((w.alloc (Obj.cells c1 t1)).alloc (Obj.cells c2 t2)).alloc (Obj.cells c3 t3)) (w.heap.size + 1) c2 t2 ∧ Blk (((w.alloc (Obj.cells c1 t1)).alloc (Obj.cells c2 t2)).alloc (Obj.cells c3 t3)) (w.heap.size + 2) c3 t3 ∧ Below w.heap.size w (((w.alloc (Obj.cells c1 t1)).alloc (Obj.cells c2 t2)).alloc (Obj.cells c3 t3)) := by
 have s1 : (w.alloc (Obj.cells c1 t1)).heap.size = w.heap.size + 1 := by simp
 have s2 : ((w.alloc (Obj.cells c1 t1)).alloc (Obj.cells c2 t2)).heap.size = w.heap.size + 2 := by simp
 have al : ∀ (W : World) (x : Obj),Below W.heap.size W (W.alloc x) := fun W x => bra _
 have b1 := Blk.new w c1 t1;have b2 := Blk.new (w.alloc (Obj.cells c1 t1)) c2 t2;have b3 := Blk.new ((w.alloc (Obj.cells c1 t1)).alloc (Obj.cells c2 t2)) c3 t3;rw [s1] at b2;rw [s2] at b3;exact ⟨(b1.below (al _ _)).below (al _ _),b2.below (al _ _),b3,(((Below.refl _ w).alloc (Nat.le_refl _) _).alloc (by omega) _).alloc (by omega) _⟩
theorem rmsg12_step (s : ScS) (sn : ByteArray) (ma ea ta : Option Addr) (mn mc en ec tn tc : Nat) (hok : OkS s) (hfl : ∀ m ∈ s.msgs,m.fields.length ≤ 20) (d n : Nat) (hd : d + n = 10)
  (IH : d < 10 → ∀ (m : MsS) vf vr v ns w,msgOf s m.name = some m → RowG w vf 5 (flRows m.fields) → RowG w vr 1 (inRows m.reserved) → ByS w v ns → ns.length ≤ 6000 → ScIn w (.agg #[.string sn,.slice ma mn mc,.slice ea en ec,.slice ta tn tc]) s → Calls Tryz.prog 32 #[.agg #[.string sn,.slice ma mn mc,.slice ea en ec,.slice ta tn tc],.agg #[.string m.name,vf,vr],v,.int .i64 ((d : Int) + 1)] w (DtrP (n + 1) (decM n s m.name ns) w))
  (m : MsS) (vf vr v : Value) (ns : List Nat) (w : World) (hm : msgOf s m.name = some m) (hvf : RowG w vf 5 (flRows m.fields)) (hvr : RowG w vr 1 (inRows m.reserved)) (hv : ByS w v ns) (hs : ScIn w (.agg #[.string sn,.slice ma mn mc,.slice ea en ec,.slice ta tn tc]) s) :
  Calls Tryz.prog 32 #[.agg #[.string sn,.slice ma mn mc,.slice ea en ec,.slice ta tn tc],.agg #[.string m.name,vf,vr],v,.int .i64 (d : Int)] w (DtrP (n + 2) (decM (n + 1) s m.name ns) w) := by
 obtain ⟨R,hR⟩ : ∃ R,decM (n + 1) s m.name ns = R := ⟨_,rfl⟩;obtain ⟨G,hG⟩ : ∃ G,getL ns = G := ⟨_,rfl⟩
 have HR3 : Hid (R = if (G.2 : Nat) ≠ 0 then (tr0,(G.2 : Int)) else if (runR (decM n s) m.fields ⟨[],[]⟩ G.1).2 ≠ 0 then (tr0,(runR (decM n s) m.fields ⟨[],[]⟩ G.1).2) else (⟨3,0,⟨#[]⟩,setldR m.fields (runR (decM n s) m.fields ⟨[],[]⟩ G.1).1.es,sortF (runR (decM n s) m.fields ⟨[],[]⟩ G.1).1.rest⟩,0)) := (by
  rw [← hR,← hG]; exact decM_ref hm : R = _)
 rw [hR];obtain ⟨ba,bcap,rfl,hbh,hblt,hbc,hbm,hadr⟩ := hv;obtain ⟨BL,hBL⟩ : ∃ z,ns.length = z := ⟨_,rfl⟩;have HBY : Hid (ns.length = BL ∧ Holds w ba ns ∧ (∀ k ∈ ns,k < 256) ∧ BL ≤ bcap ∧ bcap ≤ maxLen ∧ (ns = [] ∨ ∃ g off,ba = some ⟨g,off,none⟩)) := ⟨hBL,hbh,hblt,by omega,hbm,hadr⟩;have HSC : Hid (ScIn w (.agg #[.string sn,.slice ma mn mc,.slice ea en ec,.slice ta tn tc]) s) := hs;have HG1 : Hid (G.1.length ≤ 4096) := hid (by rw [← hG]; exact getL_len hblt);have HG64 : Hid (G.2 = 0 → ∀ r ∈ G.1,Is64 r.tag ∧ (r.wire = 0 ∨ r.wire = 1) ∧ Is64 r.n ∧ r.b.size ≤ 6000) := fun h0 => get_facts hblt (by rw [hG]; exact Prod.ext rfl h0)
 have HGC : Hid (∀ W,Below w.heap.size w W → Calls Tryz.prog 61 #[.slice ba BL bcap] W fun e w' => ∃ v,e = .returned (.tuple #[v,.int .i64 (G.2 : Int)]) ∧ w'.ownsRow W.heap.size 79 4 v G.1.length (rawCells G.1) ∧ Below W.heap.size W w') := fun W hW => by
  rw [← hG];exact rrget_any ba ns BL bcap W HBY.out.1 (HBY.out.2.1.below hW) HBY.out.2.2.1 HBY.out.2.2.2.1 HBY.out.2.2.2.2.1 HBY.out.2.2.2.2.2
 rw [hBL];have hmm : m ∈ s.msgs := msg_mem hm
 have HFK : Hid (∀ t f,fldOf m.fields t = some f → (1 ≤ f.kind ∧ f.kind ≤ 7) ∧ (f.kind = 7 → (msgOf s f.tname).isSome = true)) := fun t f hf => by
  have hfm := fld_mem hf;exact ⟨ok_kindsR hok m hmm f hfm,ok_msgT ((hok.msgs m hmm).2.2.2.2.1 f hfm).1⟩
 have HF20 : Hid (m.fields.length ≤ 20) := hfl m hmm;obtain ⟨fa,fc,rfl, -⟩ := hvf.form2;obtain ⟨ra,rc,rfl, -⟩ := hvr.form2;have HRF : Hid (RowG w (.slice fa (flRows m.fields).length fc) 5 (flRows m.fields)) := hvf;obtain ⟨fl,hfl'⟩ : ∃ z,(flRows m.fields).length = z := ⟨_,rfl⟩;obtain ⟨rl,hrl'⟩ : ∃ z,(inRows m.reserved).length = z := ⟨_,rfl⟩;rw [hfl'] at HRF;rw [hfl',hrl'];obtain ⟨mnm,hmnm⟩ : ∃ z,m.name = z := ⟨_,rfl⟩;rw [hmnm];have HI : Hid (d < 10 → ∀ (m : MsS) vf vr v ns w,msgOf s m.name = some m → RowG w vf 5 (flRows m.fields) → RowG w vr 1 (inRows m.reserved) → ByS w v ns → ns.length ≤ 6000 → ScIn w (.agg #[.string sn,.slice ma mn mc,.slice ea en ec,.slice ta tn tc]) s → Calls Tryz.prog 32 #[.agg #[.string sn,.slice ma mn mc,.slice ea en ec,.slice ta tn tc],.agg #[.string m.name,vf,vr],v,.int .i64 ((d : Int) + 1)] w (DtrP (n + 1) (decM n s m.name ns) w)) := IH;have HD : Hid (d + n = 10) := hd;obtain ⟨fs,hfs⟩ : ∃ z,m.fields = z := ⟨_,rfl⟩;rw [hfs] at HR3 HFK HF20 HRF;obtain ⟨BS,BM,BT,hbw⟩ := dblk3r w #[.string sn,.slice ma mn mc,.slice ea en ec,.slice ta tn tc] #[.string mnm,.slice fa fl fc,.slice ra rl rc] #[.int .i64 0,.int .i64 0,.string ⟨#[]⟩,.slice none 0 0,.slice none 0 0] 26 52 30;clear hR hG hbh hblt hbc hbm hadr hBL hs hmm hvf hvr hfl hfl' hrl' hmnm hfs IH hd hm hok
 go_enter Tryz.func32,Tryz.ntmps32
 go_wp2_with fail;obtain ⟨b0,hb0⟩ : ∃ z,w.heap.size = z := ⟨_,rfl⟩;have HBZ : Hid (w.heap.size = b0) := hb0;generalize (((w.alloc (Obj.cells #[.string sn,.slice ma mn mc,.slice ea en ec,.slice ta tn tc] 26)).alloc (Obj.cells #[.string mnm,.slice fa fl fc,.slice ra rl rc] 52)).alloc (Obj.cells #[.int .i64 0,.int .i64 0,.string ⟨#[]⟩,.slice none 0 0,.slice none 0 0] 30)) = WA at *;rw [hb0] at BS BM BT
 try simp only [hb0]
 clear hb0;have HBS : Hid (Blk WA b0 #[.string sn,.slice ma mn mc,.slice ea en ec,.slice ta tn tc] 26 ∧ Blk WA (b0 + 1) #[.string mnm,.slice fa fl fc,.slice ra rl rc] 52) := ⟨BS,BM⟩;have HBT : Hid (Blk WA (b0 + 2) #[.int .i64 0,.int .i64 0,.string ⟨#[]⟩,.slice none 0 0,.slice none 0 0] 30) := BT;have HBW : Hid (Below w.heap.size w WA) := hbw;clear BS BM BT
 have FIN : Hid (∀ (W : World) (x0 x1 x2 x3 x4 : Value) (bs : List Nat) (y : Int),Below WA.heap.size WA W → TrO (n + 2) w.heap.size W [x0,x1,x2,x3,x4] R.1 bs → Apt w.heap.size W bs → b0 + 2 ∉ bs → R.2 = y → DtrP (n + 2) R w (.returned (.tuple #[.agg #[x0,x1,x2,x3,x4],.int .i64 y])) (set5 W (b0 + 2) 0 x0 x1 x2 x3 x4)) := fun W x0 x1 x2 x3 x4 bs y hW h1 h2 h3 h4 =>
  DtrP.done (HBW.out.trans (hW.mono HBW.out.size)) (by have := HBZ.out; omega) h1 h2 h3 h4
 have ZFIN : Hid (∀ (W : World) (y : Int),Below WA.heap.size WA W → R = (tr0,y) → DtrP (n + 2) R w (.returned (.tuple #[.agg #[.int .i64 0,.int .i64 0,.string ⟨#[]⟩,.slice none 0 0,.slice none 0 0],.int .i64 y])) (set5 W (b0 + 2) 0 (.int .i64 0) (.int .i64 0) (.string ⟨#[]⟩) (.slice none 0 0) (.slice none 0 0))) := fun W y hW hR =>
  FIN.out W _ _ _ _ _ [] y hW (by rw [hR]; exact TrO.zeroO (n + 1) _ W) (Apt.nil _ _) (by simp) (by rw [hR])
 refine (HGC.out _ hbw).mono ?_;rintro e w4 ⟨v,rfl,hown,hw4⟩;clear HGC;have HW4 : Hid (Below WA.heap.size WA w4) := hw4;obtain ⟨LL,E⟩ := G;simp only at hown HR3 HG1 HG64 ⊢
 by_cases hE : E = 0
 rotate_left
 ·have hne : ((E : Int) != 0) = true := by simp; omega
  have HX1 : Hid (R = (tr0,(E : Int))) := (by rw [HR3.out,if_pos hE] : R = _);clear hE HR3 HG1 HG64;obtain ⟨va,vc,rfl⟩ := own_form hown;clear hown;have BT5 := HBT.out.below hw4;obtain ⟨t0,t1,t2,t3,t4⟩ := cl5 BT5;obtain ⟨z0,z1,z2,z3,z4⟩ := fz5 BT5;have ltT := BT5.lt;clear BT5;go_wp2_with fail;refine bodyPost_ret (results_two rfl _ _ _ ⟨b0 + 2,0,none⟩ (.agg #[.int .i64 0,.int .i64 0,.string ⟨#[]⟩,.slice none 0 0,.slice none 0 0]) (by go_simp) (by go_simp)) rfl ?_;exact ZFIN.out w4 _ HW4.out HX1.out
 subst hE;simp only [show ((0 : Nat) : Int) = 0 from rfl];have HR4 : Hid (R = if (runR (decM n s) fs ⟨[],[]⟩ LL).2 ≠ 0 then (tr0,(runR (decM n s) fs ⟨[],[]⟩ LL).2) else (⟨3,0,⟨#[]⟩,setldR fs (runR (decM n s) fs ⟨[],[]⟩ LL).1.es,sortF (runR (decM n s) fs ⟨[],[]⟩ LL).1.rest⟩,0)) := (by rw [HR3.out,if_neg (by simp)] : R = _);have HL64 : Hid (∀ r ∈ LL,Is64 r.tag ∧ (r.wire = 0 ∨ r.wire = 1) ∧ Is64 r.n ∧ r.b.size ≤ 6000) := HG64.out rfl;clear HR3 HG64;obtain ⟨la,lc,rfl, -,hlb,hlc1,hlc2,hlh⟩ := own_openR hown;have HLH : Hid (HoldsR w4 la LL ∧ (LL = [] ∨ ∃ g off,la = some ⟨g,off,none⟩)) := ⟨hlh,own_adrR hlb⟩;obtain ⟨N,hN⟩ : ∃ z,LL.length = z := ⟨_,rfl⟩;have HN : Hid (LL.length = N) := hN
 have hN4 : N ≤ 4096 := by rw [← hN]; exact HG1.out
 rw [hN] at hlc1 ⊢;unfold maxLen at hlc2;clear hlb hlh hown hN HG1;have BX5 : Blk (w4.alloc (Obj.cells #[.int .i64 3,.int .i64 0,.string ⟨#[]⟩,.slice none 0 0,.slice none 0 0] 30)) w4.heap.size #[.int .i64 3,.int .i64 0,.string ⟨#[]⟩,.slice none 0 0,.slice none 0 0] 30 := Blk.new w4 _ _;have hb5 : Below w4.heap.size w4 (w4.alloc (Obj.cells #[.int .i64 3,.int .i64 0,.string ⟨#[]⟩,.slice none 0 0,.slice none 0 0] 30)) := bra _;go_wp2_with fail;obtain ⟨bt,hbt⟩ : ∃ z,w4.heap.size = z := ⟨_,rfl⟩;have HBM : Hid (w4.heap.size = bt) := hbt;rw [hbt] at BX5 hb5
 try simp only [hbt]
 clear hbt;generalize (w4.alloc (Obj.cells #[.int .i64 3,.int .i64 0,.string ⟨#[]⟩,.slice none 0 0,.slice none 0 0] 30)) = W5 at *;have HST : Hid (RdS (n + 1) (bt + 1) bt [] (.slice none 0 0) (.slice none 0 0) [] W5) := RdS.nil BX5 (by omega);clear BX5
 go_loopw [13] (fun iv wr => ∃ (i : Nat) (K : List KE) (ve vr : Value) (rest : List Fd),iv = .int .i64 (i : Int) ∧ i ≤ N ∧ Hid (runR (decM n s) fs ⟨[],[]⟩ (LL.take i) = (⟨esK K,rest⟩,0)) ∧ Hid (RdS (n + 1) (bt + 1) bt K ve vr rest wr) ∧ Below bt w4 wr) (fun iv _ => N - (intOf iv).toNat)
 case atStart => exact ⟨0,[],_,_,[],rfl,by omega,rfl,HST,hb5⟩
 case round =>
  obtain ⟨i,K,ve,vr,rest,rfl,hi,HRU,HDS,hbr⟩ := hrel
  have hbr4 : Below w4.heap.size w4 wr := by rw [HBM.out]; exact hbr
  have hwr : Below WA.heap.size WA wr := HW4.out.trans (hbr4.mono HW4.out.size);have HRAN : Hid (RanR fs ⟨esK K,rest⟩) := ranR_run HRU.out
  have HKN : Hid (K.length ≤ 20 ∧ rest.length ≤ 4096 ∧ (∀ k ∈ K,k.2.2.1 ≠ [] ∧ k.2.2.1.length ≤ 64 ∧ (fldOf fs k.1).isSome = true)) := (by
   have h1 := HRAN.out.cnt
   have h2 : (esK K).length = K.length := by simp [esK]
   have h3 := runR_rest (M := decM n s) (fs := fs) (LL.take i) ⟨[],[]⟩;rw [HRU.out] at h3;have h4 : (LL.take i).length ≤ i := List.length_take_le _ _;have h5 := HF20.out;simp only [List.length_nil] at h1 h3;refine ⟨by omega,by omega,fun k hk => ?_⟩;obtain ⟨q1,q2,f,q3⟩ := HRAN.out.ne (k.1,k.2.2.1) (List.mem_map.2 ⟨k,hk,rfl⟩)
   exact ⟨q1,q2,by simp only at q3; rw [q3]; rfl⟩ : _ ∧ _ ∧ _)
  by_cases hlt : i < N
  ·obtain ⟨r,hx⟩ : ∃ r,LL[i]? = some r := ⟨_,List.getElem?_eq_getElem (by rw [HN.out]; exact hlt)⟩
   obtain ⟨g,off,rfl⟩ : ∃ g off,la = some ⟨g,off,none⟩ := by
    rcases HLH.out.2 with h0 | h0
    ·rw [h0] at hx; simp at hx
    ·exact h0
   have HX6 : Hid (LL[i]? = some r) := hx;have HR6 : Hid (Is64 r.tag ∧ (r.wire = 0 ∨ r.wire = 1) ∧ Is64 r.n ∧ r.b.size ≤ 6000) := HL64.out r (List.mem_of_getElem? hx);have HNX : Hid (runR (decM n s) fs ⟨[],[]⟩ (LL.take (i + 1)) = oneR (decM n s) fs ⟨esK K,rest⟩ r ∧ ((oneR (decM n s) fs ⟨esK K,rest⟩ r).2 ≠ 0 → runR (decM n s) fs ⟨[],[]⟩ LL = oneR (decM n s) fs ⟨esK K,rest⟩ r)) := runR_next hx HRU.out;obtain ⟨c0,c1,c2,c3⟩ := (HLH.out.1.below hbr4).at hx;obtain ⟨rt,rk,rn,rb⟩ := r;simp only at c0 c1 c2 c3 HR6;obtain ⟨X,hX⟩ : ∃ X,fldOf fs rt = X := ⟨_,rfl⟩;have HXF : Hid (fldOf fs rt = X) := hX;obtain ⟨Y,hY⟩ : ∃ Y,X.getD zeroF = Y := ⟨_,rfl⟩;obtain ⟨FB,hFB⟩ : ∃ b,X.isSome = b := ⟨_,rfl⟩;have HXY : Hid (X.getD zeroF = Y ∧ X.isSome = FB) := ⟨hY,hFB⟩
   have HFC : Hid (∀ W,Below wr.heap.size wr W → Calls Tryz.prog 49 #[.agg #[.string mnm,.slice fa fl fc,.slice ra rl rc],.int .i64 rt] W fun e w' => e = .returned (.tuple #[flV Y,.bool FB]) ∧ Below W.heap.size W w') := fun W hW => by
    have h1 := r7field_any (w := W) (snm := mnm) (nm := rt) (am := ra) (M := rl) (cm := rc) (HRF.out.below (HBW.out.trans ((hwr.trans (hW.mono hwr.size)).mono HBW.out.size)));have h2 : (fs.find? fun m => decide (m.tag = rt)) = X := hX;rw [h2,hY,hFB] at h1;exact h1
   have HCB : Hid (∀ W,Below wr.heap.size wr W → Blk W b0 #[.string sn,.slice ma mn mc,.slice ea en ec,.slice ta tn tc] 26 ∧ Blk W (b0 + 1) #[.string mnm,.slice fa fl fc,.slice ra rl rc] 52 ∧ W.cell? ⟨g,off + i * 4,none⟩ = some (.int .i64 rt) ∧ W.cell? ⟨g,off + i * 4 + 1,none⟩ = some (.int .i64 rk) ∧ W.cell? ⟨g,off + i * 4 + 2,none⟩ = some (.int .i64 rn) ∧ W.cell? ⟨g,off + i * 4 + 3,none⟩ = some (.string rb)) := fun W hW => by
    have cc : ∀ p u,wr.cell? p = some u → W.cell? p = some u := fun p u h => (hW.cell (World.block_lt_of_cell? _ _ h)).trans h
    have hb := hwr.trans (hW.mono hwr.size);exact ⟨HBS.out.1.below hb,HBS.out.2.below hb,cc _ _ c0,cc _ _ c1,cc _ _ c2,cc _ _ c3⟩
   have HWR : Hid (Below WA.heap.size WA wr ∧ Below bt w4 wr) := ⟨hwr,hbr⟩;have HGL : Hid (g < bt) := hid (by rw [← HBM.out]; exact World.block_lt_of_cell? _ _ ((HLH.out.1).at HX6.out).1);have HRAN2 : Hid (RisE (esK K)) := HRAN.out.ris;clear hx hX hY hFB c0 c1 c2 c3 hbr4 HRU HRAN;obtain ⟨y1,y2,y3,y4,y5⟩ := Y;simp only [flV] at HFC
   go_upto_region 8 with fail
   go_cut [14,15] from 35 to 43 (fun pv bv wx => ∃ b : Nat,pv = .pointer (some ⟨b,0,none⟩) ∧ bv = .bool FB ∧ Hid (Blk wx b #[.string y1,.int .i64 y2,.int .i64 y3,.int .i64 y4,.string y5] 56 ∧ Below wr.heap.size wr wx))
   case first =>
    refine M_region (T := fun W => Below wr.heap.size wr W) (m := 12) (by kernel_rfl) ?_;have hS : Below wr.heap.size wr wr.drew := (Below.refl _ _).drew;refine M_tk 0 35 (.agg #[.string mnm,.slice fa fl fc,.slice ra rl rc]) (fun w' hw' => ?_) hS (bts 13 1) ?_
    ·have HB := (HCB.out _ hw').2.1; obtain ⟨f0,f1,f2⟩ := cl3 HB; go_simp
    refine M_tk 1 36 (.slice (some ⟨g,off,none⟩) N lc) (fun w' hw' => ?_) hS (bts 13 3) ?_
    ·go_simp
    refine M_tk 2 37 (.int .i64 (i : Int)) (fun w' hw' => ?_) hS (bts 13 7) ?_
    ·go_simp
    refine M_tk 3 38 (.pointer (some ⟨g,off + i * 4,none⟩)) (fun w' hw' => ?_) hS (bts 13 15) ?_
    ·go_simp
    refine M_tk 4 39 (.pointer (some ⟨g,off + i * 4,none⟩)) (fun w' hw' => ?_) hS (bts 13 31) ?_
    ·go_simp
    refine M_tk 5 40 (.int .i64 rt) (fun w' hw' => ?_) hS (bts 13 63) ?_
    ·obtain ⟨-, -,c0,c1,c2,c3⟩ := HCB.out _ hw'; go_simp
    generalize wr.drew = U0 at *;refine M_fork 6 10 41 14 49 #[.agg #[.string mnm,.slice fa fl fc,.slice ra rl rc],.int .i64 rt] (.pointer (some ⟨U0.heap.size,0,none⟩)) (U0.alloc (Obj.cells #[.string ⟨#[]⟩,.int .i64 0,.int .i64 0,.int .i64 0,.string ⟨#[]⟩] 56)) rfl rfl rfl rfl (by kernel_rfl) (by rfl) (by rfl) (by go_simp) (by go_simp) ?_ (hS.trans ((bra _).mono hS.size)) ?_
    ·skip
     refine (HFC.out _ hS).mono ?_;rintro ee V1 ⟨rfl,hbU⟩;have hS0 := hS;have hS : Below wr.heap.size wr V1 := hS0.trans (hbU.mono hS0.size);clear hS0 hbU;refine ⟨_,rfl,hS,?_⟩;simp only [zsA,zsZ,zsS];refine M_tk 7 34 (.tuple #[.agg #[.string y1,.int .i64 y2,.int .i64 y3,.int .i64 y4,.string y5],.bool FB]) (fun w' hw' => ?_) hS (bts 13 255) ?_
     ·go_simp
     refine M_tk 8 42 (.agg #[.string y1,.int .i64 y2,.int .i64 y3,.int .i64 y4,.string y5]) (fun w' hw' => ?_) hS (bts 13 511) ?_
     ·go_simp
     refine M_tk 9 43 (.bool FB) (fun w' hw' => ?_) hS (bts 13 1023) ?_
     ·go_simp
     refine M_rn 10 14 (.pointer (some ⟨V1.heap.size,0,none⟩)) (V1.alloc (Obj.cells #[.string ⟨#[]⟩,.int .i64 0,.int .i64 0,.int .i64 0,.string ⟨#[]⟩] 56)) (bts 13 2047) rfl (by go_simp) (hS.trans ((bra _).mono hS.size)) ?_;have hbU : Below V1.heap.size V1 (V1.alloc (Obj.cells #[.string ⟨#[]⟩,.int .i64 0,.int .i64 0,.int .i64 0,.string ⟨#[]⟩] 56)) := bra _;obtain ⟨bz,hbz⟩ : ∃ z,V1.heap.size = z := ⟨_,rfl⟩
     have BZ : Blk (V1.alloc (Obj.cells #[.string ⟨#[]⟩,.int .i64 0,.int .i64 0,.int .i64 0,.string ⟨#[]⟩] 56)) bz #[.string ⟨#[]⟩,.int .i64 0,.int .i64 0,.int .i64 0,.string ⟨#[]⟩] 56 := by rw [← hbz]; exact Blk.new V1 _ _
     have GZ : wr.heap.size ≤ bz := by rw [← hbz]; exact hS.size
     have hS0 := hS;have hS : Below wr.heap.size wr (V1.alloc (Obj.cells #[.string ⟨#[]⟩,.int .i64 0,.int .i64 0,.int .i64 0,.string ⟨#[]⟩] 56)) := hS0.trans (hbU.mono hS0.size);clear hS0 hbU;simp only [zsA,zsZ,zsS]
     try simp only [hbz]
     clear hbz;generalize (V1.alloc (Obj.cells #[.string ⟨#[]⟩,.int .i64 0,.int .i64 0,.int .i64 0,.string ⟨#[]⟩] 56)) = V2 at *;obtain ⟨k0,k1,k2,k3,k4⟩ := cl5 BZ;obtain ⟨z0,z1,z2,z3,z4⟩ := fz5 BZ;have hS9 : Below wr.heap.size wr (set5 V2 bz 0 (.string y1) (.int .i64 y2) (.int .i64 y3) (.int .i64 y4) (.string y5)) := hS.trans ((set5_kp V2 bz 0 (.string y1) (.int .i64 y2) (.int .i64 y3) (.int .i64 y4) (.string y5)).toBelow hS.size fun q e => by rw [e]; exact GZ);refine M_sT 11 (set5 V2 bz 0 (.string y1) (.int .i64 y2) (.int .i64 y3) (.int .i64 y4) (.string y5)) (bts 13 4095) rfl (by unfold set5; go_simp) hS9 ?_;clear k0 z0 k1 z1 k2 z2 k3 z3 k4 z4;have HFI : Hid (Blk (set5 V2 bz 0 (.string y1) (.int .i64 y2) (.int .i64 y3) (.int .i64 y4) (.string y5)) bz #[.string y1,.int .i64 y2,.int .i64 y3,.int .i64 y4,.string y5] 56 ∧ Below wr.heap.size wr (set5 V2 bz 0 (.string y1) (.int .i64 y2) (.int .i64 y3) (.int .i64 y4) (.string y5))) := ⟨BZ.set5,hS9⟩;clear hS BZ GZ;generalize (set5 V2 bz 0 (.string y1) (.int .i64 y2) (.int .i64 y3) (.int .i64 y4) (.string y5)) = W9 at *;refine M_rA 12 15 (.bool FB) W9 (bts 13 8191) rfl (by go_simp) ?_;simp only [zsA,zsZ,zsS];refine M_done (by kernel_rfl) ?_ _;go_wp2_with fail
     go_meet
     exact ⟨bz,rfl,rfl,HFI⟩
    ·skip
     have hbU : Below U0.heap.size U0 (U0.alloc (Obj.cells #[.string ⟨#[]⟩,.int .i64 0,.int .i64 0,.int .i64 0,.string ⟨#[]⟩] 56)) := bra _;obtain ⟨bz,hbz⟩ : ∃ z,U0.heap.size = z := ⟨_,rfl⟩
     have BZ : Blk (U0.alloc (Obj.cells #[.string ⟨#[]⟩,.int .i64 0,.int .i64 0,.int .i64 0,.string ⟨#[]⟩] 56)) bz #[.string ⟨#[]⟩,.int .i64 0,.int .i64 0,.int .i64 0,.string ⟨#[]⟩] 56 := by rw [← hbz]; exact Blk.new U0 _ _
     have GZ : wr.heap.size ≤ bz := by rw [← hbz]; exact hS.size
     have hS0 := hS;have hS : Below wr.heap.size wr (U0.alloc (Obj.cells #[.string ⟨#[]⟩,.int .i64 0,.int .i64 0,.int .i64 0,.string ⟨#[]⟩] 56)) := hS0.trans (hbU.mono hS0.size);clear hS0 hbU;simp only [zsA,zsZ,zsS]
     try simp only [hbz]
     clear hbz;generalize (U0.alloc (Obj.cells #[.string ⟨#[]⟩,.int .i64 0,.int .i64 0,.int .i64 0,.string ⟨#[]⟩] 56)) = V3 at *;refine M_cl 6 41 49 #[.agg #[.string mnm,.slice fa fl fc,.slice ra rl rc],.int .i64 rt] (bts 13 1151) rfl (fun W => by go_simp) ?_;refine (HFC.out _ hS).mono ?_;rintro ee V4 ⟨rfl,hbU⟩
     replace BZ := BZ.below hbU
     have hS0 := hS;have hS : Below wr.heap.size wr V4 := hS0.trans (hbU.mono hS0.size);clear hS0 hbU;refine ⟨_,rfl,hS,?_⟩;simp only [zsA,zsZ,zsS];refine M_tk 7 34 (.tuple #[.agg #[.string y1,.int .i64 y2,.int .i64 y3,.int .i64 y4,.string y5],.bool FB]) (fun w' hw' => ?_) hS (bts 13 1279) ?_
     ·go_simp
     refine M_tk 8 42 (.agg #[.string y1,.int .i64 y2,.int .i64 y3,.int .i64 y4,.string y5]) (fun w' hw' => ?_) hS (bts 13 1535) ?_
     ·go_simp
     refine M_tk 9 43 (.bool FB) (fun w' hw' => ?_) hS (bts 13 2047) ?_
     ·go_simp
     obtain ⟨k0,k1,k2,k3,k4⟩ := cl5 BZ;obtain ⟨z0,z1,z2,z3,z4⟩ := fz5 BZ;have hS9 : Below wr.heap.size wr (set5 V4 bz 0 (.string y1) (.int .i64 y2) (.int .i64 y3) (.int .i64 y4) (.string y5)) := hS.trans ((set5_kp V4 bz 0 (.string y1) (.int .i64 y2) (.int .i64 y3) (.int .i64 y4) (.string y5)).toBelow hS.size fun q e => by rw [e]; exact GZ);refine M_sT 11 (set5 V4 bz 0 (.string y1) (.int .i64 y2) (.int .i64 y3) (.int .i64 y4) (.string y5)) (bts 13 4095) rfl (by unfold set5; go_simp) hS9 ?_;clear k0 z0 k1 z1 k2 z2 k3 z3 k4 z4;have HFI : Hid (Blk (set5 V4 bz 0 (.string y1) (.int .i64 y2) (.int .i64 y3) (.int .i64 y4) (.string y5)) bz #[.string y1,.int .i64 y2,.int .i64 y3,.int .i64 y4,.string y5] 56 ∧ Below wr.heap.size wr (set5 V4 bz 0 (.string y1) (.int .i64 y2) (.int .i64 y3) (.int .i64 y4) (.string y5))) := ⟨BZ.set5,hS9⟩;clear hS BZ GZ;generalize (set5 V4 bz 0 (.string y1) (.int .i64 y2) (.int .i64 y3) (.int .i64 y4) (.string y5)) = W9 at *;refine M_rA 12 15 (.bool FB) W9 (bts 13 8191) rfl (by go_simp) ?_;simp only [zsA,zsZ,zsS];refine M_done (by kernel_rfl) ?_ _;go_wp2_with fail
     go_meet
     exact ⟨bz,rfl,rfl,HFI⟩
   case rest =>
    obtain ⟨b,rfl,rfl,HFB⟩ := hcut;generalize wc = wm at *;have hbc : Below wr.heap.size wr wm := HFB.out.2;have HDC : Hid (RdS (n + 1) (bt + 1) bt K ve vr rest wm) := (HDS.out.below hbc : RdS _ _ _ _ _ _ _ _);have HBC : Hid (Below wr.heap.size wr wm ∧ Below WA.heap.size WA wm ∧ Below bt w4 wm) := ⟨hbc,HWR.out.1.trans (hbc.mono HWR.out.1.size),HWR.out.2.trans (hbc.mono (Nat.le_of_lt HDS.out.size))⟩;have HNB : Hid (∀ W,Below wm.heap.size wm W → Below wr.heap.size wr W) := fun W hW => HBC.out.1.trans (hW.mono HBC.out.1.size)
    have HB1 : Hid (bt + 1 ≤ wm.heap.size) := HDC.out.size;clear hbc HFC HDS
    cases X with
    | none =>
     obtain ⟨hy,rfl⟩ := HXY.out;clear hy;have HON : Hid (oneR (decM n s) fs ⟨esK K,rest⟩ ⟨rt,rk,rn,rb⟩ = (⟨esK K,rest ++ [⟨rt,rk,rn,rb⟩]⟩,0)) := (by simp only [oneR,HXF.out] : _ = _);obtain ⟨xa,xc,hvx⟩ := own_form HDC.out.rr;obtain ⟨XN,hXN⟩ : ∃ z,rest.length = z := ⟨_,rfl⟩;rw [hXN] at hvx;subst hvx;simp only [Option.isSome_none]
     go_upto_region 10 with fail
     have HPU : Hid (∃ va vn vc W',(Builtin.append_ #[28,28] 28 #[.slice xa XN xc,.slice (some ⟨wm.heap.size,0,none⟩) 1 1]).run Tryz.prog (wm.drew.alloc (Obj.cells #[.int .i64 rt,.int .i64 rk,.int .i64 rn,.string rb] 79)) = .ok (.slice va vn vc) W' ∧ Kp (fun q => q ∈ blkOf (.slice xa XN xc)) wm W' ∧
       RdS (n + 1) (bt + 1) bt K ve (.slice va vn vc) (rest ++ [⟨rt,rk,rn,rb⟩]) (W'.setCell ⟨bt,4,none⟩ (.slice va vn vc)) ∧ Kp (fun q => bt ≤ q) wm (W'.setCell ⟨bt,4,none⟩ (.slice va vn vc))) := (by
      have al : Below wm.heap.size wm (wm.drew.alloc (Obj.cells #[.int .i64 rt,.int .i64 rk,.int .i64 rn,.string rb] 79)) := ((Below.refl _ _).drew).alloc (Nat.le_refl _) _;have hr6 := HR6.out;obtain ⟨v',W',r1,⟨a,c,rfl⟩,k1,h1,k2⟩ := (HDC.out.below al).pushRest (f := ⟨rt,rk,rn,rb⟩) (Nat.le_trans HB1.out al.size) ⟨hr6.1,by simp only; unfold Is64; rcases hr6.2.1 with h | h <;> omega,hr6.2.2.1,Nat.le_trans hr6.2.2.2 (by omega)⟩ (Blk.new wm.drew #[.int .i64 rt,.int .i64 rk,.int .i64 rn,.string rb] 79) (by have := HKN.out.2.1; omega);have kW : Kp (fun q => q ∈ blkOf (.slice xa XN xc)) wm W' := (Kp.ofBelow al).trans2 k1 (fun _ _ hi => hi);refine ⟨a,_,c,W',r1,kW,h1,(kW.weak fun q _ hq => ?_).trans2 (k2.weak (S' := fun q => bt ≤ q) fun q _ hq => by omega) fun _ _ hi => hi⟩;have := (own_lt HDC.out.rr (mem_blkOf.1 hq)).1
      omega : ∃ va vn vc W',_)
     obtain ⟨va,vn,vc,W',e1,e2,e3,e4⟩ := HPU.out;have HAP : Hid ((Builtin.append_ #[28,28] 28 #[.slice xa XN xc,.slice (some ⟨wm.heap.size,0,none⟩) 1 1]).run Tryz.prog (wm.drew.alloc (Obj.cells #[.int .i64 rt,.int .i64 rk,.int .i64 rn,.string rb] 79)) = .ok (.slice va vn vc) W') := e1;have HKW : Hid (Kp (fun q => q ∈ blkOf (.slice xa XN xc)) wm W') := e2;have HS5 : Hid (RdS (n + 1) (bt + 1) bt K ve (.slice va vn vc) (rest ++ [⟨rt,rk,rn,rb⟩]) (W'.setCell ⟨bt,4,none⟩ (.slice va vn vc)) ∧ Kp (fun q => bt ≤ q) wm (W'.setCell ⟨bt,4,none⟩ (.slice va vn vc))) := ⟨e3,e4⟩
     have HCE : Hid (∀ W,Kp (fun q => q ∈ blkOf (.slice xa XN xc)) wm W → W.cell? ⟨bt,4,none⟩ = some (.slice xa XN xc) ∧ W.frozen? ⟨bt,4,none⟩ = false ∧ W.cell? ⟨g,off + i * 4,none⟩ = some (.int .i64 rt) ∧ W.cell? ⟨g,off + i * 4 + 1,none⟩ = some (.int .i64 rk) ∧ W.cell? ⟨g,off + i * 4 + 2,none⟩ = some (.int .i64 rn) ∧ W.cell? ⟨g,off + i * 4 + 3,none⟩ = some (.string rb)) := fun W hW => by
      have n1 : bt ∉ blkOf (.slice xa XN xc) := fun e => by have := (own_lt HDC.out.rr (mem_blkOf.1 e)).1; omega
      have hc := (HCB.out wm HBC.out.1);have ht := HDC.out.tb.kp hW n1
      have ng : g ∉ blkOf (.slice xa XN xc) := fun e => by
       have h1 := (own_lt HDC.out.rr (mem_blkOf.1 e)).1;have h3 := HGL.out
       omega
      exact ⟨(ht.cell 4).trans rfl,ht.froz 4,hW.cell hc.2.2.1 ng,hW.cell hc.2.2.2.1 ng,hW.cell hc.2.2.2.2.1 ng,hW.cell hc.2.2.2.2.2 ng⟩
     clear HPU e1 e2 e3 e4;refine M_region (T := fun W => Kp (fun q => q ∈ blkOf (.slice xa XN xc)) wm W) (m := 9) (by kernel_rfl) ?_;have hS : Kp (fun q => q ∈ blkOf (.slice xa XN xc)) wm wm.drew := Kp.ofBelow (Below.refl _ _).drew;refine M_tk 0 46 (.pointer (some ⟨bt,4,none⟩)) (fun w' hw' => ?_) hS (bts 10 1) ?_
     ·go_simp
     refine M_tk 1 47 (.slice xa XN xc) (fun w' hw' => ?_) hS (bts 10 3) ?_
     ·obtain ⟨g4,gf,c0,c1,c2,c3⟩ := HCE.out _ hw'; clear gf; go_simp
     refine M_tk 2 48 (.slice (some ⟨g,off,none⟩) N lc) (fun w' hw' => ?_) hS (bts 10 7) ?_
     ·go_simp
     refine M_tk 3 49 (.int .i64 (i : Int)) (fun w' hw' => ?_) hS (bts 10 15) ?_
     ·go_simp
     refine M_tk 4 50 (.pointer (some ⟨g,off + i * 4,none⟩)) (fun w' hw' => ?_) hS (bts 10 31) ?_
     ·go_simp
     refine M_tk 5 51 (.agg #[.int .i64 rt,.int .i64 rk,.int .i64 rn,.string rb]) (fun w' hw' => ?_) hS (bts 10 63) ?_
     ·obtain ⟨g4,gf,c0,c1,c2,c3⟩ := HCE.out _ hw'; clear gf; go_simp
     refine M_rn 6 52 (.slice (some ⟨wm.heap.size,0,none⟩) 1 1) (wm.drew.alloc (Obj.cells #[.int .i64 rt,.int .i64 rk,.int .i64 rn,.string rb] 79)) (bts 10 127) rfl (by go_simp) (hS.alloc _) ?_;simp only [zsA,zsZ,zsS];refine M_rn 7 53 (.slice va vn vc) (W') (bts 10 255) rfl (append_run rfl rfl rfl HAP.out) HKW.out ?_;simp only [zsA,zsZ,zsS];refine M_rn 8 54 (.pointer (some ⟨bt,4,none⟩)) (W') (bts 10 511) rfl (by go_simp) HKW.out ?_;simp only [zsA,zsZ,zsS];obtain ⟨gg,hz, -⟩ := HCE.out W' HKW.out;refine M_st 9 (W'.setCell ⟨bt,4,none⟩ (.slice va vn vc)) (bts 10 1023) rfl (by go_simp) ?_;refine M_done (by kernel_rfl) ?_ _;clear hS HCE gg hz HAP HKW;generalize W'.setCell ⟨bt,4,none⟩ (.slice va vn vc) = W9 at *;have HRU9 : Hid (runR (decM n s) fs ⟨[],[]⟩ (LL.take (i + 1)) = (⟨esK K,rest ++ [⟨rt,rk,rn,rb⟩]⟩,0)) := (by rw [HNX.out.1,HON.out] : _ = _);have hb9 : Below bt w4 W9 := HBC.out.2.2.trans (HS5.out.2.toBelow (by have := HB1.out; omega) fun _ h => h);go_wp2_with fail
     go_roundw
     case rel => exact ⟨i + 1,K,_,_,_,by go_num,by omega,HRU9,HS5.out.1,hb9⟩
     case measure => simp [intOf]; omega
    | some f =>
     obtain ⟨hy,rfl⟩ := HXY.out;simp only [Option.getD_some] at hy;subst hy;simp only [Option.isSome_some];have HFD : Hid (fldOf fs rt = some ⟨y1,y2,y3,y4,y5⟩) := HXF.out;obtain ⟨RV,hRV⟩ : ∃ z,treeD (decM n s) ⟨y1,y2,y3,y4,y5⟩ ⟨rt,rk,rn,rb⟩ = z := ⟨_,rfl⟩;have HON : Hid (oneR (decM n s) fs ⟨esK K,rest⟩ ⟨rt,rk,rn,rb⟩ = if RV.2 ≠ 0 then (⟨esK K,rest⟩,RV.2) else if y3 = 3 ∧ (undE (esK K) y2).length = 64 then (⟨esK K,rest⟩,4) else (⟨setR ⟨y1,y2,y3,y4,y5⟩ RV.1 (esK K),rest⟩,0)) := (by simp only [oneR,HXF.out,hRV] : _ = _)
     have HVC : Hid (∀ W,Below wm.heap.size wm W → Calls Tryz.prog 62 #[.agg #[.string sn,.slice ma mn mc,.slice ea en ec,.slice ta tn tc],.agg #[.string y1,.int .i64 y2,.int .i64 y3,.int .i64 y4,.string y5],.agg #[.int .i64 rt,.int .i64 rk,.int .i64 rn,.string rb],.int .i64 (d : Int)] W (DtrP (n + 1) RV W)) := fun W hW => by
      have h1 := rvalue_step s sn ma ea ta mn mc en ec tn tc d n HD.out HI.out ⟨y1,y2,y3,y4,y5⟩ ⟨rt,rk,rn,rb⟩ W (HSC.out.below (HBW.out.trans ((HBC.out.2.1.trans (hW.mono HBC.out.2.1.size)).mono HBW.out.size))) HR6.out.2.2.1 HR6.out.2.2.2 HR6.out.2.1 (HFK.out _ _ HFD.out).1 (HFK.out _ _ HFD.out).2;rw [hRV] at h1;exact h1
     have BFC := HFB.out.1;have HBF : Hid (Blk wm b #[.string y1,.int .i64 y2,.int .i64 y3,.int .i64 y4,.string y5] 56) := HFB.out.1;clear hRV BFC HXF HXY HFB;obtain ⟨T,E⟩ := RV;simp only at HON;obtain ⟨tk,htk⟩ : ∃ z,T.kind = z := ⟨_,rfl⟩;obtain ⟨tn',htn⟩ : ∃ z,T.n = z := ⟨_,rfl⟩;obtain ⟨tS,htS⟩ : ∃ z,T.s = z := ⟨_,rfl⟩;have HTK : Hid (T.kind = tk ∧ T.n = tn' ∧ T.s = tS) := ⟨htk,htn,htS⟩;clear htk htn htS
     go_upto_region 11 with fail
     go_cut [16,17] from 56 to 65 (fun pv ev wx => ∃ (b2 : Nat) (a1 a2 : Option Addr) (n1 c1 n2 c2 : Nat) (bs : List Nat),pv = .pointer (some ⟨b2,0,none⟩) ∧ ev = .int .i64 E ∧ Hid (Blk wx b2 #[.int .i64 tk,.int .i64 tn',.string tS,.slice a1 n1 c1,.slice a2 n2 c2] 30 ∧ TrO (n + 1) wm.heap.size wx [.int .i64 tk,.int .i64 tn',.string tS,.slice a1 n1 c1,.slice a2 n2 c2] T bs ∧ Apt wm.heap.size wx bs ∧ Below wm.heap.size wm wx))
     case first =>
      refine M_region (T := fun W => Below wm.heap.size wm W) (m := 13) (by kernel_rfl) ?_;have hS : Below wm.heap.size wm wm.drew := (Below.refl _ _).drew;refine M_tk 0 56 (.agg #[.string sn,.slice ma mn mc,.slice ea en ec,.slice ta tn tc]) (fun w' hw' => ?_) hS (bts 14 1) ?_
      ·have HB := (HCB.out _ (HNB.out _ hw')).1; obtain ⟨f0,f1,f2,f3⟩ := cl4 HB; go_simp
      refine M_tk 1 57 (.agg #[.string y1,.int .i64 y2,.int .i64 y3,.int .i64 y4,.string y5]) (fun w' hw' => ?_) hS (bts 14 3) ?_
      ·have HB := HBF.out.below hw'; obtain ⟨f0,f1,f2,f3,f4⟩ := cl5 HB; go_simp
      refine M_tk 2 58 (.slice (some ⟨g,off,none⟩) N lc) (fun w' hw' => ?_) hS (bts 14 7) ?_
      ·go_simp
      refine M_tk 3 59 (.int .i64 (i : Int)) (fun w' hw' => ?_) hS (bts 14 15) ?_
      ·go_simp
      refine M_tk 4 60 (.pointer (some ⟨g,off + i * 4,none⟩)) (fun w' hw' => ?_) hS (bts 14 31) ?_
      ·go_simp
      refine M_tk 5 61 (.agg #[.int .i64 rt,.int .i64 rk,.int .i64 rn,.string rb]) (fun w' hw' => ?_) hS (bts 14 63) ?_
      ·obtain ⟨-, -,c0,c1,c2,c3⟩ := HCB.out _ (HNB.out _ hw'); go_simp
      refine M_tk 6 62 (.int .i64 (d : Int)) (fun w' hw' => ?_) hS (bts 14 127) ?_
      ·go_simp
      generalize wm.drew = U0 at *;refine M_fork 7 11 63 16 62 #[.agg #[.string sn,.slice ma mn mc,.slice ea en ec,.slice ta tn tc],.agg #[.string y1,.int .i64 y2,.int .i64 y3,.int .i64 y4,.string y5],.agg #[.int .i64 rt,.int .i64 rk,.int .i64 rn,.string rb],.int .i64 (d : Int)] (.pointer (some ⟨U0.heap.size,0,none⟩)) (U0.alloc (Obj.cells #[.int .i64 0,.int .i64 0,.string ⟨#[]⟩,.slice none 0 0,.slice none 0 0] 30)) rfl rfl rfl rfl (by kernel_rfl) (by rfl) (by rfl) (by go_simp) (by go_simp) ?_ (hS.trans ((bra _).mono hS.size)) ?_
      ·skip
       refine (HVC.out _ hS).mono ?_;rintro ee V1 ⟨r4,bs4,rfl,ht4,hap4,hbU⟩
       replace ht4 := ht4.base hS.size
       replace hap4 := hap4.base hS.size
       simp only at ht4;obtain ⟨a1,n1,c1,a2,n2,c2,hr4⟩ := ht4.open;rw [HTK.out.1,HTK.out.2.1,HTK.out.2.2] at hr4;subst hr4;have hS0 := hS;have hS : Below wm.heap.size wm V1 := hS0.trans (hbU.mono hS0.size);clear hS0 hbU;refine ⟨_,rfl,hS,?_⟩;simp only [zsA,zsZ,zsS];refine M_tk 8 55 (.tuple #[.agg #[.int .i64 tk,.int .i64 tn',.string tS,.slice a1 n1 c1,.slice a2 n2 c2],.int .i64 E]) (fun w' hw' => ?_) hS (bts 14 511) ?_
       ·go_simp
       refine M_tk 9 64 (.agg #[.int .i64 tk,.int .i64 tn',.string tS,.slice a1 n1 c1,.slice a2 n2 c2]) (fun w' hw' => ?_) hS (bts 14 1023) ?_
       ·go_simp
       refine M_tk 10 65 (.int .i64 E) (fun w' hw' => ?_) hS (bts 14 2047) ?_
       ·go_simp
       refine M_rn 11 16 (.pointer (some ⟨V1.heap.size,0,none⟩)) (V1.alloc (Obj.cells #[.int .i64 0,.int .i64 0,.string ⟨#[]⟩,.slice none 0 0,.slice none 0 0] 30)) (bts 14 4095) rfl (by go_simp) (hS.trans ((bra _).mono hS.size)) ?_;have hbU : Below V1.heap.size V1 (V1.alloc (Obj.cells #[.int .i64 0,.int .i64 0,.string ⟨#[]⟩,.slice none 0 0,.slice none 0 0] 30)) := bra _;obtain ⟨bz,hbz⟩ : ∃ z,V1.heap.size = z := ⟨_,rfl⟩
       have BZ : Blk (V1.alloc (Obj.cells #[.int .i64 0,.int .i64 0,.string ⟨#[]⟩,.slice none 0 0,.slice none 0 0] 30)) bz #[.int .i64 0,.int .i64 0,.string ⟨#[]⟩,.slice none 0 0,.slice none 0 0] 30 := by rw [← hbz]; exact Blk.new V1 _ _
       have GZ : wm.heap.size ≤ bz := by rw [← hbz]; exact hS.size
       have hS0 := hS;have hS : Below wm.heap.size wm (V1.alloc (Obj.cells #[.int .i64 0,.int .i64 0,.string ⟨#[]⟩,.slice none 0 0,.slice none 0 0] 30)) := hS0.trans (hbU.mono hS0.size)
       have hnz : bz ∉ bs4 := fun hc => by have h1 := (hap4.2 _ hc).2; rw [hbz] at h1; omega
       replace ht4 := ht4.sm (Sm.below hbU fun q hq => (hap4.2 q hq).2)
       replace hap4 := hap4.mono hbU.size
       clear hS0 hbU;simp only [zsA,zsZ,zsS]
       try simp only [hbz]
       clear hbz;generalize (V1.alloc (Obj.cells #[.int .i64 0,.int .i64 0,.string ⟨#[]⟩,.slice none 0 0,.slice none 0 0] 30)) = V2 at *;obtain ⟨k0,k1,k2,k3,k4⟩ := cl5 BZ;obtain ⟨z0,z1,z2,z3,z4⟩ := fz5 BZ;have hS9 : Below wm.heap.size wm (set5 V2 bz 0 (.int .i64 tk) (.int .i64 tn') (.string tS) (.slice a1 n1 c1) (.slice a2 n2 c2)) := hS.trans ((set5_kp V2 bz 0 (.int .i64 tk) (.int .i64 tn') (.string tS) (.slice a1 n1 c1) (.slice a2 n2 c2)).toBelow hS.size fun q e => by rw [e]; exact GZ);refine M_sT 12 (set5 V2 bz 0 (.int .i64 tk) (.int .i64 tn') (.string tS) (.slice a1 n1 c1) (.slice a2 n2 c2)) (bts 14 8191) rfl (by unfold set5; go_simp) hS9 ?_;clear k0 z0 k1 z1 k2 z2 k3 z3 k4 z4;have hk5 := set5_kp V2 bz 0 (.int .i64 tk) (.int .i64 tn') (.string tS) (.slice a1 n1 c1) (.slice a2 n2 c2);have HFI : Hid (Blk (set5 V2 bz 0 (.int .i64 tk) (.int .i64 tn') (.string tS) (.slice a1 n1 c1) (.slice a2 n2 c2)) bz #[.int .i64 tk,.int .i64 tn',.string tS,.slice a1 n1 c1,.slice a2 n2 c2] 30 ∧ TrO (n + 1) wm.heap.size (set5 V2 bz 0 (.int .i64 tk) (.int .i64 tn') (.string tS) (.slice a1 n1 c1) (.slice a2 n2 c2)) [.int .i64 tk,.int .i64 tn',.string tS,.slice a1 n1 c1,.slice a2 n2 c2] T bs4 ∧ Apt wm.heap.size (set5 V2 bz 0 (.int .i64 tk) (.int .i64 tn') (.string tS) (.slice a1 n1 c1) (.slice a2 n2 c2)) bs4 ∧ Below wm.heap.size wm (set5 V2 bz 0 (.int .i64 tk) (.int .i64 tn') (.string tS) (.slice a1 n1 c1) (.slice a2 n2 c2))) := ⟨BZ.set5,ht4.sm (hk5.sm fun k hk' => ⟨(hap4.2 k hk').2,fun e => hnz (e ▸ hk')⟩),hap4.mono hk5.size,hS9⟩;clear hk5;clear hS BZ GZ;generalize (set5 V2 bz 0 (.int .i64 tk) (.int .i64 tn') (.string tS) (.slice a1 n1 c1) (.slice a2 n2 c2)) = W9 at *;refine M_rA 13 17 (.int .i64 E) W9 (bts 14 16383) rfl (by go_simp) ?_;simp only [zsA,zsZ,zsS];refine M_done (by kernel_rfl) ?_ _;go_wp2_with fail
       go_meet
       exact ⟨bz,a1,a2,n1,c1,n2,c2,bs4,rfl,rfl,HFI⟩
      ·skip
       have hbU : Below U0.heap.size U0 (U0.alloc (Obj.cells #[.int .i64 0,.int .i64 0,.string ⟨#[]⟩,.slice none 0 0,.slice none 0 0] 30)) := bra _;obtain ⟨bz,hbz⟩ : ∃ z,U0.heap.size = z := ⟨_,rfl⟩
       have BZ : Blk (U0.alloc (Obj.cells #[.int .i64 0,.int .i64 0,.string ⟨#[]⟩,.slice none 0 0,.slice none 0 0] 30)) bz #[.int .i64 0,.int .i64 0,.string ⟨#[]⟩,.slice none 0 0,.slice none 0 0] 30 := by rw [← hbz]; exact Blk.new U0 _ _
       have GZ : wm.heap.size ≤ bz := by rw [← hbz]; exact hS.size
       have hS0 := hS;have hS : Below wm.heap.size wm (U0.alloc (Obj.cells #[.int .i64 0,.int .i64 0,.string ⟨#[]⟩,.slice none 0 0,.slice none 0 0] 30)) := hS0.trans (hbU.mono hS0.size);clear hS0 hbU;simp only [zsA,zsZ,zsS]
       try simp only [hbz]
       clear hbz;generalize (U0.alloc (Obj.cells #[.int .i64 0,.int .i64 0,.string ⟨#[]⟩,.slice none 0 0,.slice none 0 0] 30)) = V3 at *;refine M_cl 7 63 62 #[.agg #[.string sn,.slice ma mn mc,.slice ea en ec,.slice ta tn tc],.agg #[.string y1,.int .i64 y2,.int .i64 y3,.int .i64 y4,.string y5],.agg #[.int .i64 rt,.int .i64 rk,.int .i64 rn,.string rb],.int .i64 (d : Int)] (bts 14 2303) rfl (fun W => by go_simp) ?_;refine (HVC.out _ hS).mono ?_;rintro ee V4 ⟨r4,bs4,rfl,ht4,hap4,hbU⟩
       have hnz : bz ∉ bs4 := fun hc => by have h1 := (hap4.2 _ hc).1; have h2 := BZ.lt; omega
       replace BZ := BZ.below hbU
       replace ht4 := ht4.base hS.size
       replace hap4 := hap4.base hS.size
       simp only at ht4;obtain ⟨a1,n1,c1,a2,n2,c2,hr4⟩ := ht4.open;rw [HTK.out.1,HTK.out.2.1,HTK.out.2.2] at hr4;subst hr4;have hS0 := hS;have hS : Below wm.heap.size wm V4 := hS0.trans (hbU.mono hS0.size);clear hS0 hbU;refine ⟨_,rfl,hS,?_⟩;simp only [zsA,zsZ,zsS];refine M_tk 8 55 (.tuple #[.agg #[.int .i64 tk,.int .i64 tn',.string tS,.slice a1 n1 c1,.slice a2 n2 c2],.int .i64 E]) (fun w' hw' => ?_) hS (bts 14 2559) ?_
       ·go_simp
       refine M_tk 9 64 (.agg #[.int .i64 tk,.int .i64 tn',.string tS,.slice a1 n1 c1,.slice a2 n2 c2]) (fun w' hw' => ?_) hS (bts 14 3071) ?_
       ·go_simp
       refine M_tk 10 65 (.int .i64 E) (fun w' hw' => ?_) hS (bts 14 4095) ?_
       ·go_simp
       obtain ⟨k0,k1,k2,k3,k4⟩ := cl5 BZ;obtain ⟨z0,z1,z2,z3,z4⟩ := fz5 BZ;have hS9 : Below wm.heap.size wm (set5 V4 bz 0 (.int .i64 tk) (.int .i64 tn') (.string tS) (.slice a1 n1 c1) (.slice a2 n2 c2)) := hS.trans ((set5_kp V4 bz 0 (.int .i64 tk) (.int .i64 tn') (.string tS) (.slice a1 n1 c1) (.slice a2 n2 c2)).toBelow hS.size fun q e => by rw [e]; exact GZ);refine M_sT 12 (set5 V4 bz 0 (.int .i64 tk) (.int .i64 tn') (.string tS) (.slice a1 n1 c1) (.slice a2 n2 c2)) (bts 14 8191) rfl (by unfold set5; go_simp) hS9 ?_;clear k0 z0 k1 z1 k2 z2 k3 z3 k4 z4;have hk5 := set5_kp V4 bz 0 (.int .i64 tk) (.int .i64 tn') (.string tS) (.slice a1 n1 c1) (.slice a2 n2 c2);have HFI : Hid (Blk (set5 V4 bz 0 (.int .i64 tk) (.int .i64 tn') (.string tS) (.slice a1 n1 c1) (.slice a2 n2 c2)) bz #[.int .i64 tk,.int .i64 tn',.string tS,.slice a1 n1 c1,.slice a2 n2 c2] 30 ∧ TrO (n + 1) wm.heap.size (set5 V4 bz 0 (.int .i64 tk) (.int .i64 tn') (.string tS) (.slice a1 n1 c1) (.slice a2 n2 c2)) [.int .i64 tk,.int .i64 tn',.string tS,.slice a1 n1 c1,.slice a2 n2 c2] T bs4 ∧ Apt wm.heap.size (set5 V4 bz 0 (.int .i64 tk) (.int .i64 tn') (.string tS) (.slice a1 n1 c1) (.slice a2 n2 c2)) bs4 ∧ Below wm.heap.size wm (set5 V4 bz 0 (.int .i64 tk) (.int .i64 tn') (.string tS) (.slice a1 n1 c1) (.slice a2 n2 c2))) := ⟨BZ.set5,ht4.sm (hk5.sm fun k hk' => ⟨(hap4.2 k hk').2,fun e => hnz (e ▸ hk')⟩),hap4.mono hk5.size,hS9⟩;clear hk5;clear hS BZ GZ;generalize (set5 V4 bz 0 (.int .i64 tk) (.int .i64 tn') (.string tS) (.slice a1 n1 c1) (.slice a2 n2 c2)) = W9 at *;refine M_rA 13 17 (.int .i64 E) W9 (bts 14 16383) rfl (by go_simp) ?_;simp only [zsA,zsZ,zsS];refine M_done (by kernel_rfl) ?_ _;go_wp2_with fail
       go_meet
       exact ⟨bz,a1,a2,n1,c1,n2,c2,bs4,rfl,rfl,HFI⟩
     case rest =>
      obtain ⟨b2,a1,a2,n1,c1,n2,c2,bs,rfl,rfl,HRA⟩ := hcut;have hcx : Below wm.heap.size wm wc := HRA.out.2.2.2;generalize wc = wd at *;have hwd : Below WA.heap.size WA wd := HBC.out.2.1.trans (hcx.mono HBC.out.2.1.size);have HWD : Hid (Below WA.heap.size WA wd ∧ Below bt w4 wd) := ⟨hwd,HBC.out.2.2.trans (hcx.mono (by have := HB1.out; omega))⟩
      by_cases hE : E = 0
      rotate_left
      ·have hne : (E != 0) = true := by simpa using hE
       have HX1 : Hid (R = (tr0,E)) := (by
        have h1 := HON.out;rw [if_pos hE] at h1;have h2 := HNX.out.2 (by rw [h1]; exact hE);rw [HR4.out,h2,h1];simp only
        rw [if_pos hE] : R = _)
       clear hE HR4 HNX HON HVC;have BT5 := HBT.out.below hwd;obtain ⟨t0,t1,t2,t3,t4⟩ := cl5 BT5;obtain ⟨z0,z1,z2,z3,z4⟩ := fz5 BT5;have ltT := BT5.lt;clear BT5;clear hcx hwd;go_wp2_with fail;refine bodyPost_ret (results_two rfl _ _ _ ⟨b0 + 2,0,none⟩ (.agg #[.int .i64 0,.int .i64 0,.string ⟨#[]⟩,.slice none 0 0,.slice none 0 0]) (by go_simp) (by go_simp)) rfl ?_;exact ZFIN.out wd _ HWD.out.1 HX1.out
      subst hE;have HON2 : Hid (oneR (decM n s) fs ⟨esK K,rest⟩ ⟨rt,rk,rn,rb⟩ = if y3 = 3 ∧ (undE (esK K) y2).length = 64 then (⟨esK K,rest⟩,4) else (⟨setR ⟨y1,y2,y3,y4,y5⟩ T (esK K),rest⟩,0)) := (by have := HON.out; rwa [if_neg (by simp)] at this : _ = _);have HB1d : Hid (bt + 1 ≤ wd.heap.size) := hid (Nat.le_trans HB1.out hcx.size);obtain ⟨PB,hPB⟩ : ∃ z,(!(decide (y3 = 3) && decide ((undE (esK K) y2).length = 64))) = z := ⟨_,rfl⟩;have HPB : Hid ((!(decide (y3 = 3) && decide ((undE (esK K) y2).length = 64))) = PB) := hPB
      have HPC : Hid (Calls Tryz.prog 63 #[.pointer (some ⟨bt,0,none⟩),.agg #[.string y1,.int .i64 y2,.int .i64 y3,.int .i64 y4,.string y5],.agg #[.int .i64 tk,.int .i64 tn',.string tS,.slice a1 n1 c1,.slice a2 n2 c2]] wd (RputP (n + 1) (bt + 1) bt vr rest (setR ⟨y1,y2,y3,y4,y5⟩ T (esK K)) PB wd)) := (by
       rw [← hPB];have hd := HDC.out.below hcx;have hy2 : y2 = rt := fld_tagR HFD.out
       exact r12put_any hd (esK_ris.1 HRAN2.out) y1 y2 y3 y4 y5 (by rw [hy2]; exact HR6.out.1) (HRA.out.2.1.base HB1.out) (Apt.append HDC.out.ap (HRA.out.2.2.1) HB1.out (Nat.le_refl _) hcx.size) HB1d.out (fun k hk => (HKN.out.2.2 k hk).2.1) (by have := HKN.out.1; omega) : Calls Tryz.prog _ _ wd _)
      have BF := HBF.out.below hcx;obtain ⟨f0,f1,f2,f3,f4⟩ := cl5 BF;have BT2 := HRA.out.1;obtain ⟨u0,u1,u2,u3,u4⟩ := cl5 BT2;clear hPB BF BT2 HON HVC HBF;go_wp2_with fail;refine HPC.out.mono ?_;rintro e W9 ⟨rfl,hput,hk9⟩;have hb9 : Below bt w4 W9 := HWD.out.2.trans (hk9.toBelow (by have := HB1d.out; omega) fun q h => by omega)
      have hb9' : Below w4.heap.size w4 W9 := by rw [HBM.out]; exact hb9
      have hw9 : Below WA.heap.size WA W9 := HW4.out.trans (hb9'.mono HW4.out.size);have HW9 : Hid (Below WA.heap.size WA W9) := hw9;clear HPC f0 f1 f2 f3 f4 u0 u1 u2 u3 u4 hk9 hb9' hcx hwd
      cases PB with
      | false =>
       have HX1 : Hid (R = (tr0,4)) := (by
        have h1 := HON2.out;have h0 := HPB.out;simp only [Bool.not_eq_false',Bool.and_eq_true,decide_eq_true_eq] at h0;rw [if_pos h0] at h1;have h2 := HNX.out.2 (by rw [h1]; simp);rw [HR4.out,h2,h1]
        simp : R = _)
       clear HR4 HNX HON2 hput;have BT5 := HBT.out.below hw9;obtain ⟨t0,t1,t2,t3,t4⟩ := cl5 BT5;obtain ⟨z0,z1,z2,z3,z4⟩ := fz5 BT5;have ltT := BT5.lt;clear BT5;go_wp2_with fail;refine bodyPost_ret (results_two rfl _ _ _ ⟨b0 + 2,0,none⟩ (.agg #[.int .i64 0,.int .i64 0,.string ⟨#[]⟩,.slice none 0 0,.slice none 0 0]) (by go_simp) (by go_simp)) rfl ?_;exact ZFIN.out W9 _ HW9.out HX1.out
      | true =>
       obtain ⟨K',ve',hK',hD'⟩ := hput rfl
       have HRU9 : Hid (runR (decM n s) fs ⟨[],[]⟩ (LL.take (i + 1)) = (⟨esK K',rest⟩,0)) := (by
        have h1 := HON2.out;have h0 := HPB.out
        rw [if_neg (by
         intro h;rw [decide_eq_true h.1,decide_eq_true h.2] at h0
         exact absurd h0 (by decide))] at h1
        rw [HNX.out.1,h1,hK'] : _ = _)
       have HD9 : Hid (RdS (n + 1) (bt + 1) bt K' ve' vr rest W9) := hD';clear hput hK' hD' hw9;go_wp2_with fail
       go_roundw
       case rel => exact ⟨i + 1,K',ve',vr,rest,by go_num,by omega,HRU9,HD9,hb9⟩
       case measure => simp [intOf]; omega
  ·obtain rfl : i = N := by omega
   have e1 : LL.take i = LL := List.take_of_length_le (by rw [HN.out]; exact Nat.le_refl _);have hru := HRU.out;rw [e1] at hru
   have HX1 : Hid (R = (⟨3,0,⟨#[]⟩,setldR fs (esK K),sortF rest⟩,0)) := (by
    rw [HR4.out,hru]
    simp : R = _)
   obtain ⟨xa,xc,hvx, -,hxb,hxc1,hxc2,hxh⟩ := own_openR HDS.out.rr;obtain ⟨XN,hXN⟩ : ∃ z,rest.length = z := ⟨_,rfl⟩;have HXN : Hid (rest.length = XN) := hXN;rw [hXN] at hvx hxc1;subst hvx;obtain ⟨ea',ec',hve⟩ := own_form HDS.out.er;obtain ⟨KN,hKN⟩ : ∃ z,K.length = z := ⟨_,rfl⟩;rw [hKN] at hve;subst hve;have HSO : Hid (Calls Tryz.prog 64 #[.slice xa XN xc] wr fun e w' => ∃ v,e = .returned v ∧ w'.ownsRow wr.heap.size 79 4 v XN (rawCells (sortF rest)) ∧ Below wr.heap.size wr w') := rsorted_any xa rest XN xc wr hXN (by have := HKN.out.2.1; omega) (own_adrR hxb) hxc1 hxc2 hxh;have HF64 : Hid (Fd64 (sortF rest)) := fun f hf => HDS.out.r64 f ((sortF_perm rest).mem_iff.1 hf)
   have HSL : Hid ((sortF rest).length = XN) := hid (by rw [(sortF_perm rest).length_eq]; exact HXN.out);have q4 := (HDS.out.tb.cell 4).trans rfl;clear hxb hxc1 hxc2 hxh hXN hKN hru e1 HR4 HRU;go_wp2_with fail;refine HSO.out.mono ?_;rintro e W6 ⟨v6,rfl,ho6,hb6⟩;obtain ⟨sa,sc,rfl⟩ := own_form ho6;have hq6 := HDS.out.below hb6;have hb6r : Below wr.heap.size wr W6 := hb6;have hw6 : Below WA.heap.size WA W6 := hwr.trans (hb6.mono hwr.size);have q4 := (hq6.tb.cell 4).trans rfl;obtain ⟨p0,p1,p2,p3⟩ := cl4 hq6.tb;have q5 := hq6.tb.froz 4;have BM6 := HBS.out.2.below hw6;obtain ⟨m0,m1,m2⟩ := cl3 BM6
   have hbb : b0 + 2 < bt := by have := HBT.out.lt; have := HW4.out.size; have := HBM.out; omega
   have HR7 : Hid (RdS (n + 1) (bt + 1) bt K (.slice ea' KN ec') (.slice sa XN sc) (sortF rest) (W6.setCell ⟨bt,4,none⟩ (.slice sa XN sc)) ∧ Kp (fun q => q = bt) wr (W6.setCell ⟨bt,4,none⟩ (.slice sa XN sc))) := HDS.out.setRest HDS.out.size (by rw [HSL.out]; exact ho6) hb6 HF64.out;have hk7 := HR7.out.2;have hb7 : Below bt w4 (W6.setCell ⟨bt,4,none⟩ (.slice sa XN sc)) := hbr.trans (hk7.toBelow (by have := HDS.out.size; omega) fun q h => by omega)
   have hb7' : Below w4.heap.size w4 (W6.setCell ⟨bt,4,none⟩ (.slice sa XN sc)) := by rw [HBM.out]; exact hb7
   have hw7 : Below WA.heap.size WA (W6.setCell ⟨bt,4,none⟩ (.slice sa XN sc)) := HW4.out.trans (hb7'.mono HW4.out.size)
   have HSE : Hid (Calls Tryz.prog 65 #[.agg #[.string mnm,.slice fa fl fc,.slice ra rl rc],.agg #[.int .i64 3,.int .i64 0,.string ⟨#[]⟩,.slice ea' KN ec',.slice sa XN sc]] (W6.setCell ⟨bt,4,none⟩ (.slice sa XN sc)) fun e w' => ∃ v,e = .returned (.agg #[.int .i64 3,.int .i64 0,.string ⟨#[]⟩,v,.slice sa XN sc]) ∧ w'.ownsRow (W6.setCell ⟨bt,4,none⟩ (.slice sa XN sc)).heap.size 69 2 v (K.filter (keepK fs)).length (entCells (K.filter (keepK fs))) ∧ Below (W6.setCell ⟨bt,4,none⟩ (.slice sa XN sc)).heap.size (W6.setCell ⟨bt,4,none⟩ (.slice sa XN sc)) w') :=
    rsettled_any mnm fa ra fl fc rl rc fs (HRF.out.below (HBW.out.trans (hw7.mono HBW.out.size))) HR7.out.1.enk HR7.out.1.ap.left (fun k hk => ⟨(HKN.out.2.2 k hk).1,(HKN.out.2.2 k hk).2.2⟩) (by have := HKN.out.1; omega)
   have HW7 : Hid (Below WA.heap.size WA (W6.setCell ⟨bt,4,none⟩ (.slice sa XN sc)) ∧ Below bt w4 (W6.setCell ⟨bt,4,none⟩ (.slice sa XN sc))) := ⟨hw7,hb7⟩;clear HSO ho6 hb6 hb6r hq6 hk7 hb7 hb7' hw7 hw6 BM6;go_wp2_with fail;generalize (W6.setCell ⟨bt,4,none⟩ (.slice sa XN sc)) = W7 at *;refine HSE.out.mono ?_;rintro e W8 ⟨v8,rfl,ho8,hb8⟩;obtain ⟨za,zc,hv8⟩ := own_form ho8;generalize hzn : (K.filter (keepK fs)).length = zn at hv8;have hw8 : Below WA.heap.size WA W8 := HW7.out.1.trans (hb8.mono HW7.out.1.size)
   have HFI : Hid (DtrP (n + 2) R w (.returned (.tuple #[.agg #[.int .i64 3,.int .i64 0,.string ⟨#[]⟩,v8,.slice sa XN sc],.int .i64 0])) (set5 W8 (b0 + 2) 0 (.int .i64 3) (.int .i64 0) (.string ⟨#[]⟩) v8 (.slice sa XN sc))) := (by
    obtain ⟨bs,h1,h2⟩ := HR7.out.1.done HR7.out.1.size (keepK fs) ho8 hb8
    have hle : w.heap.size ≤ bt + 1 := by have := HW4.out.size; have := HBW.out.size; have := HBM.out; omega
    refine FIN.out W8 _ _ _ _ _ bs 0 hw8 ?_ (h2.base hle) (fun hc => ?_) (by rw [HX1.out])
    ·rw [HX1.out,← esK_keep];exact h1.base hle
    ·have := (h2.2 _ hc).1;have := HW4.out.size;have := HBM.out;have := HBT.out.lt
     omega : DtrP _ _ _ _ _)
   have HW8 : Hid (Below WA.heap.size WA W8) := hw8;subst hv8;clear m0 m1 m2 p0 p1 p2 p3 q4 q5 hbb HSE ho8 hb8 hzn;have BT5 := HBT.out.below hw8;obtain ⟨t0,t1,t2,t3,t4⟩ := cl5 BT5;obtain ⟨z0,z1,z2,z3,z4⟩ := fz5 BT5;have ltT := BT5.lt;clear BT5;clear hw8;go_wp2_with fail;refine bodyPost_ret (results_two rfl _ _ _ ⟨b0 + 2,0,none⟩ (.agg #[.int .i64 3,.int .i64 0,.string ⟨#[]⟩,.slice za zn zc,.slice sa XN sc]) (by go_simp) (by go_simp)) rfl ?_;exact HFI.out
theorem rmsg12_any (s : ScS) (sn : ByteArray) (ma ea ta : Option Addr) (mn mc en ec tn tc : Nat) (hok : OkS s) (hfl : ∀ m ∈ s.msgs,m.fields.length ≤ 20) : ∀ (n d : Nat) (hd : d + n = 10) (m : MsS) (vf vr v : Value) (ns : List Nat) (w : World) (hm : msgOf s m.name = some m) (hvf : RowG w vf 5 (flRows m.fields)) (hvr : RowG w vr 1 (inRows m.reserved)) (hv : ByS w v ns) (hs : ScIn w (.agg #[.string sn,.slice ma mn mc,.slice ea en ec,.slice ta tn tc]) s),
  Calls Tryz.prog 32 #[.agg #[.string sn,.slice ma mn mc,.slice ea en ec,.slice ta tn tc],.agg #[.string m.name,vf,vr],v,.int .i64 (d : Int)] w (DtrP (n + 2) (decM (n + 1) s m.name ns) w)
 | 0,d,hd,m,vf,vr,v,ns,w,hm,hvf,hvr,hv,hs => rmsg12_step s sn ma ea ta mn mc en ec tn tc hok hfl d 0 hd (fun h => absurd h (by omega)) m vf vr v ns w hm hvf hvr hv hs
 | n + 1,d,hd,m,vf,vr,v,ns,w,hm,hvf,hvr,hv,hs => rmsg12_step s sn ma ea ta mn mc en ec tn tc hok hfl d (n + 1) hd (fun _ m vf vr v ns w hm hvf hvr hv _ hs => by
   have h1 := rmsg12_any s sn ma ea ta mn mc en ec tn tc hok hfl n (d + 1) (by omega) m vf vr v ns w hm hvf hvr hv hs
   simpa using h1) m vf vr v ns w hm hvf hvr hv hs
end Go.Proofs.YtmgbhicogmclgaaGreat

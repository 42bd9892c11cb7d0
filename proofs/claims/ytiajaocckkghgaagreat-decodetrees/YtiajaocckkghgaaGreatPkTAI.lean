/- Part 9 of what the proof stands on. -/
import Derived.Test.YtiajaocckkghgaaGreatPkTAH
import Derived.Deep.Cut
import Derived.Deep.CutRange
namespace Go.Proofs.YtiajaocckkghgaaGreat
set_option maxHeartbeats 8000000
set_option linter.unusedVariables false
set_option linter.unusedSimpArgs false
set_option maxRecDepth 20000
section
open Go.ChangeShapes Go.WideShapes Go.ChangeAt Go.RowKit
theorem Blk.set5 {w : World} {b : Nat} {c0 c1 c2 c3 c4 x0 x1 x2 x3 x4 : Value} {t : TypeId} (h : Blk w b #[c0,c1,c2,c3,c4] t) : Blk (set5 w b 0 x0 x1 x2 x3 x4) b #[x0,x1,x2,x3,x4] t :=
 ((((h.set 0 x0 rfl).set 1 x1 rfl).set 2 x2 rfl).set 3 x3 rfl).set 4 x4 rfl
theorem below_kp2 {w a b : World} {S : Nat → Prop} (h : Below w.heap.size w a) (k : Kp S a b) (hs : ∀ q,S q → w.heap.size ≤ q) : Below w.heap.size w b := h.trans (k.toBelow h.size hs)
def keepK (fs : List FlS) (k : KE) : Bool := keepR fs (k.1,k.2.2.1)
theorem esK_keep (fs : List FlS) (K : List KE) : esK (K.filter (keepK fs)) = setldR fs (esK K) := by
 unfold esK setldR;rw [List.filter_map]
 rfl
structure EnK (n B : Nat) (K : List KE) (ve : Value) (w : World) : Prop where
 er : w.ownsRow B 80 2 ve K.length (entCells K)
 row : ∀ k ∈ K,∃ rows bss,RowO (TrO n B) B 33 5 w k.2.1 k.2.2.1 rows bss ∧ k.2.2.2 = allB k.2.1 bss
theorem EnK.below {n B : Nat} {K : List KE} {ve : Value} {w w' : World} (h : EnK n B K ve w) (ap : Apt B w (fpK K ++ blkOf ve)) (hb : Below w.heap.size w w') : EnK n B K ve w' := by
 have hs := Sm.below hb fun q hq => (ap.2 q hq).2
 refine ⟨own_sm h.er (hs.mono fun q hq => by simp [hq]),fun k hk => ?_⟩;obtain ⟨rows,bss,g1,g2⟩ := h.row k hk;exact ⟨rows,bss,g1.sm (hs.mono fun q hq => List.mem_append.2 (.inl (fpK_mem hk q (by rw [g2]; exact hq)))) fun _ _ _ hp hb => hp.sm hb,g2⟩
theorem EnK.at {n B N ec : Nat} {K : List KE} {ea : Option Addr} {w : World} (h : EnK n B K (.slice ea N ec) w) {i : Nat} {k : KE} (hk : K[i]? = some k) (hne : k.2.2.1 ≠ []) : ∃ g gt tc t l a1 n1 c1 a2 n2 c2,ea = some ⟨g,0,none⟩ ∧ k.2.1 = .slice (some ⟨gt,0,none⟩) k.2.2.1.length tc ∧ k.2.2.1 = t :: l ∧ n1 = t.es.length ∧ n2 = t.rest.length ∧ B ≤ g ∧ g < w.heap.size ∧
  w.cell? ⟨g,i * 2,none⟩ = some (.int .i64 k.1) ∧ w.cell? ⟨g,i * 2 + 1,none⟩ = some k.2.1 ∧ w.cell? ⟨gt,0,none⟩ = some (.int .i64 t.kind) ∧ w.cell? ⟨gt,1,none⟩ = some (.int .i64 t.n) ∧ w.cell? ⟨gt,2,none⟩ = some (.string t.s) ∧ w.cell? ⟨gt,3,none⟩ = some (.slice a1 n1 c1) ∧ w.cell? ⟨gt,4,none⟩ = some (.slice a2 n2 c2) := by
 have hg := (RowG.own (entC_two K) (by decide) h.er).1
 have hr : (K.map entC)[i]? = some (entC k) := by simp [hk]
 obtain ⟨g,off,e1,hc⟩ := hg.get hr;subst e1;obtain ⟨rows,bss,g1,g2⟩ := h.row k (List.mem_of_getElem? hk);obtain ⟨t,l,hts⟩ := List.exists_cons_of_ne_nil hne
 have h0 : k.2.2.1[0]? = some t := by rw [hts]; rfl
 obtain ⟨r0,b0,q1,q2,q3⟩ := g1.each 0 t h0;obtain ⟨a1,c1,a2,c2,hr0⟩ := q3.lens;subst hr0;have hg2 := (RowG.own g1.wide (by decide) g1.own).1
 rcases h.er.2 with ⟨e,_⟩ | ⟨g',cap,cur,e,h2,h3,_⟩
 ·cases e
 simp only [Value.slice.injEq,Option.some.injEq,Addr.mk.injEq,and_true] at e;obtain ⟨⟨rfl,rfl⟩, -, -⟩ := e
 rcases g1.own.2 with ⟨_,e0⟩ | ⟨gt,tc,cur2,e2,_⟩
 ·rw [hts] at e0; simp at e0
 rw [e2] at hg2;obtain ⟨g',off',e3,hd⟩ := hg2.get q1;simp only [Option.some.injEq,Addr.mk.injEq,and_true] at e3;obtain ⟨rfl,rfl⟩ := e3;have c0 := hc 0 _ rfl;have c1' := hc 1 _ rfl;have d0 := hd 0 _ rfl;have d1 := hd 1 _ rfl;have d2 := hd 2 _ rfl;have d3 := hd 3 _ rfl;have d4 := hd 4 _ rfl;simp only [Nat.zero_mul,Nat.zero_add,Nat.add_zero] at c0 c1' d0 d1 d2 d3 d4;exact ⟨g,gt,tc,t,l,a1,_,c1,a2,_,c2,rfl,e2,hts,rfl,rfl,h2,(Array.getElem?_eq_some_iff.1 h3).1,c0,c1',d0,d1,d2,d3,d4⟩
theorem keep_snoc {fs : List FlS} {K : List KE} {i : Nat} {k : KE} (hk : K[i]? = some k) : (K.take (i + 1)).filter (keepK fs) = (K.take i).filter (keepK fs) ++ if keepK fs k = true then [k] else [] := by
 obtain ⟨hi,rfl⟩ := List.getElem?_eq_some_iff.1 hk;rw [List.take_succ_eq_append_getElem hi,List.filter_append];simp only [List.filter_cons,List.filter_nil]
theorem rsettled_any {n B : Nat} {K : List KE} {ve : Value} {xa : Option Addr} {xn xc : Nat} {w : World} (mnm : ByteArray) (fa ra : Option Addr) (fl fc rl rc : Nat) (fs : List FlS) (hf : RowG w (.slice fa fl fc) 5 (flRows fs)) (h : EnK n B K ve w) (hap : Apt B w (fpK K ++ blkOf ve)) (hne : ∀ k ∈ K,k.2.2.1 ≠ [] ∧ (fldOf fs k.1).isSome = true) (hN : K.length ≤ 1000) :
  Calls Tryz.prog 67 #[.agg #[.string mnm,.slice fa fl fc,.slice ra rl rc],.agg #[.int .i64 3,.int .i64 0,.string ⟨#[]⟩,ve,.slice xa xn xc]] w fun e w' => ∃ v,e = .returned (.agg #[.int .i64 3,.int .i64 0,.string ⟨#[]⟩,v,.slice xa xn xc]) ∧ w'.ownsRow w.heap.size 80 2 v (K.filter (keepK fs)).length (entCells (K.filter (keepK fs))) ∧ Below w.heap.size w w' := by
 obtain ⟨i0,hi0,hz0,hz1,hz2⟩ := info_parts infoEt;obtain ⟨ea,ec,hve⟩ := own_form h.er;obtain ⟨N,hNN⟩ : ∃ N,K.length = N := ⟨_,rfl⟩;rw [hNN] at hve hN;subst hve;obtain ⟨BM,BT,BR,BX,hbw⟩ := dblk4 w #[.string mnm,.slice fa fl fc,.slice ra rl rc] #[.int .i64 3,.int .i64 0,.string ⟨#[]⟩,.slice ea N ec,.slice xa xn xc] #[.int .i64 0,.int .i64 0,.string ⟨#[]⟩,.slice none 0 0,.slice none 0 0] #[.int .i64 3,.int .i64 0,.string ⟨#[]⟩,.slice none 0 0,.slice xa xn xc] 50 33 33 33;have HNK : Hid (K.length = N) := hNN;have HH : Hid (EnK n B K (.slice ea N ec) w ∧ Apt B w (fpK K ++ blkOf (.slice ea N ec)) ∧ (∀ k ∈ K,k.2.2.1 ≠ [] ∧ (fldOf fs k.1).isSome = true)) := ⟨h,hap,hne⟩;have HRF : Hid (RowG w (.slice fa fl fc) 5 (flRows fs)) := hf;clear hf h hap hne hNN
 go_enter Tryz.func67,Tryz.ntmps67
 go_wp2_with fail;obtain ⟨b0,hb0⟩ : ∃ z,w.heap.size = z := ⟨_,rfl⟩;have HBZ : Hid (w.heap.size = b0) := hb0;generalize ((((w.alloc (Obj.cells #[.string mnm,.slice fa fl fc,.slice ra rl rc] 50)).alloc (Obj.cells #[.int .i64 3,.int .i64 0,.string ⟨#[]⟩,.slice ea N ec,.slice xa xn xc] 33)).alloc (Obj.cells #[.int .i64 0,.int .i64 0,.string ⟨#[]⟩,.slice none 0 0,.slice none 0 0] 33)).alloc (Obj.cells #[.int .i64 3,.int .i64 0,.string ⟨#[]⟩,.slice none 0 0,.slice xa xn xc] 33)) = WA at *;rw [hb0] at BM BT BR BX
 try simp only [hb0]
 clear hb0;have HBW : Hid (Below w.heap.size w WA) := hbw;have HB4 : Hid (Blk WA b0 #[.string mnm,.slice fa fl fc,.slice ra rl rc] 50 ∧ Blk WA (b0 + 1) #[.int .i64 3,.int .i64 0,.string ⟨#[]⟩,.slice ea N ec,.slice xa xn xc] 33 ∧ Blk WA (b0 + 2) #[.int .i64 0,.int .i64 0,.string ⟨#[]⟩,.slice none 0 0,.slice none 0 0] 33) := ⟨BM,BT,BR⟩;have HWZ : Hid (b0 + 3 < WA.heap.size) := BX.lt;have HBX : Hid (Blk WA (b0 + 3) #[.int .i64 3,.int .i64 0,.string ⟨#[]⟩,.slice none 0 0,.slice xa xn xc] 33) := BX;clear BM BT BR BX hbw
 go_loopw [6] (fun iv wr => ∃ (i : Nat) (v : Value),iv = .int .i64 (i : Int) ∧ i ≤ N ∧ Hid (Blk wr (b0 + 3) #[.int .i64 3,.int .i64 0,.string ⟨#[]⟩,v,.slice xa xn xc] 33) ∧ Hid (wr.ownsRow WA.heap.size 80 2 v ((K.take i).filter (keepK fs)).length (entCells ((K.take i).filter (keepK fs)))) ∧ Hid (Kp (fun q => q = b0 + 3) WA wr)) (fun iv _ => N - (intOf iv).toNat)
 case atStart => exact ⟨0,.slice none 0 0,rfl,by omega,HBX,(by rw [List.take_zero]; exact World.ownsRow_nil _ _ _ _ : World.ownsRow _ _ _ _ _ _ _),Kp.refl _ _⟩
 case round =>
  obtain ⟨i,v,rfl,hi,HX,HO,HK⟩ := hrel
  have HLE : Hid (((K.take i).filter (keepK fs)).length ≤ N) := hid (by
   have h1 := List.length_filter_le (keepK fs) (K.take i)
   have h2 : (K.take i).length ≤ K.length := by rw [List.length_take]; omega
   have := HNK.out
   omega)
  obtain ⟨va,vc,hv⟩ := own_form HO.out;obtain ⟨V,hV⟩ : ∃ z,((K.take i).filter (keepK fs)).length = z := ⟨_,rfl⟩;have HVL : Hid (((K.take i).filter (keepK fs)).length = V) := hV;rw [hV] at hv HO HLE;have hVN : V ≤ N := HLE.out;subst hv;clear hV HLE;have BM := HB4.out.1.kp HK.out (by omega);have BT := HB4.out.2.1.kp HK.out (by omega);have BR := HB4.out.2.2.kp HK.out (by omega);have HBM : Hid (Blk wr b0 #[.string mnm,.slice fa fl fc,.slice ra rl rc] 50 ∧ Blk wr (b0 + 1) #[.int .i64 3,.int .i64 0,.string ⟨#[]⟩,.slice ea N ec,.slice xa xn xc] 33 ∧ Blk wr (b0 + 2) #[.int .i64 0,.int .i64 0,.string ⟨#[]⟩,.slice none 0 0,.slice none 0 0] 33) := ⟨BM,BT,BR⟩;have t3 := (BT.cell 3).trans rfl
  by_cases hlt : i < N
  ·obtain ⟨k,hk⟩ : ∃ k,K[i]? = some k := ⟨_,List.getElem?_eq_getElem (by rw [HNK.out]; exact hlt)⟩;have HKM : Hid (K[i]? = some k) := hk;have hwb : Below w.heap.size w wr := (below_kp2 HBW.out HK.out (fun q e => by have := HBZ.out; omega));have HER : Hid (EnK n B K (.slice ea N ec) wr) := HH.out.1.below HH.out.2.1 hwb;obtain ⟨g,gt,tc,t,l,a1,n1,c1,a2,n2,c2,rfl,hkv,hts,hn1,hn2,hg1,hg2,p0,p1,d0,d1,d2,d3,d4⟩ := HER.out.at hk (HH.out.2.2 k (List.mem_of_getElem? hk)).1;obtain ⟨f,hff⟩ := Option.isSome_iff_exists.1 (HH.out.2.2 k (List.mem_of_getElem? hk)).2;rw [hkv] at p1;obtain ⟨kt,hkt⟩ : ∃ z,k.1 = z := ⟨_,rfl⟩;rw [hkt] at p0 hff;obtain ⟨kn,hkn⟩ : ∃ z,k.2.2.1.length = z := ⟨_,rfl⟩;rw [hkn] at p1
   have hkn0 : 0 < kn := by rw [← hkn,hts]; simp
   have HKE : Hid (k.1 = kt ∧ k.2.2.1 = t :: l ∧ k.2.1 = .slice (some ⟨gt,0,none⟩) kn tc) := ⟨hkt,hts,by rw [hkv,hkn]⟩
   have HKP : Hid (keepK fs k = !(decide (f.label = 1) && zroB t)) := hid (by
    unfold keepK keepR
    simp only [hkt,hff,hts,List.headD_cons])
   obtain ⟨y1,y2,y3,y4,y5⟩ := f;simp only at HKP
   have HFC : Hid (∀ W,Below wr.heap.size wr W → Calls Tryz.prog 63 #[.agg #[.string mnm,.slice fa fl fc,.slice ra rl rc],.int .i64 kt] W fun e w' => e = .returned (.tuple #[.agg #[.string y1,.int .i64 y2,.int .i64 y3,.int .i64 y4,.string y5],.bool true]) ∧ Below W.heap.size W w') := fun W hW => by
    have h1 := r7field_any (w := W) (snm := mnm) (nm := kt) (am := ra) (M := rl) (cm := rc) (HRF.out.below (hwb.trans (hW.mono hwb.size)));have h2 : (fs.find? fun m => decide (m.tag = kt)) = some ⟨y1,y2,y3,y4,y5⟩ := hff;rw [h2] at h1;exact h1
   have HZC : Hid (∀ W,Calls Tryz.prog 77 #[.agg #[.int .i64 t.kind,.int .i64 t.n,.string t.s,.slice a1 n1 c1,.slice a2 n2 c2]] W fun e w' => e = .returned (.bool (zroB t)) ∧ Below W.heap.size W w') := fun W => rzero_any t a1 a2 n1 c1 n2 c2 W hn1 hn2
   obtain ⟨zb,hzb⟩ : ∃ z,zroB t = z := ⟨_,rfl⟩;rw [hzb] at HZC HKP;obtain ⟨tk,htk⟩ : ∃ z,t.kind = z := ⟨_,rfl⟩;obtain ⟨tn,htn⟩ : ∃ z,t.n = z := ⟨_,rfl⟩;obtain ⟨tS,htS⟩ : ∃ z,t.s = z := ⟨_,rfl⟩;rw [htk,htn,htS] at HZC;rw [htk] at d0;rw [htn] at d1;rw [htS] at d2
   have HDC : Hid (∀ W,Below wr.heap.size wr W → W.cell? ⟨g,i * 2,none⟩ = some (.int .i64 kt) ∧ W.cell? ⟨g,i * 2 + 1,none⟩ = some (.slice (some ⟨gt,0,none⟩) kn tc) ∧ W.cell? ⟨gt,0,none⟩ = some (.int .i64 tk) ∧ W.cell? ⟨gt,1,none⟩ = some (.int .i64 tn) ∧ W.cell? ⟨gt,2,none⟩ = some (.string tS) ∧ W.cell? ⟨gt,3,none⟩ = some (.slice a1 n1 c1) ∧ W.cell? ⟨gt,4,none⟩ = some (.slice a2 n2 c2)) := fun W hW => by
    have cc : ∀ p u,wr.cell? p = some u → W.cell? p = some u := fun p u h => (hW.cell (World.block_lt_of_cell? _ _ h)).trans h
    exact ⟨cc _ _ p0,cc _ _ p1,cc _ _ d0,cc _ _ d1,cc _ _ d2,cc _ _ d3,cc _ _ d4⟩
   have HWB : Hid (Below w.heap.size w wr) := hwb
   have HGL : Hid (B ≤ g ∧ g < w.heap.size) := ⟨hg1,(by
    have := (HH.out.2.1.2 g (by simp [blkOf,Value.ownBlock])).2
    exact this)⟩
   clear hk hkv hts hff hkt hkn hn1 hn2 hzb htk htn htS hg1 hg2 hwb p0 p1 d0 d1 d2 d3 d4
   go_upto_region 5 with fail
   go_cut [7,8] from 20 to 29 (fun pv bv wx => ∃ b : Nat,pv = .pointer (some ⟨b,0,none⟩) ∧ bv = .bool true ∧ Hid (Blk wx b #[.string y1,.int .i64 y2,.int .i64 y3,.int .i64 y4,.string y5] 58 ∧ Below wr.heap.size wr wx))
   case first =>
    refine M_region (T := fun W => Below wr.heap.size wr W) (m := 13) (by kernel_rfl) ?_;have hS : Below wr.heap.size wr wr.drew := (Below.refl _ _).drew;refine M_tk 0 20 (.agg #[.string mnm,.slice fa fl fc,.slice ra rl rc]) (fun w' hw' => ?_) hS (bts 14 1) ?_
    ·obtain ⟨f0,f1,f2⟩ := cl3 (HBM.out.1.below hw'); go_simp
    refine M_tk 1 21 (.pointer (some ⟨b0 + 1,3,none⟩)) (fun w' hw' => ?_) hS (bts 14 3) ?_
    ·go_simp
    refine M_tk 2 22 (.slice (some ⟨g,0,none⟩) N ec) (fun w' hw' => ?_) hS (bts 14 7) ?_
    ·have f3 := ((HBM.out.2.1.below hw').cell 3).trans rfl; go_simp
    refine M_tk 3 23 (.int .i64 (i : Int)) (fun w' hw' => ?_) hS (bts 14 15) ?_
    ·go_simp
    refine M_tk 4 24 (.pointer (some ⟨g,i * 2,none⟩)) (fun w' hw' => ?_) hS (bts 14 31) ?_
    ·go_simp
    refine M_tk 5 25 (.pointer (some ⟨g,i * 2,none⟩)) (fun w' hw' => ?_) hS (bts 14 63) ?_
    ·go_simp
    refine M_tk 6 26 (.int .i64 kt) (fun w' hw' => ?_) hS (bts 14 127) ?_
    ·have f0 := (HDC.out _ hw').1; go_simp
    generalize wr.drew = U0 at *;refine M_fork 7 11 27 7 63 #[.agg #[.string mnm,.slice fa fl fc,.slice ra rl rc],.int .i64 kt] (.pointer (some ⟨U0.heap.size,0,none⟩)) (U0.alloc (Obj.cells #[.string ⟨#[]⟩,.int .i64 0,.int .i64 0,.int .i64 0,.string ⟨#[]⟩] 58)) rfl rfl rfl rfl (by kernel_rfl) (by rfl) (by rfl) (by go_simp) (by go_simp) ?_ (hS.trans ((bra _).mono hS.size)) ?_
    ·skip
     refine (HFC.out _ hS).mono ?_;rintro ee V1 ⟨rfl,hbU⟩;have hS0 := hS;have hS : Below wr.heap.size wr V1 := hS0.trans (hbU.mono hS0.size);clear hS0 hbU;refine ⟨_,rfl,hS,?_⟩;simp only [zsA,zsZ,zsS];refine M_tk 8 19 (.tuple #[.agg #[.string y1,.int .i64 y2,.int .i64 y3,.int .i64 y4,.string y5],.bool true]) (fun w' hw' => ?_) hS (bts 14 511) ?_
     ·go_simp
     refine M_tk 9 28 (.agg #[.string y1,.int .i64 y2,.int .i64 y3,.int .i64 y4,.string y5]) (fun w' hw' => ?_) hS (bts 14 1023) ?_
     ·go_simp
     refine M_tk 10 29 (.bool true) (fun w' hw' => ?_) hS (bts 14 2047) ?_
     ·go_simp
     refine M_rn 11 7 (.pointer (some ⟨V1.heap.size,0,none⟩)) (V1.alloc (Obj.cells #[.string ⟨#[]⟩,.int .i64 0,.int .i64 0,.int .i64 0,.string ⟨#[]⟩] 58)) (bts 14 4095) rfl (by go_simp) (hS.trans ((bra _).mono hS.size)) ?_;have hbU : Below V1.heap.size V1 (V1.alloc (Obj.cells #[.string ⟨#[]⟩,.int .i64 0,.int .i64 0,.int .i64 0,.string ⟨#[]⟩] 58)) := bra _;obtain ⟨bz,hbz⟩ : ∃ z,V1.heap.size = z := ⟨_,rfl⟩
     have BZ : Blk (V1.alloc (Obj.cells #[.string ⟨#[]⟩,.int .i64 0,.int .i64 0,.int .i64 0,.string ⟨#[]⟩] 58)) bz #[.string ⟨#[]⟩,.int .i64 0,.int .i64 0,.int .i64 0,.string ⟨#[]⟩] 58 := by rw [← hbz]; exact Blk.new V1 _ _
     have GZ : wr.heap.size ≤ bz := by rw [← hbz]; exact hS.size
     have hS0 := hS;have hS : Below wr.heap.size wr (V1.alloc (Obj.cells #[.string ⟨#[]⟩,.int .i64 0,.int .i64 0,.int .i64 0,.string ⟨#[]⟩] 58)) := hS0.trans (hbU.mono hS0.size);clear hS0 hbU;simp only [zsA,zsZ,zsS]
     try simp only [hbz]
     clear hbz;generalize (V1.alloc (Obj.cells #[.string ⟨#[]⟩,.int .i64 0,.int .i64 0,.int .i64 0,.string ⟨#[]⟩] 58)) = V2 at *;obtain ⟨k0,k1,k2,k3,k4⟩ := cl5 BZ;obtain ⟨z0,z1,z2,z3,z4⟩ := fz5 BZ;have hS9 : Below wr.heap.size wr (set5 V2 bz 0 (.string y1) (.int .i64 y2) (.int .i64 y3) (.int .i64 y4) (.string y5)) := hS.trans ((set5_kp V2 bz 0 (.string y1) (.int .i64 y2) (.int .i64 y3) (.int .i64 y4) (.string y5)).toBelow hS.size fun q e => by rw [e]; exact GZ);refine M_sT 12 (set5 V2 bz 0 (.string y1) (.int .i64 y2) (.int .i64 y3) (.int .i64 y4) (.string y5)) (bts 14 8191) rfl (by unfold set5; go_simp) hS9 ?_;clear k0 z0 k1 z1 k2 z2 k3 z3 k4 z4;have HFI : Hid (Blk (set5 V2 bz 0 (.string y1) (.int .i64 y2) (.int .i64 y3) (.int .i64 y4) (.string y5)) bz #[.string y1,.int .i64 y2,.int .i64 y3,.int .i64 y4,.string y5] 58 ∧ Below wr.heap.size wr (set5 V2 bz 0 (.string y1) (.int .i64 y2) (.int .i64 y3) (.int .i64 y4) (.string y5))) := ⟨BZ.set5,hS9⟩;clear hS BZ GZ;generalize (set5 V2 bz 0 (.string y1) (.int .i64 y2) (.int .i64 y3) (.int .i64 y4) (.string y5)) = W9 at *;refine M_rA 13 8 (.bool true) W9 (bts 14 16383) rfl (by go_simp) ?_;simp only [zsA,zsZ,zsS];refine M_done (by kernel_rfl) ?_ _;go_wp2_with fail
     go_meet
     exact ⟨bz,rfl,rfl,HFI⟩
    ·skip
     have hbU : Below U0.heap.size U0 (U0.alloc (Obj.cells #[.string ⟨#[]⟩,.int .i64 0,.int .i64 0,.int .i64 0,.string ⟨#[]⟩] 58)) := bra _;obtain ⟨bz,hbz⟩ : ∃ z,U0.heap.size = z := ⟨_,rfl⟩
     have BZ : Blk (U0.alloc (Obj.cells #[.string ⟨#[]⟩,.int .i64 0,.int .i64 0,.int .i64 0,.string ⟨#[]⟩] 58)) bz #[.string ⟨#[]⟩,.int .i64 0,.int .i64 0,.int .i64 0,.string ⟨#[]⟩] 58 := by rw [← hbz]; exact Blk.new U0 _ _
     have GZ : wr.heap.size ≤ bz := by rw [← hbz]; exact hS.size
     have hS0 := hS;have hS : Below wr.heap.size wr (U0.alloc (Obj.cells #[.string ⟨#[]⟩,.int .i64 0,.int .i64 0,.int .i64 0,.string ⟨#[]⟩] 58)) := hS0.trans (hbU.mono hS0.size);clear hS0 hbU;simp only [zsA,zsZ,zsS]
     try simp only [hbz]
     clear hbz;generalize (U0.alloc (Obj.cells #[.string ⟨#[]⟩,.int .i64 0,.int .i64 0,.int .i64 0,.string ⟨#[]⟩] 58)) = V3 at *;refine M_cl 7 27 63 #[.agg #[.string mnm,.slice fa fl fc,.slice ra rl rc],.int .i64 kt] (bts 14 2303) rfl (fun W => by go_simp) ?_;refine (HFC.out _ hS).mono ?_;rintro ee V4 ⟨rfl,hbU⟩
     replace BZ := BZ.below hbU
     have hS0 := hS;have hS : Below wr.heap.size wr V4 := hS0.trans (hbU.mono hS0.size);clear hS0 hbU;refine ⟨_,rfl,hS,?_⟩;simp only [zsA,zsZ,zsS];refine M_tk 8 19 (.tuple #[.agg #[.string y1,.int .i64 y2,.int .i64 y3,.int .i64 y4,.string y5],.bool true]) (fun w' hw' => ?_) hS (bts 14 2559) ?_
     ·go_simp
     refine M_tk 9 28 (.agg #[.string y1,.int .i64 y2,.int .i64 y3,.int .i64 y4,.string y5]) (fun w' hw' => ?_) hS (bts 14 3071) ?_
     ·go_simp
     refine M_tk 10 29 (.bool true) (fun w' hw' => ?_) hS (bts 14 4095) ?_
     ·go_simp
     obtain ⟨k0,k1,k2,k3,k4⟩ := cl5 BZ;obtain ⟨z0,z1,z2,z3,z4⟩ := fz5 BZ;have hS9 : Below wr.heap.size wr (set5 V4 bz 0 (.string y1) (.int .i64 y2) (.int .i64 y3) (.int .i64 y4) (.string y5)) := hS.trans ((set5_kp V4 bz 0 (.string y1) (.int .i64 y2) (.int .i64 y3) (.int .i64 y4) (.string y5)).toBelow hS.size fun q e => by rw [e]; exact GZ);refine M_sT 12 (set5 V4 bz 0 (.string y1) (.int .i64 y2) (.int .i64 y3) (.int .i64 y4) (.string y5)) (bts 14 8191) rfl (by unfold set5; go_simp) hS9 ?_;clear k0 z0 k1 z1 k2 z2 k3 z3 k4 z4;have HFI : Hid (Blk (set5 V4 bz 0 (.string y1) (.int .i64 y2) (.int .i64 y3) (.int .i64 y4) (.string y5)) bz #[.string y1,.int .i64 y2,.int .i64 y3,.int .i64 y4,.string y5] 58 ∧ Below wr.heap.size wr (set5 V4 bz 0 (.string y1) (.int .i64 y2) (.int .i64 y3) (.int .i64 y4) (.string y5))) := ⟨BZ.set5,hS9⟩;clear hS BZ GZ;generalize (set5 V4 bz 0 (.string y1) (.int .i64 y2) (.int .i64 y3) (.int .i64 y4) (.string y5)) = W9 at *;refine M_rA 13 8 (.bool true) W9 (bts 14 16383) rfl (by go_simp) ?_;simp only [zsA,zsZ,zsS];refine M_done (by kernel_rfl) ?_ _;go_wp2_with fail
     go_meet
     exact ⟨bz,rfl,rfl,HFI⟩
   case rest =>
    obtain ⟨b,rfl,rfl,HFB⟩ := hcut;have hbc : Below wr.heap.size wr wc := HFB.out.2;have HBC : Hid (Below wr.heap.size wr wc) := hbc;have BF := HFB.out.1;have f2 := (BF.cell 2).trans rfl;have BT2 := HBM.out.2.1.below hbc;have t3 := (BT2.cell 3).trans rfl;clear t3;have t3 := (BT2.cell 3).trans rfl;obtain ⟨p0,p1,d0,d1,d2,d3,d4⟩ := HDC.out wc hbc;clear BF BT2 hbc;have HNX : Hid (∀ W,Below wc.heap.size wc W → Below wr.heap.size wr W) := fun W hW => HBC.out.trans (hW.mono HBC.out.size)
    by_cases hy3 : y3 = 1
    rotate_left
    ·have dy : (y3 != 1) = true := by simpa using hy3
     have HKT : Hid (keepK fs k = true) := hid (by rw [HKP.out]; simp [hy3]);clear hy3;go_wp2_with fail;have HK2 : Hid (keepK fs k = true) := HKT;have HBE : Hid (Below wr.heap.size wr wc) := HBC.out;clear f2 t3 p0 p1 d0 d1 d2 d3 d4
     go_upto_region 7 with fail
     have HOE : Hid (wc.ownsRow WA.heap.size 80 2 (.slice va V vc) V (entCells ((K.take i).filter (keepK fs)))) := own_below HO.out HBE.out
     have HAPX : Hid (∃ a c W',(Builtin.append_ #[30,30] 30 #[.slice va V vc,.slice (some ⟨wc.heap.size,0,none⟩) 1 1]).run Tryz.prog (wc.drew.alloc (Obj.cells #[.int .i64 kt,.slice (some ⟨gt,0,none⟩) kn tc] 80)) = .ok (.slice a (V + 1) c) W' ∧ W'.ownsRow WA.heap.size 80 2 (.slice a (V + 1) c) (V + 1) (entCells ((K.take i).filter (keepK fs)) ++ [.int .i64 kt,.slice (some ⟨gt,0,none⟩) kn tc]) ∧ Kp (fun q => q ∈ blkOf (.slice va V vc)) wc W') := (by
      have al : Below wc.heap.size wc (wc.drew.alloc (Obj.cells #[.int .i64 kt,.slice (some ⟨gt,0,none⟩) kn tc] 80)) := ((Below.refl _ _).drew).alloc (Nat.le_refl _) _;have hz : WA.heap.size ≤ wc.heap.size := Nat.le_trans HK.out.size HBE.out.size;have BZ : Blk (wc.drew.alloc (Obj.cells #[.int .i64 kt,.slice (some ⟨gt,0,none⟩) kn tc] 80)) wc.heap.size #[.int .i64 kt,.slice (some ⟨gt,0,none⟩) kn tc] 80 := Blk.new wc.drew _ _
      obtain ⟨v',W',r1,r2,r3,_,r5⟩ := run_append_own_at (wc.drew.alloc (Obj.cells #[.int .i64 kt,.slice (some ⟨gt,0,none⟩) kn tc] 80)) WA.heap.size 30 30 80 i0 _ 2 _ Tryz.underlying30 hi0 hz0 hz1 hz2 rfl (by decide) (.slice va V vc) V _ (own_below HOE.out al) ⟨wc.heap.size,0,none⟩ 1 1 [.int .i64 kt,.slice (some ⟨gt,0,none⟩) kn tc] rfl (fun j u hu => by
       have := BZ.cell j;rw [Addr.add_lit,Nat.zero_add,this]
       simpa using hu) (fun u hu => by
        simp only [List.mem_cons,List.not_mem_nil,or_false] at hu
        rcases hu with rfl | rfl <;> rfl) (by unfold maxLen; omega) (by omega) (Nat.le_trans hz al.size)
      obtain ⟨a,c,rfl⟩ := own_form r2
      exact ⟨a,c,W',r1,r2,(Kp.ofBelow al).trans2 ((Kp.refl _ _).grown r3 (fun k hk _ => mem_blkOf.2 hk)) (fun _ _ hi => hi)⟩ : ∃ a c W',_)
     obtain ⟨a9,c9,W',e1,e2,e3⟩ := HAPX.out;have HAP : Hid ((Builtin.append_ #[30,30] 30 #[.slice va V vc,.slice (some ⟨wc.heap.size,0,none⟩) 1 1]).run Tryz.prog (wc.drew.alloc (Obj.cells #[.int .i64 kt,.slice (some ⟨gt,0,none⟩) kn tc] 80)) = .ok (.slice a9 (V + 1) c9) W') := e1;have HKW : Hid (Kp (fun q => q ∈ blkOf (.slice va V vc)) wc W') := e3;have HVB : Hid (∀ q ∈ blkOf (.slice va V vc),WA.heap.size ≤ q) := fun q hq => (own_lt HOE.out (mem_blkOf.1 hq)).1
     have HCE : Hid (∀ W,Kp (fun q => q ∈ blkOf (.slice va V vc)) wc W → Blk W (b0 + 3) #[.int .i64 3,.int .i64 0,.string ⟨#[]⟩,.slice va V vc,.slice xa xn xc] 33 ∧ Blk W (b0 + 1) #[.int .i64 3,.int .i64 0,.string ⟨#[]⟩,.slice (some ⟨g,0,none⟩) N ec,.slice xa xn xc] 33 ∧ W.cell? ⟨g,i * 2,none⟩ = some (.int .i64 kt) ∧ W.cell? ⟨g,i * 2 + 1,none⟩ = some (.slice (some ⟨gt,0,none⟩) kn tc)) := fun W hW => by
      have n3 : b0 + 3 ∉ blkOf (.slice va V vc) := fun e => by have := HVB.out _ e; have := HWZ.out; omega
      have n1 : b0 + 1 ∉ blkOf (.slice va V vc) := fun e => by have := HVB.out _ e; have := HWZ.out; omega
      have ng : g ∉ blkOf (.slice va V vc) := fun e => by have := HVB.out _ e; have := HGL.out.2; have := HBW.out.size; omega
      obtain ⟨c0,c1, -⟩ := HDC.out _ HBE.out;exact ⟨(HX.out.below HBE.out).kp hW n3,(HBM.out.2.1.below HBE.out).kp hW n1,hW.cell c0 ng,hW.cell c1 ng⟩
     have HFI : Hid (Blk (W'.setCell ⟨b0 + 3,3,none⟩ (.slice a9 (V + 1) c9)) (b0 + 3) #[.int .i64 3,.int .i64 0,.string ⟨#[]⟩,.slice a9 (V + 1) c9,.slice xa xn xc] 33 ∧ (W'.setCell ⟨b0 + 3,3,none⟩ (.slice a9 (V + 1) c9)).ownsRow WA.heap.size 80 2 (.slice a9 (V + 1) c9) ((K.take (i + 1)).filter (keepK fs)).length (entCells ((K.take (i + 1)).filter (keepK fs))) ∧ Kp (fun q => q = b0 + 3) WA (W'.setCell ⟨b0 + 3,3,none⟩ (.slice a9 (V + 1) c9))) := (by
      refine ⟨(HCE.out _ HKW.out).1.set 3 _ rfl,?_,?_⟩
      ·have h1 := ownsRow_setCell_below (a := ⟨b0 + 3,3,none⟩) e2 HWZ.out (.slice a9 (V + 1) c9);rw [keep_snoc HKM.out,if_pos HK2.out,List.length_append,HVL.out,entCells_app]
       have h2 : entCells [k] = [.int .i64 kt,.slice (some ⟨gt,0,none⟩) kn tc] := by
        simp only [entCells,entC,List.map_cons,List.map_nil,List.flatten_cons,List.flatten_nil,List.append_nil,HKE.out.1,HKE.out.2.2]
       rw [h2];exact h1
      ·have k1 : Kp (fun q => q = b0 + 3) WA wc := HK.out.trans2 (Kp.ofBelow (S := fun _ => False) HBE.out) (fun _ _ e => e.elim);have k2 : Kp (fun q => q = b0 + 3) WA W' := k1.trans2 HKW.out (fun q hq e => absurd (HVB.out q e) (by omega))
       exact k2.setCell (fun _ => rfl) _ : _ ∧ _)
     clear e1 e2 e3 HAPX HOE HO HX HFC HZC;refine M_region (T := fun W => Kp (fun q => q ∈ blkOf (.slice va V vc)) wc W) (m := 10) (by kernel_rfl) ?_;have hS : Kp (fun q => q ∈ blkOf (.slice va V vc)) wc wc.drew := Kp.ofBelow (Below.refl _ _).drew;refine M_tk 0 45 (.pointer (some ⟨b0 + 3,3,none⟩)) (fun w' hw' => ?_) hS (bts 11 1) ?_
     ·go_simp
     refine M_tk 1 46 (.slice va V vc) (fun w' hw' => ?_) hS (bts 11 3) ?_
     ·have f3 := ((HCE.out _ hw').1.cell 3).trans rfl; go_simp
     refine M_tk 2 47 (.pointer (some ⟨b0 + 1,3,none⟩)) (fun w' hw' => ?_) hS (bts 11 7) ?_
     ·go_simp
     refine M_tk 3 48 (.slice (some ⟨g,0,none⟩) N ec) (fun w' hw' => ?_) hS (bts 11 15) ?_
     ·have f3 := ((HCE.out _ hw').2.1.cell 3).trans rfl; go_simp
     refine M_tk 4 49 (.int .i64 (i : Int)) (fun w' hw' => ?_) hS (bts 11 31) ?_
     ·go_simp
     refine M_tk 5 50 (.pointer (some ⟨g,i * 2,none⟩)) (fun w' hw' => ?_) hS (bts 11 63) ?_
     ·go_simp
     refine M_tk 6 51 (.agg #[.int .i64 kt,.slice (some ⟨gt,0,none⟩) kn tc]) (fun w' hw' => ?_) hS (bts 11 127) ?_
     ·obtain ⟨-, -,c0,c1⟩ := HCE.out _ hw'; go_simp
     refine M_rn 7 52 (.slice (some ⟨wc.heap.size,0,none⟩) 1 1) (wc.drew.alloc (Obj.cells #[.int .i64 kt,.slice (some ⟨gt,0,none⟩) kn tc] 80)) (bts 11 255) rfl (by go_simp) (hS.alloc _) ?_;simp only [zsA,zsZ,zsS];refine M_rn 8 53 (.slice a9 (V + 1) c9) (W') (bts 11 511) rfl (append_run rfl rfl rfl HAP.out) HKW.out ?_;simp only [zsA,zsZ,zsS];refine M_rn 9 54 (.pointer (some ⟨b0 + 3,3,none⟩)) (W') (bts 11 1023) rfl (by go_simp) HKW.out ?_;simp only [zsA,zsZ,zsS];have hz := (HCE.out _ HKW.out).1.froz 3;have hz3 := ((HCE.out _ HKW.out).1.cell 3).trans rfl;refine M_st 10 (W'.setCell ⟨b0 + 3,3,none⟩ (.slice a9 (V + 1) c9)) (bts 11 2047) rfl (by go_simp) ?_;refine M_done (by kernel_rfl) ?_ _;clear hS HCE hz hz3 HAP HKW;generalize W'.setCell ⟨b0 + 3,3,none⟩ (.slice a9 (V + 1) c9) = W9 at *;go_wp2_with fail
     go_roundw
     case rel => exact ⟨i + 1,_,by go_num,by omega,HFI.out.1,HFI.out.2.1,HFI.out.2.2⟩
     case measure => simp [intOf]; omega
    subst hy3;go_wp2_with fail;refine (HZC.out _).mono ?_;rintro e we ⟨rfl,hbe⟩;have hbw2 : Below wr.heap.size wr we := HBC.out.trans (hbe.mono HBC.out.size)
    cases zb with
    | true =>
     have HKT : Hid (keepK fs k = false) := hid (by rw [HKP.out]; rfl)
     have HFI : Hid (Blk we (b0 + 3) #[.int .i64 3,.int .i64 0,.string ⟨#[]⟩,.slice va V vc,.slice xa xn xc] 33 ∧ we.ownsRow WA.heap.size 80 2 (.slice va V vc) ((K.take (i + 1)).filter (keepK fs)).length (entCells ((K.take (i + 1)).filter (keepK fs))) ∧ Kp (fun q => q = b0 + 3) WA we) := (by
      refine ⟨HX.out.below hbw2,?_,HK.out.trans2 (Kp.ofBelow (S := fun _ => False) hbw2) (fun _ _ e => e.elim)⟩;rw [keep_snoc HKM.out,if_neg (by rw [HKT.out]; simp),List.append_nil,HVL.out]
      exact own_below HO.out hbw2 : _ ∧ _)
     clear f2 t3 p0 p1 d0 d1 d2 d3 d4;go_wp2_with fail
     go_roundw
     case rel => exact ⟨i + 1,_,by go_num,by omega,HFI.out.1,HFI.out.2.1,HFI.out.2.2⟩
     case measure => simp [intOf]; omega
    | false =>
     have HKT : Hid (keepK fs k = true) := hid (by rw [HKP.out]; rfl);clear f2 t3 p0 p1 d0 d1 d2 d3 d4;go_wp2_with fail;have HK2 : Hid (keepK fs k = true) := HKT;have HBE : Hid (Below wr.heap.size wr we) := hbw2
     skip
     go_upto_region 7 with fail
     have HOE : Hid (we.ownsRow WA.heap.size 80 2 (.slice va V vc) V (entCells ((K.take i).filter (keepK fs)))) := own_below HO.out HBE.out
     have HAPX : Hid (∃ a c W',(Builtin.append_ #[30,30] 30 #[.slice va V vc,.slice (some ⟨we.heap.size,0,none⟩) 1 1]).run Tryz.prog (we.drew.alloc (Obj.cells #[.int .i64 kt,.slice (some ⟨gt,0,none⟩) kn tc] 80)) = .ok (.slice a (V + 1) c) W' ∧ W'.ownsRow WA.heap.size 80 2 (.slice a (V + 1) c) (V + 1) (entCells ((K.take i).filter (keepK fs)) ++ [.int .i64 kt,.slice (some ⟨gt,0,none⟩) kn tc]) ∧ Kp (fun q => q ∈ blkOf (.slice va V vc)) we W') := (by
      have al : Below we.heap.size we (we.drew.alloc (Obj.cells #[.int .i64 kt,.slice (some ⟨gt,0,none⟩) kn tc] 80)) := ((Below.refl _ _).drew).alloc (Nat.le_refl _) _;have hz : WA.heap.size ≤ we.heap.size := Nat.le_trans HK.out.size HBE.out.size;have BZ : Blk (we.drew.alloc (Obj.cells #[.int .i64 kt,.slice (some ⟨gt,0,none⟩) kn tc] 80)) we.heap.size #[.int .i64 kt,.slice (some ⟨gt,0,none⟩) kn tc] 80 := Blk.new we.drew _ _
      obtain ⟨v',W',r1,r2,r3,_,r5⟩ := run_append_own_at (we.drew.alloc (Obj.cells #[.int .i64 kt,.slice (some ⟨gt,0,none⟩) kn tc] 80)) WA.heap.size 30 30 80 i0 _ 2 _ Tryz.underlying30 hi0 hz0 hz1 hz2 rfl (by decide) (.slice va V vc) V _ (own_below HOE.out al) ⟨we.heap.size,0,none⟩ 1 1 [.int .i64 kt,.slice (some ⟨gt,0,none⟩) kn tc] rfl (fun j u hu => by
       have := BZ.cell j;rw [Addr.add_lit,Nat.zero_add,this]
       simpa using hu) (fun u hu => by
        simp only [List.mem_cons,List.not_mem_nil,or_false] at hu
        rcases hu with rfl | rfl <;> rfl) (by unfold maxLen; omega) (by omega) (Nat.le_trans hz al.size)
      obtain ⟨a,c,rfl⟩ := own_form r2
      exact ⟨a,c,W',r1,r2,(Kp.ofBelow al).trans2 ((Kp.refl _ _).grown r3 (fun k hk _ => mem_blkOf.2 hk)) (fun _ _ hi => hi)⟩ : ∃ a c W',_)
     obtain ⟨a9,c9,W',e1,e2,e3⟩ := HAPX.out;have HAP : Hid ((Builtin.append_ #[30,30] 30 #[.slice va V vc,.slice (some ⟨we.heap.size,0,none⟩) 1 1]).run Tryz.prog (we.drew.alloc (Obj.cells #[.int .i64 kt,.slice (some ⟨gt,0,none⟩) kn tc] 80)) = .ok (.slice a9 (V + 1) c9) W') := e1;have HKW : Hid (Kp (fun q => q ∈ blkOf (.slice va V vc)) we W') := e3;have HVB : Hid (∀ q ∈ blkOf (.slice va V vc),WA.heap.size ≤ q) := fun q hq => (own_lt HOE.out (mem_blkOf.1 hq)).1
     have HCE : Hid (∀ W,Kp (fun q => q ∈ blkOf (.slice va V vc)) we W → Blk W (b0 + 3) #[.int .i64 3,.int .i64 0,.string ⟨#[]⟩,.slice va V vc,.slice xa xn xc] 33 ∧ Blk W (b0 + 1) #[.int .i64 3,.int .i64 0,.string ⟨#[]⟩,.slice (some ⟨g,0,none⟩) N ec,.slice xa xn xc] 33 ∧ W.cell? ⟨g,i * 2,none⟩ = some (.int .i64 kt) ∧ W.cell? ⟨g,i * 2 + 1,none⟩ = some (.slice (some ⟨gt,0,none⟩) kn tc)) := fun W hW => by
      have n3 : b0 + 3 ∉ blkOf (.slice va V vc) := fun e => by have := HVB.out _ e; have := HWZ.out; omega
      have n1 : b0 + 1 ∉ blkOf (.slice va V vc) := fun e => by have := HVB.out _ e; have := HWZ.out; omega
      have ng : g ∉ blkOf (.slice va V vc) := fun e => by have := HVB.out _ e; have := HGL.out.2; have := HBW.out.size; omega
      obtain ⟨c0,c1, -⟩ := HDC.out _ HBE.out;exact ⟨(HX.out.below HBE.out).kp hW n3,(HBM.out.2.1.below HBE.out).kp hW n1,hW.cell c0 ng,hW.cell c1 ng⟩
     have HFI : Hid (Blk (W'.setCell ⟨b0 + 3,3,none⟩ (.slice a9 (V + 1) c9)) (b0 + 3) #[.int .i64 3,.int .i64 0,.string ⟨#[]⟩,.slice a9 (V + 1) c9,.slice xa xn xc] 33 ∧ (W'.setCell ⟨b0 + 3,3,none⟩ (.slice a9 (V + 1) c9)).ownsRow WA.heap.size 80 2 (.slice a9 (V + 1) c9) ((K.take (i + 1)).filter (keepK fs)).length (entCells ((K.take (i + 1)).filter (keepK fs))) ∧ Kp (fun q => q = b0 + 3) WA (W'.setCell ⟨b0 + 3,3,none⟩ (.slice a9 (V + 1) c9))) := (by
      refine ⟨(HCE.out _ HKW.out).1.set 3 _ rfl,?_,?_⟩
      ·have h1 := ownsRow_setCell_below (a := ⟨b0 + 3,3,none⟩) e2 HWZ.out (.slice a9 (V + 1) c9);rw [keep_snoc HKM.out,if_pos HK2.out,List.length_append,HVL.out,entCells_app]
       have h2 : entCells [k] = [.int .i64 kt,.slice (some ⟨gt,0,none⟩) kn tc] := by
        simp only [entCells,entC,List.map_cons,List.map_nil,List.flatten_cons,List.flatten_nil,List.append_nil,HKE.out.1,HKE.out.2.2]
       rw [h2];exact h1
      ·have k1 : Kp (fun q => q = b0 + 3) WA we := HK.out.trans2 (Kp.ofBelow (S := fun _ => False) HBE.out) (fun _ _ e => e.elim);have k2 : Kp (fun q => q = b0 + 3) WA W' := k1.trans2 HKW.out (fun q hq e => absurd (HVB.out q e) (by omega))
       exact k2.setCell (fun _ => rfl) _ : _ ∧ _)
     clear e1 e2 e3 HAPX HOE HO HX HFC HZC;refine M_region (T := fun W => Kp (fun q => q ∈ blkOf (.slice va V vc)) we W) (m := 10) (by kernel_rfl) ?_;have hS : Kp (fun q => q ∈ blkOf (.slice va V vc)) we we.drew := Kp.ofBelow (Below.refl _ _).drew;refine M_tk 0 45 (.pointer (some ⟨b0 + 3,3,none⟩)) (fun w' hw' => ?_) hS (bts 11 1) ?_
     ·go_simp
     refine M_tk 1 46 (.slice va V vc) (fun w' hw' => ?_) hS (bts 11 3) ?_
     ·have f3 := ((HCE.out _ hw').1.cell 3).trans rfl; go_simp
     refine M_tk 2 47 (.pointer (some ⟨b0 + 1,3,none⟩)) (fun w' hw' => ?_) hS (bts 11 7) ?_
     ·go_simp
     refine M_tk 3 48 (.slice (some ⟨g,0,none⟩) N ec) (fun w' hw' => ?_) hS (bts 11 15) ?_
     ·have f3 := ((HCE.out _ hw').2.1.cell 3).trans rfl; go_simp
     refine M_tk 4 49 (.int .i64 (i : Int)) (fun w' hw' => ?_) hS (bts 11 31) ?_
     ·go_simp
     refine M_tk 5 50 (.pointer (some ⟨g,i * 2,none⟩)) (fun w' hw' => ?_) hS (bts 11 63) ?_
     ·go_simp
     refine M_tk 6 51 (.agg #[.int .i64 kt,.slice (some ⟨gt,0,none⟩) kn tc]) (fun w' hw' => ?_) hS (bts 11 127) ?_
     ·obtain ⟨-, -,c0,c1⟩ := HCE.out _ hw'; go_simp
     refine M_rn 7 52 (.slice (some ⟨we.heap.size,0,none⟩) 1 1) (we.drew.alloc (Obj.cells #[.int .i64 kt,.slice (some ⟨gt,0,none⟩) kn tc] 80)) (bts 11 255) rfl (by go_simp) (hS.alloc _) ?_;simp only [zsA,zsZ,zsS];refine M_rn 8 53 (.slice a9 (V + 1) c9) (W') (bts 11 511) rfl (append_run rfl rfl rfl HAP.out) HKW.out ?_;simp only [zsA,zsZ,zsS];refine M_rn 9 54 (.pointer (some ⟨b0 + 3,3,none⟩)) (W') (bts 11 1023) rfl (by go_simp) HKW.out ?_;simp only [zsA,zsZ,zsS];have hz := (HCE.out _ HKW.out).1.froz 3;have hz3 := ((HCE.out _ HKW.out).1.cell 3).trans rfl;refine M_st 10 (W'.setCell ⟨b0 + 3,3,none⟩ (.slice a9 (V + 1) c9)) (bts 11 2047) rfl (by go_simp) ?_;refine M_done (by kernel_rfl) ?_ _;clear hS HCE hz hz3 HAP HKW;generalize W'.setCell ⟨b0 + 3,3,none⟩ (.slice a9 (V + 1) c9) = W9 at *;go_wp2_with fail
     go_roundw
     case rel => exact ⟨i + 1,_,by go_num,by omega,HFI.out.1,HFI.out.2.1,HFI.out.2.2⟩
     case measure => simp [intOf]; omega
  ·obtain rfl : i = N := by omega
   have e1 : K.take i = K := List.take_of_length_le (by rw [HNK.out]; exact Nat.le_refl _)
   have HFI : Hid (wr.ownsRow w.heap.size 80 2 (.slice va V vc) (K.filter (keepK fs)).length (entCells (K.filter (keepK fs))) ∧ Below w.heap.size w wr) := (by
    have h1 := HO.out;rw [← HVL.out,e1] at h1;have := HVL.out;rw [e1] at this;refine ⟨?_,?_⟩
    ·rw [this] at h1 ⊢;exact own_base h1 HBW.out.size
    ·exact below_kp2 HBW.out HK.out (fun q e => by have := HBZ.out; omega) : _ ∧ _)
   obtain ⟨x0,x1,x2,x3,x4⟩ := cl5 HX.out;obtain ⟨r0,r1,r2,r3,r4⟩ := cl5 BR;obtain ⟨z0,z1,z2,z3,z4⟩ := fz5 BR;have ltR := BR.lt;have HO2 := HO;clear BM BT BR HBM e1 HO HX;go_wp2_with fail;refine bodyPost_ret (results_cell rfl _ _ _ ⟨b0 + 2,0,none⟩ (.agg #[.int .i64 3,.int .i64 0,.string ⟨#[]⟩,.slice va V vc,.slice xa xn xc]) (by go_simp) (by go_simp)) rfl ?_;exact ⟨_,rfl,own_kpV HFI.out.1 (set5_kp wr (b0 + 2) 0 _ _ _ _ _) (fun q hq e => by have h1 := (own_lt HO2.out hq).1; have := HWZ.out; omega),HFI.out.2.trans ((set5_kp wr (b0 + 2) 0 _ _ _ _ _).toBelow HFI.out.2.size fun q e => by have := HBZ.out; omega)⟩
end
section
def flE (B : Tr → List Nat × Nat) (tag : Int) (x : Tr) : Fd × Nat :=
 if x.kind = 1 then (⟨tag,0,x.n,⟨#[]⟩⟩,0)
 else if x.kind = 2 then (if 4096 < x.s.size then (fd0,4) else (⟨tag,1,0,x.s⟩,0))
 else if (B x).2 ≠ 0 then (fd0,(B x).2) else (⟨tag,1,0,strN (B x).1⟩,0)
def errE : List (Fd × Nat) → Nat
 | [] => 0
 | p :: l => if p.2 = 0 then errE l else p.2
def enE (B : Tr → List Nat × Nat) (e : Int × List Tr) : List (Fd × Nat) := e.2.map (flE B e.1)
def fsE (B : Tr → List Nat × Nat) (es : List (Int × List Tr)) : List (Fd × Nat) := es.flatMap (enE B)
def rwE (B : Tr → List Nat × Nat) (t : Tr) : List Fd × Nat :=
 if errE (fsE B t.es) ≠ 0 then ([],errE (fsE B t.es)) else (sortF ((fsE B t.es).map (·.1) ++ t.rest),0)
def ofR (r : List Fd × Nat) : List Nat × Nat := if r.2 ≠ 0 then ([],r.2) else putL r.1
def bytE : Nat → Tr → List Nat × Nat
 | 0,_ => ([],0)
 | n + 1,t => ofR (rwE (bytE n) t)
def rawsA (n : Nat) (t : Tr) : List Fd × Nat := if t.kind = 3 ∧ chkN n t = true then rwE (bytE (n - 1)) t else ([],1)
def encA (n : Nat) (t : Tr) : List Nat × Nat := ofR (rawsA n t)
theorem flE_congr {B B' : Tr → List Nat × Nat} {tag : Int} {x : Tr} (h : B x = B' x) : flE B tag x = flE B' tag x := by
 unfold flE; rw [h]
theorem fsE_congr {B B' : Tr → List Nat × Nat} {es : List (Int × List Tr)} (h : ∀ e ∈ es,∀ x ∈ e.2,B x = B' x) : fsE B es = fsE B' es := by
 unfold fsE
 induction es with
 | nil => rfl
 | cons e l ih =>
  rw [List.flatMap_cons,List.flatMap_cons,ih fun e' he => h e' (List.mem_cons_of_mem _ he)]
  congr 1
  unfold enE;exact List.map_congr_left fun x hx => flE_congr (h e (List.mem_cons_self ..) x hx)
theorem rwE_congr {B B' : Tr → List Nat × Nat} {t : Tr} (h : ∀ e ∈ t.es,∀ x ∈ e.2,B x = B' x) : rwE B t = rwE B' t := by
 unfold rwE; rw [fsE_congr h]
theorem bytE_more : ∀ (n m : Nat) (t : Tr),DpN n t → DpN m t → bytE n t = bytE m t
 | 0,_,_,h,_ => h.elim
 | _ + 1,0,_,_,h => h.elim
 | n + 1,m + 1,t,h,k => by
  simp only [bytE];rw [rwE_congr fun e he x hx => bytE_more n m x (h e he x hx) (k e he x hx)]
theorem bytE_parts {n : Nat} {t u : Tr} (h1 : t.es = u.es) (h2 : t.rest = u.rest) : bytE n t = bytE n u := by
 cases n with
 | zero => rfl
 | succ n => simp only [bytE,rwE,h1,h2]
theorem DpN.parts {n : Nat} {t u : Tr} (h1 : t.es = u.es) (h : DpN n t) : DpN n u := by
 cases n with
 | zero => exact h
 | succ n =>
  intro e he;rw [← h1] at he;exact h e he
theorem errE_app (a b : List (Fd × Nat)) : errE (a ++ b) = if errE a = 0 then errE b else errE a := by
 induction a with
 | nil => rfl
 | cons p a ih =>
  have h1 : ∀ l,errE (p :: l) = if p.2 = 0 then errE l else p.2 := fun _ => rfl
  rw [List.cons_append,h1,h1]
  by_cases h : p.2 = 0
  ·simp [h,ih]
  ·simp [h]
theorem errE_one (p : Fd × Nat) : errE [p] = p.2 := by
 simp only [errE]; split <;> simp_all
theorem errE_all {l : List (Fd × Nat)} (h : errE l = 0) : ∀ p ∈ l,p.2 = 0 := by
 induction l with
 | nil => intro p hp; cases hp
 | cons q l ih =>
  intro p hp;simp only [errE] at h
  split at h
  ·rcases List.mem_cons.1 hp with rfl | hp
   ·assumption
   ·exact ih h p hp
  ·exact absurd h (by assumption)
theorem fsE_app (B : Tr → List Nat × Nat) (a b : List (Int × List Tr)) : fsE B (a ++ b) = fsE B a ++ fsE B b := by simp [fsE]
theorem fsE_one (B : Tr → List Nat × Nat) (e : Int × List Tr) : fsE B [e] = enE B e := by simp [fsE]
theorem fsE_len (B : Tr → List Nat × Nat) (es : List (Int × List Tr)) : (fsE B es).length = (subs es).length := by
 induction es with
 | nil => rfl
 | cons e l ih =>
  unfold fsE subs at *;rw [List.flatMap_cons,List.flatMap_cons,List.length_append,List.length_append,ih]
  simp [enE]
def uptE (B : Tr → List Nat × Nat) (es : List (Int × List Tr)) (i k : Nat) : List (Fd × Nat) := fsE B (es.take i) ++ ((es[i]?.map fun e => (e.2.take k).map (flE B e.1)).getD [])
theorem uptE_zero (B : Tr → List Nat × Nat) (es : List (Int × List Tr)) (i : Nat) : uptE B es i 0 = fsE B (es.take i) := by
 unfold uptE; cases es[i]? <;> simp
theorem uptE_step {B : Tr → List Nat × Nat} {es : List (Int × List Tr)} {i k : Nat} {e : Int × List Tr} {x : Tr} (hi : es[i]? = some e) (hk : e.2[k]? = some x) : uptE B es i (k + 1) = uptE B es i k ++ [flE B e.1 x] := by
 obtain ⟨hl,rfl⟩ := List.getElem?_eq_some_iff.1 hk;unfold uptE;rw [hi];simp only [Option.map_some,Option.getD_some,List.append_assoc];rw [List.take_succ_eq_append_getElem hl,List.map_append]
 rfl
theorem uptE_end {B : Tr → List Nat × Nat} {es : List (Int × List Tr)} {i : Nat} {e : Int × List Tr} (hi : es[i]? = some e) : uptE B es i e.2.length = fsE B (es.take (i + 1)) := by
 obtain ⟨hl,rfl⟩ := List.getElem?_eq_some_iff.1 hi;unfold uptE;rw [hi,List.take_succ_eq_append_getElem hl,fsE_app,fsE_one];simp only [Option.map_some,Option.getD_some,List.take_length,enE]
theorem errE_hit {B : Tr → List Nat × Nat} {es : List (Int × List Tr)} {i k : Nat} {e : Int × List Tr} {x : Tr} (hi : es[i]? = some e) (hk : e.2[k]? = some x) (h0 : errE (uptE B es i k) = 0) (hx : (flE B e.1 x).2 ≠ 0) : errE (fsE B es) = (flE B e.1 x).2 := by
 have h1 : fsE B es = fsE B (es.take i) ++ enE B e ++ fsE B (es.drop (i + 1)) := by
  obtain ⟨hl,rfl⟩ := List.getElem?_eq_some_iff.1 hi;rw [← fsE_one,← fsE_app,← fsE_app]
  congr 1
  rw [List.append_assoc,List.singleton_append,← List.drop_eq_getElem_cons hl,List.take_append_drop]
 have h2 : enE B e = (e.2.take k).map (flE B e.1) ++ flE B e.1 x :: (e.2.drop (k + 1)).map (flE B e.1) := by
  obtain ⟨hl,rfl⟩ := List.getElem?_eq_some_iff.1 hk
  have h3 : e.2 = e.2.take k ++ (e.2[k] :: e.2.drop (k + 1)) := by rw [← List.drop_eq_getElem_cons hl,List.take_append_drop]
  unfold enE
  conv => lhs; rw [h3]
  rw [List.map_append,List.map_cons]
 have h3 : fsE B es = uptE B es i k ++ (flE B e.1 x :: ((e.2.drop (k + 1)).map (flE B e.1) ++ fsE B (es.drop (i + 1)))) := by
  rw [h1,h2];unfold uptE;rw [hi]
  simp
 rw [h3,errE_app,if_pos h0,errE,if_neg hx]
theorem rwE_ok {B : Tr → List Nat × Nat} {t : Tr} (h : errE (fsE B t.es) = 0) : rwE B t = (sortF ((fsE B t.es).map (·.1) ++ t.rest),0) := by
 unfold rwE; rw [if_neg (by omega)]
theorem rwE_no {B : Tr → List Nat × Nat} {t : Tr} (h : errE (fsE B t.es) ≠ 0) : rwE B t = ([],errE (fsE B t.es)) := by
 unfold rwE; rw [if_pos h]
theorem putL_none {rs : List Fd} (h : (putL rs).2 ≠ 0) : (putL rs).1 = [] := by
 unfold putL at h ⊢
 split
 ·split
  ·rename_i h1 h2; rw [if_pos h1,if_pos h2] at h; exact absurd rfl h
  ·rfl
 ·rfl
theorem putL_le (rs : List Fd) : (putL rs).1.length ≤ 4096 := by
 unfold putL
 split
 ·split
  ·assumption
  ·simp
 ·simp
theorem bytE_le (n : Nat) (t : Tr) : (bytE n t).1.length ≤ 4096 := by
 cases n with
 | zero => simp [bytE]
 | succ n =>
  simp only [bytE,ofR]
  split
  ·simp
  ·exact putL_le _
theorem flE_64 {B : Tr → List Nat × Nat} {tag : Int} {x : Tr} (h : Is64 x.n) : Is64 (flE B tag x).1.n := by
 unfold flE
 split
 ·exact h
 ·split
  ·split <;> (unfold Is64; simp [fd0])
  ·split <;> (unfold Is64; simp [fd0])
end
section
open Go.ChangeShapes Go.WideShapes Go.ChangeAt Go.RowKit
theorem rises_uniq : ∀ (l m : List Fd),Rises l → Rises m → (∀ t : Int,l.filter (fun x => x.tag == t) = m.filter (fun x => x.tag == t)) → l = m
 | [],m,_,_,h => by
  cases m with
  | nil => rfl
  | cons y m => have := h y.tag; simp at this
 | x :: l,m,h1,h2,h => by
  cases m with
  | nil => have := h x.tag; simp at this
  | cons y m =>
   have p1 := List.pairwise_cons.1 h1;have p2 := List.pairwise_cons.1 h2
   have hx : x ∈ y :: m := by
    have : x ∈ (y :: m).filter (fun z => z.tag == x.tag) := by rw [← h x.tag]; simp
    exact (List.mem_filter.1 this).1
   have hy : y ∈ x :: l := by
    have : y ∈ (x :: l).filter (fun z => z.tag == y.tag) := by rw [h y.tag]; simp
    exact (List.mem_filter.1 this).1
   have e1 : y.tag ≤ x.tag := by
    rcases List.mem_cons.1 hx with rfl | hx
    ·exact Int.le_refl _
    ·exact p2.1 x hx
   have e2 : x.tag ≤ y.tag := by
    rcases List.mem_cons.1 hy with rfl | hy
    ·exact Int.le_refl _
    ·exact p1.1 y hy
   have e : x.tag = y.tag := by omega
   have hf := h x.tag;rw [List.filter_cons,List.filter_cons,if_pos (by simp),if_pos (by simp [e])] at hf;obtain rfl : x = y := (List.cons.inj hf).1
   congr 1
   refine rises_uniq l m p1.2 p2.2 fun t => ?_
   have := h t;rw [List.filter_cons,List.filter_cons] at this
   by_cases ht : (x.tag == t) = true
   ·rw [if_pos ht,if_pos ht] at this; exact (List.cons.inj this).2
   ·rw [if_neg ht,if_neg ht] at this; exact this
end
section
def DOne (P : ByteArray → Tr → Prop) (f : FlS) (x : Tr) : Prop :=
 (wirK f.kind = 0 ∧ x = ⟨1,x.n,⟨#[]⟩,[],[]⟩ ∧ (f.kind = 3 ∨ f.kind = 6 → nmrB f.kind x.n = true)) ∨
 ((f.kind = 4 ∨ f.kind = 5) ∧ x = ⟨2,0,x.s,[],[]⟩ ∧ (f.kind = 4 → validB x.s.data.toList = true)) ∨
 (f.kind = 7 ∧ P f.tname x)
def DFit : Nat → ScS → ByteArray → Tr → Prop
 | 0,_,_,_ => False
 | k + 1,s,nm,t => ∃ m,msgOf s nm = some m ∧ (t.kind = 3 ∧ t.n = 0 ∧ t.s = ⟨#[]⟩) ∧ RisE t.es ∧
   (∀ e ∈ t.es,∃ f,fldOf m.fields e.1 = some f ∧ e.2 ≠ [] ∧ e.2.length ≤ (if f.label = 3 then 64 else 1) ∧ ∀ x ∈ e.2,DOne (DFit k s) f x ∧ ¬ (f.label = 1 ∧ zroB x = true)) ∧
   Rises t.rest ∧ ∀ r ∈ t.rest,fldOf m.fields r.tag = none ∧ okF r = true
def N64 : Nat → Tr → Prop
 | 0,_ => True
 | n + 1,t => Is64 t.n ∧ (∀ r ∈ t.rest,Is64 r.n) ∧ ∀ e ∈ t.es,∀ x ∈ e.2,N64 n x
theorem mem_fsE {B : Tr → List Nat × Nat} {es : List (Int × List Tr)} {p : Fd × Nat} (h : p ∈ fsE B es) : ∃ e ∈ es,∃ x ∈ e.2,p = flE B e.1 x := by
 obtain ⟨e,he,hp⟩ := List.mem_flatMap.1 h;obtain ⟨x,hx,rfl⟩ := List.mem_map.1 hp;exact ⟨e,he,x,hx,rfl⟩
theorem DFit.kind {k : Nat} {s : ScS} {nm : ByteArray} {t : Tr} (h : DFit k s nm t) : t.kind = 3 := by
 cases k with
 | zero => exact h.elim
 | succ k => obtain ⟨m,_,h1,_⟩ := h; exact h1.1
theorem digs_up (a : Nat) : ∀ b,a ≤ b → (digs a).length ≤ (digs b).length := by
 refine digs_ind (M := fun a => ∀ b,a ≤ b → (digs a).length ≤ (digs b).length) (fun a ha b hb => ?_) (fun a ha ih b hb => ?_) a
 ·rw [digs_small ha];exact List.length_pos_iff.2 (digs_ne b)
 ·rw [digs_big ha,digs_big (show ¬ b < 128 by omega),List.length_cons,List.length_cons];have := ih (b / 128) (Nat.div_le_div_right hb)
  omega
theorem mergeF_perm : ∀ (high low : List Fd),(mergeF low high).Perm (low ++ high)
 | [],low => by simp [mergeF]
 | h :: hs,low => by
  have ih := mergeF_perm hs (low.drop (upN low h.tag));rw [mergeF];have h1 : (low.take (upN low h.tag) ++ h :: mergeF (low.drop (upN low h.tag)) hs).Perm (low.take (upN low h.tag) ++ h :: (low.drop (upN low h.tag) ++ hs)) := List.Perm.append_left _ (ih.cons h);have h2 : (low.take (upN low h.tag) ++ h :: (low.drop (upN low h.tag) ++ hs)).Perm (low.take (upN low h.tag) ++ (low.drop (upN low h.tag) ++ h :: hs)) := List.Perm.append_left _ List.perm_middle.symm;refine (h1.trans h2).trans ?_;rw [← List.append_assoc,List.take_append_drop]
theorem sortF_permK : ∀ (k : Nat) (l : List Fd),l.length ≤ k → (sortF l).Perm l
 | 0,l,h => by
  obtain rfl : l = [] := List.eq_nil_of_length_eq_zero (by omega);rw [sortF_id rfl]
 | k + 1,l,h => by
  cases hr : risesB l with
  | true => rw [sortF_id hr]
  | false =>
   have h2 := rises_short hr;have a := sortF_permK k (l.take (l.length / 2)) (by rw [List.length_take]; omega);have b := sortF_permK k (l.drop (l.length / 2)) (by rw [List.length_drop]; omega);rw [sortF_on hr];refine (mergeF_perm _ _).trans ?_;have := a.append b
   rwa [List.take_append_drop] at this
theorem sortF_perm (l : List Fd) : (sortF l).Perm l := sortF_permK _ l (Nat.le_refl _)
def wid (l : List Fd) : Nat := (l.map fun r => (fieldN r).length).sum
theorem wid_flat (l : List Fd) : (flatN l).length = wid l := by
 induction l with
 | nil => rfl
 | cons r l ih => rw [flatN_cons,List.length_append,ih]; simp [wid]
theorem wid_app (a b : List Fd) : wid (a ++ b) = wid a + wid b := by simp [wid]
theorem wid_perm {a b : List Fd} (h : a.Perm b) : wid a = wid b := (h.map _).sum_nat
def widE (B : Tr → List Nat × Nat) (es : List (Int × List Tr)) : Nat := wid ((fsE B es).map (·.1))
theorem widE_app (B : Tr → List Nat × Nat) (a b : List (Int × List Tr)) : widE B (a ++ b) = widE B a + widE B b := by simp [widE,fsE,wid_app]
theorem widE_one (B : Tr → List Nat × Nat) (e : Int × List Tr) (es : List (Int × List Tr)) : widE B (e :: es) = wid ((enE B e).map (·.1)) + widE B es := by simp [widE,fsE,wid_app]
theorem widE_two (B : Tr → List Nat × Nat) (t : Int) (es : List (Int × List Tr)) : widE B (es.filter fun e => decide (e.1 < t)) + widE B (es.filter fun e => decide (t < e.1)) = widE B (delE t es) := by
 induction es with
 | nil => simp [widE,fsE,delE,wid]
 | cons a l ih =>
  simp only [delE] at ih ⊢;simp only [List.filter_cons]
  by_cases h1 : a.1 < t
  ·have h2 : ¬ t < a.1 := by omega
   have h3 : a.1 ≠ t := by omega
   simp only [h1,h2,h3,decide_true,decide_false,if_true,ne_eq,not_false_eq_true,Bool.false_eq_true,if_false,widE_one] at ih ⊢
   omega
  ·by_cases h2 : t < a.1
   ·have h3 : a.1 ≠ t := by omega
    simp only [h1,h2,h3,decide_true,decide_false,if_true,ne_eq,not_false_eq_true,Bool.false_eq_true,if_false,widE_one] at ih ⊢
    omega
   ·have h3 : a.1 = t := by omega
    simp only [h3,Int.lt_irrefl,decide_false,ne_eq,not_true_eq_false,Bool.false_eq_true,if_false] at ih ⊢;exact ih
theorem widE_set (B : Tr → List Nat × Nat) (t : Int) (x : List Tr) (es : List (Int × List Tr)) : widE B (setE t x es) = wid ((enE B (t,x)).map (·.1)) + widE B (delE t es) := by
 rw [← widE_two B t es];unfold setE;rw [widE_app,widE_one]
 omega
theorem del_none {α : Type} {es : List (Int × α)} {t : Int} (h : ∀ e ∈ es,e.1 ≠ t) : delE t es = es := List.filter_eq_self.2 fun e he => by simpa using h e he
theorem widE_del (B : Tr → List Nat × Nat) (t : Int) : ∀ {es : List (Int × List Tr)},RisE es → widE B (delE t es) + wid ((enE B (t,undE es t)).map (·.1)) = widE B es
 | [],_ => by simp [widE,fsE,delE,wid,undE,enE]
 | e :: l,hr => by
  have hr' := hr;rw [RisE,List.pairwise_cons] at hr;have ih := widE_del B t hr.2
  by_cases h1 : e.1 = t
  ·have h2 : ∀ p ∈ l,p.1 ≠ t := fun p hp => by have := hr.1 p hp; omega
   have h3 : undE (e :: l) t = e.2 := by rw [← h1]; exact und_mem hr' (List.mem_cons_self ..)
   have h4 : delE t (e :: l) = l := by
    have : delE t (e :: l) = delE t l := by simp [delE,h1]
    rw [this,del_none h2]
   have h5 : enE B (e.1,e.2) = enE B e := rfl;rw [h3,h4,widE_one,← h1,h5]
   omega
  ·have h3 : undE (e :: l) t = undE l t := by simp [undE,List.find?_cons,h1]
   have h4 : delE t (e :: l) = e :: delE t l := by simp [delE,h1]
   rw [h3,h4,widE_one,widE_one]
   omega
structure Cost (B : Tr → List Nat × Nat) (l : List Fd) (st : Ds) : Prop where
 ris : RisE st.es
 ok : ∀ e ∈ st.es,∀ x ∈ e.2,(flE B e.1 x).2 = 0 ∧ okF (flE B e.1 x).1 = true
 wid : widE B st.es + wid st.rest ≤ wid l
 rest : ∀ r ∈ st.rest,okF r = true
theorem ok_num {r : Fd} (h : okF r = true) (hw : r.wire = 0) : r = ⟨r.tag,0,r.n,⟨#[]⟩⟩ := by
 obtain ⟨t,k,n,b⟩ := r;simp only at hw;subst hw;simp only [okF,okV,Bool.and_eq_true,Bool.or_eq_true,decide_eq_true_eq,beq_iff_eq,toList_empty] at h
 rcases h.2 with h1 | h1
 ·rw [h1.2]
 ·exact absurd h1.1.1 (by decide)
theorem ok_txt {r : Fd} (h : okF r = true) (hw : r.wire = 1) : r = ⟨r.tag,1,0,r.b⟩ ∧ r.b.size ≤ 4096 := by
 obtain ⟨t,k,n,b⟩ := r;simp only at hw;subst hw;simp only [okF,okV,Bool.and_eq_true,Bool.or_eq_true,decide_eq_true_eq,beq_iff_eq,toList_empty] at h
 rcases h.2 with h1 | h1
 ·exact absurd h1.1 (by decide)
 ·rw [h1.1.2]; exact ⟨rfl,by have := h1.2; simp only; omega⟩
theorem ok_put {r : Fd} (h : okF r = true) (b : ByteArray) (hb : b.size ≤ 4096) : okF ⟨r.tag,1,0,b⟩ = true := by
 simp only [okF,okV,Bool.and_eq_true,Bool.or_eq_true,decide_eq_true_eq,beq_iff_eq] at h ⊢;exact ⟨h.1,.inr ⟨⟨trivial,trivial⟩,by omega⟩⟩
theorem tree_cost {M : ByteArray → List Nat → Tr × Int} {B : Tr → List Nat × Nat} {f : FlS} {r : Fd} (ho : okF r = true) (h : (treeD M f r).2 = 0) (h3 : ∀ nm ns,(M nm ns).2 = 0 → (M nm ns).1.kind = 3) (hB : ∀ x,(B x).1.length ≤ 4096)
  (IH : ∀ nm ns,(∀ k ∈ ns,k < 256) → (M nm ns).2 = 0 → (B (M nm ns).1).2 = 0 ∧ (B (M nm ns).1).1.length ≤ ns.length) :
  (flE B r.tag (treeD M f r).1).2 = 0 ∧ okF (flE B r.tag (treeD M f r).1).1 = true ∧ (fieldN (flE B r.tag (treeD M f r).1).1).length ≤ (fieldN r).length := by
 have hf : r.wire = wirK f.kind := by
  by_cases e : r.wire = wirK f.kind
  ·exact e
  ·simp [treeD,e] at h
 unfold treeD at h ⊢;rw [if_neg (by simpa using hf)] at h ⊢
 split at h
 ·exact absurd h (by decide)
 rename_i h1
 rw [if_neg h1]
 split at h
 ·exact absurd h (by decide)
 rename_i h2
 rw [if_neg h2]
 split at h
 ·rename_i h7
  rw [if_pos h7];have hk := h3 _ _ h;obtain ⟨g1,g2⟩ := IH f.tname (bytesN r.b) (bytesN_lt _) h;generalize (M f.tname (bytesN r.b)).1 = x at hk g1 g2 ⊢
  have hw : r.wire = 1 := by rw [hf]; simp [wirK,h7]
  obtain ⟨e1,e2⟩ := ok_txt ho hw
  have ef : flE B r.tag x = (⟨r.tag,1,0,strN (B x).1⟩,0) := by rw [flE,if_neg (by rw [hk]; decide),if_neg (by rw [hk]; decide),if_neg (by simpa using g1)]
  rw [ef];have hsz : (strN (B x).1).size = (B x).1.length := strN_size _;refine ⟨rfl,ok_put ho _ (by rw [hsz]; exact hB x),?_⟩;rw [bytesN_len] at g2
  conv => rhs; rw [e1]
  have hm := digs_up _ _ g2;simp only [fieldN,List.length_append,bytesN_len,hsz];rw [if_neg (by decide),if_neg (by decide)];simp only [List.length_append,bytesN_len,hsz]
  omega
 ·rename_i h7
  rw [if_neg h7];simp only [leafD]
  by_cases hw : r.wire = 1
  ·rw [if_pos hw];obtain ⟨e1,e2⟩ := ok_txt ho hw
   have ef : flE B r.tag ⟨2,0,r.b,[],[]⟩ = (r,0) := by rw [flE,if_neg (by simp),if_pos rfl,if_neg (by simp only; omega),← e1]
   rw [ef];exact ⟨rfl,ho,Nat.le_refl _⟩
  ·rw [if_neg hw]
   have hw0 : r.wire = 0 := by
    rw [hf] at hw ⊢;unfold wirK at hw ⊢
    split
    ·rename_i e; rw [if_pos e] at hw; exact absurd rfl hw
    ·rfl
   have e1 := ok_num ho hw0
   have ef : flE B r.tag ⟨1,r.n,⟨#[]⟩,[],[]⟩ = (r,0) := by rw [flE,if_pos rfl,← e1]
   rw [ef];exact ⟨rfl,ho,Nat.le_refl _⟩
theorem Cost.nil (B : Tr → List Nat × Nat) : Cost B [] ⟨[],[]⟩ := ⟨List.Pairwise.nil,by simp,by simp [widE,fsE,Go.Proofs.YtiajaocckkghgaaGreat.wid],by simp⟩
theorem Cost.step {M : ByteArray → List Nat → Tr × Int} {B : Tr → List Nat × Nat} {fs : List FlS} {l : List Fd} {st : Ds} {r : Fd} (h : Cost B l st) (ho : okF r = true) (h3 : ∀ nm ns,(M nm ns).2 = 0 → (M nm ns).1.kind = 3) (hB : ∀ x,(B x).1.length ≤ 4096)
  (IH : ∀ nm ns,(∀ k ∈ ns,k < 256) → (M nm ns).2 = 0 → (B (M nm ns).1).2 = 0 ∧ (B (M nm ns).1).1.length ≤ ns.length) (h0 : (oneD M fs st r).2 = 0) : Cost B (l ++ [r]) (oneD M fs st r).1 := by
 have hw := h.wid
 have hw1 : Go.Proofs.YtiajaocckkghgaaGreat.wid (l ++ [r]) = Go.Proofs.YtiajaocckkghgaaGreat.wid l + (fieldN r).length := by simp [Go.Proofs.YtiajaocckkghgaaGreat.wid]
 cases hf : fldOf fs r.tag with
 | none =>
  have e1 : oneD M fs st r = (⟨st.es,st.rest ++ [r]⟩,0) := by simp [oneD,hf]
  rw [e1];refine ⟨h.ris,h.ok,?_,fun x hx => ?_⟩
  ·have : Go.Proofs.YtiajaocckkghgaaGreat.wid (st.rest ++ [r]) = Go.Proofs.YtiajaocckkghgaaGreat.wid st.rest + (fieldN r).length := by simp [Go.Proofs.YtiajaocckkghgaaGreat.wid]
   simp only; omega
  ·rcases List.mem_append.1 hx with hx | hx
   ·exact h.rest x hx
   ·obtain rfl : x = r := by simpa using hx
    exact ho
 | some f =>
  have hft := fld_tag hf
  by_cases ht : (treeD M f r).2 ≠ 0
  ·have e1 : oneD M fs st r = (st,(treeD M f r).2) := by simp [oneD,hf,ht]
   rw [e1] at h0;exact absurd h0 ht
  ·have ht0 : (treeD M f r).2 = 0 := by omega
   have e1 : oneD M fs st r = (⟨(putD f (treeD M f r).1 st.es).1,st.rest⟩,(putD f (treeD M f r).1 st.es).2) := by simp [oneD,hf,ht0]
   rw [e1] at h0 ⊢;simp only at h0;obtain ⟨t1,t2,t3⟩ := tree_cost (B := B) ho ht0 h3 hB IH;obtain ⟨x,hx⟩ : ∃ x,(treeD M f r).1 = x := ⟨_,rfl⟩;rw [hx] at h0 t1 t2 t3 ⊢;have hd := widE_del B r.tag h.ris
   by_cases hl3 : f.label = 3
   ·by_cases h64 : (undE st.es f.tag).length = 64
    ·simp [putD,hl3,h64] at h0
    ·have e2 : putD f x st.es = (setE f.tag (undE st.es f.tag ++ [x]) st.es,0) := by simp [putD,hl3,h64]
     rw [e2,hft];refine ⟨h.ris.set _ _,fun e he y hy => ?_,?_,h.rest⟩
     ·rcases mem_setE.1 he with rfl | ⟨he,_⟩
      ·rcases List.mem_append.1 hy with hy | hy
       ·exact h.ok _ (und_in (fun e => by rw [e] at hy; cases hy)) y hy
       ·obtain rfl : y = x := by simpa using hy
        exact ⟨t1,t2⟩
      ·exact h.ok e he y hy
     ·simp only;rw [widE_set]
      have : Go.Proofs.YtiajaocckkghgaaGreat.wid ((enE B (r.tag,undE st.es r.tag ++ [x])).map (·.1)) = Go.Proofs.YtiajaocckkghgaaGreat.wid ((enE B (r.tag,undE st.es r.tag)).map (·.1)) + (fieldN (flE B r.tag x).1).length := by simp [enE,Go.Proofs.YtiajaocckkghgaaGreat.wid]
      omega
   ·by_cases hl1 : f.label = 1 ∧ zroB x = true
    ·have e2 : putD f x st.es = (delE f.tag st.es,0) := by simp [putD,hl3,hl1]
     rw [e2,hft];refine ⟨h.ris.del _,fun e he y hy => h.ok e (mem_delE.1 he).1 y hy,?_,h.rest⟩;simp only
     omega
    ·have e2 : putD f x st.es = (setE f.tag [x] st.es,0) := by rw [putD,if_neg hl3,if_neg hl1]
     rw [e2,hft];refine ⟨h.ris.set _ _,fun e he y hy => ?_,?_,h.rest⟩
     ·rcases mem_setE.1 he with rfl | ⟨he,_⟩
      ·obtain rfl : y = x := by simpa using hy
       exact ⟨t1,t2⟩
      ·exact h.ok e he y hy
     ·simp only;rw [widE_set]
      have : Go.Proofs.YtiajaocckkghgaaGreat.wid ((enE B (r.tag,[x])).map (·.1)) = (fieldN (flE B r.tag x).1).length := by simp [enE,Go.Proofs.YtiajaocckkghgaaGreat.wid]
      omega
theorem Cost.run {M : ByteArray → List Nat → Tr × Int} {B : Tr → List Nat × Nat} {fs : List FlS} (h3 : ∀ nm ns,(M nm ns).2 = 0 → (M nm ns).1.kind = 3) (hB : ∀ x,(B x).1.length ≤ 4096)
  (IH : ∀ nm ns,(∀ k ∈ ns,k < 256) → (M nm ns).2 = 0 → (B (M nm ns).1).2 = 0 ∧ (B (M nm ns).1).1.length ≤ ns.length) : ∀ (l pre : List Fd) (st : Ds),Cost B pre st → (∀ r ∈ l,okF r = true) → (runD M fs st l).2 = 0 → Cost B (pre ++ l) (runD M fs st l).1
 | [],pre,st,h,_,_ => by rw [List.append_nil]; exact h
 | r :: l,pre,st,h,ho,h0 => by
  have ea : pre ++ r :: l = (pre ++ [r]) ++ l := by simp
  by_cases h1 : (oneD M fs st r).2 ≠ 0
  ·simp only [runD,if_pos h1] at h0;exact absurd h0 h1
  ·simp only [runD,if_neg h1] at h0 ⊢;rw [ea];exact Cost.run h3 hB IH l (pre ++ [r]) _ (h.step (ho r (List.mem_cons_self ..)) h3 hB IH (by omega)) (fun x hx => ho x (List.mem_cons_of_mem _ hx)) h0
theorem dec_inv {k : Nat} {s : ScS} {nm : ByteArray} {ns : List Nat} (h : (decM (k + 1) s nm ns).2 = 0) : ∃ m l,msgOf s nm = some m ∧ getL ns = (l,0) ∧ (runD (decM k s) m.fields ⟨[],[]⟩ l).2 = 0 ∧
  (decM (k + 1) s nm ns).1 = ⟨3,0,⟨#[]⟩,(runD (decM k s) m.fields ⟨[],[]⟩ l).1.es,sortF (runD (decM k s) m.fields ⟨[],[]⟩ l).1.rest⟩ := by
 simp only [decM] at h ⊢
 cases hm : msgOf s nm with
 | none => rw [hm] at h; simp at h
 | some m =>
  rw [hm] at h;simp only at h ⊢
  by_cases h1 : (getL ns).2 ≠ 0
  ·rw [if_pos h1] at h; simp only at h; omega
  ·rw [if_neg h1] at h ⊢
   by_cases h2 : (runD (decM k s) m.fields ⟨[],[]⟩ (getL ns).1).2 ≠ 0
   ·rw [if_pos h2] at h; exact absurd h h2
   ·rw [if_neg h2];refine ⟨m,(getL ns).1,rfl,Prod.ext rfl (by simp only; omega),by omega,rfl⟩
theorem dec_kind {k : Nat} {s : ScS} {nm : ByteArray} {ns : List Nat} (h : (decM k s nm ns).2 = 0) : (decM k s nm ns).1.kind = 3 := by
 cases k with
 | zero => exact absurd h (by simp [decM])
 | succ k =>
  obtain ⟨m,l,_,_,_,e⟩ := dec_inv h;rw [e]
theorem putL_inv {rs : List Fd} (h : (putL rs).2 = 0) : rs.all okF = true ∧ (flatN rs).length ≤ 4096 ∧ putL rs = (flatN rs,0) := by
 unfold putL at h ⊢
 split at h
 ·rename_i h1
  split at h
  ·rename_i h2; rw [if_pos h1,if_pos h2]; exact ⟨h1,h2,rfl⟩
  ·exact absurd h (by decide)
 ·exact absurd h (by decide)
theorem errE_of {l : List (Fd × Nat)} (h : ∀ p ∈ l,p.2 = 0) : errE l = 0 := by
 induction l with
 | nil => rfl
 | cons a l ih => rw [errE,if_pos (h a (List.mem_cons_self ..))]; exact ih fun p hp => h p (List.mem_cons_of_mem _ hp)
theorem dcd_len : ∀ (k n : Nat) (s : ScS) (nm : ByteArray) (ns : List Nat),k < n → (∀ b ∈ ns,b < 256) → (decM k s nm ns).2 = 0 → (bytE n (decM k s nm ns).1).2 = 0 ∧ (bytE n (decM k s nm ns).1).1.length ≤ ns.length
 | 0,_,_,_,_,_,_,h => absurd h (by simp [decM])
 | _,0,_,_,_,h,_,_ => absurd h (by omega)
 | k + 1,n + 1,s,nm,ns,hk,hb,h => by
  obtain ⟨m,l,hm,hg,hr,e⟩ := dec_inv h;obtain ⟨hp,h64⟩ := putL_get hb hg;obtain ⟨ho,hlen,hpe⟩ := putL_inv (rs := l) (by rw [hp])
  have hns : flatN l = ns := by rw [hp] at hpe; exact (congrArg Prod.fst hpe).symm
  have hc := Cost.run (B := bytE n) (fs := m.fields) (fun nm ns h => dec_kind h) (fun x => bytE_le n x) (fun nm' ns' hb' h' => dcd_len k n s nm' ns' (by omega) hb' h') l [] ⟨[],[]⟩ (Cost.nil _) (fun r hr => List.all_eq_true.1 ho r hr) hr;rw [List.nil_append] at hc;rw [e];generalize (runD (decM k s) m.fields ⟨[],[]⟩ l).1 = st at hc ⊢
  have he : errE (fsE (bytE n) st.es) = 0 := errE_of fun p hp => by
   obtain ⟨e,he,x,hx,rfl⟩ := mem_fsE hp;exact (hc.ok e he x hx).1
  have eb : bytE (n + 1) ⟨3,0,⟨#[]⟩,st.es,sortF st.rest⟩ = putL (sortF ((fsE (bytE n) st.es).map (·.1) ++ sortF st.rest)) := by
   simp only [bytE,ofR];rw [rwE_ok (t := ⟨3,0,⟨#[]⟩,st.es,sortF st.rest⟩) he];rw [if_neg (by simp)]
  have hall : (sortF ((fsE (bytE n) st.es).map (·.1) ++ sortF st.rest)).all okF = true := List.all_eq_true.2 fun r hr => by
   rcases List.mem_append.1 ((sortF_perm _).mem_iff.1 hr) with hr | hr
   ·obtain ⟨p,hp,rfl⟩ := List.mem_map.1 hr;obtain ⟨e,he,x,hx,rfl⟩ := mem_fsE hp;exact (hc.ok e he x hx).2
   ·exact hc.rest r ((sortF_perm _).mem_iff.1 hr)
  have hw : (flatN (sortF ((fsE (bytE n) st.es).map (·.1) ++ sortF st.rest))).length ≤ ns.length := by
   rw [wid_flat,wid_perm (sortF_perm _),wid_app,wid_perm (sortF_perm st.rest),← hns,wid_flat];exact hc.wid
  have hl2 : (flatN (sortF ((fsE (bytE n) st.es).map (·.1) ++ sortF st.rest))).length ≤ 4096 := by rw [hns] at hlen; omega
  rw [eb,putL,if_pos hall,if_pos hl2];exact ⟨rfl,hw⟩
theorem leaf_num {r : Fd} {k : Int} (hf : r.wire = wirK k) (hw : wirK k = 0) : leafD r = ⟨1,r.n,⟨#[]⟩,[],[]⟩ := by
 rw [leafD,if_neg (by rw [hf,hw]; decide)]
theorem tree_fit {P : ByteArray → Tr → Prop} {M : ByteArray → List Nat → Tr × Int} {f : FlS} {r : Fd} (h : (treeD M f r).2 = 0) (IH : ∀ nm ns,(∀ k ∈ ns,k < 256) → (M nm ns).2 = 0 → P nm (M nm ns).1) : DOne P f (treeD M f r).1 := by
 have hf : r.wire = wirK f.kind := by
  by_cases e : r.wire = wirK f.kind
  ·exact e
  ·simp [treeD,e] at h
 unfold treeD at h ⊢;rw [if_neg (by simpa using hf)] at h ⊢
 split at h
 ·exact absurd h (by decide)
 rename_i h1
 rw [if_neg h1]
 split at h
 ·exact absurd h (by decide)
 rename_i h2
 rw [if_neg h2]
 split at h
 ·rename_i h7
  rw [if_pos h7];exact .inr (.inr ⟨h7,IH _ _ (bytesN_lt _) h⟩)
 ·rename_i h7
  rw [if_neg h7]
  by_cases hw : f.kind = 4 ∨ f.kind = 5
  ·have hw1 : r.wire = 1 := by rw [hf]; rcases hw with e | e <;> simp [wirK,e]
   refine .inr (.inl ⟨hw,?_,fun h4 => ?_⟩)
   ·simp [leafD,hw1]
   ·simp only [leafD,hw1,if_true]
    cases hv : validB r.b.data.toList with
    | true => rfl
    | false => exact absurd ⟨h4,hv⟩ h2
  ·have hw0 : wirK f.kind = 0 := by
    unfold wirK;rw [if_neg (fun e => by rcases e with e | e | e; exact hw (.inl e); exact hw (.inr e); exact h7 e)]
   rw [leaf_num hf hw0];refine .inl ⟨hw0,rfl,fun h36 => ?_⟩;simp only
   cases hv : nmrB f.kind r.n with
   | true => rfl
   | false => exact absurd ⟨h36,hv⟩ h1
theorem getLast_mem {α : Type} {l : List α} {x : α} (h : l.getLast? = some x) : x ∈ l := List.mem_of_getLast? h
theorem fldT_mem {label : Int} {xs : List Tr} {x : Tr} (h : x ∈ fldT label xs) : x ∈ xs ∧ (label ≠ 3 → ¬ (label = 1 ∧ zroB x = true)) := by
 unfold fldT at h
 split at h
 ·rename_i h3; exact ⟨h,fun e => absurd h3 e⟩
 ·split at h
  ·cases h
  ·rename_i y hy
   split at h
   ·cases h
   ·rename_i hz
    obtain rfl : x = y := by simpa using h
    exact ⟨getLast_mem hy,fun _ => hz⟩
theorem fldT_len {label : Int} {xs : List Tr} (h : label = 3 → xs.length ≤ 64) : (fldT label xs).length ≤ (if label = 3 then 64 else 1) := by
 unfold fldT
 by_cases h3 : label = 3
 ·rw [if_pos h3,if_pos h3]; exact h h3
 ·rw [if_neg h3,if_neg h3]
  split
  ·simp
  ·split <;> simp
theorem dec_fit : ∀ (k : Nat) (s : ScS) (nm : ByteArray) (ns : List Nat),(∀ b ∈ ns,b < 256) → (decM k s nm ns).2 = 0 → DFit k s nm (decM k s nm ns).1 ∧ ∀ n,N64 n (decM k s nm ns).1
 | 0,_,_,_,_,h => absurd h (by simp [decM])
 | k + 1,s,nm,ns,hb,h => by
  obtain ⟨m,l,hm,hg,hr,e⟩ := dec_inv h;obtain ⟨hp,h64⟩ := putL_get hb hg;obtain ⟨ho,hlen,hpe⟩ := putL_inv (rs := l) (by rw [hp]);have hfit := (run_fit l).1 hr;have hran := run_ran hr;rw [e];generalize (runD (decM k s) m.fields ⟨[],[]⟩ l).1 = st at hran ⊢
  have hrm : ∀ r ∈ sortF st.rest,r ∈ l ∧ fldOf m.fields r.tag = none := fun r hr => by
   have := (sortF_perm _).mem_iff.1 hr;rw [hran.rest] at this;obtain ⟨h1,h2⟩ := List.mem_filter.1 this;exact ⟨h1,by simpa using h2⟩
  have hxs : ∀ e ∈ st.es,∃ f,fldOf m.fields e.1 = some f ∧ e.2 = fldT f.label ((ofT l e.1).map fun r => (treeD (decM k s) f r).1) := fun e he => by
   obtain ⟨f,hf⟩ := hran.kn e he;exact ⟨f,hf,by rw [← hran.und e.1 f hf,und_mem hran.ris he]⟩
  have hx1 : ∀ e ∈ st.es,∀ f,fldOf m.fields e.1 = some f → ∀ x ∈ e.2,∃ r ∈ l,(treeD (decM k s) f r).2 = 0 ∧ x = (treeD (decM k s) f r).1 ∧ (f.label ≠ 3 → ¬ (f.label = 1 ∧ zroB x = true)) := fun e he f hf x hx => by
   obtain ⟨g,hg,e2⟩ := hxs e he;rw [hf] at hg; cases hg;rw [e2] at hx;obtain ⟨h1,h2⟩ := fldT_mem hx;obtain ⟨r,hr,rfl⟩ := List.mem_map.1 h1;obtain ⟨hrl,hrt⟩ := List.mem_filter.1 hr;simp only [decide_eq_true_eq] at hrt;exact ⟨r,hrl,hfit.1 r hrl f (by rw [hrt]; exact hf),rfl,h2⟩
  refine ⟨⟨m,hm,⟨rfl,rfl,rfl⟩,hran.ris,fun e he => ?_,(sortF_all _ _ (Nat.le_refl _)).1,fun r hr => ⟨(hrm r hr).2,List.all_eq_true.1 ho r (hrm r hr).1⟩⟩,fun n => ?_⟩
  ·obtain ⟨f,hf,e2⟩ := hxs e he;refine ⟨f,hf,hran.ne e he,?_,fun x hx => ?_⟩
   ·rw [e2];refine fldT_len fun h3 => ?_
    rw [List.length_map];exact hfit.2 e.1 f hf h3
   ·obtain ⟨r,hrl,h0,rfl,hz⟩ := hx1 e he f hf x hx;refine ⟨tree_fit h0 fun nm' ns' hb' h' => (dec_fit k s nm' ns' hb' h').1,fun hz1 => ?_⟩
    by_cases h3 : f.label = 3
    ·omega
    ·exact hz h3 hz1
  ·cases n with
   | zero => trivial
   | succ n =>
    refine ⟨by show Is64 0; unfold Is64; omega,fun r hr => h64 r (hrm r hr).1,fun e he x hx => ?_⟩;obtain ⟨f,hf,e2⟩ := hxs e he;obtain ⟨r,hrl,h0,rfl,_⟩ := hx1 e he f hf x hx;have hone := tree_fit (P := fun nm t => ∀ n,N64 n t) h0 fun nm' ns' hb' h' => (dec_fit k s nm' ns' hb' h').2
    rcases hone with ⟨hw,h2,_⟩ | ⟨_,h2,_⟩ | ⟨_,h2⟩
    ·cases n with
     | zero => trivial
     | succ n =>
      rw [h2];refine ⟨?_,by simp,by simp⟩
      have h7 : f.kind ≠ 7 := fun e => by rw [e] at hw; simp [wirK] at hw
      have hn : (treeD (decM k s) f r).1.n = r.n := by
       unfold treeD at h0 ⊢
       split at h0
       ·exact absurd h0 (by decide)
       rename_i g1
       rw [if_neg g1]
       split at h0
       ·exact absurd h0 (by decide)
       rename_i g2
       rw [if_neg g2]
       split at h0
       ·exact absurd h0 (by decide)
       rename_i g3
       rw [if_neg g3,if_neg h7,leaf_num (by simpa using g1) hw]
      simp only;rw [hn];exact h64 r hrl
    ·cases n with
     | zero => trivial
     | succ n =>
      rw [h2];exact ⟨by show Is64 0; unfold Is64; omega,by simp,by simp⟩
    ·exact h2 n
theorem msg_mem {s : ScS} {nm : ByteArray} {m : MsS} (h : msgOf s nm = some m) : m ∈ s.msgs := List.mem_of_find?_eq_some h
theorem fld_mem {fs : List FlS} {t : Int} {f : FlS} (h : fldOf fs t = some f) : f ∈ fs := List.mem_of_find?_eq_some h
theorem ok_field {s : ScS} (hs : OkS s) {nm : ByteArray} {m : MsS} {t : Int} {f : FlS} (hm : msgOf s nm = some m) (hf : fldOf m.fields t = some f) : fieldOk s.mn s.en f := by
 have := ((hs.msgs m (msg_mem hm)).2).2.2.2.1 f (fld_mem hf);exact this.1
theorem ok_msgT {s : ScS} {f : FlS} (h : fieldOk s.mn s.en f) (h7 : f.kind = 7) : (msgOf s f.tname).isSome = true := by
 have h4 := h.2.2.2
 have hm : f.tname ∈ s.mn := by
  unfold typeB at h4
  simpa [h7,memB_iff] using h4
 obtain ⟨m,hm,e⟩ := List.mem_map.1 hm;unfold msgOf;rw [List.find?_isSome];exact ⟨m,hm,by simpa using e⟩
end
section
open Go.ChangeShapes Go.WideShapes Go.ChangeAt Go.RowKit
theorem typeB_kindR {mn en : List ByteArray} {k : Int} {t : ByteArray} (h : typeB mn en k t = true) : 1 ≤ k ∧ k ≤ 7 := by
 unfold typeB at h
 by_cases h1 : 1 ≤ k ∧ k ≤ 7
 ·exact h1
 ·exfalso
  revert h
  simp
  intros
  omega
theorem ok_kindsR {s : ScS} (h : OkS s) : ∀ m ∈ s.msgs,∀ f ∈ m.fields,1 ≤ f.kind ∧ f.kind ≤ 7 := fun m hm f hf => typeB_kindR ((h.msgs m hm).2.2.2.2.1 f hf).1.2.2.2
theorem get_facts {ns : List Nat} (hb : ∀ n ∈ ns,n < 256) {L : List Fd} (h : getL ns = (L,0)) : ∀ r ∈ L,Is64 r.tag ∧ (r.wire = 0 ∨ r.wire = 1) ∧ Is64 r.n ∧ r.b.size ≤ 6000 := fun r hr => by
 obtain ⟨hp,hn⟩ := putL_get hb h;obtain ⟨ho,_,_⟩ := putL_inv (rs := L) (by rw [hp]);have h1 := List.all_eq_true.1 ho r hr;have h2 := hn r hr;have h0 := h1;simp only [okF,okV,Bool.and_eq_true,Bool.or_eq_true,decide_eq_true_eq,beq_iff_eq] at h1;unfold Is64 at h2 ⊢;obtain ⟨h3,h5⟩ := h1;refine ⟨by omega,?_,h2,?_⟩
 ·rcases h5 with h5 | h5
  ·exact .inl (by have := h5.1; omega)
  ·exact .inr (by have := h5.1.1; omega)
 ·rcases h5 with h5 | h5
  ·rw [ok_num h0 h5.1]; show (0 : Nat) ≤ 6000; omega
  ·have := (ok_txt h0 h5.1.1).2; omega
section
variable {n B bt : Nat} {K : List KE} {ve vr : Value} {rest : List Fd} {w w' : World}
theorem RdS.enk (h : RdS n B bt K ve vr rest w) : EnK n B K ve w := ⟨h.er,h.row⟩
theorem RdS.setRest (h : RdS n B bt K ve vr rest w) (hB : B ≤ w.heap.size) {v2 : Value} {l : List Fd} (ho : w'.ownsRow w.heap.size 61 4 v2 l.length (rawCells l)) (hb : Below w.heap.size w w') (hl : Fd64 l) :
  RdS n B bt K ve v2 l (w'.setCell ⟨bt,4,none⟩ v2) ∧ Kp (fun q => q = bt) w (w'.setCell ⟨bt,4,none⟩ v2) := by
 have k5 : Kp (fun q => q = bt) w' (w'.setCell ⟨bt,4,none⟩ v2) := by
  refine Kp.setCell ?_ (fun _ => by simp) _;exact Kp.refl _ _
 have h1 := h.below hb
 have apv : Apt w.heap.size w' (blkOf v2) := by
  refine ⟨by unfold blkOf; split <;> simp,fun q hq => own_lt ho (mem_blkOf.1 hq)⟩
 have hap : Apt B w' ((fpK K ++ blkOf ve) ++ blkOf v2) := Apt.append h.ap.left apv hB (Nat.le_refl _) hb.size;have hS : Sm w' (w'.setCell ⟨bt,4,none⟩ v2) ((fpK K ++ blkOf ve) ++ blkOf v2) := k5.sm fun q hq => ⟨(hap.2 q hq).2,fun e => by have := (hap.2 q hq).1; have := h.lt; omega⟩
 refine ⟨⟨h1.tb.set 4 _ rfl,own_sm h1.er (hS.mono fun q hq => by simp [hq]),fun j hj => ?_,h.i64,own_sm (own_base ho hB) (hS.mono fun q hq => List.mem_append.2 (.inr hq)),hl,hap.mono k5.size,h.lt⟩,(Kp.ofBelow hb).trans k5⟩;obtain ⟨rows,bss,g1,g2⟩ := h1.row j hj;exact ⟨rows,bss,g1.sm (hS.mono fun q hq => List.mem_append.2 (.inl (List.mem_append.2 (.inl (fpK_mem hj q (by rw [g2]; exact hq)))))) fun _ _ _ hp hb => hp.sm hb,g2⟩
theorem fpK_filter (p : KE → Bool) (K : List KE) (q : Nat) : (fpK (K.filter p)).count q ≤ (fpK K).count q := by
 induction K with
 | nil => simp
 | cons a l ih =>
  simp only [List.filter_cons]
  split
  ·simp only [fpK_cons,List.count_append]; omega
  ·simp only [fpK_cons,List.count_append]; omega
theorem RdS.done (h : RdS n B bt K ve vr rest w) (hB : B ≤ w.heap.size) (p : KE → Bool) {v : Value} (ho : w'.ownsRow w.heap.size 80 2 v (K.filter p).length (entCells (K.filter p))) (hb : Below w.heap.size w w') :
  ∃ bs,TrO (n + 1) B w' [.int .i64 3,.int .i64 0,.string ⟨#[]⟩,v,vr] ⟨3,0,⟨#[]⟩,esK (K.filter p),rest⟩ bs ∧ Apt B w' bs := by
 have h1 := h.below hb;have apv : Apt w.heap.size w' (blkOf v) := ⟨by unfold blkOf; split <;> simp,fun q hq => own_lt ho (mem_blkOf.1 hq)⟩;have hap : Apt B w' (((fpK K ++ blkOf ve) ++ blkOf vr) ++ blkOf v) := Apt.append h.ap apv hB (Nat.le_refl _) hb.size;refine ⟨blkOf vr ++ allB v ((K.filter p).map fun k => k.2.2.2),⟨v,vr,(K.filter p).map entC,(K.filter p).map fun k => k.2.2.2,rfl,(by unfold Is64; simp),is64_0,(show (0 : Nat) ≤ 140737488351232 by omega),h.r64,h1.rr,?_,rfl⟩,?_⟩
 ·refine ⟨?_,by simp [esK],by simp [esK],entC_two _,fun i x hx => ?_⟩
  ·have : (esK (K.filter p)).length = (K.filter p).length := by simp [esK]
   rw [this];exact own_base ho hB
  ·simp only [esK,List.getElem?_map,Option.map_eq_some_iff] at hx;obtain ⟨k,hk,rfl⟩ := hx;have hkm : k ∈ K := (List.mem_filter.1 (List.mem_of_getElem? hk)).1;obtain ⟨rows,bss,g1,g2⟩ := h1.row k hkm;exact ⟨entC k,k.2.2.2,by simp [hk],by simp [hk],k.2.1,rows,bss,rfl,h.i64 k hkm,g1,g2⟩
 ·refine hap.of_count fun q => ?_
  have h2 := fpK_filter p K q;have h3 : ((K.filter p).map fun k => k.2.2.2).flatten = fpK (K.filter p) := rfl;rw [allB,h3];simp only [List.count_append]
  omega
end
theorem rnumber_any (k n : Int) (nm : ByteArray) (w : World) : Calls Tryz.prog 117 #[.agg #[.int .i64 k,.string nm],.int .i64 n] w fun e w' => e = .returned (.bool (nmrB k n)) ∧ Below w.heap.size w w' := by
 have hb : Below w.heap.size w (w.alloc (Obj.cells #[.int .i64 k,.string nm] 56)) := bra _
 have kk : k = 3 ∨ k = 6 ∨ k = 1 ∨ k = 2 ∨ (¬ k = 3 ∧ ¬ k = 6 ∧ ¬ k = 1 ∧ ¬ k = 2) := by omega
 rcases kk with rfl | rfl | rfl | rfl | ⟨h3,h6,h1,h2⟩
 ·by_cases h0 : n = 0
  ·subst h0
   have hr : nmrB 3 0 = true := by decide
   rw [hr];clear hr
   go_enter Tryz.func117,Tryz.ntmps117
   go_wp2_with fail;go_ret;exact ⟨rfl,hb⟩
  ·by_cases h1 : n = 1
   ·subst h1
    have hr : nmrB 3 1 = true := by decide
    rw [hr];clear hr
    go_enter Tryz.func117,Tryz.ntmps117
    go_wp2_with fail;go_ret;exact ⟨rfl,hb⟩
   ·have e0 : (n == 0) = false := by simpa using h0
    have e1 : (n == 1) = false := by simpa using h1
    have hr : nmrB 3 n = false := by simp [nmrB]; omega
    rw [hr];clear hr h0 h1
    go_enter Tryz.func117,Tryz.ntmps117
    go_wp2_with fail;go_ret;exact ⟨rfl,hb⟩
 ·by_cases h0 : 0 ≤ n
  ·have e0 : decide (0 ≤ n) = true := by simpa using h0
   by_cases h1 : n ≤ 2147483647
   ·have e1 : decide (n ≤ 2147483647) = true := by simpa using h1
    have hr : nmrB 6 n = true := by simp [nmrB]; omega
    rw [hr];clear hr h0 h1
    go_enter Tryz.func117,Tryz.ntmps117
    go_wp2_with fail;go_ret;exact ⟨rfl,hb⟩
   ·have e1 : decide (n ≤ 2147483647) = false := by simpa using h1
    have hr : nmrB 6 n = false := by simp [nmrB]; omega
    rw [hr];clear hr h0 h1
    go_enter Tryz.func117,Tryz.ntmps117
    go_wp2_with fail;go_ret;exact ⟨rfl,hb⟩
  ·have e0 : decide (0 ≤ n) = false := by simpa using h0
   have hr : nmrB 6 n = false := by simp [nmrB]; omega
   rw [hr];clear hr h0
   go_enter Tryz.func117,Tryz.ntmps117
   go_wp2_with fail;go_ret;exact ⟨rfl,hb⟩
 ·by_cases h0 : -2147483648 ≤ n
  ·have e0 : decide (-2147483648 ≤ n) = true := by simpa using h0
   by_cases h1 : n ≤ 2147483647
   ·have e1 : decide (n ≤ 2147483647) = true := by simpa using h1
    have hr : nmrB 1 n = true := by simp [nmrB]; omega
    rw [hr];clear hr h0 h1
    go_enter Tryz.func117,Tryz.ntmps117
    go_wp2_with fail;go_ret;exact ⟨rfl,hb⟩
   ·have e1 : decide (n ≤ 2147483647) = false := by simpa using h1
    have hr : nmrB 1 n = false := by simp [nmrB]; omega
    rw [hr];clear hr h0 h1
    go_enter Tryz.func117,Tryz.ntmps117
    go_wp2_with fail;go_ret;exact ⟨rfl,hb⟩
  ·have e0 : decide (-2147483648 ≤ n) = false := by simpa using h0
   have hr : nmrB 1 n = false := by simp [nmrB]; omega
   rw [hr];clear hr h0
   go_enter Tryz.func117,Tryz.ntmps117
   go_wp2_with fail;go_ret;exact ⟨rfl,hb⟩
 ·have hr : nmrB 2 n = true := by simp [nmrB]
  rw [hr];clear hr
  go_enter Tryz.func117,Tryz.ntmps117
  go_wp2_with fail;go_ret;exact ⟨rfl,hb⟩
 ·have e1 : (k == 1) = false := by simpa using h1
  have e2 : (k == 2) = false := by simpa using h2
  have e3 : (k == 3) = false := by simpa using h3
  have e6 : (k == 6) = false := by simpa using h6
  have hr : nmrB k n = false := by simp [nmrB,h3,h6,h1,h2]
  rw [hr];clear h1 h2 h3 h6 hr
  go_enter Tryz.func117,Tryz.ntmps117
  go_wp2_with fail;go_ret;exact ⟨rfl,hb⟩
theorem rkind_any (k : Int) (nm : ByteArray) (w : World) (hk : 1 ≤ k ∧ k ≤ 7) : Calls Tryz.prog 116 #[.agg #[.int .i64 k,.string nm]] w fun e w' => e = .returned (.int .i64 (kindT k)) ∧ Below w.heap.size w w' := by
 have hb : Below w.heap.size w (w.alloc (Obj.cells #[.int .i64 k,.string nm] 56)) := bra _
 have hc : k = 1 ∨ k = 2 ∨ k = 3 ∨ k = 4 ∨ k = 5 ∨ k = 6 ∨ k = 7 := by omega
 clear hk
 rcases hc with rfl | rfl | rfl | rfl | rfl | rfl | rfl <;>
 ·go_enter Tryz.func116,Tryz.ntmps116
  go_wp2_with fail;go_ret;exact ⟨rfl,hb⟩
end
end Go.Proofs.YtiajaocckkghgaaGreat

/- Part 9 of what the proof stands on. -/
import Derived.Test.YtmgbhicogmclgabPkLAH
namespace Go.Proofs.Ytmgbhicogmclgab
set_option maxHeartbeats 8000000
set_option linter.unusedVariables false
set_option linter.unusedSimpArgs false
set_option maxRecDepth 20000
open Go.ChangeShapes Go.WideShapes Go.ChangeAt Go.RowKit
theorem pblk3L (w : World) (c1 c2 c3 : Array Value) (t1 t2 t3 : TypeId) : Blk (((w.alloc (Obj.cells c1 t1)).alloc (Obj.cells c2 t2)).alloc (Obj.cells c3 t3)) w.heap.size c1 t1 ∧ Blk (((w.alloc (Obj.cells c1 t1)).alloc (Obj.cells c2 t2)).alloc (Obj.cells c3 t3)) (w.heap.size + 1) c2 t2 ∧ Blk (((w.alloc (Obj.cells c1 t1)).alloc (Obj.cells c2 t2)).alloc (Obj.cells c3 t3)) (w.heap.size + 2) c3 t3 ∧ Below w.heap.size w (((w.alloc (Obj.cells c1 t1)).alloc (Obj.cells c2 t2)).alloc (Obj.cells c3 t3)) := by
 have s1 : (w.alloc (Obj.cells c1 t1)).heap.size = w.heap.size + 1 := by simp
 have s2 : ((w.alloc (Obj.cells c1 t1)).alloc (Obj.cells c2 t2)).heap.size = w.heap.size + 2 := by simp
 have al : ∀ (W : World) (x : Obj),Below W.heap.size W (W.alloc x) := fun W x => (Below.refl _ _).alloc (Nat.le_refl _) _
 have b1 := Blk.new w c1 t1;have b2 := Blk.new (w.alloc (Obj.cells c1 t1)) c2 t2;have b3 := Blk.new ((w.alloc (Obj.cells c1 t1)).alloc (Obj.cells c2 t2)) c3 t3;rw [s1] at b2;rw [s2] at b3;exact ⟨(b1.below (al _ _)).below (al _ _),b2.below (al _ _),b3,(((Below.refl _ w).alloc (Nat.le_refl _) _).alloc (by omega) _).alloc (by omega) _⟩
theorem one_ent {n : Nat} {w : World} {t : Tr} {K N : Int} {S : ByteArray} {a1 a2 : Option Addr} {n1 c1 n2 c2 : Nat} (h : TrIn n w (.agg #[.int .i64 K,.int .i64 N,.string S,.slice a1 n1 c1,.slice a2 n2 c2]) t) {tag : Int} {xs : List Tr} (he : t.es = [(tag,xs)]) :
  n1 = 1 ∧ ∃ g o pt ct,a1 = some ⟨g,o,none⟩ ∧ w.cell? ⟨g,o + 1,none⟩ = some (.slice pt xs.length ct) ∧ ∃ m,TrsIn m w (.slice pt xs.length ct) xs := by
 obtain ⟨r,e,h⟩ := h;simp only [Value.agg.injEq] at e;have e' := congrArg Array.toList e;simp only at e';subst e'
 cases n with
 | zero => exact h.elim
 | succ n =>
  obtain ⟨ve,vr,e1, -, -, -, -, -,k6⟩ := h;simp only [List.cons.injEq,true_and,and_true] at e1;obtain ⟨-, -, -,rfl, -⟩ := e1;obtain ⟨ae,ce,e2, -⟩ := k6.open;rw [he] at e2 k6;simp only [Value.slice.injEq,List.length_singleton] at e2;obtain ⟨rfl,rfl,rfl⟩ := e2;obtain ⟨g,o,rfl,cc⟩ := k6.get (i := 0) rfl;obtain ⟨vt,p0,p1,p2,p3⟩ := ens_at cc;obtain ⟨pt,ct,rfl, -⟩ := p3.open;simp only [Nat.zero_mul,Nat.add_zero] at p1;exact ⟨rfl,g,o,pt,ct,rfl,p1,n,p3⟩
theorem no_ent {n : Nat} {w : World} {t : Tr} {K N : Int} {S : ByteArray} {a1 a2 : Option Addr} {n1 c1 n2 c2 : Nat} (h : TrIn n w (.agg #[.int .i64 K,.int .i64 N,.string S,.slice a1 n1 c1,.slice a2 n2 c2]) t) (he : t.es = []) : n1 = 0 := by
 obtain ⟨r,e,h⟩ := h;simp only [Value.agg.injEq] at e;have e' := congrArg Array.toList e;simp only at e';subst e'
 cases n with
 | zero => exact h.elim
 | succ n =>
  obtain ⟨ve,vr,e1, -, -, -, -, -,k6⟩ := h;simp only [List.cons.injEq,true_and,and_true] at e1;obtain ⟨-, -, -,rfl, -⟩ := e1;obtain ⟨ae,ce,e2, -⟩ := k6.open;rw [he] at e2;simp only [Value.slice.injEq] at e2;exact e2.2.1
theorem one_tree {m : Nat} {w : World} {pt : Option Addr} {K ct : Nat} {x : Tr} {xs : List Tr} (h : TrsIn m w (.slice pt K ct) xs) (hx : xs[0]? = some x) : ∃ g o,pt = some ⟨g,o,none⟩ ∧ w.cell? ⟨g,o + 1,none⟩ = some (.int .i64 x.n) := by
 obtain ⟨g,o,e,k1⟩ := h.get hx;obtain ⟨u1,n1,v1,u2,n2,v2,z0,z1, -⟩ := trs_get k1;simp only [Nat.zero_mul,Nat.add_zero] at z1;exact ⟨g,o,e,z1⟩
theorem projectLast_walk (la : Option Addr) (L lc : Nat) (zs : List Int) (label : Int) (w : World) (hI : IsRow .i64 w la L lc zs) (hcap : lc * Try.prog.bytesOf 3 ≤ 140737488351232) (g2 : (Lit.int .i64 label).wf = true) :
  Calls Try.prog 3 #[.slice la L lc,.int .i64 label] w fun e w' => e = .returned (.bool true) ∧ Below w.heap.size w w' := by
 have HPJ : ProjC := project_any;obtain ⟨i1,i2⟩ := bounds_i64 g2;have HPJ' : Hid ProjC := HPJ;obtain ⟨hRl,hLl⟩ := hI.rowG;have h64 := hI.i64;obtain ⟨l,hl⟩ : ∃ z,zs.take L = z := ⟨_,rfl⟩;rw [hl] at hRl hLl h64;have HRL : Hid (RowG w (.slice la L lc) 1 (inRows l) ∧ l.length = L ∧ ∀ n ∈ l,Is64 n) := ⟨hRl,hLl,h64⟩;clear hRl hLl h64 hl hI hcap g2 HPJ;have hP := placeI_in label 3 (by omega);have HPL : Hid (∀ W,Calls Try.prog 4 #[.int .i64 label,.int .i64 3] W fun e w1 => e = .returned (.int .i64 (placeI label 3)) ∧ w1 = W) := fun W => place_is label 3 i1 i2 (by omega) (by omega) W
 clear i1 i2;obtain ⟨P,hPe⟩ : ∃ z,placeI label 3 = z := ⟨_,rfl⟩;rw [hPe] at hP HPL;clear hPe
 have hc : P = 0 ∨ P = 1 ∨ P = 2 := by omega
 clear hP
 rcases hc with rfl | rfl | rfl
 ·skip
  go_enter Try.func3,Try.ntmps3
  go_wp2_with fail;refine (HPL.out _).mono ?_;rintro e w1 ⟨rfl,rfl⟩;obtain ⟨BF,BM,BS,hbS⟩ := pblk3L w1 #[.string ⟨#[120]⟩,.int .i64 5,.int .i64 1,.int .i64 2,.string ⟨#[]⟩] #[.string ⟨#[109]⟩,.slice (some ⟨w1.heap.size,0,none⟩) 1 1,.slice none 0 0] #[.string ⟨#[97]⟩,.slice (some ⟨w1.heap.size + 1,0,none⟩) 1 1,.slice none 0 0,.slice none 0 0] 27 30 35;clear HPL
  go_upto_region 3 with fail
  obtain ⟨b0,hb0⟩ : ∃ z,w1.heap.size = z := ⟨_,rfl⟩;have HBZ : Hid (w1.heap.size = b0) := hb0;generalize (((w1.alloc (Obj.cells #[.string ⟨#[120]⟩,.int .i64 5,.int .i64 1,.int .i64 2,.string ⟨#[]⟩] 27)).alloc (Obj.cells #[.string ⟨#[109]⟩,.slice (some ⟨w1.heap.size,0,none⟩) 1 1,.slice none 0 0] 30)).alloc (Obj.cells #[.string ⟨#[97]⟩,.slice (some ⟨w1.heap.size + 1,0,none⟩) 1 1,.slice none 0 0,.slice none 0 0] 35)) = WS at *;rw [hb0] at BF BM BS
  try simp only [hb0]
  clear hb0;have HSI : Hid (ScIn WS (.agg #[.string ⟨#[97]⟩,.slice (some ⟨b0 + 1,0,none⟩) 1 1,.slice none 0 0,.slice none 0 0]) (s1A 5 1 2 ⟨#[]⟩) ∧ Blk WS (b0 + 2) #[.string ⟨#[97]⟩,.slice (some ⟨b0 + 1,0,none⟩) 1 1,.slice none 0 0,.slice none 0 0] 35) := ⟨s1_in BF BM,BS⟩;have HWS : Hid (Below w1.heap.size w1 WS) := hbS;clear BF BM BS
  by_cases hL1 : L < 1
  ·have d1 : decide ((L : Int) < 1) = true := by simp; omega
   go_wp2_with fail;refine (pjawake_any _).mono ?_;rintro e wz ⟨rfl,hbz⟩;have hbwz : Below w1.heap.size w1 wz := hbS.trans (hbz.mono hbS.size);clear hbz;go_wp2_with fail;go_ret;exact ⟨rfl,hbwz⟩
  by_cases hL2 : 64 < L
  ·have d1 : decide ((L : Int) < 1) = false := by simp; omega
   have d2 : decide ((L : Int) > 64) = true := by simp; omega
   have d2' : decide (64 < (L : Int)) = true := by simp; omega
   go_wp2_with fail;refine (pjawake_any _).mono ?_;rintro e wz ⟨rfl,hbz⟩;have hbwz : Below w1.heap.size w1 wz := hbS.trans (hbz.mono hbS.size);clear hbz;go_wp2_with fail;go_ret;exact ⟨rfl,hbwz⟩
  have d1 : decide ((L : Int) < 1) = false := by simp; omega
  have d2 : decide ((L : Int) > 64) = false := by simp; omega
  have d2' : decide (64 < (L : Int)) = false := by simp; omega
  obtain ⟨g,hg⟩ : ∃ z,WS.heap.size = z := ⟨_,rfl⟩;have HG : Hid (WS.heap.size = g) := hg;have HNY : Hid (NumY g (.slice none 0 0) ((l.take 0).map numT) (WS.alloc (Obj.cells #[.int .i64 5,.slice none 0 0] 39))) := NumY.nil (by rw [← HG.out]; exact Blk.new WS _ _);have HBY : Hid (Below g WS (WS.alloc (Obj.cells #[.int .i64 5,.slice none 0 0] 39))) := (Below.refl _ _).alloc (by omega) _;clear hbS;go_wp2_with fail
  try simp only [hg]
  generalize (WS.alloc (Obj.cells #[.int .i64 5,.slice none 0 0] 39)) = WE at *;clear hg d1 d2 d2'
  go_loopw [8] (fun iv wz => ∃ (i : Nat) (ya : Option Addr) (yc : Nat),iv = .int .i64 (i : Int) ∧ i ≤ L ∧ Hid (NumY g (.slice ya i yc) ((l.take i).map numT) wz) ∧ Hid (Below g WS wz)) (fun iv _ => L - (intOf iv).toNat)
  case atStart => exact ⟨0,none,0,rfl,by omega,HNY,HBY⟩
  case round =>
   clear HNY HBY;obtain ⟨i,ya,yc,rfl,hi,HNY,HBY⟩ := hrel;have hgz : g < wr.heap.size := HNY.out.size
   by_cases hlt : i < L
   ·obtain ⟨v,hv⟩ : ∃ r,l[i]? = some r := ⟨_,List.getElem?_eq_getElem (by rw [HRL.out.2.1]; exact hlt)⟩;have HV : Hid (l[i]? = some v ∧ Is64 v) := ⟨hv,HRL.out.2.2 v (List.mem_of_getElem? hv)⟩;obtain ⟨gl,ol,rfl,c1⟩ := HRL.out.1.get (show (inRows l)[i]? = some [.int .i64 v] by simp [inRows,hv]);have c0 := c1 0 _ rfl;simp only [Nat.mul_one,Nat.add_zero] at c0;have HC0 : Hid (w1.cell? ⟨gl,ol + i,none⟩ = some (.int .i64 v)) := c0
    have HCT : Hid (∀ W,Kp (fun z => g < z) wr W → Blk W g #[.int .i64 5,.slice ya i yc] 39 ∧ W.cell? ⟨gl,ol + i,none⟩ = some (.int .i64 v)) := fun W hW => by
     have h1 : Below g wr W := hW.toBelow (by omega) (fun z hz => by omega);have h2 : Below w1.heap.size w1 W := HWS.out.trans ((HBY.out.trans h1).mono (by have := HWS.out.size; have := HG.out; omega));exact ⟨HNY.out.1.kp hW (by omega),(h2.cell (World.block_lt_of_cell? _ _ HC0.out)).trans HC0.out⟩
    have HTK : Hid (((l.take (i + 1)).map numT) = ((l.take i).map numT) ++ [numT v]) := (by rw [take_atC HV.out.1,List.map_append,List.map_cons,List.map_nil] : _ = _);have HQL : Hid (((l.take i).map numT).length = i) := (by rw [List.length_map,List.length_take,HRL.out.2.1]; omega : _ = _);clear hv c0 c1
    go_upto_region 9 with fail
    refine M_region (T := fun W => Kp (fun z => g < z) wr W) (m := 9) (by kernel_rfl) ?_;have hdr : Below wr.heap.size wr wr.drew := (Below.refl _ _).drew;have hS : Kp (fun z => g < z) wr wr.drew := Kp.ofBelow hdr;refine M_take 0 38 (.pointer (some ⟨g,1,none⟩)) _ rfl rfl (by kernel_rfl) (by kernel_rfl) (by kernel_rfl) (by kernel_rfl) (by kernel_rfl) (fun _ _ _ h => h) (by rfl) (fun w' hw' => ?_) hS (listed' := bts 11 1) (by kernel_rfl) rfl ?_
    ·go_simp
    simp only [zsA,zsZ,zsS];refine M_take 1 39 (.slice ya i yc) _ rfl rfl (by kernel_rfl) (by kernel_rfl) (by kernel_rfl) (by kernel_rfl) (by kernel_rfl) (fun _ _ _ h => h) (by rfl) (fun w' hw' => ?_) hS (listed' := bts 11 3) (by kernel_rfl) rfl ?_
    ·obtain ⟨HB0,z0⟩ := HCT.out _ hw'; have f1 := (HB0.cell 1).trans rfl; go_simp
    simp only [zsA,zsZ,zsS];refine M_take 2 40 (.slice (some ⟨gl,ol,none⟩) L lc) _ rfl rfl (by kernel_rfl) (by kernel_rfl) (by kernel_rfl) (by kernel_rfl) (by kernel_rfl) (fun _ _ _ h => h) (by rfl) (fun w' hw' => ?_) hS (listed' := bts 11 7) (by kernel_rfl) rfl ?_
    ·go_simp
    simp only [zsA,zsZ,zsS];refine M_take 3 41 (.int .i64 (i : Int)) _ rfl rfl (by kernel_rfl) (by kernel_rfl) (by kernel_rfl) (by kernel_rfl) (by kernel_rfl) (fun _ _ _ h => h) (by rfl) (fun w' hw' => ?_) hS (listed' := bts 11 15) (by kernel_rfl) rfl ?_
    ·go_simp
    simp only [zsA,zsZ,zsS];refine M_take 4 42 (.pointer (some ⟨gl,ol + i,none⟩)) _ rfl rfl (by kernel_rfl) (by kernel_rfl) (by kernel_rfl) (by kernel_rfl) (by kernel_rfl) (fun _ _ _ h => h) (by rfl) (fun w' hw' => ?_) hS (listed' := bts 11 31) (by kernel_rfl) rfl ?_
    ·go_simp
    simp only [zsA,zsZ,zsS];refine M_take 5 43 (.int .i64 v) _ rfl rfl (by kernel_rfl) (by kernel_rfl) (by kernel_rfl) (by kernel_rfl) (by kernel_rfl) (fun _ _ _ h => h) (by rfl) (fun w' hw' => ?_) hS (listed' := bts 11 63) (by kernel_rfl) rfl ?_
    ·obtain ⟨HB0,z0⟩ := HCT.out _ hw'; go_simp
    simp only [zsA,zsZ,zsS];refine M_take 6 44 (.agg #[.int .i64 1,.int .i64 v,.string ⟨#[]⟩,.slice none 0 0,.slice none 0 0]) _ rfl rfl (by kernel_rfl) (by kernel_rfl) (by kernel_rfl) (by kernel_rfl) (by kernel_rfl) (fun _ _ _ h => h) (by rfl) (fun w' hw' => ?_) hS (listed' := bts 11 127) (by kernel_rfl) rfl ?_
    ·go_simp
    simp only [zsA,zsZ,zsS];have hd2 : Below wr.heap.size wr (wr.drew.alloc (Obj.cells #[.int .i64 1,.int .i64 v,.string ⟨#[]⟩,.slice none 0 0,.slice none 0 0] 43)) := hdr.alloc (Nat.le_refl _) _;have BZ : Blk (wr.drew.alloc (Obj.cells #[.int .i64 1,.int .i64 v,.string ⟨#[]⟩,.slice none 0 0,.slice none 0 0] 43)) wr.heap.size #[.int .i64 1,.int .i64 v,.string ⟨#[]⟩,.slice none 0 0,.slice none 0 0] 43 := Blk.new wr.drew _ _;obtain ⟨ba,bc,W',r1,r2,r3,r4,r5⟩ := HNY.out.push hd2 HV.out.2 BZ (by rw [HQL.out]; omega);rw [HQL.out] at r1 r3 r5;rw [← HTK.out] at r3;have HRUN : Hid ((Builtin.append_ #[37,37] 37 #[.slice ya i yc,.slice (some ⟨wr.heap.size,0,none⟩) 1 1]).run Try.prog (wr.drew.alloc (Obj.cells #[.int .i64 1,.int .i64 v,.string ⟨#[]⟩,.slice none 0 0,.slice none 0 0] 43)) = .ok (.slice ba (i + 1) bc) W') := r1;have hS2 : Kp (fun z => g < z) wr (wr.drew.alloc (Obj.cells #[.int .i64 1,.int .i64 v,.string ⟨#[]⟩,.slice none 0 0,.slice none 0 0] 43)) := Kp.ofBelow hd2;have hS3 : Kp (fun z => g < z) wr W' := hS2.trans2 r4 fun _ _ hi => hi
    have s1 := (r2.cell 1).trans rfl;have s2 := r2.froz 1;have HNY2 : Hid (NumY g (.slice ba (i + 1) bc) ((l.take (i + 1)).map numT) (W'.setCell ⟨g,1,none⟩ (.slice ba (i + 1) bc))) := r3;have HBY2 : Hid (Below g WS (W'.setCell ⟨g,1,none⟩ (.slice ba (i + 1) bc))) := HBY.out.trans (r5.toBelow (by omega) (fun z hz => hz));clear r1 r2 r3 r4 r5 BZ hd2 hdr;refine M_run 7 45 (.slice (some ⟨wr.heap.size,0,none⟩) 1 1) ((wr.drew.alloc (Obj.cells #[.int .i64 1,.int .i64 v,.string ⟨#[]⟩,.slice none 0 0,.slice none 0 0] 43))) rfl rfl (by kernel_rfl) (by rfl) (listed' := bts 11 255) (by kernel_rfl) (by go_simp) hS2 ?_;simp only [zsA,zsZ,zsS];refine M_run 8 46 (.slice ba (i + 1) bc) (W') rfl rfl (by kernel_rfl) (by rfl) (listed' := bts 11 511) (by kernel_rfl) (append_run rfl rfl rfl HRUN.out) hS3 ?_;simp only [zsA,zsZ,zsS];refine M_runA 9 47 (.pointer (some ⟨g,1,none⟩)) W' rfl rfl (by kernel_rfl) (by rfl) (listed' := bts 11 1023) (by kernel_rfl) (by go_simp) (by kernel_rfl) ?_;simp only [zsA,zsZ,zsS];refine M_store 10 (W'.setCell ⟨g,1,none⟩ (.slice ba (i + 1) bc)) rfl rfl (by kernel_rfl) (by rfl) (listed' := bts 11 2047) (by kernel_rfl) (by go_simp) (by kernel_rfl) ?_;refine M_done (by kernel_rfl) ?_ _;clear HRUN s1 s2 hS hS2 hS3;generalize (W'.setCell ⟨g,1,none⟩ (.slice ba (i + 1) bc)) = W9 at *;go_wp2_with fail
    go_roundw
    case rel => exact ⟨i + 1,ba,bc,by go_num,by omega,HNY2,HBY2⟩
    case measure => simp [intOf]; omega
   ·skip
    obtain rfl : i = L := by omega
    have hi1 : 1 ≤ i := by omega
    have HNF : Hid (NumY g (.slice ya i yc) (l.map numT) wr) := (by
     have h1 := HNY.out;rw [List.take_of_length_le (by rw [HRL.out.2.1]; exact Nat.le_refl _)] at h1
     exact h1 : NumY _ _ _ _)
    obtain ⟨v,hv⟩ : ∃ r,l[i - 1]? = some r := ⟨_,List.getElem?_eq_getElem (by rw [HRL.out.2.1]; omega)⟩;have HVL : Hid (l.getLastD 0 = v) := (by rw [List.getLastD_eq_getLast?,List.getLast?_eq_getElem?,HRL.out.2.1,hv]; rfl : _ = _);obtain ⟨gl,ol,rfl,cx⟩ := HRL.out.1.get (show (inRows l)[i - 1]? = some [.int .i64 v] by simp [inRows,hv]);have c0 := cx 0 _ rfl;simp only [Nat.mul_one,Nat.add_zero] at c0;have hbs : Below w1.heap.size w1 wr := HWS.out.trans (HBY.out.mono (by have := HWS.out.size; have := HG.out; omega))
    have hss : Below WS.heap.size WS wr := by rw [HG.out]; exact HBY.out
    have hal : Below wr.heap.size wr (wr.alloc (Obj.cells #[.int .i64 5,.slice ya i yc] 39)) := (Below.refl _ _).alloc (Nat.le_refl _) _;have HTW : Hid (TrW 2 (wr.alloc (Obj.cells #[.int .i64 5,.slice ya i yc] 39)) (.agg #[.int .i64 3,.int .i64 0,.string ⟨#[]⟩,.slice (some ⟨wr.heap.size,0,none⟩) 1 1,.slice none 0 0]) (numsT l)) := (HNF.out.below hal).trW (Blk.new wr _ _)
    have HPC : Hid (Calls Try.prog 6 #[.agg #[.string ⟨#[97]⟩,.slice (some ⟨b0 + 1,0,none⟩) 1 1,.slice none 0 0,.slice none 0 0],.string ⟨#[109]⟩,.agg #[.int .i64 3,.int .i64 0,.string ⟨#[]⟩,.slice (some ⟨wr.heap.size,0,none⟩) 1 1,.slice none 0 0]] (wr.alloc (Obj.cells #[.int .i64 5,.slice ya i yc] 39)) (SeeFP 2 ((⟨3,0,⟨#[]⟩,seenE 1 l,[]⟩ : Tr),true) (wr.alloc (Obj.cells #[.int .i64 5,.slice ya i yc] 39)))) := (by
     have hno := nums_ok (l := l) (by rw [HRL.out.2.1]; omega) (by rw [HRL.out.2.1]; omega);have h1 := HPJ'.out 1 (s1A 5 1 2 ⟨#[]⟩) (.agg #[.string ⟨#[97]⟩,.slice (some ⟨b0 + 1,0,none⟩) 1 1,.slice none 0 0,.slice none 0 0]) ⟨#[109]⟩ (.agg #[.int .i64 3,.int .i64 0,.string ⟨#[]⟩,.slice (some ⟨wr.heap.size,0,none⟩) 1 1,.slice none 0 0]) (numsT l) (wr.alloc (Obj.cells #[.int .i64 5,.slice ya i yc] 39)) (by omega) (HSI.out.1.below (hss.trans (hal.mono hss.size))) (s1_w 5 1 2 ⟨#[]⟩ (by unfold I64; omega) (by unfold I64; omega) (by unfold I64; omega) (by decide)) (s1_few 5 1 2 ⟨#[]⟩) HTW.out hno.2.1 hno.2.2;rw [proj_last (by omega) (by rw [HRL.out.2.1]; omega) (by rw [HRL.out.2.1]; omega)] at h1
     exact h1 : Calls Try.prog _ _ _ _)
    have BSr := HSI.out.2.below hss;have BYr := HNF.out.1;have hb7 : Below w1.heap.size w1 (wr.alloc (Obj.cells #[.int .i64 5,.slice ya i yc] 39)) := hbs.trans (hal.mono hbs.size);have HC0 : Hid (w1.cell? ⟨gl,ol + (i - 1),none⟩ = some (.int .i64 v)) := c0;have s0 := (BSr.cell 0).trans rfl;have s1 := (BSr.cell 1).trans rfl;have s2 := (BSr.cell 2).trans rfl;have s3 := (BSr.cell 3).trans rfl;have y0 := (BYr.cell 0).trans rfl;have y1 := (BYr.cell 1).trans rfl;clear hv cx c0 hbs hss hal BSr BYr hgz hlt hi;go_wp2_with fail;refine HPC.out.mono ?_;rintro e w8 ⟨r4,bs4,rfl,ht4,hap4,hb8⟩;have hTI := ht4.trIn;obtain ⟨a1,n1,c1,a2,n2,c2,hr4⟩ := ht4.open;simp only at hr4;subst hr4;have hb8' : Below w1.heap.size w1 w8 := hb7.trans (hb8.mono hb7.size);have cl := (hb8'.cell (World.block_lt_of_cell? _ _ HC0.out)).trans HC0.out;have ltl := World.block_lt_of_cell? _ _ cl;have hb9 : Below w1.heap.size w1 (w8.alloc (Obj.cells #[.int .i64 3,.int .i64 0,.string ⟨#[]⟩,.slice a1 n1 c1,.slice a2 n2 c2] 43)) := hb8'.alloc hb8'.size _
    have dI : ((i : Int) == (i : Int)) = true := by simp
    have dv : (v == v) = true := by simp
    clear HPC hap4 hb8 ht4 hb7 hb8' s0 s1 s2 s3 y0 y1
    by_cases hv0 : v = 0
    ·subst hv0;have hn := no_ent hTI (by show seenE 1 l = []; rw [seenE,if_neg (by decide),if_pos ⟨rfl,HVL.out⟩]);subst hn;clear hTI;go_wp2_with fail;refine (pjawake_any _).mono ?_;rintro e wz ⟨rfl,hbz⟩;have hbwz : Below w1.heap.size w1 wz := hb9.trans (hbz.mono hb9.size);clear hbz;go_wp2_with fail;go_ret;exact ⟨rfl,hbwz⟩
    have dv0 : (v == 0) = false := by simpa using hv0
    have HV0 : Hid (v ≠ 0) := hv0;clear hv0
    have he : (⟨3,0,⟨#[]⟩,seenE 1 l,[]⟩ : Tr).es = [(5,[numT v])] := by show seenE 1 l = _; rw [seenE,if_neg (by decide),if_neg (fun h => HV0.out (by rw [← HVL.out]; exact h.2)),HVL.out]
    obtain ⟨rfl,ge,oe,pt,ct,rfl,p1,m,pts⟩ := one_ent hTI he;obtain ⟨gt,ot,rfl,z1⟩ := one_tree pts (x := numT v) rfl;simp only [List.length_singleton] at p1;have z1' : w8.cell? ⟨gt,ot + 1,none⟩ = some (.int .i64 v) := z1;have lte := World.block_lt_of_cell? _ _ p1;have ltt := World.block_lt_of_cell? _ _ z1';clear he hTI pts z1;go_wp2_with fail;refine (pjawake_any _).mono ?_;rintro e wz ⟨rfl,hbz⟩;have hbwz : Below w1.heap.size w1 wz := hb9.trans (hbz.mono hb9.size);clear hbz;go_wp2_with fail;go_ret;exact ⟨rfl,hbwz⟩
 ·skip
  go_enter Try.func3,Try.ntmps3
  go_wp2_with fail;refine (HPL.out _).mono ?_;rintro e w1 ⟨rfl,rfl⟩;obtain ⟨BF,BM,BS,hbS⟩ := pblk3L w1 #[.string ⟨#[120]⟩,.int .i64 5,.int .i64 2,.int .i64 2,.string ⟨#[]⟩] #[.string ⟨#[109]⟩,.slice (some ⟨w1.heap.size,0,none⟩) 1 1,.slice none 0 0] #[.string ⟨#[97]⟩,.slice (some ⟨w1.heap.size + 1,0,none⟩) 1 1,.slice none 0 0,.slice none 0 0] 27 30 35;clear HPL
  go_upto_region 3 with fail
  obtain ⟨b0,hb0⟩ : ∃ z,w1.heap.size = z := ⟨_,rfl⟩;have HBZ : Hid (w1.heap.size = b0) := hb0;generalize (((w1.alloc (Obj.cells #[.string ⟨#[120]⟩,.int .i64 5,.int .i64 2,.int .i64 2,.string ⟨#[]⟩] 27)).alloc (Obj.cells #[.string ⟨#[109]⟩,.slice (some ⟨w1.heap.size,0,none⟩) 1 1,.slice none 0 0] 30)).alloc (Obj.cells #[.string ⟨#[97]⟩,.slice (some ⟨w1.heap.size + 1,0,none⟩) 1 1,.slice none 0 0,.slice none 0 0] 35)) = WS at *;rw [hb0] at BF BM BS
  try simp only [hb0]
  clear hb0;have HSI : Hid (ScIn WS (.agg #[.string ⟨#[97]⟩,.slice (some ⟨b0 + 1,0,none⟩) 1 1,.slice none 0 0,.slice none 0 0]) (s1A 5 2 2 ⟨#[]⟩) ∧ Blk WS (b0 + 2) #[.string ⟨#[97]⟩,.slice (some ⟨b0 + 1,0,none⟩) 1 1,.slice none 0 0,.slice none 0 0] 35) := ⟨s1_in BF BM,BS⟩;have HWS : Hid (Below w1.heap.size w1 WS) := hbS;clear BF BM BS
  by_cases hL1 : L < 1
  ·have d1 : decide ((L : Int) < 1) = true := by simp; omega
   go_wp2_with fail;refine (pjawake_any _).mono ?_;rintro e wz ⟨rfl,hbz⟩;have hbwz : Below w1.heap.size w1 wz := hbS.trans (hbz.mono hbS.size);clear hbz;go_wp2_with fail;go_ret;exact ⟨rfl,hbwz⟩
  by_cases hL2 : 64 < L
  ·have d1 : decide ((L : Int) < 1) = false := by simp; omega
   have d2 : decide ((L : Int) > 64) = true := by simp; omega
   have d2' : decide (64 < (L : Int)) = true := by simp; omega
   go_wp2_with fail;refine (pjawake_any _).mono ?_;rintro e wz ⟨rfl,hbz⟩;have hbwz : Below w1.heap.size w1 wz := hbS.trans (hbz.mono hbS.size);clear hbz;go_wp2_with fail;go_ret;exact ⟨rfl,hbwz⟩
  have d1 : decide ((L : Int) < 1) = false := by simp; omega
  have d2 : decide ((L : Int) > 64) = false := by simp; omega
  have d2' : decide (64 < (L : Int)) = false := by simp; omega
  obtain ⟨g,hg⟩ : ∃ z,WS.heap.size = z := ⟨_,rfl⟩;have HG : Hid (WS.heap.size = g) := hg;have HNY : Hid (NumY g (.slice none 0 0) ((l.take 0).map numT) (WS.alloc (Obj.cells #[.int .i64 5,.slice none 0 0] 39))) := NumY.nil (by rw [← HG.out]; exact Blk.new WS _ _);have HBY : Hid (Below g WS (WS.alloc (Obj.cells #[.int .i64 5,.slice none 0 0] 39))) := (Below.refl _ _).alloc (by omega) _;clear hbS;go_wp2_with fail
  try simp only [hg]
  generalize (WS.alloc (Obj.cells #[.int .i64 5,.slice none 0 0] 39)) = WE at *;clear hg d1 d2 d2'
  go_loopw [8] (fun iv wz => ∃ (i : Nat) (ya : Option Addr) (yc : Nat),iv = .int .i64 (i : Int) ∧ i ≤ L ∧ Hid (NumY g (.slice ya i yc) ((l.take i).map numT) wz) ∧ Hid (Below g WS wz)) (fun iv _ => L - (intOf iv).toNat)
  case atStart => exact ⟨0,none,0,rfl,by omega,HNY,HBY⟩
  case round =>
   clear HNY HBY;obtain ⟨i,ya,yc,rfl,hi,HNY,HBY⟩ := hrel;have hgz : g < wr.heap.size := HNY.out.size
   by_cases hlt : i < L
   ·obtain ⟨v,hv⟩ : ∃ r,l[i]? = some r := ⟨_,List.getElem?_eq_getElem (by rw [HRL.out.2.1]; exact hlt)⟩;have HV : Hid (l[i]? = some v ∧ Is64 v) := ⟨hv,HRL.out.2.2 v (List.mem_of_getElem? hv)⟩;obtain ⟨gl,ol,rfl,c1⟩ := HRL.out.1.get (show (inRows l)[i]? = some [.int .i64 v] by simp [inRows,hv]);have c0 := c1 0 _ rfl;simp only [Nat.mul_one,Nat.add_zero] at c0;have HC0 : Hid (w1.cell? ⟨gl,ol + i,none⟩ = some (.int .i64 v)) := c0
    have HCT : Hid (∀ W,Kp (fun z => g < z) wr W → Blk W g #[.int .i64 5,.slice ya i yc] 39 ∧ W.cell? ⟨gl,ol + i,none⟩ = some (.int .i64 v)) := fun W hW => by
     have h1 : Below g wr W := hW.toBelow (by omega) (fun z hz => by omega);have h2 : Below w1.heap.size w1 W := HWS.out.trans ((HBY.out.trans h1).mono (by have := HWS.out.size; have := HG.out; omega));exact ⟨HNY.out.1.kp hW (by omega),(h2.cell (World.block_lt_of_cell? _ _ HC0.out)).trans HC0.out⟩
    have HTK : Hid (((l.take (i + 1)).map numT) = ((l.take i).map numT) ++ [numT v]) := (by rw [take_atC HV.out.1,List.map_append,List.map_cons,List.map_nil] : _ = _);have HQL : Hid (((l.take i).map numT).length = i) := (by rw [List.length_map,List.length_take,HRL.out.2.1]; omega : _ = _);clear hv c0 c1
    go_upto_region 9 with fail
    refine M_region (T := fun W => Kp (fun z => g < z) wr W) (m := 9) (by kernel_rfl) ?_;have hdr : Below wr.heap.size wr wr.drew := (Below.refl _ _).drew;have hS : Kp (fun z => g < z) wr wr.drew := Kp.ofBelow hdr;refine M_take 0 38 (.pointer (some ⟨g,1,none⟩)) _ rfl rfl (by kernel_rfl) (by kernel_rfl) (by kernel_rfl) (by kernel_rfl) (by kernel_rfl) (fun _ _ _ h => h) (by rfl) (fun w' hw' => ?_) hS (listed' := bts 11 1) (by kernel_rfl) rfl ?_
    ·go_simp
    simp only [zsA,zsZ,zsS];refine M_take 1 39 (.slice ya i yc) _ rfl rfl (by kernel_rfl) (by kernel_rfl) (by kernel_rfl) (by kernel_rfl) (by kernel_rfl) (fun _ _ _ h => h) (by rfl) (fun w' hw' => ?_) hS (listed' := bts 11 3) (by kernel_rfl) rfl ?_
    ·obtain ⟨HB0,z0⟩ := HCT.out _ hw'; have f1 := (HB0.cell 1).trans rfl; go_simp
    simp only [zsA,zsZ,zsS];refine M_take 2 40 (.slice (some ⟨gl,ol,none⟩) L lc) _ rfl rfl (by kernel_rfl) (by kernel_rfl) (by kernel_rfl) (by kernel_rfl) (by kernel_rfl) (fun _ _ _ h => h) (by rfl) (fun w' hw' => ?_) hS (listed' := bts 11 7) (by kernel_rfl) rfl ?_
    ·go_simp
    simp only [zsA,zsZ,zsS];refine M_take 3 41 (.int .i64 (i : Int)) _ rfl rfl (by kernel_rfl) (by kernel_rfl) (by kernel_rfl) (by kernel_rfl) (by kernel_rfl) (fun _ _ _ h => h) (by rfl) (fun w' hw' => ?_) hS (listed' := bts 11 15) (by kernel_rfl) rfl ?_
    ·go_simp
    simp only [zsA,zsZ,zsS];refine M_take 4 42 (.pointer (some ⟨gl,ol + i,none⟩)) _ rfl rfl (by kernel_rfl) (by kernel_rfl) (by kernel_rfl) (by kernel_rfl) (by kernel_rfl) (fun _ _ _ h => h) (by rfl) (fun w' hw' => ?_) hS (listed' := bts 11 31) (by kernel_rfl) rfl ?_
    ·go_simp
    simp only [zsA,zsZ,zsS];refine M_take 5 43 (.int .i64 v) _ rfl rfl (by kernel_rfl) (by kernel_rfl) (by kernel_rfl) (by kernel_rfl) (by kernel_rfl) (fun _ _ _ h => h) (by rfl) (fun w' hw' => ?_) hS (listed' := bts 11 63) (by kernel_rfl) rfl ?_
    ·obtain ⟨HB0,z0⟩ := HCT.out _ hw'; go_simp
    simp only [zsA,zsZ,zsS];refine M_take 6 44 (.agg #[.int .i64 1,.int .i64 v,.string ⟨#[]⟩,.slice none 0 0,.slice none 0 0]) _ rfl rfl (by kernel_rfl) (by kernel_rfl) (by kernel_rfl) (by kernel_rfl) (by kernel_rfl) (fun _ _ _ h => h) (by rfl) (fun w' hw' => ?_) hS (listed' := bts 11 127) (by kernel_rfl) rfl ?_
    ·go_simp
    simp only [zsA,zsZ,zsS];have hd2 : Below wr.heap.size wr (wr.drew.alloc (Obj.cells #[.int .i64 1,.int .i64 v,.string ⟨#[]⟩,.slice none 0 0,.slice none 0 0] 43)) := hdr.alloc (Nat.le_refl _) _;have BZ : Blk (wr.drew.alloc (Obj.cells #[.int .i64 1,.int .i64 v,.string ⟨#[]⟩,.slice none 0 0,.slice none 0 0] 43)) wr.heap.size #[.int .i64 1,.int .i64 v,.string ⟨#[]⟩,.slice none 0 0,.slice none 0 0] 43 := Blk.new wr.drew _ _;obtain ⟨ba,bc,W',r1,r2,r3,r4,r5⟩ := HNY.out.push hd2 HV.out.2 BZ (by rw [HQL.out]; omega);rw [HQL.out] at r1 r3 r5;rw [← HTK.out] at r3;have HRUN : Hid ((Builtin.append_ #[37,37] 37 #[.slice ya i yc,.slice (some ⟨wr.heap.size,0,none⟩) 1 1]).run Try.prog (wr.drew.alloc (Obj.cells #[.int .i64 1,.int .i64 v,.string ⟨#[]⟩,.slice none 0 0,.slice none 0 0] 43)) = .ok (.slice ba (i + 1) bc) W') := r1;have hS2 : Kp (fun z => g < z) wr (wr.drew.alloc (Obj.cells #[.int .i64 1,.int .i64 v,.string ⟨#[]⟩,.slice none 0 0,.slice none 0 0] 43)) := Kp.ofBelow hd2;have hS3 : Kp (fun z => g < z) wr W' := hS2.trans2 r4 fun _ _ hi => hi
    have s1 := (r2.cell 1).trans rfl;have s2 := r2.froz 1;have HNY2 : Hid (NumY g (.slice ba (i + 1) bc) ((l.take (i + 1)).map numT) (W'.setCell ⟨g,1,none⟩ (.slice ba (i + 1) bc))) := r3;have HBY2 : Hid (Below g WS (W'.setCell ⟨g,1,none⟩ (.slice ba (i + 1) bc))) := HBY.out.trans (r5.toBelow (by omega) (fun z hz => hz));clear r1 r2 r3 r4 r5 BZ hd2 hdr;refine M_run 7 45 (.slice (some ⟨wr.heap.size,0,none⟩) 1 1) ((wr.drew.alloc (Obj.cells #[.int .i64 1,.int .i64 v,.string ⟨#[]⟩,.slice none 0 0,.slice none 0 0] 43))) rfl rfl (by kernel_rfl) (by rfl) (listed' := bts 11 255) (by kernel_rfl) (by go_simp) hS2 ?_;simp only [zsA,zsZ,zsS];refine M_run 8 46 (.slice ba (i + 1) bc) (W') rfl rfl (by kernel_rfl) (by rfl) (listed' := bts 11 511) (by kernel_rfl) (append_run rfl rfl rfl HRUN.out) hS3 ?_;simp only [zsA,zsZ,zsS];refine M_runA 9 47 (.pointer (some ⟨g,1,none⟩)) W' rfl rfl (by kernel_rfl) (by rfl) (listed' := bts 11 1023) (by kernel_rfl) (by go_simp) (by kernel_rfl) ?_;simp only [zsA,zsZ,zsS];refine M_store 10 (W'.setCell ⟨g,1,none⟩ (.slice ba (i + 1) bc)) rfl rfl (by kernel_rfl) (by rfl) (listed' := bts 11 2047) (by kernel_rfl) (by go_simp) (by kernel_rfl) ?_;refine M_done (by kernel_rfl) ?_ _;clear HRUN s1 s2 hS hS2 hS3;generalize (W'.setCell ⟨g,1,none⟩ (.slice ba (i + 1) bc)) = W9 at *;go_wp2_with fail
    go_roundw
    case rel => exact ⟨i + 1,ba,bc,by go_num,by omega,HNY2,HBY2⟩
    case measure => simp [intOf]; omega
   ·skip
    obtain rfl : i = L := by omega
    have hi1 : 1 ≤ i := by omega
    have HNF : Hid (NumY g (.slice ya i yc) (l.map numT) wr) := (by
     have h1 := HNY.out;rw [List.take_of_length_le (by rw [HRL.out.2.1]; exact Nat.le_refl _)] at h1
     exact h1 : NumY _ _ _ _)
    obtain ⟨v,hv⟩ : ∃ r,l[i - 1]? = some r := ⟨_,List.getElem?_eq_getElem (by rw [HRL.out.2.1]; omega)⟩;have HVL : Hid (l.getLastD 0 = v) := (by rw [List.getLastD_eq_getLast?,List.getLast?_eq_getElem?,HRL.out.2.1,hv]; rfl : _ = _);obtain ⟨gl,ol,rfl,cx⟩ := HRL.out.1.get (show (inRows l)[i - 1]? = some [.int .i64 v] by simp [inRows,hv]);have c0 := cx 0 _ rfl;simp only [Nat.mul_one,Nat.add_zero] at c0;have hbs : Below w1.heap.size w1 wr := HWS.out.trans (HBY.out.mono (by have := HWS.out.size; have := HG.out; omega))
    have hss : Below WS.heap.size WS wr := by rw [HG.out]; exact HBY.out
    have hal : Below wr.heap.size wr (wr.alloc (Obj.cells #[.int .i64 5,.slice ya i yc] 39)) := (Below.refl _ _).alloc (Nat.le_refl _) _;have HTW : Hid (TrW 2 (wr.alloc (Obj.cells #[.int .i64 5,.slice ya i yc] 39)) (.agg #[.int .i64 3,.int .i64 0,.string ⟨#[]⟩,.slice (some ⟨wr.heap.size,0,none⟩) 1 1,.slice none 0 0]) (numsT l)) := (HNF.out.below hal).trW (Blk.new wr _ _)
    have HPC : Hid (Calls Try.prog 6 #[.agg #[.string ⟨#[97]⟩,.slice (some ⟨b0 + 1,0,none⟩) 1 1,.slice none 0 0,.slice none 0 0],.string ⟨#[109]⟩,.agg #[.int .i64 3,.int .i64 0,.string ⟨#[]⟩,.slice (some ⟨wr.heap.size,0,none⟩) 1 1,.slice none 0 0]] (wr.alloc (Obj.cells #[.int .i64 5,.slice ya i yc] 39)) (SeeFP 2 ((⟨3,0,⟨#[]⟩,seenE 2 l,[]⟩ : Tr),true) (wr.alloc (Obj.cells #[.int .i64 5,.slice ya i yc] 39)))) := (by
     have hno := nums_ok (l := l) (by rw [HRL.out.2.1]; omega) (by rw [HRL.out.2.1]; omega);have h1 := HPJ'.out 1 (s1A 5 2 2 ⟨#[]⟩) (.agg #[.string ⟨#[97]⟩,.slice (some ⟨b0 + 1,0,none⟩) 1 1,.slice none 0 0,.slice none 0 0]) ⟨#[109]⟩ (.agg #[.int .i64 3,.int .i64 0,.string ⟨#[]⟩,.slice (some ⟨wr.heap.size,0,none⟩) 1 1,.slice none 0 0]) (numsT l) (wr.alloc (Obj.cells #[.int .i64 5,.slice ya i yc] 39)) (by omega) (HSI.out.1.below (hss.trans (hal.mono hss.size))) (s1_w 5 2 2 ⟨#[]⟩ (by unfold I64; omega) (by unfold I64; omega) (by unfold I64; omega) (by decide)) (s1_few 5 2 2 ⟨#[]⟩) HTW.out hno.2.1 hno.2.2;rw [proj_last (by omega) (by rw [HRL.out.2.1]; omega) (by rw [HRL.out.2.1]; omega)] at h1
     exact h1 : Calls Try.prog _ _ _ _)
    have BSr := HSI.out.2.below hss;have BYr := HNF.out.1;have hb7 : Below w1.heap.size w1 (wr.alloc (Obj.cells #[.int .i64 5,.slice ya i yc] 39)) := hbs.trans (hal.mono hbs.size);have HC0 : Hid (w1.cell? ⟨gl,ol + (i - 1),none⟩ = some (.int .i64 v)) := c0;have s0 := (BSr.cell 0).trans rfl;have s1 := (BSr.cell 1).trans rfl;have s2 := (BSr.cell 2).trans rfl;have s3 := (BSr.cell 3).trans rfl;have y0 := (BYr.cell 0).trans rfl;have y1 := (BYr.cell 1).trans rfl;clear hv cx c0 hbs hss hal BSr BYr hgz hlt hi;go_wp2_with fail;refine HPC.out.mono ?_;rintro e w8 ⟨r4,bs4,rfl,ht4,hap4,hb8⟩;have hTI := ht4.trIn;obtain ⟨a1,n1,c1,a2,n2,c2,hr4⟩ := ht4.open;simp only at hr4;subst hr4;have hb8' : Below w1.heap.size w1 w8 := hb7.trans (hb8.mono hb7.size);have cl := (hb8'.cell (World.block_lt_of_cell? _ _ HC0.out)).trans HC0.out;have ltl := World.block_lt_of_cell? _ _ cl;have hb9 : Below w1.heap.size w1 (w8.alloc (Obj.cells #[.int .i64 3,.int .i64 0,.string ⟨#[]⟩,.slice a1 n1 c1,.slice a2 n2 c2] 43)) := hb8'.alloc hb8'.size _
    have dI : ((i : Int) == (i : Int)) = true := by simp
    have dv : (v == v) = true := by simp
    clear HPC hap4 hb8 ht4 hb7 hb8' s0 s1 s2 s3 y0 y1
    have he : (⟨3,0,⟨#[]⟩,seenE 2 l,[]⟩ : Tr).es = [(5,[numT v])] := by show seenE 2 l = _; rw [seenE,if_neg (by decide),if_neg (fun h => absurd h.1 (by decide)),HVL.out]
    obtain ⟨rfl,ge,oe,pt,ct,rfl,p1,m,pts⟩ := one_ent hTI he;obtain ⟨gt,ot,rfl,z1⟩ := one_tree pts (x := numT v) rfl;simp only [List.length_singleton] at p1;have z1' : w8.cell? ⟨gt,ot + 1,none⟩ = some (.int .i64 v) := z1;have lte := World.block_lt_of_cell? _ _ p1;have ltt := World.block_lt_of_cell? _ _ z1';clear he hTI pts z1;go_wp2_with fail;refine (pjawake_any _).mono ?_;rintro e wz ⟨rfl,hbz⟩;have hbwz : Below w1.heap.size w1 wz := hb9.trans (hbz.mono hb9.size);clear hbz;go_wp2_with fail;go_ret;exact ⟨rfl,hbwz⟩
 ·skip
  go_enter Try.func3,Try.ntmps3
  go_wp2_with fail;refine (HPL.out _).mono ?_;rintro e w1 ⟨rfl,rfl⟩;obtain ⟨BF,BM,BS,hbS⟩ := pblk3L w1 #[.string ⟨#[120]⟩,.int .i64 5,.int .i64 3,.int .i64 2,.string ⟨#[]⟩] #[.string ⟨#[109]⟩,.slice (some ⟨w1.heap.size,0,none⟩) 1 1,.slice none 0 0] #[.string ⟨#[97]⟩,.slice (some ⟨w1.heap.size + 1,0,none⟩) 1 1,.slice none 0 0,.slice none 0 0] 27 30 35;clear HPL
  go_upto_region 3 with fail
  obtain ⟨b0,hb0⟩ : ∃ z,w1.heap.size = z := ⟨_,rfl⟩;have HBZ : Hid (w1.heap.size = b0) := hb0;generalize (((w1.alloc (Obj.cells #[.string ⟨#[120]⟩,.int .i64 5,.int .i64 3,.int .i64 2,.string ⟨#[]⟩] 27)).alloc (Obj.cells #[.string ⟨#[109]⟩,.slice (some ⟨w1.heap.size,0,none⟩) 1 1,.slice none 0 0] 30)).alloc (Obj.cells #[.string ⟨#[97]⟩,.slice (some ⟨w1.heap.size + 1,0,none⟩) 1 1,.slice none 0 0,.slice none 0 0] 35)) = WS at *;rw [hb0] at BF BM BS
  try simp only [hb0]
  clear hb0;have HSI : Hid (ScIn WS (.agg #[.string ⟨#[97]⟩,.slice (some ⟨b0 + 1,0,none⟩) 1 1,.slice none 0 0,.slice none 0 0]) (s1A 5 3 2 ⟨#[]⟩) ∧ Blk WS (b0 + 2) #[.string ⟨#[97]⟩,.slice (some ⟨b0 + 1,0,none⟩) 1 1,.slice none 0 0,.slice none 0 0] 35) := ⟨s1_in BF BM,BS⟩;have HWS : Hid (Below w1.heap.size w1 WS) := hbS;clear BF BM BS
  by_cases hL1 : L < 1
  ·have d1 : decide ((L : Int) < 1) = true := by simp; omega
   go_wp2_with fail;refine (pjawake_any _).mono ?_;rintro e wz ⟨rfl,hbz⟩;have hbwz : Below w1.heap.size w1 wz := hbS.trans (hbz.mono hbS.size);clear hbz;go_wp2_with fail;go_ret;exact ⟨rfl,hbwz⟩
  by_cases hL2 : 64 < L
  ·have d1 : decide ((L : Int) < 1) = false := by simp; omega
   have d2 : decide ((L : Int) > 64) = true := by simp; omega
   have d2' : decide (64 < (L : Int)) = true := by simp; omega
   go_wp2_with fail;refine (pjawake_any _).mono ?_;rintro e wz ⟨rfl,hbz⟩;have hbwz : Below w1.heap.size w1 wz := hbS.trans (hbz.mono hbS.size);clear hbz;go_wp2_with fail;go_ret;exact ⟨rfl,hbwz⟩
  have d1 : decide ((L : Int) < 1) = false := by simp; omega
  have d2 : decide ((L : Int) > 64) = false := by simp; omega
  have d2' : decide (64 < (L : Int)) = false := by simp; omega
  obtain ⟨g,hg⟩ : ∃ z,WS.heap.size = z := ⟨_,rfl⟩;have HG : Hid (WS.heap.size = g) := hg;have HNY : Hid (NumY g (.slice none 0 0) ((l.take 0).map numT) (WS.alloc (Obj.cells #[.int .i64 5,.slice none 0 0] 39))) := NumY.nil (by rw [← HG.out]; exact Blk.new WS _ _);have HBY : Hid (Below g WS (WS.alloc (Obj.cells #[.int .i64 5,.slice none 0 0] 39))) := (Below.refl _ _).alloc (by omega) _;clear hbS;go_wp2_with fail
  try simp only [hg]
  generalize (WS.alloc (Obj.cells #[.int .i64 5,.slice none 0 0] 39)) = WE at *;clear hg d1 d2 d2'
  go_loopw [8] (fun iv wz => ∃ (i : Nat) (ya : Option Addr) (yc : Nat),iv = .int .i64 (i : Int) ∧ i ≤ L ∧ Hid (NumY g (.slice ya i yc) ((l.take i).map numT) wz) ∧ Hid (Below g WS wz)) (fun iv _ => L - (intOf iv).toNat)
  case atStart => exact ⟨0,none,0,rfl,by omega,HNY,HBY⟩
  case round =>
   clear HNY HBY;obtain ⟨i,ya,yc,rfl,hi,HNY,HBY⟩ := hrel;have hgz : g < wr.heap.size := HNY.out.size
   by_cases hlt : i < L
   ·obtain ⟨v,hv⟩ : ∃ r,l[i]? = some r := ⟨_,List.getElem?_eq_getElem (by rw [HRL.out.2.1]; exact hlt)⟩;have HV : Hid (l[i]? = some v ∧ Is64 v) := ⟨hv,HRL.out.2.2 v (List.mem_of_getElem? hv)⟩;obtain ⟨gl,ol,rfl,c1⟩ := HRL.out.1.get (show (inRows l)[i]? = some [.int .i64 v] by simp [inRows,hv]);have c0 := c1 0 _ rfl;simp only [Nat.mul_one,Nat.add_zero] at c0;have HC0 : Hid (w1.cell? ⟨gl,ol + i,none⟩ = some (.int .i64 v)) := c0
    have HCT : Hid (∀ W,Kp (fun z => g < z) wr W → Blk W g #[.int .i64 5,.slice ya i yc] 39 ∧ W.cell? ⟨gl,ol + i,none⟩ = some (.int .i64 v)) := fun W hW => by
     have h1 : Below g wr W := hW.toBelow (by omega) (fun z hz => by omega);have h2 : Below w1.heap.size w1 W := HWS.out.trans ((HBY.out.trans h1).mono (by have := HWS.out.size; have := HG.out; omega));exact ⟨HNY.out.1.kp hW (by omega),(h2.cell (World.block_lt_of_cell? _ _ HC0.out)).trans HC0.out⟩
    have HTK : Hid (((l.take (i + 1)).map numT) = ((l.take i).map numT) ++ [numT v]) := (by rw [take_atC HV.out.1,List.map_append,List.map_cons,List.map_nil] : _ = _);have HQL : Hid (((l.take i).map numT).length = i) := (by rw [List.length_map,List.length_take,HRL.out.2.1]; omega : _ = _);clear hv c0 c1
    go_upto_region 9 with fail
    refine M_region (T := fun W => Kp (fun z => g < z) wr W) (m := 9) (by kernel_rfl) ?_;have hdr : Below wr.heap.size wr wr.drew := (Below.refl _ _).drew;have hS : Kp (fun z => g < z) wr wr.drew := Kp.ofBelow hdr;refine M_take 0 38 (.pointer (some ⟨g,1,none⟩)) _ rfl rfl (by kernel_rfl) (by kernel_rfl) (by kernel_rfl) (by kernel_rfl) (by kernel_rfl) (fun _ _ _ h => h) (by rfl) (fun w' hw' => ?_) hS (listed' := bts 11 1) (by kernel_rfl) rfl ?_
    ·go_simp
    simp only [zsA,zsZ,zsS];refine M_take 1 39 (.slice ya i yc) _ rfl rfl (by kernel_rfl) (by kernel_rfl) (by kernel_rfl) (by kernel_rfl) (by kernel_rfl) (fun _ _ _ h => h) (by rfl) (fun w' hw' => ?_) hS (listed' := bts 11 3) (by kernel_rfl) rfl ?_
    ·obtain ⟨HB0,z0⟩ := HCT.out _ hw'; have f1 := (HB0.cell 1).trans rfl; go_simp
    simp only [zsA,zsZ,zsS];refine M_take 2 40 (.slice (some ⟨gl,ol,none⟩) L lc) _ rfl rfl (by kernel_rfl) (by kernel_rfl) (by kernel_rfl) (by kernel_rfl) (by kernel_rfl) (fun _ _ _ h => h) (by rfl) (fun w' hw' => ?_) hS (listed' := bts 11 7) (by kernel_rfl) rfl ?_
    ·go_simp
    simp only [zsA,zsZ,zsS];refine M_take 3 41 (.int .i64 (i : Int)) _ rfl rfl (by kernel_rfl) (by kernel_rfl) (by kernel_rfl) (by kernel_rfl) (by kernel_rfl) (fun _ _ _ h => h) (by rfl) (fun w' hw' => ?_) hS (listed' := bts 11 15) (by kernel_rfl) rfl ?_
    ·go_simp
    simp only [zsA,zsZ,zsS];refine M_take 4 42 (.pointer (some ⟨gl,ol + i,none⟩)) _ rfl rfl (by kernel_rfl) (by kernel_rfl) (by kernel_rfl) (by kernel_rfl) (by kernel_rfl) (fun _ _ _ h => h) (by rfl) (fun w' hw' => ?_) hS (listed' := bts 11 31) (by kernel_rfl) rfl ?_
    ·go_simp
    simp only [zsA,zsZ,zsS];refine M_take 5 43 (.int .i64 v) _ rfl rfl (by kernel_rfl) (by kernel_rfl) (by kernel_rfl) (by kernel_rfl) (by kernel_rfl) (fun _ _ _ h => h) (by rfl) (fun w' hw' => ?_) hS (listed' := bts 11 63) (by kernel_rfl) rfl ?_
    ·obtain ⟨HB0,z0⟩ := HCT.out _ hw'; go_simp
    simp only [zsA,zsZ,zsS];refine M_take 6 44 (.agg #[.int .i64 1,.int .i64 v,.string ⟨#[]⟩,.slice none 0 0,.slice none 0 0]) _ rfl rfl (by kernel_rfl) (by kernel_rfl) (by kernel_rfl) (by kernel_rfl) (by kernel_rfl) (fun _ _ _ h => h) (by rfl) (fun w' hw' => ?_) hS (listed' := bts 11 127) (by kernel_rfl) rfl ?_
    ·go_simp
    simp only [zsA,zsZ,zsS];have hd2 : Below wr.heap.size wr (wr.drew.alloc (Obj.cells #[.int .i64 1,.int .i64 v,.string ⟨#[]⟩,.slice none 0 0,.slice none 0 0] 43)) := hdr.alloc (Nat.le_refl _) _;have BZ : Blk (wr.drew.alloc (Obj.cells #[.int .i64 1,.int .i64 v,.string ⟨#[]⟩,.slice none 0 0,.slice none 0 0] 43)) wr.heap.size #[.int .i64 1,.int .i64 v,.string ⟨#[]⟩,.slice none 0 0,.slice none 0 0] 43 := Blk.new wr.drew _ _;obtain ⟨ba,bc,W',r1,r2,r3,r4,r5⟩ := HNY.out.push hd2 HV.out.2 BZ (by rw [HQL.out]; omega);rw [HQL.out] at r1 r3 r5;rw [← HTK.out] at r3;have HRUN : Hid ((Builtin.append_ #[37,37] 37 #[.slice ya i yc,.slice (some ⟨wr.heap.size,0,none⟩) 1 1]).run Try.prog (wr.drew.alloc (Obj.cells #[.int .i64 1,.int .i64 v,.string ⟨#[]⟩,.slice none 0 0,.slice none 0 0] 43)) = .ok (.slice ba (i + 1) bc) W') := r1;have hS2 : Kp (fun z => g < z) wr (wr.drew.alloc (Obj.cells #[.int .i64 1,.int .i64 v,.string ⟨#[]⟩,.slice none 0 0,.slice none 0 0] 43)) := Kp.ofBelow hd2;have hS3 : Kp (fun z => g < z) wr W' := hS2.trans2 r4 fun _ _ hi => hi
    have s1 := (r2.cell 1).trans rfl;have s2 := r2.froz 1;have HNY2 : Hid (NumY g (.slice ba (i + 1) bc) ((l.take (i + 1)).map numT) (W'.setCell ⟨g,1,none⟩ (.slice ba (i + 1) bc))) := r3;have HBY2 : Hid (Below g WS (W'.setCell ⟨g,1,none⟩ (.slice ba (i + 1) bc))) := HBY.out.trans (r5.toBelow (by omega) (fun z hz => hz));clear r1 r2 r3 r4 r5 BZ hd2 hdr;refine M_run 7 45 (.slice (some ⟨wr.heap.size,0,none⟩) 1 1) ((wr.drew.alloc (Obj.cells #[.int .i64 1,.int .i64 v,.string ⟨#[]⟩,.slice none 0 0,.slice none 0 0] 43))) rfl rfl (by kernel_rfl) (by rfl) (listed' := bts 11 255) (by kernel_rfl) (by go_simp) hS2 ?_;simp only [zsA,zsZ,zsS];refine M_run 8 46 (.slice ba (i + 1) bc) (W') rfl rfl (by kernel_rfl) (by rfl) (listed' := bts 11 511) (by kernel_rfl) (append_run rfl rfl rfl HRUN.out) hS3 ?_;simp only [zsA,zsZ,zsS];refine M_runA 9 47 (.pointer (some ⟨g,1,none⟩)) W' rfl rfl (by kernel_rfl) (by rfl) (listed' := bts 11 1023) (by kernel_rfl) (by go_simp) (by kernel_rfl) ?_;simp only [zsA,zsZ,zsS];refine M_store 10 (W'.setCell ⟨g,1,none⟩ (.slice ba (i + 1) bc)) rfl rfl (by kernel_rfl) (by rfl) (listed' := bts 11 2047) (by kernel_rfl) (by go_simp) (by kernel_rfl) ?_;refine M_done (by kernel_rfl) ?_ _;clear HRUN s1 s2 hS hS2 hS3;generalize (W'.setCell ⟨g,1,none⟩ (.slice ba (i + 1) bc)) = W9 at *;go_wp2_with fail
    go_roundw
    case rel => exact ⟨i + 1,ba,bc,by go_num,by omega,HNY2,HBY2⟩
    case measure => simp [intOf]; omega
   ·skip
    obtain rfl : i = L := by omega
    have hi1 : 1 ≤ i := by omega
    have HNF : Hid (NumY g (.slice ya i yc) (l.map numT) wr) := (by
     have h1 := HNY.out;rw [List.take_of_length_le (by rw [HRL.out.2.1]; exact Nat.le_refl _)] at h1
     exact h1 : NumY _ _ _ _)
    obtain ⟨v,hv⟩ : ∃ r,l[i - 1]? = some r := ⟨_,List.getElem?_eq_getElem (by rw [HRL.out.2.1]; omega)⟩;have HVL : Hid (l.getLastD 0 = v) := (by rw [List.getLastD_eq_getLast?,List.getLast?_eq_getElem?,HRL.out.2.1,hv]; rfl : _ = _);obtain ⟨gl,ol,rfl,cx⟩ := HRL.out.1.get (show (inRows l)[i - 1]? = some [.int .i64 v] by simp [inRows,hv]);have c0 := cx 0 _ rfl;simp only [Nat.mul_one,Nat.add_zero] at c0;have hbs : Below w1.heap.size w1 wr := HWS.out.trans (HBY.out.mono (by have := HWS.out.size; have := HG.out; omega))
    have hss : Below WS.heap.size WS wr := by rw [HG.out]; exact HBY.out
    have hal : Below wr.heap.size wr (wr.alloc (Obj.cells #[.int .i64 5,.slice ya i yc] 39)) := (Below.refl _ _).alloc (Nat.le_refl _) _;have HTW : Hid (TrW 2 (wr.alloc (Obj.cells #[.int .i64 5,.slice ya i yc] 39)) (.agg #[.int .i64 3,.int .i64 0,.string ⟨#[]⟩,.slice (some ⟨wr.heap.size,0,none⟩) 1 1,.slice none 0 0]) (numsT l)) := (HNF.out.below hal).trW (Blk.new wr _ _)
    have HPC : Hid (Calls Try.prog 6 #[.agg #[.string ⟨#[97]⟩,.slice (some ⟨b0 + 1,0,none⟩) 1 1,.slice none 0 0,.slice none 0 0],.string ⟨#[109]⟩,.agg #[.int .i64 3,.int .i64 0,.string ⟨#[]⟩,.slice (some ⟨wr.heap.size,0,none⟩) 1 1,.slice none 0 0]] (wr.alloc (Obj.cells #[.int .i64 5,.slice ya i yc] 39)) (SeeFP 2 ((⟨3,0,⟨#[]⟩,seenE 3 l,[]⟩ : Tr),true) (wr.alloc (Obj.cells #[.int .i64 5,.slice ya i yc] 39)))) := (by
     have hno := nums_ok (l := l) (by rw [HRL.out.2.1]; omega) (by rw [HRL.out.2.1]; omega);have h1 := HPJ'.out 1 (s1A 5 3 2 ⟨#[]⟩) (.agg #[.string ⟨#[97]⟩,.slice (some ⟨b0 + 1,0,none⟩) 1 1,.slice none 0 0,.slice none 0 0]) ⟨#[109]⟩ (.agg #[.int .i64 3,.int .i64 0,.string ⟨#[]⟩,.slice (some ⟨wr.heap.size,0,none⟩) 1 1,.slice none 0 0]) (numsT l) (wr.alloc (Obj.cells #[.int .i64 5,.slice ya i yc] 39)) (by omega) (HSI.out.1.below (hss.trans (hal.mono hss.size))) (s1_w 5 3 2 ⟨#[]⟩ (by unfold I64; omega) (by unfold I64; omega) (by unfold I64; omega) (by decide)) (s1_few 5 3 2 ⟨#[]⟩) HTW.out hno.2.1 hno.2.2;rw [proj_last (by omega) (by rw [HRL.out.2.1]; omega) (by rw [HRL.out.2.1]; omega)] at h1
     exact h1 : Calls Try.prog _ _ _ _)
    have BSr := HSI.out.2.below hss;have BYr := HNF.out.1;have hb7 : Below w1.heap.size w1 (wr.alloc (Obj.cells #[.int .i64 5,.slice ya i yc] 39)) := hbs.trans (hal.mono hbs.size);have HC0 : Hid (w1.cell? ⟨gl,ol + (i - 1),none⟩ = some (.int .i64 v)) := c0;have s0 := (BSr.cell 0).trans rfl;have s1 := (BSr.cell 1).trans rfl;have s2 := (BSr.cell 2).trans rfl;have s3 := (BSr.cell 3).trans rfl;have y0 := (BYr.cell 0).trans rfl;have y1 := (BYr.cell 1).trans rfl;clear hv cx c0 hbs hss hal BSr BYr hgz hlt hi;go_wp2_with fail;refine HPC.out.mono ?_;rintro e w8 ⟨r4,bs4,rfl,ht4,hap4,hb8⟩;have hTI := ht4.trIn;obtain ⟨a1,n1,c1,a2,n2,c2,hr4⟩ := ht4.open;simp only at hr4;subst hr4;have hb8' : Below w1.heap.size w1 w8 := hb7.trans (hb8.mono hb7.size);have cl := (hb8'.cell (World.block_lt_of_cell? _ _ HC0.out)).trans HC0.out;have ltl := World.block_lt_of_cell? _ _ cl;have hb9 : Below w1.heap.size w1 (w8.alloc (Obj.cells #[.int .i64 3,.int .i64 0,.string ⟨#[]⟩,.slice a1 n1 c1,.slice a2 n2 c2] 43)) := hb8'.alloc hb8'.size _
    have dI : ((i : Int) == (i : Int)) = true := by simp
    have dv : (v == v) = true := by simp
    clear HPC hap4 hb8 ht4 hb7 hb8' s0 s1 s2 s3 y0 y1;have he : (⟨3,0,⟨#[]⟩,seenE 3 l,[]⟩ : Tr).es = [(5,l.map numT)] := rfl;obtain ⟨rfl,ge,oe,pt,ct,rfl,p1,m,pts⟩ := one_ent hTI he;rw [List.length_map,HRL.out.2.1] at p1;have lte := World.block_lt_of_cell? _ _ p1;clear he hTI pts;go_wp2_with fail;refine (pjawake_any _).mono ?_;rintro e wz ⟨rfl,hbz⟩;have hbwz : Below w1.heap.size w1 wz := hb9.trans (hbz.mono hb9.size);clear hbz;go_wp2_with fail;go_ret;exact ⟨rfl,hbwz⟩
end Go.Proofs.Ytmgbhicogmclgab

/- Part 9 of what the proof stands on. -/
import Derived.Test.YtdkolhfpfimeoabPkHAH
namespace Go.Proofs.Ytdkolhfpfimeoab
set_option maxHeartbeats 8000000
set_option linter.unusedVariables false
set_option linter.unusedSimpArgs false
set_option maxRecDepth 20000
open Go.ChangeShapes Go.WideShapes Go.ChangeAt Go.RowKit Go.Maps
theorem eS_w (t : Bool) (p : Nat → Bool) : ScW (eS (eVs t p)) := by
 refine ⟨by show ByteArray.size ⟨#[97]⟩ ≤ _; exact Nat.le_trans (Nat.le_refl 1) (by decide),fun m hm => ?_,fun m hm => ?_,fun m hm => ?_⟩
 ·simp only [eS,List.mem_singleton] at hm;subst hm;refine ⟨Nat.le_trans (Nat.le_refl 1) (by decide),fun f hf => ?_,fun n hn => by cases hn⟩;simp only [eMs,List.mem_singleton] at hf;subst hf;exact ⟨Nat.le_trans (Nat.le_refl 1) (by decide),Nat.le_trans (Nat.le_refl 1) (by decide),⟨by decide,by decide⟩,⟨by decide,by decide⟩,⟨by decide,by decide⟩⟩
 ·simp only [eS,List.mem_singleton] at hm;subst hm;refine ⟨Nat.le_trans (Nat.le_refl 1) (by decide),fun f hf => ?_⟩
  rcases List.mem_cons.1 hf with rfl | hf
  ·cases t
   ·exact ⟨Nat.le_trans (Nat.le_refl 4) (by decide),⟨by decide,by decide⟩⟩
   ·exact ⟨Nat.le_trans (Nat.le_refl 6) (by decide),⟨by decide,by decide⟩⟩
  ·obtain ⟨n,hn,rfl⟩ := List.mem_map.1 hf;have h1 := (List.mem_filter.1 hn).1;simp only [List.mem_range'_1] at h1;exact eV_W n (by omega)
 ·simp only [eS,List.mem_singleton] at hm;subst hm;exact ⟨Nat.le_trans (Nat.le_refl 1) (by decide),Nat.le_trans (Nat.le_refl 1) (by decide),Nat.le_trans (Nat.le_refl 1) (by decide)⟩
theorem eVs_len (t : Bool) (p : Nat → Bool) : (eVs t p).length ≤ 10 := by
 unfold eVs;rw [List.length_cons,List.length_map];have := List.length_filter_le p (List.range' 1 9);rw [List.length_range'] at this
 omega
theorem eS_few (t : Bool) (p : Nat → Bool) : FewL (eS (eVs t p)) := by
 refine ⟨by simp [eS],by simp [eS],by simp [eS],fun m hm => ?_,fun e he => ?_⟩
 ·simp only [eS,List.mem_singleton] at hm;subst hm;exact ⟨by decide,by decide⟩
 ·simp only [eS,List.mem_singleton] at he;subst he;exact Nat.le_trans (eVs_len t p) (by decide)
def eqN (x u : NmS) : Bool := decide (x.name = u.name ∧ x.n = u.n)
theorem inVs_eq (x : NmS) (l : List NmS) : inVs x l = l.any (eqN x) := rfl
theorem take_anyN {l : List NmS} {i : Nat} {u : NmS} (h : l[i]? = some u) (f : NmS → Bool) : (l.take (i + 1)).any f = ((l.take i).any f || f u) := by
 rw [List.take_add_one,h,Option.toList_some,List.any_append]
 simp
theorem take_allN {l : List NmS} {i : Nat} {u : NmS} (h : l[i]? = some u) (f : NmS → Bool) : (l.take (i + 1)).all f = ((l.take i).all f && f u) := by
 rw [List.take_add_one,h,Option.toList_some,List.all_append]
 simp
theorem eVs_turn (q : Nat → Bool) : (nmRows (eVs false q)).flatten.set 0 (.string ⟨#[110,111,117,103,104,116]⟩) = (nmRows (eVs true q)).flatten := rfl
theorem nmr_get {l : List NmS} {i : Nat} {x : NmS} (h : l[i]? = some x) : (nmRows l)[i]? = some [.string x.name,.int .i64 x.n] := by simp [nmRows,h,NmS.cells]
theorem compatEnums_walk (la : Option Addr) (L lc : Nat) (zs : List Int) (lb : Option Addr) (L2 lc2 : Nat) (zs2 : List Int) (turn : Bool) (w : World) (hI : IsRow .i64 w la L lc zs) (hc1 : lc * Try.prog.bytesOf 3 ≤ 140737488351232) (hI2 : IsRow .i64 w lb L2 lc2 zs2) (hc2 : lc2 * Try.prog.bytesOf 3 ≤ 140737488351232) :
  Calls Try.prog 3 #[.slice la L lc,.slice lb L2 lc2,.bool turn] w fun e w' => e = .returned (.bool true) ∧ Below w.heap.size w w' := by
 have HEV : Hid EvolC := evolves_any;obtain ⟨hR1,hl1⟩ := hI.rowG;obtain ⟨hR2,hl2⟩ := hI2.rowG;have H1 : Hid (RowG w (.slice la L lc) 1 (inRows (zs.take L)) ∧ (zs.take L).length = L ∧ ∀ n ∈ zs.take L,Is64 n) := ⟨hR1,hl1,hI.i64⟩;have H2 : Hid (RowG w (.slice lb L2 lc2) 1 (inRows (zs2.take L2)) ∧ (zs2.take L2).length = L2 ∧ ∀ n ∈ zs2.take L2,Is64 n) := ⟨hR2,hl2,hI2.i64⟩;clear hR1 hl1 hR2 hl2 hI hI2 hc1 hc2
 go_enter Try.func3,Try.ntmps3
 go_wp2_with fail;refine (en1_any H1.out.1 H1.out.2.1 H1.out.2.2).mono ?_;rintro e w1 ⟨xa,xc,rfl,ho1,hb1⟩;obtain ⟨P,hP⟩ : ∃ z,inE (zs.take L) = z := ⟨_,rfl⟩;rw [hP] at ho1;rw [hP];obtain ⟨K1,hK1⟩ : ∃ z,(eVs false P).length = z := ⟨_,rfl⟩;rw [hK1] at ho1;rw [hK1];have HO1 : Hid (w1.ownsRow w.heap.size 27 2 (.slice xa K1 xc) K1 (nmRows (eVs false P)).flatten ∧ (eVs false P).length = K1) := ⟨ho1,hK1⟩;have HB1 : Hid (Below w.heap.size w w1) := hb1;clear ho1 hK1 hP hb1 H1;go_wp2_with fail;refine (en1_any (H2.out.1.below HB1.out) H2.out.2.1 H2.out.2.2).mono ?_;rintro e w2 ⟨ya,yc,rfl,ho2,hb2⟩;obtain ⟨Q,hQ⟩ : ∃ z,inE (zs2.take L2) = z := ⟨_,rfl⟩;rw [hQ] at ho2;rw [hQ];obtain ⟨K2,hK2⟩ : ∃ z,(eVs false Q).length = z := ⟨_,rfl⟩;rw [hK2] at ho2;rw [hK2];have HO2 : Hid (w2.ownsRow w1.heap.size 27 2 (.slice ya K2 yc) K2 (nmRows (eVs false Q)).flatten ∧ (eVs false Q).length = K2) := ⟨ho2,hK2⟩;have HB2 : Hid (Below w1.heap.size w1 w2) := hb2
 have hk1 : K1 ≤ 10 := by rw [← HO1.out.2]; exact eVs_len _ _
 have hk2 : K2 ≤ 10 := by rw [← HO2.out.2]; exact eVs_len _ _
 have hp1 : 1 ≤ K1 := by rw [← HO1.out.2]; unfold eVs; simp
 have hp2 : 1 ≤ K2 := by rw [← HO2.out.2]; unfold eVs; simp
 clear ho2 hK2 hQ hb2 H2
 have HBB : Hid (Below w2.heap.size w2 ((w2.alloc (Obj.cells #[.string ⟨#[101]⟩,.slice xa K1 xc] 25)).alloc (Obj.cells #[.string ⟨#[101]⟩,.slice ya K2 yc] 25)) ∧ Blk ((w2.alloc (Obj.cells #[.string ⟨#[101]⟩,.slice xa K1 xc] 25)).alloc (Obj.cells #[.string ⟨#[101]⟩,.slice ya K2 yc] 25)) w2.heap.size #[.string ⟨#[101]⟩,.slice xa K1 xc] 25 ∧ Blk ((w2.alloc (Obj.cells #[.string ⟨#[101]⟩,.slice xa K1 xc] 25)).alloc (Obj.cells #[.string ⟨#[101]⟩,.slice ya K2 yc] 25)) (w2.heap.size + 1) #[.string ⟨#[101]⟩,.slice ya K2 yc] 25) := (by
  have h1 := alls_below [(#[.string ⟨#[101]⟩,.slice xa K1 xc],25),(#[.string ⟨#[101]⟩,.slice ya K2 yc],25)] w2;have h2 := alls_blk [(#[.string ⟨#[101]⟩,.slice xa K1 xc],25),(#[.string ⟨#[101]⟩,.slice ya K2 yc],25)] w2
  exact ⟨h1.1,h2 0 _ rfl,h2 1 _ rfl⟩ : _ ∧ _)
 go_upto_region 3 with fail
 generalize ((w2.alloc (Obj.cells #[.string ⟨#[101]⟩,.slice xa K1 xc] 25)).alloc (Obj.cells #[.string ⟨#[101]⟩,.slice ya K2 yc] 25)) = WA at *;obtain ⟨b0,hb0⟩ : ∃ z,w2.heap.size = z := ⟨_,rfl⟩;have HBZ : Hid (w2.heap.size = b0) := hb0;have hbA := HBB.out.1;rw [hb0] at HBB
 try simp only [hb0]
 obtain ⟨g1,xc2,hq1, -⟩ := own_addr HO1.out.1 (by omega);simp only [Value.slice.injEq,true_and] at hq1;obtain ⟨rfl,rfl⟩ := hq1;obtain ⟨g2,yc2,hq2, -⟩ := own_addr HO2.out.1 (by omega);simp only [Value.slice.injEq,true_and] at hq2;obtain ⟨rfl,rfl⟩ := hq2
 have HWW : Hid (Below w.heap.size w WA ∧ Below w1.heap.size w1 WA) := (by
  have h1 := HB2.out.trans (hbA.mono HB2.out.size)
  exact ⟨HB1.out.trans (h1.mono HB1.out.size),h1⟩ : _ ∧ _)
 have HIN : Hid (Blk WA b0 #[.string ⟨#[101]⟩,.slice (some ⟨g1,0,none⟩) K1 xc] 25 ∧ Blk WA (b0 + 1) #[.string ⟨#[101]⟩,.slice (some ⟨g2,0,none⟩) K2 yc] 25 ∧ WA.ownsRow w.heap.size 27 2 (.slice (some ⟨g1,0,none⟩) K1 xc) K1 (nmRows (eVs false P)).flatten ∧ WA.ownsRow w1.heap.size 27 2 (.slice (some ⟨g2,0,none⟩) K2 yc) K2 (nmRows (eVs false Q)).flatten ∧ g1 < w1.heap.size ∧ w1.heap.size ≤ g2 ∧ Below w.heap.size w WA) := ⟨HBB.out.2.1,HBB.out.2.2,own_below HO1.out.1 HWW.out.2,own_below HO2.out.1 hbA,(World.ownsRow.lt HO1.out.1 g1 rfl).2,(World.ownsRow.lt HO2.out.1 g2 rfl).1,HWW.out.1⟩;have HLN : Hid ((eVs false P).length = K1 ∧ (eVs false Q).length = K2 ∧ w.heap.size ≤ w1.heap.size) := ⟨HO1.out.2,HO2.out.2,HB1.out.size⟩;clear HBB hbA hb0 HO1 HO2 HB1 HB2 HWW HBZ;obtain ⟨X,hX⟩ : ∃ z,eVs false P = z := ⟨_,rfl⟩;have HX : Hid (eVs false P = X) := hX;rw [hX] at HIN HLN;obtain ⟨Y,hY⟩ : ∃ z,eVs false Q = z := ⟨_,rfl⟩;have HY : Hid (eVs false Q = Y) := hY;rw [hY] at HIN HLN;obtain ⟨s1,hs1⟩ : ∃ z,w1.heap.size = z := ⟨_,rfl⟩;rw [hs1] at HIN HLN;clear hX hY hs1;go_wp2_with fail
 go_loopw [10,11] (fun wv iv wr => ∃ i : Nat,iv = .int .i64 (i : Int) ∧ wv = .bool ((X.take i).all fun v => inVs v Y) ∧ i ≤ K1 ∧ Hid (Below WA.heap.size WA wr)) (fun _ iv _ => 11 - (intOf iv).toNat)
 case atStart => exact ⟨0,rfl,by simp,by omega,Below.refl _ _⟩
 case round =>
  obtain ⟨i,rfl,rfl,hi,HBW⟩ := hrel;obtain ⟨wb,hwb⟩ : ∃ z,((X.take i).all fun v => inVs v Y) = z := ⟨_,rfl⟩;have HWB : Hid (((X.take i).all fun v => inVs v Y) = wb) := hwb
  try simp only [hwb]
  clear hwb;have BX := HIN.out.1.below HBW.out;have BY := HIN.out.2.1.below HBW.out;have x1 := (BX.cell 1).trans rfl;have hlx := BX.lt
  by_cases hlt : i < K1
  rotate_left
  ·obtain rfl : K1 = i := by omega
   have HWE : Hid ((X.all fun v => inVs v Y) = wb) := (by rw [← HWB.out,List.take_of_length_le (by rw [HLN.out.1]; exact Nat.le_refl _)] : _ = _)
   have hdl : decide ((K1 : Int) < (K1 : Int)) = false := by simp
   have y1 := (BY.cell 1).trans rfl;have hly := BY.lt;clear HWB
   cases turn with
   | false =>
    have hbw : Below w.heap.size w wr := HIN.out.2.2.2.2.2.2.trans (HBW.out.mono HIN.out.2.2.2.2.2.2.size);have HT : Hid (Blk wr b0 #[.string ⟨#[101]⟩,.slice (some ⟨g1,0,none⟩) K1 xc] 25 ∧ Blk wr (b0 + 1) #[.string ⟨#[101]⟩,.slice (some ⟨g2,0,none⟩) K2 yc] 25 ∧ wr.ownsRow w.heap.size 27 2 (.slice (some ⟨g1,0,none⟩) K1 xc) (eVs false P).length (nmRows (eVs false P)).flatten ∧ wr.ownsRow s1 27 2 (.slice (some ⟨g2,0,none⟩) K2 yc) (eVs false Q).length (nmRows (eVs false Q)).flatten) := ⟨BX,BY,by rw [HX.out,HLN.out.1]; exact own_below HIN.out.2.2.1 HBW.out,by rw [HY.out,HLN.out.2.1]; exact own_below HIN.out.2.2.2.1 HBW.out⟩;have HWL : Hid (((eVs false P).all fun v => inVs v (eVs false Q)) = wb) := (by rw [HX.out,HY.out]; exact HWE.out : _ = _);clear BX BY y1 hly HBW HWE HIN;obtain ⟨x1',x2',x3',hE⟩ : ∃ a b c,evolA (eS (eVs false P)) (eS (eVs false Q)) = (a,b,c) := ⟨_,_,_,rfl⟩;have HEE : Hid (evolA (eS (eVs false P)) (eS (eVs false Q)) = (x1',x2',x3')) := hE
    have HXX : Hid ((x1' = ⟨#[]⟩ ∧ x2' = 0 ∧ x3' = true ∧ wb = true) ∨ (x1' = ⟨#[109]⟩ ∧ x2' = 1 ∧ x3' = false ∧ wb = false)) := (by
     rw [evol_enum (enum_ok false P) (enum_ok false Q),HWL.out] at hE
     cases hq : wb with
     | true =>
      rw [hq,if_pos rfl] at hE
      cases hE
      exact .inl ⟨rfl,rfl,rfl,rfl⟩
     | false =>
      rw [hq,if_neg (by decide)] at hE
      cases hE
      exact .inr ⟨rfl,rfl,rfl,rfl⟩ : _ ∨ _)
    clear hE
    go_upto_region 17 with fail
    have hS : Below wr.heap.size wr wr.drew := (Below.refl _ _).drew;refine wp_region_held_drew (S := fun w' => Below wr.heap.size wr w') (by kernel_rfl) hS (fun hS => ?_);refine rg_take 0 62 (.func (.func 7) #[] #[]) _ rfl rfl (by kernel_rfl) (by kernel_rfl) (by kernel_rfl) (fun _ _ _ h => h) (by rfl) (fun w' hw' => ?_) hS (listed' := bts 14 1) (by kernel_rfl) rfl ?_
    ·go_simp
    simp only [zsA,zsZ,zsS];refine rg_take 1 63 (.agg #[.string ⟨#[101]⟩,.slice (some ⟨g1,0,none⟩) K1 xc]) _ rfl rfl (by kernel_rfl) (by kernel_rfl) (by kernel_rfl) (fun _ _ _ h => h) (by rfl) (fun w' hw' => ?_) hS (listed' := bts 14 3) (by kernel_rfl) rfl ?_
    ·have BQ := HT.out.1.below hw'; have f0 := (BQ.cell 0).trans rfl; have f1 := (BQ.cell 1).trans rfl; go_simp
    simp only [zsA,zsZ,zsS];refine rg_take 3 65 (.func (.func 7) #[] #[]) _ rfl rfl (by kernel_rfl) (by kernel_rfl) (by kernel_rfl) (fun _ _ _ h => h) (by rfl) (fun w' hw' => ?_) hS (listed' := bts 14 11) (by kernel_rfl) rfl ?_
    ·go_simp
    simp only [zsA,zsZ,zsS];refine rg_take 4 66 (.agg #[.string ⟨#[101]⟩,.slice (some ⟨g2,0,none⟩) K2 yc]) _ rfl rfl (by kernel_rfl) (by kernel_rfl) (by kernel_rfl) (fun _ _ _ h => h) (by rfl) (fun w' hw' => ?_) hS (listed' := bts 14 27) (by kernel_rfl) rfl ?_
    ·have BQ := HT.out.2.1.below hw'; have f0 := (BQ.cell 0).trans rfl; have f1 := (BQ.cell 1).trans rfl; go_simp
    simp only [zsA,zsZ,zsS];refine rg_call 2 64 7 #[.agg #[.string ⟨#[101]⟩,.slice (some ⟨g1,0,none⟩) K1 xc]] rfl rfl (by kernel_rfl) (by rfl) (listed' := bts 14 31) (by kernel_rfl) (fun W => by go_simp) ?_;refine Calls.mono (en2_any (own_rowN (own_below HT.out.2.2.1 hS))) ?_;rintro ee W17falsea ⟨r1,rfl,hr1,hbU⟩;have HR1 : Hid (SIn W17falsea r1 (eS (eVs false P))) := ⟨hr1,eS_w _ _,eS_few _ _⟩;clear hr1;have hS0 := hS;have hS : Below wr.heap.size wr W17falsea := hS0.trans (hbU.mono hS0.size);clear hS0 hbU;refine ⟨_,rfl,hS,?_⟩;simp only [zsA,zsZ,zsS];refine rg_call 5 67 7 #[.agg #[.string ⟨#[101]⟩,.slice (some ⟨g2,0,none⟩) K2 yc]] rfl rfl (by kernel_rfl) (by rfl) (listed' := bts 14 63) (by kernel_rfl) (fun W => by go_simp) ?_;refine Calls.mono (en2_any (own_rowN (own_below HT.out.2.2.2 hS))) ?_;rintro ee W17falseb ⟨r2,rfl,hr2,hbU⟩;have HR2 : Hid (SIn W17falseb r2 (eS (eVs false Q))) := ⟨hr2,eS_w _ _,eS_few _ _⟩;have HR3 : Hid (SIn W17falseb r1 (eS (eVs false P))) := HR1.out.below hbU;clear hr2 HR1;have hS0 := hS;have hS : Below wr.heap.size wr W17falseb := hS0.trans (hbU.mono hS0.size);clear hS0 hbU;refine ⟨_,rfl,hS,?_⟩;simp only [zsA,zsZ,zsS];refine rg_call 6 68 8 #[r1,r2] rfl rfl (by kernel_rfl) (by rfl) (listed' := bts 14 127) (by kernel_rfl) (fun W => by go_simp) ?_;refine Calls.mono (HEV.out _ _ _ _ _ HR3.out HR2.out) ?_;rintro ee W17falsec ⟨rfl,hbU⟩;rw [HEE.out];clear HR2 HR3;have hS0 := hS;have hS : Below wr.heap.size wr W17falsec := hS0.trans (hbU.mono hS0.size);clear hS0 hbU;refine ⟨_,rfl,hS,?_⟩;simp only [zsA,zsZ,zsS];refine rg_take 7 61 ((.tuple #[.string x1',.int .i64 x2',.bool x3'])) _ rfl rfl (by kernel_rfl) (by kernel_rfl) (by kernel_rfl) (fun _ _ _ h => h) (by rfl) (fun w' hw' => ?_) hS (listed' := bts 14 255) (by kernel_rfl) rfl ?_
    ·go_simp
    simp only [zsA,zsZ,zsS];refine rg_take 8 69 (.string x1') _ rfl rfl (by kernel_rfl) (by kernel_rfl) (by kernel_rfl) (fun _ _ _ h => h) (by rfl) (fun w' hw' => ?_) hS (listed' := bts 14 511) (by kernel_rfl) rfl ?_
    ·go_simp
    simp only [zsA,zsZ,zsS];refine rg_take 9 70 (.int .i64 x2') _ rfl rfl (by kernel_rfl) (by kernel_rfl) (by kernel_rfl) (fun _ _ _ h => h) (by rfl) (fun w' hw' => ?_) hS (listed' := bts 14 1023) (by kernel_rfl) rfl ?_
    ·go_simp
    simp only [zsA,zsZ,zsS];refine rg_take 10 71 (.bool x3') _ rfl rfl (by kernel_rfl) (by kernel_rfl) (by kernel_rfl) (fun _ _ _ h => h) (by rfl) (fun w' hw' => ?_) hS (listed' := bts 14 2047) (by kernel_rfl) rfl ?_
    ·go_simp
    simp only [zsA,zsZ,zsS];refine rg_take 11 15 (.string x1') _ rfl rfl (by kernel_rfl) (by kernel_rfl) (by kernel_rfl) (fun _ _ _ h => h) (by rfl) (fun w' hw' => ?_) hS (listed' := bts 14 4095) (by kernel_rfl) rfl ?_
    ·go_simp
    simp only [zsA,zsZ,zsS];refine rg_take 12 16 (.int .i64 x2') _ rfl rfl (by kernel_rfl) (by kernel_rfl) (by kernel_rfl) (fun _ _ _ h => h) (by rfl) (fun w' hw' => ?_) hS (listed' := bts 14 8191) (by kernel_rfl) rfl ?_
    ·go_simp
    simp only [zsA,zsZ,zsS];refine rg_take 13 17 (.bool x3') _ rfl rfl (by kernel_rfl) (by kernel_rfl) (by kernel_rfl) (fun _ _ _ h => h) (by rfl) (fun w' hw' => ?_) hS (listed' := bts 14 16383) (by kernel_rfl) rfl ?_
    ·go_simp
    simp only [zsA,zsZ,zsS];refine wpAnyH_done (by kernel_rfl) ?_ _;have hbw9 : Below w.heap.size w W17falsec := hbw.trans (hS.mono hbw.size);clear hS HT HWL
    rcases HXX.out with ⟨h1,h2,h3,h4⟩ | ⟨h1,h2,h3,h4⟩
    ·subst h1 h2 h3;subst h4;clear HXX;go_wp2_with fail;refine (evawake_any HEV.out _).mono ?_;rintro e wz ⟨rfl,hbz⟩;have hbwz : Below w.heap.size w wz := hbw9.trans (hbz.mono hbw9.size);clear hbz;go_wp2_with fail;go_ret;exact ⟨rfl,hbwz⟩
    ·subst h1 h2 h3;subst h4;clear HXX;go_wp2_with fail;refine (evawake_any HEV.out _).mono ?_;rintro e wz ⟨rfl,hbz⟩;have hbwz : Below w.heap.size w wz := hbw9.trans (hbz.mono hbw9.size);clear hbz;go_wp2_with fail;go_ret;exact ⟨rfl,hbwz⟩
   | true =>
    have hoy := own_below HIN.out.2.2.2.1 HBW.out;have hox := own_below HIN.out.2.2.1 HBW.out
    have j0 : wr.cell? ⟨g2,0,none⟩ = some (.string (eZ false).name) := by
     have h1 : Y[0]? = some (eZ false) := by rw [← HY.out]; rfl
     have h2 := own_at (nmr_len _) hoy (nmr_get h1) (j := 0) rfl
     simpa using h2
    have jz := own_froz hoy 0;have hg2 : s1 ≤ g2 := HIN.out.2.2.2.2.2.1;have hg1 : g1 < s1 := HIN.out.2.2.2.2.1
    have hkn : Kp (fun q => q = g2) wr (wr.setCell ⟨g2,0,none⟩ (.string ⟨#[110,111,117,103,104,116]⟩)) := by
     refine Kp.setCell ?_ (fun _ => by simp) _;exact Kp.refl _ _
    obtain ⟨csy,hBy⟩ := own_blkE hoy (g := g2) rfl
    have hnb : ∀ {b : Nat} {cs : Array Value},Blk wr b cs 25 → ¬ b = g2 := fun hB e => by
     subst e;have h3 := hB.symm.trans hBy;simp only [Option.some.injEq,Obj.cells.injEq] at h3;have h4 := h3.2.1
     revert h4
     decide
    have hbw0 : Below w.heap.size w wr := HIN.out.2.2.2.2.2.2.trans (HBW.out.mono HIN.out.2.2.2.2.2.2.size);have HNW : Hid (Below w.heap.size w (wr.setCell ⟨g2,0,none⟩ (.string ⟨#[110,111,117,103,104,116]⟩))) := set_bel hbw0 (Nat.le_trans HLN.out.2.2 hg2)
    have HT : Hid (Blk (wr.setCell ⟨g2,0,none⟩ (.string ⟨#[110,111,117,103,104,116]⟩)) b0 #[.string ⟨#[101]⟩,.slice (some ⟨g1,0,none⟩) K1 xc] 25 ∧ Blk (wr.setCell ⟨g2,0,none⟩ (.string ⟨#[110,111,117,103,104,116]⟩)) (b0 + 1) #[.string ⟨#[101]⟩,.slice (some ⟨g2,0,none⟩) K2 yc] 25 ∧ (wr.setCell ⟨g2,0,none⟩ (.string ⟨#[110,111,117,103,104,116]⟩)).ownsRow w.heap.size 27 2 (.slice (some ⟨g1,0,none⟩) K1 xc) (eVs false P).length (nmRows (eVs false P)).flatten ∧ (wr.setCell ⟨g2,0,none⟩ (.string ⟨#[110,111,117,103,104,116]⟩)).ownsRow s1 27 2 (.slice (some ⟨g2,0,none⟩) K2 yc) (eVs true Q).length (nmRows (eVs true Q)).flatten) := ⟨BX.kp hkn (hnb BX),BY.kp hkn (hnb BY),by rw [HX.out,HLN.out.1]; exact own_kpV hox hkn (fun b hb e => by
     have h1 : g1 = b := by simpa [Value.ownBlock] using hb
     have h2 : b = g2 := e
     omega),by
     rw [← eVs_turn,show (eVs true Q).length = (eVs false Q).length from rfl,HY.out,HLN.out.2.1]
     exact own_set hoy _⟩
    have HWL : Hid (((eVs false P).all fun v => inVs v (eVs true Q)) = false) := (by rw [enum_all]; rfl : _ = _);clear BX BY HBW HWE HIN hoy hox hkn hnb hBy hbw0 hg2 hg1
    go_upto_region 15 with fail
    clear j0 jz y1 hly x1 hlx hdl;generalize (wr.setCell ⟨g2,0,none⟩ (.string ⟨#[110,111,117,103,104,116]⟩)) = WM at *;have hbw := HNW.out;clear HNW;obtain ⟨x1',x2',x3',hE⟩ : ∃ a b c,evolA (eS (eVs false P)) (eS (eVs true Q)) = (a,b,c) := ⟨_,_,_,rfl⟩;have HEE : Hid (evolA (eS (eVs false P)) (eS (eVs true Q)) = (x1',x2',x3')) := hE
    have HXX : Hid ((x1' = ⟨#[]⟩ ∧ x2' = 0 ∧ x3' = true ∧ false = true) ∨ (x1' = ⟨#[109]⟩ ∧ x2' = 1 ∧ x3' = false ∧ false = false)) := (by
     rw [evol_enum (enum_ok false P) (enum_ok true Q),HWL.out] at hE
     cases hq : false with
     | true =>
      rw [hq,if_pos rfl] at hE
      cases hE
      exact .inl ⟨rfl,rfl,rfl,rfl⟩
     | false =>
      rw [hq,if_neg (by decide)] at hE
      cases hE
      exact .inr ⟨rfl,rfl,rfl,rfl⟩ : _ ∨ _)
    clear hE
    go_upto_region 17 with fail
    have hS : Below WM.heap.size WM WM.drew := (Below.refl _ _).drew;refine wp_region_held_drew (S := fun w' => Below WM.heap.size WM w') (by kernel_rfl) hS (fun hS => ?_);refine rg_take 0 62 (.func (.func 7) #[] #[]) _ rfl rfl (by kernel_rfl) (by kernel_rfl) (by kernel_rfl) (fun _ _ _ h => h) (by rfl) (fun w' hw' => ?_) hS (listed' := bts 14 1) (by kernel_rfl) rfl ?_
    ·go_simp
    simp only [zsA,zsZ,zsS];refine rg_take 1 63 (.agg #[.string ⟨#[101]⟩,.slice (some ⟨g1,0,none⟩) K1 xc]) _ rfl rfl (by kernel_rfl) (by kernel_rfl) (by kernel_rfl) (fun _ _ _ h => h) (by rfl) (fun w' hw' => ?_) hS (listed' := bts 14 3) (by kernel_rfl) rfl ?_
    ·have BQ := HT.out.1.below hw'; have f0 := (BQ.cell 0).trans rfl; have f1 := (BQ.cell 1).trans rfl; go_simp
    simp only [zsA,zsZ,zsS];refine rg_take 3 65 (.func (.func 7) #[] #[]) _ rfl rfl (by kernel_rfl) (by kernel_rfl) (by kernel_rfl) (fun _ _ _ h => h) (by rfl) (fun w' hw' => ?_) hS (listed' := bts 14 11) (by kernel_rfl) rfl ?_
    ·go_simp
    simp only [zsA,zsZ,zsS];refine rg_take 4 66 (.agg #[.string ⟨#[101]⟩,.slice (some ⟨g2,0,none⟩) K2 yc]) _ rfl rfl (by kernel_rfl) (by kernel_rfl) (by kernel_rfl) (fun _ _ _ h => h) (by rfl) (fun w' hw' => ?_) hS (listed' := bts 14 27) (by kernel_rfl) rfl ?_
    ·have BQ := HT.out.2.1.below hw'; have f0 := (BQ.cell 0).trans rfl; have f1 := (BQ.cell 1).trans rfl; go_simp
    simp only [zsA,zsZ,zsS];refine rg_call 2 64 7 #[.agg #[.string ⟨#[101]⟩,.slice (some ⟨g1,0,none⟩) K1 xc]] rfl rfl (by kernel_rfl) (by rfl) (listed' := bts 14 31) (by kernel_rfl) (fun W => by go_simp) ?_;refine Calls.mono (en2_any (own_rowN (own_below HT.out.2.2.1 hS))) ?_;rintro ee W17truea ⟨r1,rfl,hr1,hbU⟩;have HR1 : Hid (SIn W17truea r1 (eS (eVs false P))) := ⟨hr1,eS_w _ _,eS_few _ _⟩;clear hr1;have hS0 := hS;have hS : Below WM.heap.size WM W17truea := hS0.trans (hbU.mono hS0.size);clear hS0 hbU;refine ⟨_,rfl,hS,?_⟩;simp only [zsA,zsZ,zsS];refine rg_call 5 67 7 #[.agg #[.string ⟨#[101]⟩,.slice (some ⟨g2,0,none⟩) K2 yc]] rfl rfl (by kernel_rfl) (by rfl) (listed' := bts 14 63) (by kernel_rfl) (fun W => by go_simp) ?_;refine Calls.mono (en2_any (own_rowN (own_below HT.out.2.2.2 hS))) ?_;rintro ee W17trueb ⟨r2,rfl,hr2,hbU⟩;have HR2 : Hid (SIn W17trueb r2 (eS (eVs true Q))) := ⟨hr2,eS_w _ _,eS_few _ _⟩;have HR3 : Hid (SIn W17trueb r1 (eS (eVs false P))) := HR1.out.below hbU;clear hr2 HR1;have hS0 := hS;have hS : Below WM.heap.size WM W17trueb := hS0.trans (hbU.mono hS0.size);clear hS0 hbU;refine ⟨_,rfl,hS,?_⟩;simp only [zsA,zsZ,zsS];refine rg_call 6 68 8 #[r1,r2] rfl rfl (by kernel_rfl) (by rfl) (listed' := bts 14 127) (by kernel_rfl) (fun W => by go_simp) ?_;refine Calls.mono (HEV.out _ _ _ _ _ HR3.out HR2.out) ?_;rintro ee W17truec ⟨rfl,hbU⟩;rw [HEE.out];clear HR2 HR3;have hS0 := hS;have hS : Below WM.heap.size WM W17truec := hS0.trans (hbU.mono hS0.size);clear hS0 hbU;refine ⟨_,rfl,hS,?_⟩;simp only [zsA,zsZ,zsS];refine rg_take 7 61 ((.tuple #[.string x1',.int .i64 x2',.bool x3'])) _ rfl rfl (by kernel_rfl) (by kernel_rfl) (by kernel_rfl) (fun _ _ _ h => h) (by rfl) (fun w' hw' => ?_) hS (listed' := bts 14 255) (by kernel_rfl) rfl ?_
    ·go_simp
    simp only [zsA,zsZ,zsS];refine rg_take 8 69 (.string x1') _ rfl rfl (by kernel_rfl) (by kernel_rfl) (by kernel_rfl) (fun _ _ _ h => h) (by rfl) (fun w' hw' => ?_) hS (listed' := bts 14 511) (by kernel_rfl) rfl ?_
    ·go_simp
    simp only [zsA,zsZ,zsS];refine rg_take 9 70 (.int .i64 x2') _ rfl rfl (by kernel_rfl) (by kernel_rfl) (by kernel_rfl) (fun _ _ _ h => h) (by rfl) (fun w' hw' => ?_) hS (listed' := bts 14 1023) (by kernel_rfl) rfl ?_
    ·go_simp
    simp only [zsA,zsZ,zsS];refine rg_take 10 71 (.bool x3') _ rfl rfl (by kernel_rfl) (by kernel_rfl) (by kernel_rfl) (fun _ _ _ h => h) (by rfl) (fun w' hw' => ?_) hS (listed' := bts 14 2047) (by kernel_rfl) rfl ?_
    ·go_simp
    simp only [zsA,zsZ,zsS];refine rg_take 11 15 (.string x1') _ rfl rfl (by kernel_rfl) (by kernel_rfl) (by kernel_rfl) (fun _ _ _ h => h) (by rfl) (fun w' hw' => ?_) hS (listed' := bts 14 4095) (by kernel_rfl) rfl ?_
    ·go_simp
    simp only [zsA,zsZ,zsS];refine rg_take 12 16 (.int .i64 x2') _ rfl rfl (by kernel_rfl) (by kernel_rfl) (by kernel_rfl) (fun _ _ _ h => h) (by rfl) (fun w' hw' => ?_) hS (listed' := bts 14 8191) (by kernel_rfl) rfl ?_
    ·go_simp
    simp only [zsA,zsZ,zsS];refine rg_take 13 17 (.bool x3') _ rfl rfl (by kernel_rfl) (by kernel_rfl) (by kernel_rfl) (fun _ _ _ h => h) (by rfl) (fun w' hw' => ?_) hS (listed' := bts 14 16383) (by kernel_rfl) rfl ?_
    ·go_simp
    simp only [zsA,zsZ,zsS];refine wpAnyH_done (by kernel_rfl) ?_ _;have hbw9 : Below w.heap.size w W17truec := hbw.trans (hS.mono hbw.size);clear hS HT HWL
    rcases HXX.out with ⟨h1,h2,h3,h4⟩ | ⟨h1,h2,h3,h4⟩
    ·subst h1 h2 h3
     cases h4
    ·subst h1 h2 h3;clear h4;clear HXX;go_wp2_with fail;refine (evawake_any HEV.out _).mono ?_;rintro e wz ⟨rfl,hbz⟩;have hbwz : Below w.heap.size w wz := hbw9.trans (hbz.mono hbw9.size);clear hbz;go_wp2_with fail;go_ret;exact ⟨rfl,hbwz⟩
  have hid : decide ((i : Int) < (K1 : Int)) = true := by simp; omega
  obtain ⟨x,hx⟩ : ∃ z,X[i]? = some z := ⟨_,List.getElem?_eq_getElem (by rw [HLN.out.1]; exact hlt)⟩;have HXI : Hid (X[i]? = some x) := hx;have HBO : Hid (Below WA.heap.size WA wr) := HBW.out;clear hx BX BY HBW;go_wp2_with fail;clear x1 hlx
  go_loopw [12,13] (fun bv kv wr => ∃ k : Nat,kv = .int .i64 (k : Int) ∧ bv = .bool ((Y.take k).any (eqN x)) ∧ k ≤ K2 ∧ Hid (Below WA.heap.size WA wr)) (fun _ kv _ => 11 - (intOf kv).toNat)
  case atStart => exact ⟨0,rfl,by simp,by omega,HBO⟩
  case round =>
   obtain ⟨k,rfl,rfl,hk,HBW⟩ := hrel;obtain ⟨ib,hib⟩ : ∃ z,(Y.take k).any (eqN x) = z := ⟨_,rfl⟩;have HIB : Hid ((Y.take k).any (eqN x) = ib) := hib
   try simp only [hib]
   clear hib;have BX := HIN.out.1.below HBW.out;have BY := HIN.out.2.1.below HBW.out;have x1 := (BX.cell 1).trans rfl;have hlx := BX.lt;have y1 := (BY.cell 1).trans rfl;have hly := BY.lt
   by_cases hlk : k < K2
   rotate_left
   ·obtain rfl : K2 = k := by omega
    have hdl : decide ((K2 : Int) < (K2 : Int)) = false := by simp
    have HS : Hid (((X.take (i + 1)).all fun v => inVs v Y) = (wb && ib)) := (by
     rw [take_allN HXI.out,HWB.out,inVs_eq,← HIB.out,List.take_of_length_le (by rw [HLN.out.2.1]; exact Nat.le_refl _)] : _ = _)
    clear BX BY HIB HWB x1 hlx
    cases wb with
    | true =>
     go_wp2_with fail
     go_roundw
     case rel => exact ⟨i + 1,congrArg (Value.int .i64) (Int.natCast_add i 1).symm,by rw [HS.out]; rfl,by omega,HBW⟩
     case measure => simp [intOf]; omega
    | false =>
     go_wp2_with fail
     go_roundw
     case rel => exact ⟨i + 1,congrArg (Value.int .i64) (Int.natCast_add i 1).symm,by rw [HS.out]; rfl,by omega,HBW⟩
     case measure => simp [intOf]; omega
   have hkd : decide ((k : Int) < (K2 : Int)) = true := by simp; omega
   obtain ⟨u,hu⟩ : ∃ z,Y[k]? = some z := ⟨_,List.getElem?_eq_getElem (by rw [HLN.out.2.1]; exact hlk)⟩;have HS : Hid ((Y.take (k + 1)).any (eqN x) = (ib || eqN x u)) := (by rw [take_anyN hu,HIB.out] : _ = _);have hox := own_below HIN.out.2.2.1 HBW.out;have hoy := own_below HIN.out.2.2.2.1 HBW.out;have p0 := own_at (nmr_len _) hox (nmr_get HXI.out) (j := 0) rfl;have p1 := own_at (nmr_len _) hox (nmr_get HXI.out) (j := 1) rfl;have r0 := own_at (nmr_len _) hoy (nmr_get hu) (j := 0) rfl;have r1 := own_at (nmr_len _) hoy (nmr_get hu) (j := 1) rfl;simp only [Nat.add_zero] at p0 r0;have hbw := HBW.out;obtain ⟨xn,hxn⟩ : ∃ z,x.name = z := ⟨_,rfl⟩;obtain ⟨xk,hxk⟩ : ∃ z,x.n = z := ⟨_,rfl⟩;obtain ⟨un,hun⟩ : ∃ z,u.name = z := ⟨_,rfl⟩;obtain ⟨uk,huk⟩ : ∃ z,u.n = z := ⟨_,rfl⟩;rw [hxn] at p0;rw [hxk] at p1;rw [hun] at r0;rw [huk] at r1;have HEQ : Hid (eqN x u = decide (xn = un ∧ xk = uk)) := (by unfold eqN; rw [hxn,hxk,hun,huk] : _ = _);clear hxn hxk hun huk BX BY hox hoy hu HIB
   cases ib with
   | true =>
    go_upto_region 11 with fail
    go_quiet (fail)
    go_wp2_with fail
    go_roundw
    case rel => exact ⟨k + 1,congrArg (Value.int .i64) (Int.natCast_add k 1).symm,by rw [HS.out]; rfl,by omega,below_drewN _ hbw⟩
    case measure => simp [intOf]; omega
   | false =>
    by_cases e1 : xn = un
    ·subst e1
     by_cases e2 : xk = uk
     ·subst e2;have HF : Hid (eqN x u = true) := (by rw [HEQ.out]; simp : _ = _)
      go_upto_region 11 with fail
      go_quiet (fail)
      go_wp2_with fail
      go_roundw
      case rel => exact ⟨k + 1,congrArg (Value.int .i64) (Int.natCast_add k 1).symm,by rw [HS.out,HF.out]; rfl,by omega,below_drewN _ hbw⟩
      case measure => simp [intOf]; omega
     ·have HF : Hid (eqN x u = false) := (by rw [HEQ.out]; simp [e2] : _ = _)
      have hq : (xk == uk) = false := by simpa using e2
      go_upto_region 11 with fail
      go_quiet (fail)
      go_wp2_with fail
      go_roundw
      case rel => exact ⟨k + 1,congrArg (Value.int .i64) (Int.natCast_add k 1).symm,by rw [HS.out,HF.out]; rfl,by omega,below_drewN _ hbw⟩
      case measure => simp [intOf]; omega
    ·have HF : Hid (eqN x u = false) := (by rw [HEQ.out]; simp [e1] : _ = _);have hq := bytes_ne e1
     go_upto_region 11 with fail
     go_quiet (fail)
     go_wp2_with fail
     go_roundw
     case rel => exact ⟨k + 1,congrArg (Value.int .i64) (Int.natCast_add k 1).symm,by rw [HS.out,HF.out]; rfl,by omega,below_drewN _ hbw⟩
     case measure => simp [intOf]; omega
end Go.Proofs.Ytdkolhfpfimeoab

/- Part 12 of what the proof stands on. -/
import Derived.Test.YtdkolhfpfimeoaaPkCAK
namespace Go.Proofs.Ytdkolhfpfimeoaa
set_option maxHeartbeats 8000000
set_option linter.unusedVariables false
set_option linter.unusedSimpArgs false
set_option maxRecDepth 20000
open Go.ChangeShapes Go.WideShapes Go.ChangeAt Go.RowKit Go.Maps
def set2E (w : World) (g o : Nat) (a b : Value) : World := (w.setCell ⟨g,o,none⟩ a).setCell ⟨g,o + 1,none⟩ b
theorem set2E_kp (w : World) (g o : Nat) (a b : Value) : Kp (fun q => q = g) w (set2E w g o a b) := by
 unfold set2E;refine Kp.setCell ?_ (fun _ => by simp) _;refine Kp.setCell ?_ (fun _ => by simp) _;exact Kp.refl _ _
theorem blk_set2E {w : World} {b : Nat} {c0 c1 x0 x1 : Value} {t : TypeId} (h : Blk w b #[c0,c1] t) : Blk (set2E w b 0 x0 x1) b #[x0,x1] t := (h.set 0 x0 rfl).set 1 x1 rfl
theorem rmeth_at {w : World} {s : ScS} {sn : ByteArray} {sa ea ta : Option Addr} {sl sc el ec tl tc : Nat} (hs : SIn w (.agg #[.string sn,.slice sa sl sc,.slice ea el ec,.slice ta tl tc]) s) (nm : ByteArray) : Calls Try.prog 23 #[.agg #[.string sn,.slice sa sl sc,.slice ea el ec,.slice ta tl tc],.string nm] w fun e w' => e = .returned (.tuple #[.agg #[.string ((mtOf s nm).getD zeroT).name,.string ((mtOf s nm).getD zeroT).inn,.string ((mtOf s nm).getD zeroT).out],.bool (mtOf s nm).isSome]) ∧ Below w.heap.size w w' := by
 obtain ⟨vm,ve,vt,e,h1,h2,h3⟩ := hs.row;simp only [Value.agg.injEq,Array.mk.injEq,List.cons.injEq,and_true] at e;obtain ⟨e1,rfl,rfl,rfl⟩ := e;exact rmethod_any h3
theorem PrO.no {w : World} {B : Nat} {v : Value} {l : List Pr} (h : PrO w B v l) {g : Nat} {cs : Array Value} {t : TypeId} (hB : Blk w g cs t) (h2 : t ≠ 69) : ¬ v.ownBlock = some g := fun e => by
 obtain ⟨cs',h4⟩ := own_blkE h e;have h3 := hB.symm.trans h4;simp only [Option.some.injEq,Obj.cells.injEq] at h3;exact h2 h3.2.1
theorem own_lt' {w : World} {B : Nat} {v : Value} {l : List Pr} (h : PrO w B v l) {q : Nat} (e : v.ownBlock = some q) : B ≤ q := (World.ownsRow.lt h q e).1
theorem cell_ltE {w : World} {a : Addr} {u : Value} (h : w.cell? a = some u) : a.block < w.heap.size := by
 unfold World.cell? at h
 by_cases hb : a.block < w.heap.size
 ·exact hb
 ·rw [Array.getElem?_eq_none (by omega)] at h
  simp at h
theorem rowE_step {s t : ScS} {m n : MsS} {k : Nat} {tag : Int} {l : List Pr} {o : Option Pr} (h : atE s t m n tag = some o) : rowE s t m n (k + 1) tag l = rowE s t m n k (tag + 1) (addO l o) := by
 conv => lhs; unfold rowE
 rw [h]
theorem rowE_brk {s t : ScS} {m n : MsS} {k : Nat} {tag : Int} {l : List Pr} (h : atE s t m n tag = none) : rowE s t m n (k + 1) tag l = (l,some tag) := by
 unfold rowE;rw [h]
theorem loopE_step {s t : ScS} {k i : Nat} {l l' : List Pr} {p : Pr} (h : l[i]? = some p) (hr : rowE s t (msG s p.1) (msG t p.2) 500 1 l = (l',none)) : loopE s t (k + 1) i l = loopE s t k (i + 1) l' := by
 conv => lhs; unfold loopE
 rw [h];simp only;rw [hr]
theorem loopE_brk {s t : ScS} {k i : Nat} {l l' : List Pr} {p : Pr} {tag : Int} (h : l[i]? = some p) (hr : rowE s t (msG s p.1) (msG t p.2) 500 1 l = (l',some tag)) : loopE s t (k + 1) i l = (p.1,tag,false) := by
 unfold loopE;rw [h];simp only;rw [hr]
theorem revolves_any {s t : ScS} {sv tv : Value} {w : World} (hs : SIn w sv s) (ht : SIn w tv t) (fs : FewS s) (ft : FewS t) : Calls Try.prog 13 #[sv,tv] w fun e w' => e = .returned (evolV (evolA s t)) ∧ Below w.heap.size w w' := by
 obtain ⟨sa,sl,sc,ea,el,ec,ta,tl,tc,rfl, -, -,hMT⟩ := hs.open;obtain ⟨sa2,sl2,sc2,ea2,el2,ec2,ta2,tl2,tc2,rfl, -, -, -⟩ := ht.open
 have hN : (mtRows s.methods).length = s.methods.length := by simp [mtRows]
 have hf3 := hMT.form2;obtain ⟨ta',tc',e, -, -⟩ := hf3;simp only [Value.slice.injEq] at e;obtain ⟨rfl,e2,rfl⟩ := e;rw [hN] at e2;have HN : Hid (s.methods.length = tl) := e2.symm
 have htl : tl ≤ 10 := by rw [e2]; exact hs.few.meths
 have HMT : Hid (RowG w (.slice ta tl tc) 3 (mtRows s.methods)) := hMT;have HS : Hid (SIn w (.agg #[.string s.name,.slice sa sl sc,.slice ea el ec,.slice ta tl tc]) s) := hs;have HT : Hid (SIn w (.agg #[.string t.name,.slice sa2 sl2 sc2,.slice ea2 el2 ec2,.slice ta2 tl2 tc2]) t) := ht;obtain ⟨sn,hsn⟩ : ∃ z,s.name = z := ⟨_,rfl⟩;obtain ⟨tn,htn⟩ : ∃ z,t.name = z := ⟨_,rfl⟩;rw [hsn] at HS ⊢;rw [htn] at HT ⊢;clear hs ht hMT hN e2 hsn htn;obtain ⟨ANS,hA⟩ : ∃ z,evolA s t = z := ⟨_,rfl⟩;rw [hA];have HA : Hid (evolA s t = ANS) := hA;clear hA;obtain ⟨c1,hc1⟩ : ∃ z,checkA s = z := ⟨_,rfl⟩;obtain ⟨c2,hc2⟩ : ∃ z,checkA t = z := ⟨_,rfl⟩;have HC : Hid (checkA s = c1 ∧ checkA t = c2) := ⟨hc1,hc2⟩
 have HK1 : Hid (∀ W,Below w.heap.size w W → Calls Try.prog 16 #[.agg #[.string sn,.slice sa sl sc,.slice ea el ec,.slice ta tl tc]] W fun e w' => e = .returned (.int .i64 c1) ∧ Below W.heap.size W w') := fun W hW => by
  rw [← hc1];exact rcheck_any (HS.out.below hW).row fs
 have HK2 : Hid (∀ W,Below w.heap.size w W → Calls Try.prog 16 #[.agg #[.string tn,.slice sa2 sl2 sc2,.slice ea2 el2 ec2,.slice ta2 tl2 tc2]] W fun e w' => e = .returned (.int .i64 c2) ∧ Below W.heap.size W w') := fun W hW => by
  rw [← hc2];exact rcheck_any (HT.out.below hW).row ft
 clear hc1 hc2;have hba : Below w.heap.size w ((w.alloc (Obj.cells #[.string sn,.slice sa sl sc,.slice ea el ec,.slice ta tl tc] 26)).alloc (Obj.cells #[.string tn,.slice sa2 sl2 sc2,.slice ea2 el2 ec2,.slice ta2 tl2 tc2] 26)) := ((Below.refl _ _).alloc (Nat.le_refl _) _).alloc (by simp) _;have BS : Blk ((w.alloc (Obj.cells #[.string sn,.slice sa sl sc,.slice ea el ec,.slice ta tl tc] 26)).alloc (Obj.cells #[.string tn,.slice sa2 sl2 sc2,.slice ea2 el2 ec2,.slice ta2 tl2 tc2] 26)) w.heap.size #[.string sn,.slice sa sl sc,.slice ea el ec,.slice ta tl tc] 26 := (Blk.new w _ _).below ((Below.refl _ _).alloc (Nat.le_refl _) _)
 have BT : Blk ((w.alloc (Obj.cells #[.string sn,.slice sa sl sc,.slice ea el ec,.slice ta tl tc] 26)).alloc (Obj.cells #[.string tn,.slice sa2 sl2 sc2,.slice ea2 el2 ec2,.slice ta2 tl2 tc2] 26)) (w.heap.size + 1) #[.string tn,.slice sa2 sl2 sc2,.slice ea2 el2 ec2,.slice ta2 tl2 tc2] 26 := by
  have := Blk.new (w.alloc (Obj.cells #[.string sn,.slice sa sl sc,.slice ea el ec,.slice ta tl tc] 26)) #[.string tn,.slice sa2 sl2 sc2,.slice ea2 el2 ec2,.slice ta2 tl2 tc2] 26
  rwa [show (w.alloc (Obj.cells #[.string sn,.slice sa sl sc,.slice ea el ec,.slice ta tl tc] 26)).heap.size = w.heap.size + 1 by simp] at this
 by_cases hz1 : c1 = 0
 rotate_left
 ·have HE : Hid (ANS = (⟨#[]⟩,0,false)) := (by rw [← HA.out]; exact evol_no fun e => hz1 (HC.out.1.symm.trans e.1) : _ = _)
  have hq : (c1 != 0) = true := by simpa using hz1
  go_enter Try.func13,Try.ntmps13
  go_wp2_with fail;refine (HK1.out _ hba).mono ?_;rintro e w1 ⟨rfl,hb1⟩;have hbw1 := hba.trans (hb1.mono hba.size);clear hba BS BT hb1;go_wp2_with fail;refine bodyPost_ret (results_threeE rfl _ _ _) rfl ?_;rw [HE.out];exact ⟨rfl,hbw1⟩
 subst hz1
 go_enter Try.func13,Try.ntmps13
 go_wp2_with fail;refine (HK1.out _ hba).mono ?_;rintro e w1 ⟨rfl,hb1⟩;have hbw1 := hba.trans (hb1.mono hba.size);have BS1 := BS.below hb1;have BT1 := BT.below hb1;clear hba BS BT hb1 HK1;have hl1 : w.heap.size + 1 < w1.heap.size := BT1.lt;have t0 := (BT1.cell 0).trans rfl;have t1 := (BT1.cell 1).trans rfl;have t2 := (BT1.cell 2).trans rfl;have t3 := (BT1.cell 3).trans rfl
 by_cases hz2 : c2 = 0
 rotate_left
 ·have HE : Hid (ANS = (⟨#[]⟩,0,false)) := (by rw [← HA.out]; exact evol_no fun e => hz2 (HC.out.2.symm.trans e.2) : _ = _)
  have hq : (c2 != 0) = true := by simpa using hz2
  go_wp2_with fail;refine (HK2.out _ hbw1).mono ?_;rintro e w2 ⟨rfl,hb2⟩;have hbw2 := hbw1.trans (hb2.mono hbw1.size);clear hbw1 BS1 BT1 hb2 t0 t1 t2 t3 hl1;go_wp2_with fail;refine bodyPost_ret (results_threeE rfl _ _ _) rfl ?_;rw [HE.out];exact ⟨rfl,hbw2⟩
 subst hz2;have HOK : Hid (OkS s ∧ OkS t) := ⟨(checkA_ok s).1 HC.out.1,(checkA_ok t).1 HC.out.2⟩;go_wp2_with fail;refine (HK2.out _ hbw1).mono ?_;rintro e w2 ⟨rfl,hb2⟩;have hbw2 := hbw1.trans (hb2.mono hbw1.size);have BS2 := BS1.below hb2;have BT2 := BT1.below hb2;clear hbw1 BS1 BT1 hb2 t0 t1 t2 t3 HK2 hl1;obtain ⟨z,hz⟩ : ∃ z,w.heap.size = z := ⟨_,rfl⟩;have HZ : Hid (w.heap.size = z) := hz;rw [hz] at BS2 BT2;simp only [hz];clear hz;have hl2 : z + 1 < w2.heap.size := BT2.lt;have hl3 : z < w2.heap.size := BS2.lt;have HBS : Hid (Blk w2 z #[.string sn,.slice sa sl sc,.slice ea el ec,.slice ta tl tc] 26 ∧ Blk w2 (z + 1) #[.string tn,.slice sa2 sl2 sc2,.slice ea2 el2 ec2,.slice ta2 tl2 tc2] 26 ∧ Below w.heap.size w w2) := ⟨BS2,BT2,hbw2⟩;clear BS2 BT2 hl2 hl3 hbw2;obtain ⟨RES,hRES⟩ : ∃ z,startE t s.methods [] = z := ⟨_,rfl⟩;have HRES : Hid (startE t s.methods [] = RES) := hRES;have HR0 : Hid (startE t (s.methods.drop 0) [] = RES) := hRES;have HP0 : Hid (PrIn s t []) := ⟨by simp,by simp⟩;have HM0 : Hid (PrO w2 w.heap.size (.slice none 0 0) []) := World.ownsRow_nil _ _ _ _;have HF0 : Hid (Below w.heap.size w w2 ∧ Blk w2 z #[.string sn,.slice sa sl sc,.slice ea el ec,.slice ta tl tc] 26 ∧ Blk w2 (z + 1) #[.string tn,.slice sa2 sl2 sc2,.slice ea2 el2 ec2,.slice ta2 tl2 tc2] 26) := ⟨HBS.out.2.2,HBS.out.1,HBS.out.2.1⟩;clear hRES HBS;go_wp2_with fail
 go_loopw [7,8] (fun lv iv wr => ∃ (k : Nat) (l : List Pr) (a : Option Addr) (K c : Nat),lv = .slice a K c ∧ iv = .int .i64 (k : Int) ∧ k ≤ tl ∧ Hid (l.length = K) ∧ Hid (startE t (s.methods.drop k) l = RES) ∧ Hid (PrIn s t l) ∧ Hid (PrO wr w.heap.size (.slice a K c) l) ∧ Hid (Below w.heap.size w wr ∧ Blk wr z #[.string sn,.slice sa sl sc,.slice ea el ec,.slice ta tl tc] 26 ∧ Blk wr (z + 1) #[.string tn,.slice sa2 sl2 sc2,.slice ea2 el2 ec2,.slice ta2 tl2 tc2] 26)) (fun _ iv _ => tl - (intOf iv).toNat)
 case atStart => exact ⟨0,[],none,0,0,rfl,rfl,by omega,rfl,HR0,HP0,HM0,HF0⟩
 case round =>
  clear HR0 HP0 HM0 HF0;obtain ⟨k,l,la,K,lc,rfl,rfl,hk,HK,HR,HP,HM,HFR⟩ := hrel;have BS := HFR.out.2.1;have BT := HFR.out.2.2;have hls := BS.lt;have hlt' := BT.lt;have s3 := (BS.cell 3).trans rfl
  by_cases hlt : k < tl
  ·obtain ⟨m,hmk⟩ : ∃ n,s.methods[k]? = some n := ⟨_,List.getElem?_eq_getElem (by rw [HN.out]; exact hlt)⟩
   have hrr : (mtRows s.methods)[k]? = some [.string m.name,.string m.inn,.string m.out] := by simp [mtRows,hmk,MtS.cells]
   have hgl := HMT.out.get hrr;obtain ⟨g,off,rfl,c1⟩ := hgl;have HGL : Hid (g < w.heap.size) := cell_ltE (c1 0 _ rfl)
   have HDR : Hid (s.methods.drop k = m :: s.methods.drop (k + 1)) := (by
    obtain ⟨h1,h2⟩ := List.getElem?_eq_some_iff.1 hmk
    rw [← h2,List.drop_eq_getElem_cons h1] : _ = _)
   have HMM : Hid (m ∈ s.methods) := List.mem_of_getElem? hmk;have hbel := HFR.out.1;have p0 := (Kp.ofBelow (S := fun _ => False) hbel).cell (c1 0 _ rfl) (fun e => e);have p1 := (Kp.ofBelow (S := fun _ => False) hbel).cell (c1 1 _ rfl) (fun e => e);have p2 := (Kp.ofBelow (S := fun _ => False) hbel).cell (c1 2 _ rfl) (fun e => e);simp only [Nat.add_zero] at p0 p1 p2;obtain ⟨X,hX⟩ : ∃ z,mtOf t m.name = z := ⟨_,rfl⟩;have HX : Hid (mtOf t m.name = X) := hX;obtain ⟨x0,hx0⟩ : ∃ z,(X.getD zeroT).name = z := ⟨_,rfl⟩;obtain ⟨x1,hx1⟩ : ∃ z,(X.getD zeroT).inn = z := ⟨_,rfl⟩;obtain ⟨x2,hx2⟩ : ∃ z,(X.getD zeroT).out = z := ⟨_,rfl⟩;obtain ⟨xb,hxb⟩ : ∃ z,X.isSome = z := ⟨_,rfl⟩;have HXX : Hid ((X.getD zeroT).name = x0 ∧ (X.getD zeroT).inn = x1 ∧ (X.getD zeroT).out = x2 ∧ X.isSome = xb) := ⟨hx0,hx1,hx2,hxb⟩
   have HCM : Hid (∀ W,Below wr.heap.size wr W → Calls Try.prog 23 #[.agg #[.string tn,.slice sa2 sl2 sc2,.slice ea2 el2 ec2,.slice ta2 tl2 tc2],.string m.name] W fun e w' => e = .returned (.tuple #[.agg #[.string x0,.string x1,.string x2],.bool xb]) ∧ Below W.heap.size W w') := fun W hW => by
    have h1 := rmeth_at (HT.out.below (hbel.trans (hW.mono hbel.size))) m.name;rw [hX,hx0,hx1,hx2,hxb] at h1;exact h1
   obtain ⟨m0,m1,m2⟩ := m;simp only at p0 p1 p2 HCM HX HDR HMM;have HQ : Hid (∀ W,Below wr.heap.size wr W → W.cell? ⟨g,off + k * 3,none⟩ = some (.string m0) ∧ W.cell? ⟨g,off + k * 3 + 1,none⟩ = some (.string m1) ∧ W.cell? ⟨g,off + k * 3 + 2,none⟩ = some (.string m2)) := fun W hW => ⟨(Kp.ofBelow (S := fun _ => False) hW).cell p0 (fun e => e),(Kp.ofBelow (S := fun _ => False) hW).cell p1 (fun e => e),(Kp.ofBelow (S := fun _ => False) hW).cell p2 (fun e => e)⟩
   have HBL : Hid (∀ W,Below wr.heap.size wr W → Blk W z #[.string sn,.slice sa sl sc,.slice ea el ec,.slice (some ⟨g,off,none⟩) tl tc] 26 ∧ Blk W (z + 1) #[.string tn,.slice sa2 sl2 sc2,.slice ea2 el2 ec2,.slice ta2 tl2 tc2] 26) := fun W hW => ⟨BS.below hW,BT.below hW⟩
   clear c1 hrr hmk hX hx0 hx1 hx2 hxb hbel p0 p1 p2 BS BT
   go_upto_region 7 with fail
   go_cut [9,10] from 31 to 41 (fun pv ov wx => ∃ b : Nat,pv = .pointer (some ⟨b,0,none⟩) ∧ ov = .bool xb ∧ Hid (Blk wx b #[.string x0,.string x1,.string x2] 47 ∧ Below wr.heap.size wr wx))
   case first =>
    refine M_region (T := fun W => Below wr.heap.size wr W) (m := 13) (by kernel_rfl) ?_;have hS : Below wr.heap.size wr wr.drew := (Below.refl _ _).drew;refine M_take 0 32 (.agg #[.string tn,.slice sa2 sl2 sc2,.slice ea2 el2 ec2,.slice ta2 tl2 tc2]) _ rfl rfl (by kernel_rfl) (by kernel_rfl) (by kernel_rfl) (by kernel_rfl) (by kernel_rfl) (fun _ _ _ h => h) (by rfl) (fun w' hw' => ?_) hS (listed' := bts 14 1) (by kernel_rfl) rfl ?_
    ·have f0 := (((HBL.out _ hw').2).cell 0).trans rfl; have f1 := (((HBL.out _ hw').2).cell 1).trans rfl; have f2 := (((HBL.out _ hw').2).cell 2).trans rfl; have f3 := (((HBL.out _ hw').2).cell 3).trans rfl; go_simp
    simp only [zsA,zsZ,zsS];refine M_take 1 33 (.pointer (some ⟨z,3,none⟩)) _ rfl rfl (by kernel_rfl) (by kernel_rfl) (by kernel_rfl) (by kernel_rfl) (by kernel_rfl) (fun _ _ _ h => h) (by rfl) (fun w' hw' => ?_) hS (listed' := bts 14 3) (by kernel_rfl) rfl ?_
    ·go_simp
    simp only [zsA,zsZ,zsS];refine M_take 2 34 (.slice (some ⟨g,off,none⟩) tl tc) _ rfl rfl (by kernel_rfl) (by kernel_rfl) (by kernel_rfl) (by kernel_rfl) (by kernel_rfl) (fun _ _ _ h => h) (by rfl) (fun w' hw' => ?_) hS (listed' := bts 14 7) (by kernel_rfl) rfl ?_
    ·have f3 := (((HBL.out _ hw').1).cell 3).trans rfl; go_simp
    simp only [zsA,zsZ,zsS];refine M_take 3 35 (.int .i64 (k : Int)) _ rfl rfl (by kernel_rfl) (by kernel_rfl) (by kernel_rfl) (by kernel_rfl) (by kernel_rfl) (fun _ _ _ h => h) (by rfl) (fun w' hw' => ?_) hS (listed' := bts 14 15) (by kernel_rfl) rfl ?_
    ·go_simp
    simp only [zsA,zsZ,zsS];refine M_take 4 36 (.pointer (some ⟨g,off + k * 3,none⟩)) _ rfl rfl (by kernel_rfl) (by kernel_rfl) (by kernel_rfl) (by kernel_rfl) (by kernel_rfl) (fun _ _ _ h => h) (by rfl) (fun w' hw' => ?_) hS (listed' := bts 14 31) (by kernel_rfl) rfl ?_
    ·go_simp
    simp only [zsA,zsZ,zsS];refine M_take 5 37 (.pointer (some ⟨g,off + k * 3,none⟩)) _ rfl rfl (by kernel_rfl) (by kernel_rfl) (by kernel_rfl) (by kernel_rfl) (by kernel_rfl) (fun _ _ _ h => h) (by rfl) (fun w' hw' => ?_) hS (listed' := bts 14 63) (by kernel_rfl) rfl ?_
    ·go_simp
    simp only [zsA,zsZ,zsS];refine M_take 6 38 (.string m0) _ rfl rfl (by kernel_rfl) (by kernel_rfl) (by kernel_rfl) (by kernel_rfl) (by kernel_rfl) (fun _ _ _ h => h) (by rfl) (fun w' hw' => ?_) hS (listed' := bts 14 127) (by kernel_rfl) rfl ?_
    ·obtain ⟨f0, -, -⟩ := HQ.out _ hw'; go_simp
    simp only [zsA,zsZ,zsS];generalize wr.drew = U0 at *;refine M_fork 7 11 39 9 23 #[.agg #[.string tn,.slice sa2 sl2 sc2,.slice ea2 el2 ec2,.slice ta2 tl2 tc2],.string m0] (.pointer (some ⟨U0.heap.size,0,none⟩)) (U0.alloc (Obj.cells #[.string ⟨#[]⟩,.string ⟨#[]⟩,.string ⟨#[]⟩] 47)) rfl rfl rfl rfl (by kernel_rfl) (by rfl) (by rfl) (by go_simp) (by go_simp) ?_ (hS.trans (((Below.refl _ _).alloc (Nat.le_refl _) _).mono hS.size)) ?_
    ·skip
     refine (HCM.out _ hS).mono ?_;rintro ee V1 ⟨rfl,hbU⟩;have hS0 := hS;have hS : Below wr.heap.size wr V1 := hS0.trans (hbU.mono hS0.size);clear hS0 hbU;refine ⟨_,rfl,hS,?_⟩;simp only [zsA,zsZ,zsS];refine M_take 8 31 (.tuple #[.agg #[.string x0,.string x1,.string x2],.bool xb]) _ rfl rfl (by kernel_rfl) (by kernel_rfl) (by kernel_rfl) (by kernel_rfl) (by kernel_rfl) (fun _ _ _ h => h) (by rfl) (fun w' hw' => ?_) hS (listed' := bts 14 511) (by kernel_rfl) rfl ?_
     ·go_simp
     simp only [zsA,zsZ,zsS];refine M_take 9 40 (.agg #[.string x0,.string x1,.string x2]) _ rfl rfl (by kernel_rfl) (by kernel_rfl) (by kernel_rfl) (by kernel_rfl) (by kernel_rfl) (fun _ _ _ h => h) (by rfl) (fun w' hw' => ?_) hS (listed' := bts 14 1023) (by kernel_rfl) rfl ?_
     ·go_simp
     simp only [zsA,zsZ,zsS];refine M_take 10 41 (.bool xb) _ rfl rfl (by kernel_rfl) (by kernel_rfl) (by kernel_rfl) (by kernel_rfl) (by kernel_rfl) (fun _ _ _ h => h) (by rfl) (fun w' hw' => ?_) hS (listed' := bts 14 2047) (by kernel_rfl) rfl ?_
     ·go_simp
     simp only [zsA,zsZ,zsS];refine M_run 11 9 (.pointer (some ⟨V1.heap.size,0,none⟩)) (V1.alloc (Obj.cells #[.string ⟨#[]⟩,.string ⟨#[]⟩,.string ⟨#[]⟩] 47)) rfl rfl (by kernel_rfl) (by rfl) (listed' := bts 14 4095) (by kernel_rfl) (by go_simp) (hS.trans (((Below.refl _ _).alloc (Nat.le_refl _) _).mono hS.size)) ?_;have hbU : Below V1.heap.size V1 (V1.alloc (Obj.cells #[.string ⟨#[]⟩,.string ⟨#[]⟩,.string ⟨#[]⟩] 47)) := (Below.refl _ _).alloc (Nat.le_refl _) _;obtain ⟨bz,hbz⟩ : ∃ z,V1.heap.size = z := ⟨_,rfl⟩
     have BZ : Blk (V1.alloc (Obj.cells #[.string ⟨#[]⟩,.string ⟨#[]⟩,.string ⟨#[]⟩] 47)) bz #[.string ⟨#[]⟩,.string ⟨#[]⟩,.string ⟨#[]⟩] 47 := by rw [← hbz]; exact Blk.new V1 _ _
     have GZ : wr.heap.size ≤ bz := by rw [← hbz]; exact hS.size
     have hS0 := hS;have hS : Below wr.heap.size wr (V1.alloc (Obj.cells #[.string ⟨#[]⟩,.string ⟨#[]⟩,.string ⟨#[]⟩] 47)) := hS0.trans (hbU.mono hS0.size);clear hS0 hbU;simp only [zsA,zsZ,zsS]
     try simp only [hbz]
     clear hbz;generalize (V1.alloc (Obj.cells #[.string ⟨#[]⟩,.string ⟨#[]⟩,.string ⟨#[]⟩] 47)) = V2 at *;have k0 := (BZ.cell 0).trans rfl;have z0 := BZ.froz 0;have k1 := (BZ.cell 1).trans rfl;have z1 := BZ.froz 1;have k2 := (BZ.cell 2).trans rfl;have z2 := BZ.froz 2;have hS9 : Below wr.heap.size wr (set3E V2 bz 0 (.string x0) (.string x1) (.string x2)) := hS.trans ((set3_kp V2 bz 0 (.string x0) (.string x1) (.string x2)).toBelow hS.size fun q e => by rw [e]; exact GZ);refine M_storeT 12 (set3E V2 bz 0 (.string x0) (.string x1) (.string x2)) rfl rfl (by kernel_rfl) (by rfl) (listed' := bts 14 8191) (by kernel_rfl) (by unfold set3E; go_simp) hS9 ?_;clear k0 z0 k1 z1 k2 z2;have HFI : Hid (Blk (set3E V2 bz 0 (.string x0) (.string x1) (.string x2)) bz #[.string x0,.string x1,.string x2] 47 ∧ Below wr.heap.size wr (set3E V2 bz 0 (.string x0) (.string x1) (.string x2))) := ⟨blk_set3 BZ,hS9⟩;clear hS BZ GZ;generalize (set3E V2 bz 0 (.string x0) (.string x1) (.string x2)) = W9 at *;refine M_runA 13 10 (.bool xb) W9 rfl rfl (by kernel_rfl) (by rfl) (listed' := bts 14 16383) (by kernel_rfl) (by go_simp) (by kernel_rfl) ?_;simp only [zsA,zsZ,zsS];refine M_done (by kernel_rfl) ?_ _;go_wp2_with fail
     go_meet
     exact ⟨bz,rfl,rfl,HFI⟩
    ·skip
     have hbU : Below U0.heap.size U0 (U0.alloc (Obj.cells #[.string ⟨#[]⟩,.string ⟨#[]⟩,.string ⟨#[]⟩] 47)) := (Below.refl _ _).alloc (Nat.le_refl _) _;obtain ⟨bz,hbz⟩ : ∃ z,U0.heap.size = z := ⟨_,rfl⟩
     have BZ : Blk (U0.alloc (Obj.cells #[.string ⟨#[]⟩,.string ⟨#[]⟩,.string ⟨#[]⟩] 47)) bz #[.string ⟨#[]⟩,.string ⟨#[]⟩,.string ⟨#[]⟩] 47 := by rw [← hbz]; exact Blk.new U0 _ _
     have GZ : wr.heap.size ≤ bz := by rw [← hbz]; exact hS.size
     have hS0 := hS;have hS : Below wr.heap.size wr (U0.alloc (Obj.cells #[.string ⟨#[]⟩,.string ⟨#[]⟩,.string ⟨#[]⟩] 47)) := hS0.trans (hbU.mono hS0.size);clear hS0 hbU;simp only [zsA,zsZ,zsS]
     try simp only [hbz]
     clear hbz;generalize (U0.alloc (Obj.cells #[.string ⟨#[]⟩,.string ⟨#[]⟩,.string ⟨#[]⟩] 47)) = V3 at *;refine M_call 7 39 23 #[.agg #[.string tn,.slice sa2 sl2 sc2,.slice ea2 el2 ec2,.slice ta2 tl2 tc2],.string m0] rfl rfl (by kernel_rfl) (by rfl) (listed' := bts 14 2303) (by kernel_rfl) (fun W => by go_simp) ?_;refine (HCM.out _ hS).mono ?_;rintro ee V4 ⟨rfl,hbU⟩
     replace BZ := BZ.below hbU
     have hS0 := hS;have hS : Below wr.heap.size wr V4 := hS0.trans (hbU.mono hS0.size);clear hS0 hbU;refine ⟨_,rfl,hS,?_⟩;simp only [zsA,zsZ,zsS];refine M_take 8 31 (.tuple #[.agg #[.string x0,.string x1,.string x2],.bool xb]) _ rfl rfl (by kernel_rfl) (by kernel_rfl) (by kernel_rfl) (by kernel_rfl) (by kernel_rfl) (fun _ _ _ h => h) (by rfl) (fun w' hw' => ?_) hS (listed' := bts 14 2559) (by kernel_rfl) rfl ?_
     ·go_simp
     simp only [zsA,zsZ,zsS];refine M_take 9 40 (.agg #[.string x0,.string x1,.string x2]) _ rfl rfl (by kernel_rfl) (by kernel_rfl) (by kernel_rfl) (by kernel_rfl) (by kernel_rfl) (fun _ _ _ h => h) (by rfl) (fun w' hw' => ?_) hS (listed' := bts 14 3071) (by kernel_rfl) rfl ?_
     ·go_simp
     simp only [zsA,zsZ,zsS];refine M_take 10 41 (.bool xb) _ rfl rfl (by kernel_rfl) (by kernel_rfl) (by kernel_rfl) (by kernel_rfl) (by kernel_rfl) (fun _ _ _ h => h) (by rfl) (fun w' hw' => ?_) hS (listed' := bts 14 4095) (by kernel_rfl) rfl ?_
     ·go_simp
     simp only [zsA,zsZ,zsS];have k0 := (BZ.cell 0).trans rfl;have z0 := BZ.froz 0;have k1 := (BZ.cell 1).trans rfl;have z1 := BZ.froz 1;have k2 := (BZ.cell 2).trans rfl;have z2 := BZ.froz 2;have hS9 : Below wr.heap.size wr (set3E V4 bz 0 (.string x0) (.string x1) (.string x2)) := hS.trans ((set3_kp V4 bz 0 (.string x0) (.string x1) (.string x2)).toBelow hS.size fun q e => by rw [e]; exact GZ);refine M_storeT 12 (set3E V4 bz 0 (.string x0) (.string x1) (.string x2)) rfl rfl (by kernel_rfl) (by rfl) (listed' := bts 14 8191) (by kernel_rfl) (by unfold set3E; go_simp) hS9 ?_;clear k0 z0 k1 z1 k2 z2;have HFI : Hid (Blk (set3E V4 bz 0 (.string x0) (.string x1) (.string x2)) bz #[.string x0,.string x1,.string x2] 47 ∧ Below wr.heap.size wr (set3E V4 bz 0 (.string x0) (.string x1) (.string x2))) := ⟨blk_set3 BZ,hS9⟩;clear hS BZ GZ;generalize (set3E V4 bz 0 (.string x0) (.string x1) (.string x2)) = W9 at *;refine M_runA 13 10 (.bool xb) W9 rfl rfl (by kernel_rfl) (by rfl) (listed' := bts 14 16383) (by kernel_rfl) (by go_simp) (by kernel_rfl) ?_;simp only [zsA,zsZ,zsS];refine M_done (by kernel_rfl) ?_ _;go_wp2_with fail
     go_meet
     exact ⟨bz,rfl,rfl,HFI⟩
   case rest =>
    obtain ⟨bm,rfl,rfl,HCU⟩ := hcut;generalize wc = w5 at *;have HB5 : Hid (Below wr.heap.size wr w5) := HCU.out.2;have BM5 := HCU.out.1;have hbw5 : Below w.heap.size w w5 := HFR.out.1.trans (HB5.out.mono HFR.out.1.size);have BS5 := (HBL.out _ HB5.out).1;have BT5 := (HBL.out _ HB5.out).2;obtain ⟨p0,p1,p2⟩ := HQ.out _ HB5.out;have hM5 : PrO w5 w.heap.size (.slice la K lc) l := own_below HM.out HB5.out;clear HCU HBL HQ HCM HFR HM s3 hls hlt';rw [HDR.out] at HR
    cases X with
    | none =>
     have HE : Hid (ANS = (m0,0,false)) := (by
      rw [← HA.out];refine evol_yesN (l := l) HC.out ?_;rw [HRES.out,← HR.out]
      exact start_none (m := ⟨m0,m1,m2⟩) HX.out : _ = _)
     obtain rfl : xb = false := HXX.out.2.2.2.symm;have s3 := (BS5.cell 3).trans rfl;have hls := BS5.lt;clear HR HRES BM5 BS5 BT5 hM5 p1 p2 HXX;go_wp2_with fail;refine bodyPost_ret (results_threeE rfl _ _ _) rfl ?_;rw [HE.out];exact ⟨rfl,hbw5⟩
    | some q =>
     obtain ⟨e0,e1,e2,e3⟩ := HXX.out;obtain rfl : xb = true := e3.symm;simp only [Option.getD_some] at e0 e1 e2;subst e0 e1 e2;have HRN : Hid (startE t (s.methods.drop (k + 1)) (addP (addP l (m1,q.inn)) (m2,q.out)) = RES) := (by rw [← HR.out]; exact (start_some (m := ⟨m0,m1,m2⟩) HX.out).symm : _ = _);have hok := HOK.out.1.meths _ HMM.out;have hqk := mt_inE HOK.out.2 HX.out;have HP1 : Hid (PrIn s t (addP l (m1,q.inn))) := addP_in HP.out hok.2.1 hqk.1;have HP2 : Hid (PrIn s t (addP (addP l (m1,q.inn)) (m2,q.out))) := addP_in HP1.out hok.2.2 hqk.2;have HLN : Hid (∀ l,PrIn s t l → l.length ≤ 1000) := fun l h => Nat.le_trans (h.len (okS_len HOK.out.1) (okS_len HOK.out.2)) (by decide)
     obtain ⟨n0,n1,n2⟩ := q;simp only at HRN HP1 HP2 BM5;clear HR HX HDR HMM hok hqk HXX e3
     have HKP : Hid (∀ W W' v l,PrO W w.heap.size v l → (Blk W z #[.string sn,.slice sa sl sc,.slice ea el ec,.slice (some ⟨g,off,none⟩) tl tc] 26 ∧ Blk W (z + 1) #[.string tn,.slice sa2 sl2 sc2,.slice ea2 el2 ec2,.slice ta2 tl2 tc2] 26 ∧ Blk W bm #[.string n0,.string n1,.string n2] 47 ∧ W.cell? ⟨g,off + k * 3 + 1,none⟩ = some (.string m1) ∧ W.cell? ⟨g,off + k * 3 + 2,none⟩ = some (.string m2)) → Kp (fun q => v.ownBlock = some q) W W' → (Blk W' z #[.string sn,.slice sa sl sc,.slice ea el ec,.slice (some ⟨g,off,none⟩) tl tc] 26 ∧ Blk W' (z + 1) #[.string tn,.slice sa2 sl2 sc2,.slice ea2 el2 ec2,.slice ta2 tl2 tc2] 26 ∧ Blk W' bm #[.string n0,.string n1,.string n2] 47 ∧ W'.cell? ⟨g,off + k * 3 + 1,none⟩ = some (.string m1) ∧ W'.cell? ⟨g,off + k * 3 + 2,none⟩ = some (.string m2))) := fun W W' v l h1 h2 h3 => by
      obtain ⟨g1,g2,g3,g4,g5⟩ := h2
      have hg : ¬ v.ownBlock = some g := fun e => by have h4 := (own_lt' h1 e); have h5 := HGL.out; omega
      exact ⟨g1.kp h3 (h1.no g1 (by decide)),g2.kp h3 (h1.no g2 (by decide)),g3.kp h3 (h1.no g3 (by decide)),h3.cell g4 hg,h3.cell g5 hg⟩
     have hS5 : (Blk w5.drew z #[.string sn,.slice sa sl sc,.slice ea el ec,.slice (some ⟨g,off,none⟩) tl tc] 26 ∧ Blk w5.drew (z + 1) #[.string tn,.slice sa2 sl2 sc2,.slice ea2 el2 ec2,.slice ta2 tl2 tc2] 26 ∧ Blk w5.drew bm #[.string n0,.string n1,.string n2] 47 ∧ w5.drew.cell? ⟨g,off + k * 3 + 1,none⟩ = some (.string m1) ∧ w5.drew.cell? ⟨g,off + k * 3 + 2,none⟩ = some (.string m2)) := ⟨BS5.below (Below.refl _ _).drew,BT5.below (Below.refl _ _).drew,BM5.below (Below.refl _ _).drew,p1,p2⟩;have hM5d : PrO w5.drew w.heap.size (.slice la K lc) l := own_below hM5 (Below.refl _ _).drew;have hbw5d : Below w.heap.size w w5.drew := hbw5.drew;clear BS5 BT5 BM5 p0 p1 p2 hM5
     try simp only [Option.isSome_some]
     go_upto_region 10 with fail
     generalize hD : w5.drew = D5 at *;have hS := hS5;refine wp_region_held_drew (S := fun W => (Blk W z #[.string sn,.slice sa sl sc,.slice ea el ec,.slice (some ⟨g,off,none⟩) tl tc] 26 ∧ Blk W (z + 1) #[.string tn,.slice sa2 sl2 sc2,.slice ea2 el2 ec2,.slice ta2 tl2 tc2] 26 ∧ Blk W bm #[.string n0,.string n1,.string n2] 47 ∧ W.cell? ⟨g,off + k * 3 + 1,none⟩ = some (.string m1) ∧ W.cell? ⟨g,off + k * 3 + 2,none⟩ = some (.string m2))) (by kernel_rfl) (by rw [hD]; exact hS) (fun hS => ?_);rw [hD] at hS ⊢;have D5z : w.heap.size ≤ D5.heap.size := hbw5d.size;refine rg_take 0 50 (.slice la K lc) _ rfl rfl (by kernel_rfl) (by kernel_rfl) (by kernel_rfl) (fun _ _ _ h => h) (by rfl) (fun w' hw' => ?_) hS (listed' := bts 12 1) (by kernel_rfl) rfl ?_
     ·go_simp
     simp only [zsA,zsZ,zsS];refine rg_take 1 51 (.pointer (some ⟨z,3,none⟩)) _ rfl rfl (by kernel_rfl) (by kernel_rfl) (by kernel_rfl) (fun _ _ _ h => h) (by rfl) (fun w' hw' => ?_) hS (listed' := bts 12 3) (by kernel_rfl) rfl ?_
     ·go_simp
     simp only [zsA,zsZ,zsS];refine rg_take 2 52 (.slice (some ⟨g,off,none⟩) tl tc) _ rfl rfl (by kernel_rfl) (by kernel_rfl) (by kernel_rfl) (fun _ _ _ h => h) (by rfl) (fun w' hw' => ?_) hS (listed' := bts 12 7) (by kernel_rfl) rfl ?_
     ·have f3 := ((hw'.1).cell 3).trans rfl; go_simp
     simp only [zsA,zsZ,zsS];refine rg_take 3 53 (.int .i64 (k : Int)) _ rfl rfl (by kernel_rfl) (by kernel_rfl) (by kernel_rfl) (fun _ _ _ h => h) (by rfl) (fun w' hw' => ?_) hS (listed' := bts 12 15) (by kernel_rfl) rfl ?_
     ·go_simp
     simp only [zsA,zsZ,zsS];refine rg_take 4 54 (.pointer (some ⟨g,off + k * 3,none⟩)) _ rfl rfl (by kernel_rfl) (by kernel_rfl) (by kernel_rfl) (fun _ _ _ h => h) (by rfl) (fun w' hw' => ?_) hS (listed' := bts 12 31) (by kernel_rfl) rfl ?_
     ·go_simp
     simp only [zsA,zsZ,zsS];refine rg_take 5 55 (.pointer (some ⟨g,off + k * 3 + 1,none⟩)) _ rfl rfl (by kernel_rfl) (by kernel_rfl) (by kernel_rfl) (fun _ _ _ h => h) (by rfl) (fun w' hw' => ?_) hS (listed' := bts 12 63) (by kernel_rfl) rfl ?_
     ·go_simp
     simp only [zsA,zsZ,zsS];refine rg_take 6 56 (.string m1) _ rfl rfl (by kernel_rfl) (by kernel_rfl) (by kernel_rfl) (fun _ _ _ h => h) (by rfl) (fun w' hw' => ?_) hS (listed' := bts 12 127) (by kernel_rfl) rfl ?_
     ·obtain ⟨-, -, -,f0,f1⟩ := hw'; go_simp
     simp only [zsA,zsZ,zsS];refine rg_take 7 57 (.pointer (some ⟨bm,1,none⟩)) _ rfl rfl (by kernel_rfl) (by kernel_rfl) (by kernel_rfl) (fun _ _ _ h => h) (by rfl) (fun w' hw' => ?_) hS (listed' := bts 12 255) (by kernel_rfl) rfl ?_
     ·go_simp
     simp only [zsA,zsZ,zsS];refine rg_take 8 58 (.string n1) _ rfl rfl (by kernel_rfl) (by kernel_rfl) (by kernel_rfl) (fun _ _ _ h => h) (by rfl) (fun w' hw' => ?_) hS (listed' := bts 12 511) (by kernel_rfl) rfl ?_
     ·have f1 := ((hw'.2.2.1).cell 1).trans rfl; go_simp
     simp only [zsA,zsZ,zsS];refine rg_take 9 59 (.agg #[.string m1,.string n1]) _ rfl rfl (by kernel_rfl) (by kernel_rfl) (by kernel_rfl) (fun _ _ _ h => h) (by rfl) (fun w' hw' => ?_) hS (listed' := bts 12 1023) (by kernel_rfl) rfl ?_
     ·go_simp
     simp only [zsA,zsZ,zsS];refine rg_call 10 60 24 #[.slice la K lc,.agg #[.string m1,.string n1]] rfl rfl (by kernel_rfl) (by rfl) (listed' := bts 12 2047) (by kernel_rfl) (fun W => by go_simp) ?_;refine Calls.mono (radd_any (p := (m1,n1)) hM5d D5z (HLN.out _ HP.out)) ?_;rintro ee W10 ⟨v10,rfl,hm10,hk10⟩;obtain ⟨a10,c10,rfl⟩ := own_form hm10;have hS := HKP.out _ _ _ _ hM5d hS hk10;refine ⟨_,rfl,hS,?_⟩;simp only [zsA,zsZ,zsS];refine rg_take 11 7 (.slice a10 (addP l (m1,n1)).length c10) _ rfl rfl (by kernel_rfl) (by kernel_rfl) (by kernel_rfl) (fun _ _ _ h => h) (by rfl) (fun w' hw' => ?_) hS (listed' := bts 12 4095) (by kernel_rfl) rfl ?_
     ·go_simp
     simp only [zsA,zsZ,zsS];refine wpAnyH_done (by kernel_rfl) ?_ _;have hbw6 : Below w.heap.size w W10 := hbw5d.trans (hk10.toBelow hbw5d.size fun q e => own_lt' hM5d e);have hM6d : PrO W10.drew w.heap.size (.slice a10 (addP l (m1,n1)).length c10) (addP l (m1,n1)) := own_below hm10 (Below.refl _ _).drew;have hS6 : (Blk W10.drew z #[.string sn,.slice sa sl sc,.slice ea el ec,.slice (some ⟨g,off,none⟩) tl tc] 26 ∧ Blk W10.drew (z + 1) #[.string tn,.slice sa2 sl2 sc2,.slice ea2 el2 ec2,.slice ta2 tl2 tc2] 26 ∧ Blk W10.drew bm #[.string n0,.string n1,.string n2] 47 ∧ W10.drew.cell? ⟨g,off + k * 3 + 1,none⟩ = some (.string m1) ∧ W10.drew.cell? ⟨g,off + k * 3 + 2,none⟩ = some (.string m2)) := ⟨hS.1.below (Below.refl _ _).drew,hS.2.1.below (Below.refl _ _).drew,hS.2.2.1.below (Below.refl _ _).drew,hS.2.2.2.1,hS.2.2.2.2⟩;have hbw6d : Below w.heap.size w W10.drew := hbw6.drew;clear hS hm10 hk10 hM5d hbw5d hbw5 D5z hD hS5 hbw6;obtain ⟨K1,hK1⟩ : ∃ z,(addP l (m1,n1)).length = z := ⟨_,rfl⟩;rw [hK1] at hM6d
     try simp only [hK1]
     go_upto_region 11 with fail
     generalize hD : W10.drew = D6 at *;have hS := hS6;refine wp_region_held_drew (S := fun W => (Blk W z #[.string sn,.slice sa sl sc,.slice ea el ec,.slice (some ⟨g,off,none⟩) tl tc] 26 ∧ Blk W (z + 1) #[.string tn,.slice sa2 sl2 sc2,.slice ea2 el2 ec2,.slice ta2 tl2 tc2] 26 ∧ Blk W bm #[.string n0,.string n1,.string n2] 47 ∧ W.cell? ⟨g,off + k * 3 + 1,none⟩ = some (.string m1) ∧ W.cell? ⟨g,off + k * 3 + 2,none⟩ = some (.string m2))) (by kernel_rfl) (by rw [hD]; exact hS) (fun hS => ?_);rw [hD] at hS ⊢;have D6z : w.heap.size ≤ D6.heap.size := hbw6d.size;refine rg_take 0 61 (.slice a10 K1 c10) _ rfl rfl (by kernel_rfl) (by kernel_rfl) (by kernel_rfl) (fun _ _ _ h => h) (by rfl) (fun w' hw' => ?_) hS (listed' := bts 12 1) (by kernel_rfl) rfl ?_
     ·go_simp
     simp only [zsA,zsZ,zsS];refine rg_take 1 62 (.pointer (some ⟨z,3,none⟩)) _ rfl rfl (by kernel_rfl) (by kernel_rfl) (by kernel_rfl) (fun _ _ _ h => h) (by rfl) (fun w' hw' => ?_) hS (listed' := bts 12 3) (by kernel_rfl) rfl ?_
     ·go_simp
     simp only [zsA,zsZ,zsS];refine rg_take 2 63 (.slice (some ⟨g,off,none⟩) tl tc) _ rfl rfl (by kernel_rfl) (by kernel_rfl) (by kernel_rfl) (fun _ _ _ h => h) (by rfl) (fun w' hw' => ?_) hS (listed' := bts 12 7) (by kernel_rfl) rfl ?_
     ·have f3 := ((hw'.1).cell 3).trans rfl; go_simp
     simp only [zsA,zsZ,zsS];refine rg_take 3 64 (.int .i64 (k : Int)) _ rfl rfl (by kernel_rfl) (by kernel_rfl) (by kernel_rfl) (fun _ _ _ h => h) (by rfl) (fun w' hw' => ?_) hS (listed' := bts 12 15) (by kernel_rfl) rfl ?_
     ·go_simp
     simp only [zsA,zsZ,zsS];refine rg_take 4 65 (.pointer (some ⟨g,off + k * 3,none⟩)) _ rfl rfl (by kernel_rfl) (by kernel_rfl) (by kernel_rfl) (fun _ _ _ h => h) (by rfl) (fun w' hw' => ?_) hS (listed' := bts 12 31) (by kernel_rfl) rfl ?_
     ·go_simp
     simp only [zsA,zsZ,zsS];refine rg_take 5 66 (.pointer (some ⟨g,off + k * 3 + 2,none⟩)) _ rfl rfl (by kernel_rfl) (by kernel_rfl) (by kernel_rfl) (fun _ _ _ h => h) (by rfl) (fun w' hw' => ?_) hS (listed' := bts 12 63) (by kernel_rfl) rfl ?_
     ·go_simp
     simp only [zsA,zsZ,zsS];refine rg_take 6 67 (.string m2) _ rfl rfl (by kernel_rfl) (by kernel_rfl) (by kernel_rfl) (fun _ _ _ h => h) (by rfl) (fun w' hw' => ?_) hS (listed' := bts 12 127) (by kernel_rfl) rfl ?_
     ·obtain ⟨-, -, -,f0,f1⟩ := hw'; go_simp
     simp only [zsA,zsZ,zsS];refine rg_take 7 68 (.pointer (some ⟨bm,2,none⟩)) _ rfl rfl (by kernel_rfl) (by kernel_rfl) (by kernel_rfl) (fun _ _ _ h => h) (by rfl) (fun w' hw' => ?_) hS (listed' := bts 12 255) (by kernel_rfl) rfl ?_
     ·go_simp
     simp only [zsA,zsZ,zsS];refine rg_take 8 69 (.string n2) _ rfl rfl (by kernel_rfl) (by kernel_rfl) (by kernel_rfl) (fun _ _ _ h => h) (by rfl) (fun w' hw' => ?_) hS (listed' := bts 12 511) (by kernel_rfl) rfl ?_
     ·have f2 := ((hw'.2.2.1).cell 2).trans rfl; go_simp
     simp only [zsA,zsZ,zsS];refine rg_take 9 70 (.agg #[.string m2,.string n2]) _ rfl rfl (by kernel_rfl) (by kernel_rfl) (by kernel_rfl) (fun _ _ _ h => h) (by rfl) (fun w' hw' => ?_) hS (listed' := bts 12 1023) (by kernel_rfl) rfl ?_
     ·go_simp
     simp only [zsA,zsZ,zsS];refine rg_call 10 71 24 #[.slice a10 K1 c10,.agg #[.string m2,.string n2]] rfl rfl (by kernel_rfl) (by rfl) (listed' := bts 12 2047) (by kernel_rfl) (fun W => by go_simp) ?_;refine Calls.mono (radd_any (p := (m2,n2)) hM6d D6z (HLN.out _ HP1.out)) ?_;rintro ee W11 ⟨v11,rfl,hm11,hk11⟩;obtain ⟨a11,c11,rfl⟩ := own_form hm11;have hS := HKP.out _ _ _ _ hM6d hS hk11;refine ⟨_,rfl,hS,?_⟩;simp only [zsA,zsZ,zsS];refine rg_take 11 7 (.slice a11 (addP (addP l (m1,n1)) (m2,n2)).length c11) _ rfl rfl (by kernel_rfl) (by kernel_rfl) (by kernel_rfl) (fun _ _ _ h => h) (by rfl) (fun w' hw' => ?_) hS (listed' := bts 12 4095) (by kernel_rfl) rfl ?_
     ·go_simp
     simp only [zsA,zsZ,zsS];refine wpAnyH_done (by kernel_rfl) ?_ _;have hbw7 : Below w.heap.size w W11 := hbw6d.trans (hk11.toBelow hbw6d.size fun q e => own_lt' hM6d e);have HF7 : Hid (Below w.heap.size w W11 ∧ Blk W11 z #[.string sn,.slice sa sl sc,.slice ea el ec,.slice (some ⟨g,off,none⟩) tl tc] 26 ∧ Blk W11 (z + 1) #[.string tn,.slice sa2 sl2 sc2,.slice ea2 el2 ec2,.slice ta2 tl2 tc2] 26) := ⟨hbw7,hS.1,hS.2.1⟩;obtain ⟨K2,hK2⟩ : ∃ z,(addP (addP l (m1,n1)) (m2,n2)).length = z := ⟨_,rfl⟩;rw [hK2] at hm11;have HM7 : Hid (PrO W11 w.heap.size (.slice a11 K2 c11) (addP (addP l (m1,n1)) (m2,n2))) := hm11;have HK2 : Hid ((addP (addP l (m1,n1)) (m2,n2)).length = K2) := hK2
     try simp only [hK2]
     clear hS hm11 hk11 hM6d hbw6d D6z hD hS6 hK2 hbw7 hK1;go_wp2_with fail
     go_roundw
     case rel => exact ⟨k + 1,addP (addP l (m1,n1)) (m2,n2),a11,K2,c11,rfl,by go_num,by omega,HK2,HRN,HP2,HM7,HF7⟩
     case measure => simp [intOf]; omega
  ·obtain rfl : tl = k := by omega
   have HRE : Hid (RES = (l,none)) := (by
    rw [← HR.out,List.drop_eq_nil_of_le (by rw [HN.out]; omega)]; rfl : _ = _)
   have HE0 : Hid (loopE s t (300 - 0) 0 l = ANS) := (by
    rw [← HA.out]
    symm
    refine evol_yesL HC.out ?_
    rw [HRES.out,HRE.out] : _ = _)
   clear HR HRES HRE HA BS BT;go_wp2_with fail;clear s3 hls hlt';have HK0 := HK;have HP0 := HP;have HM0 := HM;have HF0 := HFR;clear HK HP HM HFR
   go_loopw [7,11] (fun lv iv wr => ∃ (i : Nat) (l : List Pr) (a : Option Addr) (K c : Nat),lv = .slice a K c ∧ iv = .int .i64 (i : Int) ∧ i ≤ K ∧ Hid (l.length = K) ∧ Hid (loopE s t (300 - i) i l = ANS) ∧ Hid (PrIn s t l) ∧ Hid (PrO wr w.heap.size (.slice a K c) l) ∧ Hid (Below w.heap.size w wr ∧ Blk wr z #[.string sn,.slice sa sl sc,.slice ea el ec,.slice ta tl tc] 26 ∧ Blk wr (z + 1) #[.string tn,.slice sa2 sl2 sc2,.slice ea2 el2 ec2,.slice ta2 tl2 tc2] 26)) (fun _ iv _ => 226 - (intOf iv).toNat)
   case atStart => exact ⟨0,l,la,K,lc,rfl,rfl,by omega,HK0,HE0,HP0,HM0,HF0⟩
   case round =>
    clear HK0 HE0 HP0 HM0 HF0;obtain ⟨i,l,la,K,lc,rfl,rfl,hi,HK,HA,HP,HM,HFR⟩ := hrel;have HK2 : Hid (K ≤ 225) := (by rw [← HK.out]; exact HP.out.len (okS_len HOK.out.1) (okS_len HOK.out.2) : K ≤ 225);have hkb := HK2.out
    by_cases hlt : i < K
    rotate_left
    ·obtain rfl : i = K := by omega
     have hlr : decide ((i : Int) < (i : Int)) = false := by simp
     have HE : Hid (ANS = (⟨#[]⟩,0,true)) := (by rw [← HA.out]; exact loop_end (List.getElem?_eq_none (by rw [HK.out]; omega)) : _ = _);have hbw := HFR.out.1;clear HA HP HM HFR;go_wp2_with fail;refine bodyPost_ret (results_threeE rfl _ _ _) rfl ?_;rw [HE.out];exact ⟨rfl,hbw⟩
    ·obtain ⟨p,hpi⟩ : ∃ z,l[i]? = some z := ⟨_,List.getElem?_eq_getElem (by rw [HK.out]; exact hlt)⟩;have HPI : Hid (l[i]? = some p) := hpi;obtain ⟨A,B⟩ := p
     have hlr : decide ((i : Int) < (K : Int)) = true := by simp; omega
     obtain ⟨RW,hRW⟩ : ∃ z,rowE s t (msG s A) (msG t B) 500 1 l = z := ⟨_,rfl⟩;have HRW : Hid (rowE s t (msG s A) (msG t B) 500 1 l = RW) := hRW;have HR0 : Hid (rowE s t (msG s A) (msG t B) (501 - 1) (1 : Nat) l = RW) := hRW;have HP0 : Hid (PrIn s t l ∧ ∃ r,l = l ++ r) := ⟨HP.out,[],by simp⟩;have HM0 := HM;have HF0 := HFR;have HKK := HK;clear hRW hpi HM HFR HP;go_wp2_with fail
     go_loopw [7,12] (fun lv tv wr => ∃ (j : Nat) (l' : List Pr) (a : Option Addr) (K' c : Nat),lv = .slice a K' c ∧ tv = .int .i64 (j : Int) ∧ 1 ≤ j ∧ j ≤ 501 ∧ Hid (l'.length = K') ∧ Hid (rowE s t (msG s A) (msG t B) (501 - j) (j : Int) l' = RW) ∧ Hid (PrIn s t l' ∧ ∃ r,l' = l ++ r) ∧ Hid (PrO wr w.heap.size (.slice a K' c) l') ∧ Hid (Below w.heap.size w wr ∧ Blk wr z #[.string sn,.slice sa sl sc,.slice ea el ec,.slice ta tl tc] 26 ∧ Blk wr (z + 1) #[.string tn,.slice sa2 sl2 sc2,.slice ea2 el2 ec2,.slice ta2 tl2 tc2] 26)) (fun _ tv _ => 502 - (intOf tv).toNat)
     case atStart => exact ⟨1,l,la,K,lc,rfl,rfl,by omega,by omega,HKK,HR0,HP0,HM0,HF0⟩
     case round =>
      clear HR0 HP0 HM0 HF0 HKK;obtain ⟨j,l',lb,K',lc',rfl,rfl,hj1,hj2,HK',HR,HP',HM',HFR⟩ := hrel
      by_cases hjt : j ≤ 500
      rotate_left
      ·obtain rfl : j = 501 := by omega
       have HRE : Hid (RW = (l',none)) := (by rw [← HR.out]; rfl : _ = _)
       have HA2 : Hid (loopE s t (300 - (i + 1)) (i + 1) l' = ANS) := (by
        rw [← HA.out]
        have h1 : 300 - i = (300 - (i + 1)) + 1 := by omega
        rw [h1]
        symm
        refine loopE_step HPI.out ?_
        rw [HRW.out,HRE.out] : _ = _)
       have HLI : Hid (i + 1 ≤ K') := (by
        obtain ⟨r,hr⟩ := HP'.out.2
        show i + 1 ≤ K'
        rw [← HK'.out,hr,List.length_append,HK.out]; omega)
       have HP2 : Hid (PrIn s t l') := HP'.out.1;clear HR HRE HA HP' HRW;go_wp2_with fail
       go_roundw
       case rel => exact ⟨i + 1,l',lb,K',lc',rfl,by go_num,HLI.out,HK',HA2,HP2,HM',HFR⟩
       case measure => simp [intOf]; omega
      ·have hjd : decide ((j : Int) ≤ 500) = true := by simp; omega
       have HS501 : Hid (501 - j = (501 - (j + 1)) + 1) := (by omega : _ = _);rw [HS501.out] at HR;have HKB : Hid (K' ≤ 225) := (by rw [← HK'.out]; exact HP'.out.1.len (okS_len HOK.out.1) (okS_len HOK.out.2) : K' ≤ 225)
       have HIK : Hid (i < K') := (by
        obtain ⟨r,hr⟩ := HP'.out.2
        show i < K'
        rw [← HK'.out,hr,List.length_append,HK.out]; omega)
       have hik := HIK.out;have hkb' := HKB.out
       have HPI' : Hid (l'[i]? = some (A,B)) := (by
        obtain ⟨r,hr⟩ := HP'.out.2;rw [hr,List.getElem?_append_left (by rw [HK.out]; exact hlt)]
        exact HPI.out : _ = _)
       obtain ⟨gl,rfl⟩ : ∃ g,lb = some ⟨g,0,none⟩ := by
        rcases HM'.out.2 with ⟨e,h0⟩ | ⟨g,cap,cur,e,_⟩
        ·rw [HK'.out] at h0; omega
        ·simp only [Value.slice.injEq] at e;exact ⟨g,e.1⟩
       have HQ : Hid (∀ W,Below wr.heap.size wr W → W.cell? ⟨gl,i * 2,none⟩ = some (.string A) ∧ W.cell? ⟨gl,i * 2 + 1,none⟩ = some (.string B)) := fun W hW => by
        have hrow := own_below HM'.out hW;have q0 := hrow.cells (g := gl) rfl (i * 2 + 0) _ (flat_get (prRows l') (prr_len l') i (prC (A,B)) (by simp [prRows,HPI'.out]) 0 _ rfl);have q1 := hrow.cells (g := gl) rfl (i * 2 + 1) _ (flat_get (prRows l') (prr_len l') i (prC (A,B)) (by simp [prRows,HPI'.out]) 1 _ rfl);simp only [Addr.add_lit,Nat.zero_add,Nat.add_zero] at q0 q1;exact ⟨q0,q1⟩
       have HBL : Hid (∀ W,Below wr.heap.size wr W → Blk W z #[.string sn,.slice sa sl sc,.slice ea el ec,.slice ta tl tc] 26 ∧ Blk W (z + 1) #[.string tn,.slice sa2 sl2 sc2,.slice ea2 el2 ec2,.slice ta2 tl2 tc2] 26) := fun W hW => ⟨HFR.out.2.1.below hW,HFR.out.2.2.below hW⟩
       have HCM : Hid (∀ W,Below wr.heap.size wr W → Calls Try.prog 25 #[.agg #[.string sn,.slice sa sl sc,.slice ea el ec,.slice ta tl tc],.agg #[.string tn,.slice sa2 sl2 sc2,.slice ea2 el2 ec2,.slice ta2 tl2 tc2],.agg #[.string A,.string B],.int .i64 (j : Int)] W (RAtP (atE s t (msG s A) (msG t B) (j : Int)) W)) := fun W hW => rat_any (HS.out.below (HFR.out.1.trans (hW.mono HFR.out.1.size))) (HT.out.below (HFR.out.1.trans (hW.mono HFR.out.1.size))) A B (j : Int)
       obtain ⟨OO,hOO⟩ : ∃ z,atE s t (msG s A) (msG t B) (j : Int) = z := ⟨_,rfl⟩;have HOO : Hid (atE s t (msG s A) (msG t B) (j : Int) = OO) := hOO;rw [hOO] at HCM;clear hOO
       go_upto_region 18 with fail
       go_cut [13,14,15] from 82 to 93 (fun pv av ov wx => ∃ (b : Nat) (q : Pr) (add : Bool),pv = .pointer (some ⟨b,0,none⟩) ∧ av = .bool add ∧ ov = .bool OO.isSome ∧ Hid (Blk wx b #[.string q.1,.string q.2] 69 ∧ (∀ x,OO = some x → x = if add = true then some q else none) ∧ Below wr.heap.size wr wx))
       case first =>
        refine M_region (T := fun W => Below wr.heap.size wr W) (m := 15) (by kernel_rfl) ?_;have hS : Below wr.heap.size wr wr.drew := (Below.refl _ _).drew;refine M_take 0 83 (.agg #[.string sn,.slice sa sl sc,.slice ea el ec,.slice ta tl tc]) _ rfl rfl (by kernel_rfl) (by kernel_rfl) (by kernel_rfl) (by kernel_rfl) (by kernel_rfl) (fun _ _ _ h => h) (by rfl) (fun w' hw' => ?_) hS (listed' := bts 16 1) (by kernel_rfl) rfl ?_
        ·have f0 := (((HBL.out _ hw').1).cell 0).trans rfl; have f1 := (((HBL.out _ hw').1).cell 1).trans rfl; have f2 := (((HBL.out _ hw').1).cell 2).trans rfl; have f3 := (((HBL.out _ hw').1).cell 3).trans rfl; go_simp
        simp only [zsA,zsZ,zsS];refine M_take 1 84 (.agg #[.string tn,.slice sa2 sl2 sc2,.slice ea2 el2 ec2,.slice ta2 tl2 tc2]) _ rfl rfl (by kernel_rfl) (by kernel_rfl) (by kernel_rfl) (by kernel_rfl) (by kernel_rfl) (fun _ _ _ h => h) (by rfl) (fun w' hw' => ?_) hS (listed' := bts 16 3) (by kernel_rfl) rfl ?_
        ·have f0 := (((HBL.out _ hw').2).cell 0).trans rfl; have f1 := (((HBL.out _ hw').2).cell 1).trans rfl; have f2 := (((HBL.out _ hw').2).cell 2).trans rfl; have f3 := (((HBL.out _ hw').2).cell 3).trans rfl; go_simp
        simp only [zsA,zsZ,zsS];refine M_take 2 85 ((.slice (some ⟨gl,0,none⟩) K' lc')) _ rfl rfl (by kernel_rfl) (by kernel_rfl) (by kernel_rfl) (by kernel_rfl) (by kernel_rfl) (fun _ _ _ h => h) (by rfl) (fun w' hw' => ?_) hS (listed' := bts 16 7) (by kernel_rfl) rfl ?_
        ·go_simp
        simp only [zsA,zsZ,zsS];refine M_take 3 86 (.int .i64 (i : Int)) _ rfl rfl (by kernel_rfl) (by kernel_rfl) (by kernel_rfl) (by kernel_rfl) (by kernel_rfl) (fun _ _ _ h => h) (by rfl) (fun w' hw' => ?_) hS (listed' := bts 16 15) (by kernel_rfl) rfl ?_
        ·go_simp
        simp only [zsA,zsZ,zsS];refine M_take 4 87 (.pointer (some ⟨gl,i * 2,none⟩)) _ rfl rfl (by kernel_rfl) (by kernel_rfl) (by kernel_rfl) (by kernel_rfl) (by kernel_rfl) (fun _ _ _ h => h) (by rfl) (fun w' hw' => ?_) hS (listed' := bts 16 31) (by kernel_rfl) rfl ?_
        ·go_simp
        simp only [zsA,zsZ,zsS];refine M_take 5 88 (.agg #[.string A,.string B]) _ rfl rfl (by kernel_rfl) (by kernel_rfl) (by kernel_rfl) (by kernel_rfl) (by kernel_rfl) (fun _ _ _ h => h) (by rfl) (fun w' hw' => ?_) hS (listed' := bts 16 63) (by kernel_rfl) rfl ?_
        ·obtain ⟨f0,f1⟩ := HQ.out _ hw'; go_simp
        simp only [zsA,zsZ,zsS];refine M_take 6 89 (.int .i64 (j : Int)) _ rfl rfl (by kernel_rfl) (by kernel_rfl) (by kernel_rfl) (by kernel_rfl) (by kernel_rfl) (fun _ _ _ h => h) (by rfl) (fun w' hw' => ?_) hS (listed' := bts 16 127) (by kernel_rfl) rfl ?_
        ·go_simp
        simp only [zsA,zsZ,zsS];generalize wr.drew = U0 at *;refine M_fork 7 12 90 13 25 #[.agg #[.string sn,.slice sa sl sc,.slice ea el ec,.slice ta tl tc],.agg #[.string tn,.slice sa2 sl2 sc2,.slice ea2 el2 ec2,.slice ta2 tl2 tc2],.agg #[.string A,.string B],.int .i64 (j : Int)] (.pointer (some ⟨U0.heap.size,0,none⟩)) (U0.alloc (Obj.cells #[.string ⟨#[]⟩,.string ⟨#[]⟩] 69)) rfl rfl rfl rfl (by kernel_rfl) (by rfl) (by rfl) (by go_simp) (by go_simp) ?_ (hS.trans (((Below.refl _ _).alloc (Nat.le_refl _) _).mono hS.size)) ?_
        ·skip
         refine (HCM.out _ hS).mono ?_;rintro ee V1 ⟨q,add,rfl,hx,hbU⟩;have hS0 := hS;have hS : Below wr.heap.size wr V1 := hS0.trans (hbU.mono hS0.size);clear hS0 hbU;refine ⟨_,rfl,hS,?_⟩;simp only [zsA,zsZ,zsS];refine M_take 8 82 (.tuple #[.agg #[.string q.1,.string q.2],.bool add,.bool OO.isSome]) _ rfl rfl (by kernel_rfl) (by kernel_rfl) (by kernel_rfl) (by kernel_rfl) (by kernel_rfl) (fun _ _ _ h => h) (by rfl) (fun w' hw' => ?_) hS (listed' := bts 16 511) (by kernel_rfl) rfl ?_
         ·go_simp
         simp only [zsA,zsZ,zsS];refine M_take 9 91 (.agg #[.string q.1,.string q.2]) _ rfl rfl (by kernel_rfl) (by kernel_rfl) (by kernel_rfl) (by kernel_rfl) (by kernel_rfl) (fun _ _ _ h => h) (by rfl) (fun w' hw' => ?_) hS (listed' := bts 16 1023) (by kernel_rfl) rfl ?_
         ·go_simp
         simp only [zsA,zsZ,zsS];refine M_take 10 92 (.bool add) _ rfl rfl (by kernel_rfl) (by kernel_rfl) (by kernel_rfl) (by kernel_rfl) (by kernel_rfl) (fun _ _ _ h => h) (by rfl) (fun w' hw' => ?_) hS (listed' := bts 16 2047) (by kernel_rfl) rfl ?_
         ·go_simp
         simp only [zsA,zsZ,zsS];refine M_take 11 93 (.bool OO.isSome) _ rfl rfl (by kernel_rfl) (by kernel_rfl) (by kernel_rfl) (by kernel_rfl) (by kernel_rfl) (fun _ _ _ h => h) (by rfl) (fun w' hw' => ?_) hS (listed' := bts 16 4095) (by kernel_rfl) rfl ?_
         ·go_simp
         simp only [zsA,zsZ,zsS];refine M_run 12 13 (.pointer (some ⟨V1.heap.size,0,none⟩)) (V1.alloc (Obj.cells #[.string ⟨#[]⟩,.string ⟨#[]⟩] 69)) rfl rfl (by kernel_rfl) (by rfl) (listed' := bts 16 8191) (by kernel_rfl) (by go_simp) (hS.trans (((Below.refl _ _).alloc (Nat.le_refl _) _).mono hS.size)) ?_;have hbU : Below V1.heap.size V1 (V1.alloc (Obj.cells #[.string ⟨#[]⟩,.string ⟨#[]⟩] 69)) := (Below.refl _ _).alloc (Nat.le_refl _) _;obtain ⟨bz,hbz⟩ : ∃ z,V1.heap.size = z := ⟨_,rfl⟩
         have BZ : Blk (V1.alloc (Obj.cells #[.string ⟨#[]⟩,.string ⟨#[]⟩] 69)) bz #[.string ⟨#[]⟩,.string ⟨#[]⟩] 69 := by rw [← hbz]; exact Blk.new V1 _ _
         have GZ : wr.heap.size ≤ bz := by rw [← hbz]; exact hS.size
         have hS0 := hS;have hS : Below wr.heap.size wr (V1.alloc (Obj.cells #[.string ⟨#[]⟩,.string ⟨#[]⟩] 69)) := hS0.trans (hbU.mono hS0.size);clear hS0 hbU;simp only [zsA,zsZ,zsS]
         try simp only [hbz]
         clear hbz;generalize (V1.alloc (Obj.cells #[.string ⟨#[]⟩,.string ⟨#[]⟩] 69)) = V2 at *;have k0 := (BZ.cell 0).trans rfl;have z0 := BZ.froz 0;have k1 := (BZ.cell 1).trans rfl;have z1 := BZ.froz 1;have hS9 : Below wr.heap.size wr (set2E V2 bz 0 (.string q.1) (.string q.2)) := hS.trans ((set2E_kp V2 bz 0 (.string q.1) (.string q.2)).toBelow hS.size fun q e => by rw [e]; exact GZ);refine M_storeT 13 (set2E V2 bz 0 (.string q.1) (.string q.2)) rfl rfl (by kernel_rfl) (by rfl) (listed' := bts 16 16383) (by kernel_rfl) (by unfold set2E; go_simp) hS9 ?_;clear k0 z0 k1 z1;have HFI : Hid (Blk (set2E V2 bz 0 (.string q.1) (.string q.2)) bz #[.string q.1,.string q.2] 69 ∧ (∀ x,OO = some x → x = if add = true then some q else none) ∧ Below wr.heap.size wr (set2E V2 bz 0 (.string q.1) (.string q.2))) := ⟨blk_set2E BZ,hx,hS9⟩;clear hS BZ GZ;generalize (set2E V2 bz 0 (.string q.1) (.string q.2)) = W9 at *;refine M_run 14 14 (.bool add) W9 rfl rfl (by kernel_rfl) (by rfl) (listed' := bts 16 32767) (by kernel_rfl) (by go_simp) hS9 ?_;simp only [zsA,zsZ,zsS];refine M_runA 15 15 (.bool OO.isSome) W9 rfl rfl (by kernel_rfl) (by rfl) (listed' := bts 16 65535) (by kernel_rfl) (by go_simp) (by kernel_rfl) ?_;simp only [zsA,zsZ,zsS];refine M_done (by kernel_rfl) ?_ _;go_wp2_with fail
         go_meet
         exact ⟨bz,q,add,rfl,rfl,rfl,HFI⟩
        ·skip
         have hbU : Below U0.heap.size U0 (U0.alloc (Obj.cells #[.string ⟨#[]⟩,.string ⟨#[]⟩] 69)) := (Below.refl _ _).alloc (Nat.le_refl _) _;obtain ⟨bz,hbz⟩ : ∃ z,U0.heap.size = z := ⟨_,rfl⟩
         have BZ : Blk (U0.alloc (Obj.cells #[.string ⟨#[]⟩,.string ⟨#[]⟩] 69)) bz #[.string ⟨#[]⟩,.string ⟨#[]⟩] 69 := by rw [← hbz]; exact Blk.new U0 _ _
         have GZ : wr.heap.size ≤ bz := by rw [← hbz]; exact hS.size
         have hS0 := hS;have hS : Below wr.heap.size wr (U0.alloc (Obj.cells #[.string ⟨#[]⟩,.string ⟨#[]⟩] 69)) := hS0.trans (hbU.mono hS0.size);clear hS0 hbU;simp only [zsA,zsZ,zsS]
         try simp only [hbz]
         clear hbz;generalize (U0.alloc (Obj.cells #[.string ⟨#[]⟩,.string ⟨#[]⟩] 69)) = V3 at *;refine M_call 7 90 25 #[.agg #[.string sn,.slice sa sl sc,.slice ea el ec,.slice ta tl tc],.agg #[.string tn,.slice sa2 sl2 sc2,.slice ea2 el2 ec2,.slice ta2 tl2 tc2],.agg #[.string A,.string B],.int .i64 (j : Int)] rfl rfl (by kernel_rfl) (by rfl) (listed' := bts 16 4351) (by kernel_rfl) (fun W => by go_simp) ?_;refine (HCM.out _ hS).mono ?_;rintro ee V4 ⟨q,add,rfl,hx,hbU⟩
         replace BZ := BZ.below hbU
         have hS0 := hS;have hS : Below wr.heap.size wr V4 := hS0.trans (hbU.mono hS0.size);clear hS0 hbU;refine ⟨_,rfl,hS,?_⟩;simp only [zsA,zsZ,zsS];refine M_take 8 82 (.tuple #[.agg #[.string q.1,.string q.2],.bool add,.bool OO.isSome]) _ rfl rfl (by kernel_rfl) (by kernel_rfl) (by kernel_rfl) (by kernel_rfl) (by kernel_rfl) (fun _ _ _ h => h) (by rfl) (fun w' hw' => ?_) hS (listed' := bts 16 4607) (by kernel_rfl) rfl ?_
         ·go_simp
         simp only [zsA,zsZ,zsS];refine M_take 9 91 (.agg #[.string q.1,.string q.2]) _ rfl rfl (by kernel_rfl) (by kernel_rfl) (by kernel_rfl) (by kernel_rfl) (by kernel_rfl) (fun _ _ _ h => h) (by rfl) (fun w' hw' => ?_) hS (listed' := bts 16 5119) (by kernel_rfl) rfl ?_
         ·go_simp
         simp only [zsA,zsZ,zsS];refine M_take 10 92 (.bool add) _ rfl rfl (by kernel_rfl) (by kernel_rfl) (by kernel_rfl) (by kernel_rfl) (by kernel_rfl) (fun _ _ _ h => h) (by rfl) (fun w' hw' => ?_) hS (listed' := bts 16 6143) (by kernel_rfl) rfl ?_
         ·go_simp
         simp only [zsA,zsZ,zsS];refine M_take 11 93 (.bool OO.isSome) _ rfl rfl (by kernel_rfl) (by kernel_rfl) (by kernel_rfl) (by kernel_rfl) (by kernel_rfl) (fun _ _ _ h => h) (by rfl) (fun w' hw' => ?_) hS (listed' := bts 16 8191) (by kernel_rfl) rfl ?_
         ·go_simp
         simp only [zsA,zsZ,zsS];have k0 := (BZ.cell 0).trans rfl;have z0 := BZ.froz 0;have k1 := (BZ.cell 1).trans rfl;have z1 := BZ.froz 1;have hS9 : Below wr.heap.size wr (set2E V4 bz 0 (.string q.1) (.string q.2)) := hS.trans ((set2E_kp V4 bz 0 (.string q.1) (.string q.2)).toBelow hS.size fun q e => by rw [e]; exact GZ);refine M_storeT 13 (set2E V4 bz 0 (.string q.1) (.string q.2)) rfl rfl (by kernel_rfl) (by rfl) (listed' := bts 16 16383) (by kernel_rfl) (by unfold set2E; go_simp) hS9 ?_;clear k0 z0 k1 z1;have HFI : Hid (Blk (set2E V4 bz 0 (.string q.1) (.string q.2)) bz #[.string q.1,.string q.2] 69 ∧ (∀ x,OO = some x → x = if add = true then some q else none) ∧ Below wr.heap.size wr (set2E V4 bz 0 (.string q.1) (.string q.2))) := ⟨blk_set2E BZ,hx,hS9⟩;clear hS BZ GZ;generalize (set2E V4 bz 0 (.string q.1) (.string q.2)) = W9 at *;refine M_run 14 14 (.bool add) W9 rfl rfl (by kernel_rfl) (by rfl) (listed' := bts 16 32767) (by kernel_rfl) (by go_simp) hS9 ?_;simp only [zsA,zsZ,zsS];refine M_runA 15 15 (.bool OO.isSome) W9 rfl rfl (by kernel_rfl) (by rfl) (listed' := bts 16 65535) (by kernel_rfl) (by go_simp) (by kernel_rfl) ?_;simp only [zsA,zsZ,zsS];refine M_done (by kernel_rfl) ?_ _;go_wp2_with fail
         go_meet
         exact ⟨bz,q,add,rfl,rfl,rfl,HFI⟩
       case rest =>
        obtain ⟨bp,q,add,rfl,rfl,rfl,HCU⟩ := hcut;generalize wc = w5 at *;obtain ⟨n1,n2⟩ := q;have HB5 : Hid (Below wr.heap.size wr w5) := HCU.out.2.2;have BM5 := HCU.out.1;have HXQ : Hid (∀ x,OO = some x → x = if add = true then some (n1,n2) else none) := HCU.out.2.1;simp only at BM5;have hbw5 : Below w.heap.size w w5 := HFR.out.1.trans (HB5.out.mono HFR.out.1.size);have BS5 := (HBL.out _ HB5.out).1;have BT5 := (HBL.out _ HB5.out).2;obtain ⟨p0, -⟩ := HQ.out _ HB5.out;have hM5 : PrO w5 w.heap.size (.slice (some ⟨gl,0,none⟩) K' lc') l' := own_below HM'.out HB5.out;clear HCU HBL HQ HCM HFR HM'
        cases OO with
        | none =>
         have HE : Hid (ANS = (A,(j : Int),false)) := (by
          rw [← HA.out]
          have h1 : 300 - i = (300 - (i + 1)) + 1 := by omega
          rw [h1];refine loopE_brk HPI.out (l' := l') ?_;rw [HRW.out,← HR.out]
          exact rowE_brk HOO.out : _ = _)
         clear HR HRW HA BM5 BS5 BT5 hM5 HP' HXQ
         try simp only [Option.isSome_none]
         go_wp2_with fail;refine bodyPost_ret (results_threeE rfl _ _ _) rfl ?_;rw [HE.out];exact ⟨rfl,hbw5⟩
        | some x =>
         have HXE : Hid (x = if add = true then some (n1,n2) else none) := HXQ.out x rfl
         have HRS : Hid (rowE s t (msG s A) (msG t B) (501 - (j + 1)) ((j + 1 : Nat) : Int) (addO l' x) = RW) := (by
          rw [← HR.out,rowE_step HOO.out]; rfl : _ = _)
         have HPX : Hid (∀ p,x = some p → p.1 ∈ s.mn ∧ p.2 ∈ t.mn) := fun p hp => at_pair HOK.out.1 HOK.out.2 (by rw [HOO.out,hp])
         clear HR HXQ HOO p0
         try simp only [Option.isSome_some]
         cases add with
         | false =>
          have HXN : Hid (x = none) := (by rw [HXE.out]; rfl : _ = _)
          have HR2 : Hid (rowE s t (msG s A) (msG t B) (501 - (j + 1)) ((j + 1 : Nat) : Int) l' = RW) := (by
           rw [← HRS.out,HXN.out]; rfl : _ = _)
          have HM2 : Hid (PrO w5 w.heap.size (.slice (some ⟨gl,0,none⟩) K' lc') l') := hM5;have HF2 : Hid (Below w.heap.size w w5 ∧ Blk w5 z #[.string sn,.slice sa sl sc,.slice ea el ec,.slice ta tl tc] 26 ∧ Blk w5 (z + 1) #[.string tn,.slice sa2 sl2 sc2,.slice ea2 el2 ec2,.slice ta2 tl2 tc2] 26) := ⟨hbw5,BS5,BT5⟩;clear HRS HXE HXN BM5 BS5 BT5 hM5 HPX HIK HPI';go_wp2_with fail
          go_roundw
          case rel => exact ⟨j + 1,l',_,K',lc',rfl,by go_num,by omega,by omega,HK',HR2,HP',HM2,HF2⟩
          case measure => simp [intOf]; omega
         | true =>
          have HXN : Hid (x = some (n1,n2)) := (by rw [HXE.out]; rfl : _ = _)
          have HR2 : Hid (rowE s t (msG s A) (msG t B) (501 - (j + 1)) ((j + 1 : Nat) : Int) (addP l' (n1,n2)) = RW) := (by
           rw [← HRS.out,HXN.out]; rfl : _ = _)
          have HPQ := HPX.out _ HXN.out
          have HP2 : Hid (PrIn s t (addP l' (n1,n2)) ∧ ∃ r,addP l' (n1,n2) = l ++ r) := ⟨addP_in HP'.out.1 HPQ.1 HPQ.2,by
           obtain ⟨r,hr⟩ := HP'.out.2;obtain ⟨r2,hr2⟩ := addP_pre (l := l') (p := (n1,n2))
           exact ⟨r ++ r2,by rw [hr2,hr,List.append_assoc]⟩⟩
          have HLK : Hid (l'.length ≤ 1000) := (by rw [HK'.out]; omega : l'.length ≤ 1000);have HF2 : Hid (Below w.heap.size w w5 ∧ Blk w5 z #[.string sn,.slice sa sl sc,.slice ea el ec,.slice ta tl tc] 26 ∧ Blk w5 (z + 1) #[.string tn,.slice sa2 sl2 sc2,.slice ea2 el2 ec2,.slice ta2 tl2 tc2] 26 ∧ PrO w5 w.heap.size (.slice (some ⟨gl,0,none⟩) K' lc') l') := ⟨hbw5,BS5,BT5,hM5⟩;have r0 := (BM5.cell 0).trans rfl;have r1 := (BM5.cell 1).trans rfl;have rlt := BM5.lt;clear HRS HXE HXN BM5 BS5 BT5 hM5 HPX HIK HPI' HPQ hbw5 HP';go_wp2_with fail;refine Calls.mono (radd_any (p := (n1,n2)) HF2.out.2.2.2 HF2.out.1.size HLK.out) ?_;rintro ee w6 ⟨v6,rfl,hm6,hk6⟩;obtain ⟨a6,c6,rfl⟩ := own_form hm6;have HF6 : Hid (Below w.heap.size w w6 ∧ Blk w6 z #[.string sn,.slice sa sl sc,.slice ea el ec,.slice ta tl tc] 26 ∧ Blk w6 (z + 1) #[.string tn,.slice sa2 sl2 sc2,.slice ea2 el2 ec2,.slice ta2 tl2 tc2] 26) := ⟨HF2.out.1.trans (hk6.toBelow HF2.out.1.size fun q e => own_lt' HF2.out.2.2.2 e),HF2.out.2.1.kp hk6 (HF2.out.2.2.2.no HF2.out.2.1 (by decide)),HF2.out.2.2.1.kp hk6 (HF2.out.2.2.2.no HF2.out.2.2.1 (by decide))⟩;obtain ⟨K2,hK2⟩ : ∃ z,(addP l' (n1,n2)).length = z := ⟨_,rfl⟩;rw [hK2] at hm6;have HM6 : Hid (PrO w6 w.heap.size (.slice a6 K2 c6) (addP l' (n1,n2))) := hm6;have HK2' : Hid ((addP l' (n1,n2)).length = K2) := hK2
          try simp only [hK2]
          clear hK2 hm6 hk6 HF2 HLK;go_wp2_with fail
          go_roundw
          case rel => exact ⟨j + 1,addP l' (n1,n2),a6,K2,c6,rfl,congrArg (Value.int .i64) (Int.natCast_add j 1).symm,by omega,by omega,HK2',HR2,HP2,HM6,HF6⟩
          case measure => simp [intOf]; omega
end Go.Proofs.Ytdkolhfpfimeoaa

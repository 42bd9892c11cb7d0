/- Part 19 of what the proof stands on. -/
import Derived.Test.YtmgbhicogmclgaaPkDAR
import Derived.RegionTactic
import Derived.ChangeAlike
namespace Go.Proofs.Ytmgbhicogmclgaa
set_option maxHeartbeats 8000000
set_option linter.unusedVariables false
set_option linter.unusedSimpArgs false
set_option maxRecDepth 20000
open Go.ChangeShapes Go.WideShapes Go.ChangeAt Go.RowKit
theorem blk_new2 (w : World) (o : Obj) (cs : Array Value) (t : TypeId) : Blk ((w.alloc o).alloc (.cells cs t)) (w.heap.size + 1) cs t := by
 have := Blk.new (w.alloc o) cs t
 rwa [show (w.alloc o).heap.size = w.heap.size + 1 from by simp] at this
def SamT (a b : Tr) (e : Ending) : Prop := ∃ R : Bool,e = .returned (.bool R) ∧ (R = true ↔ a = b)
theorem sam_no {a b : Tr} (h : a ≠ b) : SamT a b (.returned (.bool false)) := ⟨false,rfl,by simp [h]⟩
theorem sam_yes {a b : Tr} (h : a = b) : SamT a b (.returned (.bool true)) := ⟨true,rfl,by simp [h]⟩
theorem tr_ext {a b : Tr} (h1 : a.kind = b.kind) (h2 : a.n = b.n) (h3 : a.s = b.s) (h4 : a.es = b.es) (h5 : a.rest = b.rest) : a = b := by
 cases a; cases b; simp_all
theorem list_ext {α : Type} {l m : List α} (h : l.length = m.length) (hj : ∀ j,j < l.length → l[j]? = m[j]?) : l = m := by
 refine List.ext_getElem? fun i => ?_
 by_cases hi : i < l.length
 ·exact hj i hi
 ·rw [List.getElem?_eq_none (by omega),List.getElem?_eq_none (by omega)]
theorem two_set {w0 w : World} {g k : Nat} {a b c d : Value} {t : TypeId} (h1 : Blk w g #[a,b] t) (h2 : Blk w k #[c,d] t) (hn : g ≠ k) (hS : Below w0.heap.size w0 w) (l1 : w0.heap.size ≤ g) (l2 : w0.heap.size ≤ k) (a' b' c' d' : Value) : Below w0.heap.size w0 ((w.setCell ⟨g,0,none⟩ a').setCell ⟨g,1,none⟩ b') ∧
  Blk ((((w.setCell ⟨g,0,none⟩ a').setCell ⟨g,1,none⟩ b').setCell ⟨k,0,none⟩ c').setCell ⟨k,1,none⟩ d') g #[a',b'] t ∧ Blk ((((w.setCell ⟨g,0,none⟩ a').setCell ⟨g,1,none⟩ b').setCell ⟨k,0,none⟩ c').setCell ⟨k,1,none⟩ d') k #[c',d'] t ∧ Below w0.heap.size w0 ((((w.setCell ⟨g,0,none⟩ a').setCell ⟨g,1,none⟩ b').setCell ⟨k,0,none⟩ c').setCell ⟨k,1,none⟩ d') := by
 have hS3 : Below w0.heap.size w0 ((w.setCell ⟨g,0,none⟩ a').setCell ⟨g,1,none⟩ b') := (hS.setCell (p := ⟨g,0,none⟩) l1 _).setCell (p := ⟨g,1,none⟩) l1 _;refine ⟨hS3,?_,?_,(hS3.setCell (p := ⟨k,0,none⟩) l2 _).setCell (p := ⟨k,1,none⟩) l2 _⟩
 ·have q1 := h1.set 0 a' rfl;have q2 := q1.set 1 b' rfl;exact (q2.other (a := ⟨k,0,none⟩) hn _).other (a := ⟨k,1,none⟩) hn _
 ·have q1 := (h2.other (a := ⟨g,0,none⟩) hn.symm a').other (a := ⟨g,1,none⟩) hn.symm b';have q2 := q1.set 0 c' rfl;exact q2.set 1 d' rfl
theorem rsame_step (n m : Nat) (IH : ∀ m' a b va vb w,TrIn n w va a → TrIn m' w vb b → Calls Try.prog 13 #[va,vb] w fun e w' => SamT a b e ∧ Below w.heap.size w w') (a b : Tr) (va vb : Value) (w : World) (ha : TrIn (n + 1) w va a) (hb : TrIn m w vb b) :
  Calls Try.prog 13 #[va,vb] w fun e w' => SamT a b e ∧ Below w.heap.size w w' := by
 obtain ⟨n',ve,vr,e0,rfl,ka,na,sa,fa,ra,ea⟩ := ha.open
 obtain rfl : n' = n := by omega
 obtain ⟨m',ve2,vr2,rfl,rfl,kb,nb,sb,fb,rb,eb⟩ := hb.open;obtain ⟨pe,ce,rfl,u1,u2,u3,u4,u5⟩ := ea.open;obtain ⟨pe2,ce2,rfl,v1,v2,v3,v4,v5⟩ := eb.open;obtain ⟨pr,cr,rfl,x1,x2,x3,x4,x5⟩ := rest_holds ra;obtain ⟨pr2,cr2,rfl,y1,y2,y3,y4,y5⟩ := rest_holds rb;clear u5 v5 x5 y5 ha hb e0;unfold maxLen at u2 v2 x2 y2;obtain ⟨Ke,hKe⟩ : ∃ K,a.es.length = K := ⟨_,rfl⟩;obtain ⟨Ke2,hKe2⟩ : ∃ K,b.es.length = K := ⟨_,rfl⟩;obtain ⟨Kr,hKr⟩ : ∃ K,a.rest.length = K := ⟨_,rfl⟩;obtain ⟨Kr2,hKr2⟩ : ∃ K,b.rest.length = K := ⟨_,rfl⟩;rw [hKe] at u1 ⊢;rw [hKe2] at v1 ⊢;rw [hKr] at x1 ⊢;rw [hKr2] at y1 ⊢;have EA : Hid (EnsIn n' w (.slice pe Ke ce) a.es) := (by rw [← hKe]; exact ea : EnsIn n' w (.slice pe Ke ce) a.es);have EB : Hid (EnsIn m' w (.slice pe2 Ke2 ce2) b.es) := (by rw [← hKe2]; exact eb : EnsIn m' w (.slice pe2 Ke2 ce2) b.es);have RA : Hid (RowG w (.slice pr Kr cr) 4 (fdRows a.rest)) := (by rw [← hKr]; exact ra : RowG w (.slice pr Kr cr) 4 (fdRows a.rest));have RB : Hid (RowG w (.slice pr2 Kr2 cr2) 4 (fdRows b.rest)) := (by rw [← hKr2]; exact rb : RowG w (.slice pr2 Kr2 cr2) 4 (fdRows b.rest));clear ea eb ra rb u4 v4 x4 y4 sa sb fa fb u3 v3 x3 y3;have HKe : Hid (a.es.length = Ke) := hKe;have HKe2 : Hid (b.es.length = Ke2) := hKe2;have HKr : Hid (a.rest.length = Kr) := hKr;have HKr2 : Hid (b.rest.length = Kr2) := hKr2;clear hKe hKe2 hKr hKr2
 by_cases hk : a.kind = b.kind
 ·by_cases hn : a.n = b.n
  ·by_cases hs : a.s = b.s
   ·by_cases he : Ke = Ke2
    ·by_cases hr : Kr = Kr2
     ·subst he hr;rw [← hk,← hn,← hs];have HK : Hid (a.kind = b.kind ∧ a.n = b.n ∧ a.s = b.s) := ⟨hk,hn,hs⟩;clear hk hn hs;obtain ⟨K,hK⟩ : ∃ K,a.kind = K := ⟨_,rfl⟩;obtain ⟨N,hN⟩ : ∃ K,a.n = K := ⟨_,rfl⟩;obtain ⟨S,hS⟩ : ∃ K,a.s = K := ⟨_,rfl⟩;rw [hK,hN,hS];clear hK hN hS ka na kb nb
      go_enter Try.func13,Try.ntmps13
      go_wp2_with fail
      go_loopw [5] (fun iv wr => ∃ i : Nat,iv = .int .i64 (i : Int) ∧ i ≤ Kr ∧ Hid (∀ j,j < i → a.rest[j]? = b.rest[j]?) ∧ Below w.heap.size w wr ∧ Hid (Blk wr w.heap.size #[.int .i64 K,.int .i64 N,.string S,.slice pe Ke ce,.slice pr Kr cr] 30) ∧ Hid (Blk wr (w.heap.size + 1) #[.int .i64 K,.int .i64 N,.string S,.slice pe2 Ke ce2,.slice pr2 Kr cr2] 30)) (fun iv _ => Kr - (intOf iv).toNat)
      case atStart => exact ⟨0,rfl,by omega,(fun j hj => absurd hj (by omega) : ∀ j,j < 0 → a.rest[j]? = b.rest[j]?),((Below.refl _ _).alloc (Nat.le_refl _) _).alloc (by simp) _,(Blk.new w _ _).below ((Below.refl _ _).alloc (Nat.le_refl _) _),blk_new2 w _ _ _⟩
      case round =>
       obtain ⟨i,rfl,hi,HJ,hbel,HB1,HB2⟩ := hrel;have q14 := HB1.out.cell 4;have q24 := HB2.out.cell 4;have q13 := HB1.out.cell 3;have q23 := HB2.out.cell 3
       simp at q14 q24 q13 q23
       by_cases hlt : i < Kr
       ·obtain ⟨r,hr⟩ : ∃ r,a.rest[i]? = some r := ⟨_,List.getElem?_eq_getElem (by rw [HKr.out]; exact hlt)⟩;obtain ⟨s,hs⟩ : ∃ r,b.rest[i]? = some r := ⟨_,List.getElem?_eq_getElem (by rw [HKr2.out]; exact hlt)⟩;obtain ⟨g,off,rfl,c1⟩ := (RA.out.below hbel).get (show (fdRows a.rest)[i]? = some r.cells by simp [fdRows,hr]);obtain ⟨g2,off2,rfl,c2⟩ := (RB.out.below hbel).get (show (fdRows b.rest)[i]? = some s.cells by simp [fdRows,hs]);have p0 := c1 0 _ rfl;have p1 := c1 1 _ rfl;have p2 := c1 2 _ rfl;have p3 := c1 3 _ rfl;have o0 := c2 0 _ rfl;have o1 := c2 1 _ rfl;have o2 := c2 2 _ rfl;have o3 := c2 3 _ rfl;simp only [Nat.add_zero] at p0 o0;have HR : Hid (a.rest[i]? = some r) := hr;have HS : Hid (b.rest[i]? = some s) := hs;clear c1 c2 hr hs q13 q23
        by_cases hrs : r = s
        ·subst hrs;obtain ⟨t1,t2,t3,t4⟩ := r;simp only at p0 p1 p2 p3 o0 o1 o2 o3;go_wp2_with fail
         go_quiet (fail)
         have hbn := below_drewN nq hbel;clear p0 p1 p2 p3 o0 o1 o2 o3 q14 q24;go_wp2_with fail
         go_roundw
         case rel => exact ⟨i + 1,by go_num,by omega,(fun j hj => by
          rcases Nat.lt_or_eq_of_le (Nat.le_of_lt_succ hj) with h | h
          ·exact HJ.out j h
          ·subst h; rw [HR.out,HS.out] : ∀ j,j < i + 1 → a.rest[j]? = b.rest[j]?),hbn,HB1.out.below (below_drewN nq (Below.refl _ _)),HB2.out.below (below_drewN nq (Below.refl _ _))⟩
         case measure => simp [intOf]; omega
        ·obtain ⟨t1,t2,t3,t4⟩ := r;obtain ⟨s1,s2,s3,s4⟩ := s;simp only at p0 p1 p2 p3 o0 o1 o2 o3;have hne : a ≠ b := fun e => hrs (by have := HR.out; rw [e,HS.out] at this; exact (Option.some.inj this).symm)
         have hx := fd_neq t1 t2 t3 s1 s2 s3 t4 s4 hrs;clear hrs;go_wp2_with fail
         go_quiet (fail)
         have hbn := below_drewN nq hbel;clear p0 p1 p2 p3 o0 o1 o2 o3 q14 q24 hx;go_wp2_with fail;go_ret;exact ⟨sam_no hne,hbn⟩
       ·have hje : a.rest = b.rest := list_ext (by rw [HKr.out,HKr2.out]) (fun j hj => HJ.out j (by rw [HKr.out] at hj; omega));have HJE : Hid (a.rest = b.rest) := hje;clear hje HJ RA RB HKr HKr2 q13 q23;go_wp2_with fail
        go_loopw [6] (fun iv wr => ∃ i : Nat,iv = .int .i64 (i : Int) ∧ i ≤ Ke ∧ Hid (∀ j,j < i → a.es[j]? = b.es[j]?) ∧ Below w.heap.size w wr ∧ Hid (Blk wr w.heap.size #[.int .i64 K,.int .i64 N,.string S,.slice pe Ke ce,.slice pr Kr cr] 30) ∧ Hid (Blk wr (w.heap.size + 1) #[.int .i64 K,.int .i64 N,.string S,.slice pe2 Ke ce2,.slice pr2 Kr cr2] 30)) (fun iv _ => Ke - (intOf iv).toNat)
        case atStart => exact ⟨0,rfl,by omega,(fun j hj => absurd hj (by omega) : ∀ j,j < 0 → a.es[j]? = b.es[j]?),hbel,HB1,HB2⟩
        case round =>
         clear hi hbel HB1 HB2 hlt q14 q24;obtain ⟨i,rfl,hi,HJ,hbel,HB1,HB2⟩ := hrel;have q13 := HB1.out.cell 3;have q23 := HB2.out.cell 3
         simp at q13 q23
         by_cases hlt : i < Ke
         ·obtain ⟨x,hx⟩ : ∃ r,a.es[i]? = some r := ⟨_,List.getElem?_eq_getElem (by rw [HKe.out]; exact hlt)⟩;obtain ⟨y,hy⟩ : ∃ r,b.es[i]? = some r := ⟨_,List.getElem?_eq_getElem (by rw [HKe2.out]; exact hlt)⟩;obtain ⟨g,off,rfl,c1⟩ := (EA.out.belowE hbel).get hx;obtain ⟨g2,off2,rfl,c2⟩ := (EB.out.belowE hbel).get hy;obtain ⟨vt,p0,p1,p2,p3⟩ := ens_at c1;obtain ⟨vt2,o0,o1,o2,o3⟩ := ens_at c2;obtain ⟨pt,ct,rfl,t1,t2,t3,t4,t5⟩ := p3.open;obtain ⟨pt2,ct2,rfl,s1,s2,s3,s4,s5⟩ := o3.open;unfold maxLen at t2 s2;have HX : Hid (a.es[i]? = some x) := hx;have HY : Hid (b.es[i]? = some y) := hy;clear t3 t4 t5 s3 s4 s5 hx hy c1 c2 p2 o2;obtain ⟨xt,xl⟩ := x;obtain ⟨yt,yl⟩ := y;simp only at p0 p1 o0 o1 t1 s1 p3 o3;obtain ⟨Kt,hKt⟩ : ∃ K,xl.length = K := ⟨_,rfl⟩;obtain ⟨Kt2,hKt2⟩ : ∃ K,yl.length = K := ⟨_,rfl⟩;rw [hKt] at p1 t1;rw [hKt2] at o1 s1;have T1 : Hid (TrsIn n' wr (.slice pt Kt ct) xl) := (by rw [← hKt]; exact p3 : TrsIn n' wr (.slice pt Kt ct) xl);have T2 : Hid (TrsIn m' wr (.slice pt2 Kt2 ct2) yl) := (by rw [← hKt2]; exact o3 : TrsIn m' wr (.slice pt2 Kt2 ct2) yl);clear p3 o3;have HKt : Hid (xl.length = Kt) := hKt;have HKt2 : Hid (yl.length = Kt2) := hKt2;clear hKt hKt2;have hz1 := HB1.out.lt;have hz2 := HB2.out.lt;have hz3 : g < wr.heap.size := World.block_lt_of_cell? _ _ p0;have hz4 : g2 < wr.heap.size := World.block_lt_of_cell? _ _ o0
          have HCE : Hid (∀ W,Below wr.heap.size wr W → Blk W w.heap.size #[.int .i64 K,.int .i64 N,.string S,.slice (some ⟨g,off,none⟩) Ke ce,.slice pr Kr cr] 30 ∧ Blk W (w.heap.size + 1) #[.int .i64 K,.int .i64 N,.string S,.slice (some ⟨g2,off2,none⟩) Ke ce2,.slice pr2 Kr cr2] 30 ∧ W.cell? ⟨g,off + i * 2,none⟩ = some (.int .i64 xt) ∧ W.cell? ⟨g,off + i * 2 + 1,none⟩ = some (.slice pt Kt ct) ∧ W.cell? ⟨g2,off2 + i * 2,none⟩ = some (.int .i64 yt) ∧ W.cell? ⟨g2,off2 + i * 2 + 1,none⟩ = some (.slice pt2 Kt2 ct2)) := fun W hW => by
           have cc : ∀ p u,wr.cell? p = some u → W.cell? p = some u := fun p u h => (hW.cell (World.block_lt_of_cell? _ _ h)).trans h
           exact ⟨HB1.out.below hW,HB2.out.below hW,cc _ _ p0,cc _ _ p1,cc _ _ o0,cc _ _ o1⟩
          clear p0 p1 o0 o1
          go_upto_region 11 with fail
          clear q13 q23
          go_cut [7,8] from 72 to 81 (fun pv qv wx => ∃ GX GY : Nat,pv = .pointer (some ⟨GX,0,none⟩) ∧ qv = .pointer (some ⟨GY,0,none⟩) ∧ Hid (Blk wx GX #[.int .i64 xt,.slice pt Kt ct] 57 ∧ Blk wx GY #[.int .i64 yt,.slice pt2 Kt2 ct2] 57 ∧ Below wr.heap.size wr wx))
          case first =>
           refine M_region (T := fun W => Below wr.heap.size wr W) (m := 13) (by kernel_rfl) ?_;have hS : Below wr.heap.size wr wr.drew := (Below.refl _ _).drew;refine M_take 0 72 (.pointer (some ⟨w.heap.size,3,none⟩)) _ rfl rfl (by kernel_rfl) (by kernel_rfl) (by kernel_rfl) (by kernel_rfl) (by kernel_rfl) (fun _ _ _ h => h) (by rfl) (fun w' hw' => ?_) hS (listed' := bts 14 1) (by kernel_rfl) rfl ?_
           ·go_simp
           simp only [zsA,zsZ,zsS];refine M_take 1 73 (.slice (some ⟨g,off,none⟩) Ke ce) _ rfl rfl (by kernel_rfl) (by kernel_rfl) (by kernel_rfl) (by kernel_rfl) (by kernel_rfl) (fun _ _ _ h => h) (by rfl) (fun w' hw' => ?_) hS (listed' := bts 14 3) (by kernel_rfl) rfl ?_
           ·obtain ⟨B1,B2,c0,c1,c2,c3⟩ := HCE.out _ hw'; have f3 := (B1.cell 3).trans rfl; go_simp
           simp only [zsA,zsZ,zsS];refine M_take 2 74 (.int .i64 (i : Int)) _ rfl rfl (by kernel_rfl) (by kernel_rfl) (by kernel_rfl) (by kernel_rfl) (by kernel_rfl) (fun _ _ _ h => h) (by rfl) (fun w' hw' => ?_) hS (listed' := bts 14 7) (by kernel_rfl) rfl ?_
           ·go_simp
           simp only [zsA,zsZ,zsS];refine M_take 3 75 (.pointer (some ⟨g,off + i * 2,none⟩)) _ rfl rfl (by kernel_rfl) (by kernel_rfl) (by kernel_rfl) (by kernel_rfl) (by kernel_rfl) (fun _ _ _ h => h) (by rfl) (fun w' hw' => ?_) hS (listed' := bts 14 15) (by kernel_rfl) rfl ?_
           ·go_simp
           simp only [zsA,zsZ,zsS];refine M_take 4 76 (.agg #[.int .i64 xt,.slice pt Kt ct]) _ rfl rfl (by kernel_rfl) (by kernel_rfl) (by kernel_rfl) (by kernel_rfl) (by kernel_rfl) (fun _ _ _ h => h) (by rfl) (fun w' hw' => ?_) hS (listed' := bts 14 31) (by kernel_rfl) rfl ?_
           ·obtain ⟨B1,B2,c0,c1,c2,c3⟩ := HCE.out _ hw'; go_simp
           simp only [zsA,zsZ,zsS];refine M_take 5 77 (.pointer (some ⟨w.heap.size + 1,3,none⟩)) _ rfl rfl (by kernel_rfl) (by kernel_rfl) (by kernel_rfl) (by kernel_rfl) (by kernel_rfl) (fun _ _ _ h => h) (by rfl) (fun w' hw' => ?_) hS (listed' := bts 14 63) (by kernel_rfl) rfl ?_
           ·go_simp
           simp only [zsA,zsZ,zsS];refine M_take 6 78 (.slice (some ⟨g2,off2,none⟩) Ke ce2) _ rfl rfl (by kernel_rfl) (by kernel_rfl) (by kernel_rfl) (by kernel_rfl) (by kernel_rfl) (fun _ _ _ h => h) (by rfl) (fun w' hw' => ?_) hS (listed' := bts 14 127) (by kernel_rfl) rfl ?_
           ·obtain ⟨B1,B2,c0,c1,c2,c3⟩ := HCE.out _ hw'; have f3 := (B2.cell 3).trans rfl; go_simp
           simp only [zsA,zsZ,zsS];refine M_take 7 79 (.int .i64 (i : Int)) _ rfl rfl (by kernel_rfl) (by kernel_rfl) (by kernel_rfl) (by kernel_rfl) (by kernel_rfl) (fun _ _ _ h => h) (by rfl) (fun w' hw' => ?_) hS (listed' := bts 14 255) (by kernel_rfl) rfl ?_
           ·go_simp
           simp only [zsA,zsZ,zsS];refine M_take 8 80 (.pointer (some ⟨g2,off2 + i * 2,none⟩)) _ rfl rfl (by kernel_rfl) (by kernel_rfl) (by kernel_rfl) (by kernel_rfl) (by kernel_rfl) (fun _ _ _ h => h) (by rfl) (fun w' hw' => ?_) hS (listed' := bts 14 511) (by kernel_rfl) rfl ?_
           ·go_simp
           simp only [zsA,zsZ,zsS];refine M_take 9 81 (.agg #[.int .i64 yt,.slice pt2 Kt2 ct2]) _ rfl rfl (by kernel_rfl) (by kernel_rfl) (by kernel_rfl) (by kernel_rfl) (by kernel_rfl) (fun _ _ _ h => h) (by rfl) (fun w' hw' => ?_) hS (listed' := bts 14 1023) (by kernel_rfl) rfl ?_
           ·obtain ⟨B1,B2,c0,c1,c2,c3⟩ := HCE.out _ hw'; go_simp
           simp only [zsA,zsZ,zsS];generalize wr.drew = U0 at *;clear HCE;refine M_forkAA 10 11 7 8 (.pointer (some ⟨U0.heap.size,0,none⟩)) (.pointer (some ⟨U0.heap.size,0,none⟩)) (U0.alloc (Obj.cells #[.int .i64 0,.slice none 0 0] 57)) (U0.alloc (Obj.cells #[.int .i64 0,.slice none 0 0] 57)) rfl rfl rfl rfl (by kernel_rfl) (by rfl) (by rfl) (by go_simp) (by go_simp) (hS.trans (((Below.refl _ _).alloc (Nat.le_refl _) _).mono hS.size)) ?_ (hS.trans (((Below.refl _ _).alloc (Nat.le_refl _) _).mono hS.size)) ?_
           ·skip
            obtain ⟨GX,hGX⟩ : ∃ z,U0.heap.size = z := ⟨_,rfl⟩
            have BGX : Blk (U0.alloc (Obj.cells #[.int .i64 0,.slice none 0 0] 57)) GX #[.int .i64 0,.slice none 0 0] 57 := by rw [← hGX]; exact Blk.new U0 _ _
            have LGX : wr.heap.size ≤ GX := by rw [← hGX]; exact hS.size
            have hS1 : Below wr.heap.size wr (U0.alloc (Obj.cells #[.int .i64 0,.slice none 0 0] 57)) := (hS.trans (((Below.refl _ _).alloc (Nat.le_refl _) _).mono hS.size));simp only [zsA,zsZ,zsS]
            try simp only [hGX]
            clear hGX hS;generalize (U0.alloc (Obj.cells #[.int .i64 0,.slice none 0 0] 57)) = U1 at *;have hS := hS1;clear hS1;refine M_run 11 8 (.pointer (some ⟨U1.heap.size,0,none⟩)) (U1.alloc (Obj.cells #[.int .i64 0,.slice none 0 0] 57)) rfl rfl (by kernel_rfl) (by rfl) (listed' := bts 14 4095) (by kernel_rfl) (by go_simp) (hS.trans (((Below.refl _ _).alloc (Nat.le_refl _) _).mono hS.size)) ?_;obtain ⟨GY,hGY⟩ : ∃ z,U1.heap.size = z := ⟨_,rfl⟩
            have BGY : Blk (U1.alloc (Obj.cells #[.int .i64 0,.slice none 0 0] 57)) GY #[.int .i64 0,.slice none 0 0] 57 := by rw [← hGY]; exact Blk.new U1 _ _
            have LGY : wr.heap.size ≤ GY := by rw [← hGY]; exact hS.size
            have NE : GX < GY := by rw [← hGY]; exact BGX.lt
            replace BGX := BGX.below ((Below.refl _ _).alloc (Nat.le_refl _) (Obj.cells #[.int .i64 0,.slice none 0 0] 57))
            have hS1 : Below wr.heap.size wr (U1.alloc (Obj.cells #[.int .i64 0,.slice none 0 0] 57)) := (hS.trans (((Below.refl _ _).alloc (Nat.le_refl _) _).mono hS.size));simp only [zsA,zsZ,zsS]
            try simp only [hGY]
            clear hGY hS;generalize (U1.alloc (Obj.cells #[.int .i64 0,.slice none 0 0] 57)) = U2 at *;have cx0 := (BGX.cell 0).trans rfl;have cx1 := (BGX.cell 1).trans rfl;have cy0 := (BGY.cell 0).trans rfl;have cy1 := (BGY.cell 1).trans rfl;have zx0 := BGX.froz 0;have zx1 := BGX.froz 1;have zy0 := BGY.froz 0;have zy1 := BGY.froz 1
            have ne1 : GX ≠ GY := by omega
            have ne2 : GY ≠ GX := by omega
            obtain ⟨hS3,hfi⟩ := two_set BGX BGY ne1 hS1 LGX LGY (.int .i64 xt) (.slice pt Kt ct) (.int .i64 yt) (.slice pt2 Kt2 ct2);have HFI : Hid _ := hfi;clear hfi;refine M_storeT 12 ((U2.setCell ⟨GX,0,none⟩ (.int .i64 xt)).setCell ⟨GX,1,none⟩ (.slice pt Kt ct)) rfl rfl (by kernel_rfl) (by rfl) (listed' := bts 14 8191) (by kernel_rfl) (by go_simp) hS3 ?_;refine M_store 13 ((((U2.setCell ⟨GX,0,none⟩ (.int .i64 xt)).setCell ⟨GX,1,none⟩ (.slice pt Kt ct)).setCell ⟨GY,0,none⟩ (.int .i64 yt)).setCell ⟨GY,1,none⟩ (.slice pt2 Kt2 ct2)) rfl rfl (by kernel_rfl) (by rfl) (listed' := bts 14 16383) (by kernel_rfl) (by go_simp) (by kernel_rfl) ?_;clear cx0 cx1 cy0 cy1 zx0 zx1 zy0 zy1 BGX BGY hS3 hS1 LGX LGY;generalize ((((U2.setCell ⟨GX,0,none⟩ (.int .i64 xt)).setCell ⟨GX,1,none⟩ (.slice pt Kt ct)).setCell ⟨GY,0,none⟩ (.int .i64 yt)).setCell ⟨GY,1,none⟩ (.slice pt2 Kt2 ct2)) = W9 at *;refine M_done (by kernel_rfl) ?_ _;go_wp2_with fail
            go_meet
            exact ⟨GX,GY,rfl,rfl,HFI⟩
           ·skip
            obtain ⟨GY,hGY⟩ : ∃ z,U0.heap.size = z := ⟨_,rfl⟩
            have BGY : Blk (U0.alloc (Obj.cells #[.int .i64 0,.slice none 0 0] 57)) GY #[.int .i64 0,.slice none 0 0] 57 := by rw [← hGY]; exact Blk.new U0 _ _
            have LGY : wr.heap.size ≤ GY := by rw [← hGY]; exact hS.size
            have hS1 : Below wr.heap.size wr (U0.alloc (Obj.cells #[.int .i64 0,.slice none 0 0] 57)) := (hS.trans (((Below.refl _ _).alloc (Nat.le_refl _) _).mono hS.size));simp only [zsA,zsZ,zsS]
            try simp only [hGY]
            clear hGY hS;generalize (U0.alloc (Obj.cells #[.int .i64 0,.slice none 0 0] 57)) = U1 at *;have hS := hS1;clear hS1;refine M_run 10 7 (.pointer (some ⟨U1.heap.size,0,none⟩)) (U1.alloc (Obj.cells #[.int .i64 0,.slice none 0 0] 57)) rfl rfl (by kernel_rfl) (by rfl) (listed' := bts 14 4095) (by kernel_rfl) (by go_simp) (hS.trans (((Below.refl _ _).alloc (Nat.le_refl _) _).mono hS.size)) ?_;obtain ⟨GX,hGX⟩ : ∃ z,U1.heap.size = z := ⟨_,rfl⟩
            have BGX : Blk (U1.alloc (Obj.cells #[.int .i64 0,.slice none 0 0] 57)) GX #[.int .i64 0,.slice none 0 0] 57 := by rw [← hGX]; exact Blk.new U1 _ _
            have LGX : wr.heap.size ≤ GX := by rw [← hGX]; exact hS.size
            have NE : GY < GX := by rw [← hGX]; exact BGY.lt
            replace BGY := BGY.below ((Below.refl _ _).alloc (Nat.le_refl _) (Obj.cells #[.int .i64 0,.slice none 0 0] 57))
            have hS1 : Below wr.heap.size wr (U1.alloc (Obj.cells #[.int .i64 0,.slice none 0 0] 57)) := (hS.trans (((Below.refl _ _).alloc (Nat.le_refl _) _).mono hS.size));simp only [zsA,zsZ,zsS]
            try simp only [hGX]
            clear hGX hS;generalize (U1.alloc (Obj.cells #[.int .i64 0,.slice none 0 0] 57)) = U2 at *;have cx0 := (BGX.cell 0).trans rfl;have cx1 := (BGX.cell 1).trans rfl;have cy0 := (BGY.cell 0).trans rfl;have cy1 := (BGY.cell 1).trans rfl;have zx0 := BGX.froz 0;have zx1 := BGX.froz 1;have zy0 := BGY.froz 0;have zy1 := BGY.froz 1
            have ne1 : GX ≠ GY := by omega
            have ne2 : GY ≠ GX := by omega
            obtain ⟨hS3,hfi⟩ := two_set BGX BGY ne1 hS1 LGX LGY (.int .i64 xt) (.slice pt Kt ct) (.int .i64 yt) (.slice pt2 Kt2 ct2);have HFI : Hid _ := hfi;clear hfi;refine M_storeT 12 ((U2.setCell ⟨GX,0,none⟩ (.int .i64 xt)).setCell ⟨GX,1,none⟩ (.slice pt Kt ct)) rfl rfl (by kernel_rfl) (by rfl) (listed' := bts 14 8191) (by kernel_rfl) (by go_simp) hS3 ?_;refine M_store 13 ((((U2.setCell ⟨GX,0,none⟩ (.int .i64 xt)).setCell ⟨GX,1,none⟩ (.slice pt Kt ct)).setCell ⟨GY,0,none⟩ (.int .i64 yt)).setCell ⟨GY,1,none⟩ (.slice pt2 Kt2 ct2)) rfl rfl (by kernel_rfl) (by rfl) (listed' := bts 14 16383) (by kernel_rfl) (by go_simp) (by kernel_rfl) ?_;clear cx0 cx1 cy0 cy1 zx0 zx1 zy0 zy1 BGX BGY hS3 hS1 LGX LGY;generalize ((((U2.setCell ⟨GX,0,none⟩ (.int .i64 xt)).setCell ⟨GX,1,none⟩ (.slice pt Kt ct)).setCell ⟨GY,0,none⟩ (.int .i64 yt)).setCell ⟨GY,1,none⟩ (.slice pt2 Kt2 ct2)) = W9 at *;refine M_done (by kernel_rfl) ?_ _;go_wp2_with fail
            go_meet
            exact ⟨GX,GY,rfl,rfl,HFI⟩
          case rest =>
           obtain ⟨GX,GY,rfl,rfl,HXY0⟩ := hcut;have hbB : Below wr.heap.size wr wc := HXY0.out.2.2;have hbA : Below w.heap.size w wc := hbel.trans (hbB.mono hbel.size);have hX1 := HXY0.out.1;have hX2 := HXY0.out.2.1;generalize wc = W at *;have HY1 : Hid (Blk W w.heap.size #[.int .i64 K,.int .i64 N,.string S,.slice (some ⟨g,off,none⟩) Ke ce,.slice pr Kr cr] 30) := HB1.out.below hbB;have HY2 : Hid (Blk W (w.heap.size + 1) #[.int .i64 K,.int .i64 N,.string S,.slice (some ⟨g2,off2,none⟩) Ke ce2,.slice pr2 Kr cr2] 30) := HB2.out.below hbB;have HT1 : Hid (TrsIn n' W (.slice pt Kt ct) xl) := T1.out.belowT hbB;have HT2 : Hid (TrsIn m' W (.slice pt2 Kt2 ct2) yl) := T2.out.belowT hbB;clear hbB HB1 HB2 T1 T2 hz1 hz2 hz3 hz4 hbel HXY0;have a0 := hX1.cell 0;have a1 := hX1.cell 1;have b0 := hX2.cell 0;have b1 := hX2.cell 1
           simp at a0 a1 b0 b1
           by_cases ht : xt = yt
           ·subst ht
            by_cases hk : Kt = Kt2
            ·subst hk;have HZ1 : Hid (Blk W GX #[Value.int IntKind.i64 xt,Value.slice pt Kt ct] 57) := hX1;have HZ2 : Hid (Blk W GY #[Value.int IntKind.i64 xt,Value.slice pt2 Kt ct2] 57) := hX2;clear hX1 hX2;go_wp2_with fail;clear a0 a1 b0 b1
             go_loopw [9] (fun iv wz => ∃ j : Nat,iv = .int .i64 (j : Int) ∧ j ≤ Kt ∧ Hid (∀ l,l < j → xl[l]? = yl[l]?) ∧ Below w.heap.size w wz ∧ Below W.heap.size W wz) (fun iv _ => Kt - (intOf iv).toNat)
             case atStart => exact ⟨0,rfl,by omega,(fun j hj => absurd hj (by omega) : ∀ l,l < 0 → xl[l]? = yl[l]?),hbA,Below.refl _ _⟩
             case round =>
              obtain ⟨j,rfl,hj,HL,hbel,hbW⟩ := hrel;have a1 := (HZ1.out.below hbW).cell 1;have b1 := (HZ2.out.below hbW).cell 1
              simp at a1 b1
              by_cases hlt2 : j < Kt
              ·obtain ⟨x,hx⟩ : ∃ r,xl[j]? = some r := ⟨_,List.getElem?_eq_getElem (by rw [HKt.out]; exact hlt2)⟩;obtain ⟨y,hy⟩ : ∃ r,yl[j]? = some r := ⟨_,List.getElem?_eq_getElem (by rw [HKt2.out]; exact hlt2)⟩;obtain ⟨g3,off3,rfl,c1⟩ := (HT1.out.belowT hbW).get hx;obtain ⟨g4,off4,rfl,c2⟩ := (HT2.out.belowT hbW).get hy;obtain ⟨z1,n1,d1,z2,n2,d2,p0,p1,p2,p3,p4,p5⟩ := trs_get c1;obtain ⟨z3,n3,d3,z4,n4,d4,o0,o1,o2,o3,o4,o5⟩ := trs_get c2;have HX2 : Hid (xl[j]? = some x) := hx;have HY2 : Hid (yl[j]? = some y) := hy;clear c1 c2 hx hy
               have HC : Hid (∀ W1,Below wr.heap.size wr W1 → Calls Try.prog 13 #[.agg #[.int .i64 x.kind,.int .i64 x.n,.string x.s,.slice z1 n1 d1,.slice z2 n2 d2],.agg #[.int .i64 y.kind,.int .i64 y.n,.string y.s,.slice z3 n3 d3,.slice z4 n4 d4]] W1 fun e W' => SamT x y e ∧ Below wr.heap.size wr W') := fun W1 hW1 => (by
                refine (IH m' x y _ _ W1 (p5.below hW1) (o5.below hW1)).mono ?_;rintro e W' ⟨hR,hb⟩
                exact ⟨hR,hW1.trans (hb.mono hW1.size)⟩ : Calls Try.prog _ _ W1 _)
               have HKC : Hid (∀ W1,Below wr.heap.size wr W1 → W1.cell? ⟨GX,1,none⟩ = some (.slice (some ⟨g3,off3,none⟩) Kt ct) ∧ W1.cell? ⟨GY,1,none⟩ = some (.slice (some ⟨g4,off4,none⟩) Kt ct2) ∧ W1.cell? ⟨g3,off3 + j * 5,none⟩ = some (.int .i64 x.kind) ∧ W1.cell? ⟨g3,off3 + j * 5 + 1,none⟩ = some (.int .i64 x.n) ∧ W1.cell? ⟨g3,off3 + j * 5 + 2,none⟩ = some (.string x.s) ∧ W1.cell? ⟨g3,off3 + j * 5 + 3,none⟩ = some (.slice z1 n1 d1) ∧ W1.cell? ⟨g3,off3 + j * 5 + 4,none⟩ = some (.slice z2 n2 d2) ∧ W1.cell? ⟨g4,off4 + j * 5,none⟩ = some (.int .i64 y.kind) ∧ W1.cell? ⟨g4,off4 + j * 5 + 1,none⟩ = some (.int .i64 y.n) ∧ W1.cell? ⟨g4,off4 + j * 5 + 2,none⟩ = some (.string y.s) ∧ W1.cell? ⟨g4,off4 + j * 5 + 3,none⟩ = some (.slice z3 n3 d3) ∧ W1.cell? ⟨g4,off4 + j * 5 + 4,none⟩ = some (.slice z4 n4 d4)) := fun W1 hW => by
                have cc : ∀ p u,wr.cell? p = some u → W1.cell? p = some u := fun p u h => (hW.cell (World.block_lt_of_cell? _ _ h)).trans h
                exact ⟨cc _ _ a1,cc _ _ b1,cc _ _ p0,cc _ _ p1,cc _ _ p2,cc _ _ p3,cc _ _ p4,cc _ _ o0,cc _ _ o1,cc _ _ o2,cc _ _ o3,cc _ _ o4⟩
               clear p0 p1 p2 p3 p4 p5 o0 o1 o2 o3 o4 o5;go_wp2_with fail;clear a1 b1;have hS : Below wr.heap.size wr wr.drew := (Below.refl _ _).drew;refine wp_region_held_drew (S := fun w' => Below wr.heap.size wr w') (by kernel_rfl) hS (fun hS => ?_);refine rg_take 0 103 (.pointer (some ⟨GX,1,none⟩)) _ rfl rfl (by kernel_rfl) (by kernel_rfl) (by kernel_rfl) (fun _ _ _ h => h) (by rfl) (fun w' hw' => ?_) hS (listed' := bts 12 1) (by kernel_rfl) rfl ?_
               ·go_simp
               simp only [zsA,zsZ,zsS];refine rg_take 1 104 (.slice (some ⟨g3,off3,none⟩) Kt ct) _ rfl rfl (by kernel_rfl) (by kernel_rfl) (by kernel_rfl) (fun _ _ _ h => h) (by rfl) (fun w' hw' => ?_) hS (listed' := bts 12 3) (by kernel_rfl) rfl ?_
               ·obtain ⟨k1,k2,k3,k4,k5,k6,k7,k8,k9,k10,k11,k12⟩ := HKC.out _ hw'; go_simp
               simp only [zsA,zsZ,zsS];refine rg_take 2 105 (.int .i64 (j : Int)) _ rfl rfl (by kernel_rfl) (by kernel_rfl) (by kernel_rfl) (fun _ _ _ h => h) (by rfl) (fun w' hw' => ?_) hS (listed' := bts 12 7) (by kernel_rfl) rfl ?_
               ·go_simp
               simp only [zsA,zsZ,zsS];refine rg_take 3 106 (.pointer (some ⟨g3,off3 + j * 5,none⟩)) _ rfl rfl (by kernel_rfl) (by kernel_rfl) (by kernel_rfl) (fun _ _ _ h => h) (by rfl) (fun w' hw' => ?_) hS (listed' := bts 12 15) (by kernel_rfl) rfl ?_
               ·go_simp
               simp only [zsA,zsZ,zsS];refine rg_take 4 107 (.agg #[.int .i64 x.kind,.int .i64 x.n,.string x.s,.slice z1 n1 d1,.slice z2 n2 d2]) _ rfl rfl (by kernel_rfl) (by kernel_rfl) (by kernel_rfl) (fun _ _ _ h => h) (by rfl) (fun w' hw' => ?_) hS (listed' := bts 12 31) (by kernel_rfl) rfl ?_
               ·obtain ⟨k1,k2,k3,k4,k5,k6,k7,k8,k9,k10,k11,k12⟩ := HKC.out _ hw'; go_simp
               simp only [zsA,zsZ,zsS];refine rg_take 5 108 (.pointer (some ⟨GY,1,none⟩)) _ rfl rfl (by kernel_rfl) (by kernel_rfl) (by kernel_rfl) (fun _ _ _ h => h) (by rfl) (fun w' hw' => ?_) hS (listed' := bts 12 63) (by kernel_rfl) rfl ?_
               ·go_simp
               simp only [zsA,zsZ,zsS];refine rg_take 6 109 (.slice (some ⟨g4,off4,none⟩) Kt ct2) _ rfl rfl (by kernel_rfl) (by kernel_rfl) (by kernel_rfl) (fun _ _ _ h => h) (by rfl) (fun w' hw' => ?_) hS (listed' := bts 12 127) (by kernel_rfl) rfl ?_
               ·obtain ⟨k1,k2,k3,k4,k5,k6,k7,k8,k9,k10,k11,k12⟩ := HKC.out _ hw'; go_simp
               simp only [zsA,zsZ,zsS];refine rg_take 7 110 (.int .i64 (j : Int)) _ rfl rfl (by kernel_rfl) (by kernel_rfl) (by kernel_rfl) (fun _ _ _ h => h) (by rfl) (fun w' hw' => ?_) hS (listed' := bts 12 255) (by kernel_rfl) rfl ?_
               ·go_simp
               simp only [zsA,zsZ,zsS];refine rg_take 8 111 (.pointer (some ⟨g4,off4 + j * 5,none⟩)) _ rfl rfl (by kernel_rfl) (by kernel_rfl) (by kernel_rfl) (fun _ _ _ h => h) (by rfl) (fun w' hw' => ?_) hS (listed' := bts 12 511) (by kernel_rfl) rfl ?_
               ·go_simp
               simp only [zsA,zsZ,zsS];refine rg_take 9 112 (.agg #[.int .i64 y.kind,.int .i64 y.n,.string y.s,.slice z3 n3 d3,.slice z4 n4 d4]) _ rfl rfl (by kernel_rfl) (by kernel_rfl) (by kernel_rfl) (fun _ _ _ h => h) (by rfl) (fun w' hw' => ?_) hS (listed' := bts 12 1023) (by kernel_rfl) rfl ?_
               ·obtain ⟨k1,k2,k3,k4,k5,k6,k7,k8,k9,k10,k11,k12⟩ := HKC.out _ hw'; go_simp
               simp only [zsA,zsZ,zsS];refine rg_call 10 113 13 #[.agg #[.int .i64 x.kind,.int .i64 x.n,.string x.s,.slice z1 n1 d1,.slice z2 n2 d2],.agg #[.int .i64 y.kind,.int .i64 y.n,.string y.s,.slice z3 n3 d3,.slice z4 n4 d4]] rfl rfl (by kernel_rfl) (by rfl) (listed' := bts 12 2047) (by kernel_rfl) (fun W => by go_simp) ?_;refine (HC.out _ hS).mono ?_;rintro e W1 ⟨⟨RB,rfl,hRB⟩,hW1⟩;have HRB : Hid (RB = true ↔ x = y) := hRB;have hS : Below wr.heap.size wr W1 := hW1;clear hRB;refine ⟨_,rfl,hS,?_⟩;simp only [zsA,zsZ,zsS];refine rg_take 11 114 (.bool (!RB)) _ rfl rfl (by kernel_rfl) (by kernel_rfl) (by kernel_rfl) (fun _ _ _ h => h) (by rfl) (fun w' hw' => ?_) hS (listed' := bts 12 4095) (by kernel_rfl) rfl ?_
               ·go_simp
               simp only [zsA,zsZ,zsS];refine wpAnyH_done (by kernel_rfl) ?_ _;have hb1 := hbel.trans (hS.mono hbel.size);have hb2 := hbW.trans (hS.mono hbW.size);clear HKC HC hS hW1 hbel hbW
               cases RB with
               | true =>
                have HXY : Hid (x = y) := HRB.out.1 rfl;go_wp2_with fail
                go_roundw
                case rel => exact ⟨j + 1,by go_num,by omega,(fun l hl => by
                 rcases Nat.lt_or_eq_of_le (Nat.le_of_lt_succ hl) with h | h
                 ·exact HL.out l h
                 ·subst h; rw [HX2.out,HY2.out,HXY.out] : ∀ l,l < j + 1 → xl[l]? = yl[l]?),hb1,hb2⟩
                case measure => simp [intOf]; omega
               | false =>
                have HNE : Hid (a ≠ b) := (fun e => absurd (HRB.out.2 (by
                 have h1 := HX.out;rw [e,HY.out] at h1;have h2 := (Prod.mk.inj (Option.some.inj h1)).2;have h3 := HX2.out;rw [← h2,HY2.out] at h3
                 exact (Option.some.inj h3).symm)) (by decide) : a ≠ b)
                go_wp2_with fail;go_ret;exact ⟨sam_no HNE.out,hb1⟩
              ·have hle : xl = yl := list_ext (by rw [HKt.out,HKt2.out]) (fun l hl => HL.out l (by rw [HKt.out] at hl; omega));have HLE : Hid (xl = yl) := hle;clear hle HL;go_wp2_with fail;clear a1 b1
               go_roundw
               case rel => exact ⟨i + 1,by go_num,by omega,(fun l hl => by
                 rcases Nat.lt_or_eq_of_le (Nat.le_of_lt_succ hl) with h | h
                 ·exact HJ.out l h
                 ·subst h; rw [HX.out,HY.out,HLE.out] : ∀ l,l < i + 1 → a.es[l]? = b.es[l]?),hbel,HY1.out.below hbW,HY2.out.below hbW⟩
               case measure => simp [intOf]; omega
            ·have hne : a ≠ b := fun e => hk (by
              have h1 := HX.out;rw [e,HY.out] at h1;have h2 := (Prod.mk.inj (Option.some.inj h1)).2
              rw [← HKt.out,← HKt2.out,h2])
             have hd : ((Kt : Int) != (Kt2 : Int)) = true := by simp; omega
             clear hX1 hX2 HX HY HKt HKt2;go_wp2_with fail;go_ret;exact ⟨sam_no hne,hbA⟩
           ·have hne : a ≠ b := fun e => ht (by
             have h1 := HX.out;rw [e,HY.out] at h1
             exact (Prod.mk.inj (Option.some.inj h1)).1.symm)
            have hd : (xt != yt) = true := by simpa using ht
            clear hX1 hX2 HX HY HKt HKt2;go_wp2_with fail;go_ret;exact ⟨sam_no hne,hbA⟩
         ·have hje : a.es = b.es := list_ext (by rw [HKe.out,HKe2.out]) (fun j hj => HJ.out j (by rw [HKe.out] at hj; omega));have hab : a = b := tr_ext HK.out.1 HK.out.2.1 HK.out.2.2 hje HJE.out;clear hje HJ HB1 HB2 HJE;have HAB : Hid (a = b) := hab;clear hab;go_wp2_with fail;go_ret;exact ⟨sam_yes HAB.out,hbel⟩
     ·have hne : a ≠ b := fun e => hr (by rw [← HKr.out,← HKr2.out,e])
      have hd : ((Kr : Int) != (Kr2 : Int)) = true := by simp; omega
      subst he;rw [← hk,← hn,← hs];clear hk hn hs hr;obtain ⟨K,hK⟩ : ∃ K,a.kind = K := ⟨_,rfl⟩;obtain ⟨N,hN⟩ : ∃ K,a.n = K := ⟨_,rfl⟩;obtain ⟨S,hS⟩ : ∃ K,a.s = K := ⟨_,rfl⟩;rw [hK,hN,hS];clear hK hN hS
      go_enter Try.func13,Try.ntmps13
      go_wp2_with fail;go_ret;exact ⟨sam_no hne,((Below.refl _ _).alloc (Nat.le_refl _) _).alloc (by simp) _⟩
    ·have hne : a ≠ b := fun e => he (by rw [← HKe.out,← HKe2.out,e])
     have hd : ((Ke : Int) != (Ke2 : Int)) = true := by simp; omega
     rw [← hk,← hn,← hs];clear hk hn hs he;obtain ⟨K,hK⟩ : ∃ K,a.kind = K := ⟨_,rfl⟩;obtain ⟨N,hN⟩ : ∃ K,a.n = K := ⟨_,rfl⟩;obtain ⟨S,hS⟩ : ∃ K,a.s = K := ⟨_,rfl⟩;rw [hK,hN,hS];clear hK hN hS
     go_enter Try.func13,Try.ntmps13
     go_wp2_with fail;go_ret;exact ⟨sam_no hne,((Below.refl _ _).alloc (Nat.le_refl _) _).alloc (by simp) _⟩
   ·have hne : a ≠ b := fun e => hs (by rw [e])
    have hd : (a.s.toList == b.s.toList) = false := by simpa using fun h => hs (toList_ext h)
    rw [← hk,← hn];clear hk hn hs;obtain ⟨K,hK⟩ : ∃ K,a.kind = K := ⟨_,rfl⟩;obtain ⟨N,hN⟩ : ∃ K,a.n = K := ⟨_,rfl⟩;obtain ⟨S,hS⟩ : ∃ K,a.s = K := ⟨_,rfl⟩;obtain ⟨S2,hS2⟩ : ∃ K,b.s = K := ⟨_,rfl⟩;rw [hS,hS2] at hd;rw [hK,hN,hS,hS2];clear hK hN hS hS2
    go_enter Try.func13,Try.ntmps13
    go_wp2_with fail;go_ret;exact ⟨sam_no hne,((Below.refl _ _).alloc (Nat.le_refl _) _).alloc (by simp) _⟩
  ·have hne : a ≠ b := fun e => hn (by rw [e])
   have hd : (a.n != b.n) = true := by simpa using hn
   rw [← hk];clear hk hn;obtain ⟨K,hK⟩ : ∃ K,a.kind = K := ⟨_,rfl⟩;obtain ⟨N,hN⟩ : ∃ K,a.n = K := ⟨_,rfl⟩;obtain ⟨N2,hN2⟩ : ∃ K,b.n = K := ⟨_,rfl⟩;rw [hN,hN2] at hd;rw [hK,hN,hN2];clear hK hN hN2
   go_enter Try.func13,Try.ntmps13
   go_wp2_with fail;go_ret;exact ⟨sam_no hne,((Below.refl _ _).alloc (Nat.le_refl _) _).alloc (by simp) _⟩
 ·have hne : a ≠ b := fun e => hk (by rw [e])
  obtain ⟨K,hK⟩ : ∃ K,a.kind = K := ⟨_,rfl⟩;obtain ⟨K2,hK2⟩ : ∃ K,b.kind = K := ⟨_,rfl⟩;rw [hK,hK2] at hk ⊢
  have h1 : (K != K2) = true := by simpa using hk
  clear hK hK2 hk
  go_enter Try.func13,Try.ntmps13
  go_wp2_with fail;go_ret;exact ⟨sam_no hne,((Below.refl _ _).alloc (Nat.le_refl _) _).alloc (by simp) _⟩
theorem rsame_any : ∀ (n m : Nat) (a b : Tr) (va vb : Value) (w : World),TrIn n w va a → TrIn m w vb b → Calls Try.prog 13 #[va,vb] w fun e w' => SamT a b e ∧ Below w.heap.size w w'
 | 0,_,a,_,_,_,_,ha,_ => by obtain ⟨r,_,h⟩ := ha; exact h.elim
 | n + 1,m,a,b,va,vb,w,ha,hb => rsame_step n m (fun m' a b va vb w ha hb => rsame_any n m' a b va vb w ha hb) a b va vb w ha hb
theorem rsame_eq {n m : Nat} {t : Tr} {va vb : Value} {w : World} (ha : TrIn n w va t) (hb : TrIn m w vb t) : Calls Try.prog 13 #[va,vb] w fun e w' => e = .returned (.bool true) ∧ Below w.heap.size w w' := by
 refine (rsame_any n m t t va vb w ha hb).mono ?_;rintro e w' ⟨⟨R,rfl,h⟩,hb⟩;have : R = true := h.2 rfl;subst this;exact ⟨rfl,hb⟩
end Go.Proofs.Ytmgbhicogmclgaa

/- Part 2 of what the proof stands on. -/
import Derived.Test.YtiajaocckkghgabGreatPkSAA
import Derived.RegionTactic
import Derived.ChangeAlike
namespace Go.Proofs.YtiajaocckkghgabGreat
set_option maxHeartbeats 8000000
set_option linter.unusedVariables false
set_option linter.unusedSimpArgs false
set_option maxRecDepth 20000
open Go.ChangeShapes Go.WideShapes Go.ChangeAt Go.RowKit
theorem blk_new2 (w : World) (o : Obj) (cs : Array Value) (t : TypeId) : Blk ((w.alloc o).alloc (.cells cs t)) (w.heap.size + 1) cs t := by
 have := Blk.new (w.alloc o) cs t
 rwa [show (w.alloc o).heap.size = w.heap.size + 1 from by simp] at this
theorem kept_cellT {w : World} {a : Addr} {u : Value} (h : w.cell? a = some u) (x : Kept w.heap.size w) : x.w.cell? a = some u := by
 rw [x.below.cell (World.block_lt_of_cell? _ _ h)]; exact h
def SamT (a b : Tr) (e : Ending) : Prop := ∃ R : Bool,e = .returned (.bool R) ∧ (R = true ↔ a = b)
theorem sam_no {a b : Tr} (h : a ≠ b) : SamT a b (.returned (.bool false)) := ⟨false,rfl,by simp [h]⟩
theorem sam_yes {a b : Tr} (h : a = b) : SamT a b (.returned (.bool true)) := ⟨true,rfl,by simp [h]⟩
theorem tr_ext {a b : Tr} (h1 : a.kind = b.kind) (h2 : a.n = b.n) (h3 : a.s = b.s) (h4 : a.es = b.es) (h5 : a.rest = b.rest) : a = b := by
 cases a; cases b; simp_all
theorem list_ext {α : Type} {l m : List α} (h : l.length = m.length) (hj : ∀ j,j < l.length → l[j]? = m[j]?) : l = m := by
 refine List.ext_getElem? fun i => ?_
 by_cases hi : i < l.length
 ·exact hj i hi
 ·rw [List.getElem?_eq_none (by omega),List.getElem?_eq_none (by omega)]
theorem rsame_step (n m : Nat) (IH : ∀ m' a b va vb w,TrIn n w va a → TrIn m' w vb b → Calls Tryz.prog 15 #[va,vb] w fun e w' => SamT a b e ∧ Below w.heap.size w w') (a b : Tr) (va vb : Value) (w : World) (ha : TrIn (n + 1) w va a) (hb : TrIn m w vb b) :
  Calls Tryz.prog 15 #[va,vb] w fun e w' => SamT a b e ∧ Below w.heap.size w w' := by
 obtain ⟨n',ve,vr,e0,rfl,ka,na,sa,fa,ra,ea⟩ := ha.open
 obtain rfl : n' = n := by omega
 obtain ⟨m',ve2,vr2,rfl,rfl,kb,nb,sb,fb,rb,eb⟩ := hb.open
 obtain ⟨pe,ce,rfl,u1,u2,u3,u4,u5⟩ := ea.open
 obtain ⟨pe2,ce2,rfl,v1,v2,v3,v4,v5⟩ := eb.open
 obtain ⟨pr,cr,rfl,x1,x2,x3,x4,x5⟩ := rest_holds ra
 obtain ⟨pr2,cr2,rfl,y1,y2,y3,y4,y5⟩ := rest_holds rb
 clear u5 v5 x5 y5 ha hb e0
 unfold maxLen at u2 v2 x2 y2
 obtain ⟨Ke,hKe⟩ : ∃ K,a.es.length = K := ⟨_,rfl⟩
 obtain ⟨Ke2,hKe2⟩ : ∃ K,b.es.length = K := ⟨_,rfl⟩
 obtain ⟨Kr,hKr⟩ : ∃ K,a.rest.length = K := ⟨_,rfl⟩
 obtain ⟨Kr2,hKr2⟩ : ∃ K,b.rest.length = K := ⟨_,rfl⟩
 rw [hKe] at u1 ⊢
 rw [hKe2] at v1 ⊢
 rw [hKr] at x1 ⊢
 rw [hKr2] at y1 ⊢
 have EA : Hid (EnsIn n' w (.slice pe Ke ce) a.es) := (by rw [← hKe]; exact ea : EnsIn n' w (.slice pe Ke ce) a.es)
 have EB : Hid (EnsIn m' w (.slice pe2 Ke2 ce2) b.es) := (by rw [← hKe2]; exact eb : EnsIn m' w (.slice pe2 Ke2 ce2) b.es)
 have RA : Hid (RowG w (.slice pr Kr cr) 4 (fdRows a.rest)) := (by rw [← hKr]; exact ra : RowG w (.slice pr Kr cr) 4 (fdRows a.rest))
 have RB : Hid (RowG w (.slice pr2 Kr2 cr2) 4 (fdRows b.rest)) := (by rw [← hKr2]; exact rb : RowG w (.slice pr2 Kr2 cr2) 4 (fdRows b.rest))
 clear ea eb ra rb u4 v4 x4 y4 sa sb fa fb u3 v3 x3 y3
 have HKe : Hid (a.es.length = Ke) := hKe
 have HKe2 : Hid (b.es.length = Ke2) := hKe2
 have HKr : Hid (a.rest.length = Kr) := hKr
 have HKr2 : Hid (b.rest.length = Kr2) := hKr2
 clear hKe hKe2 hKr hKr2
 by_cases hk : a.kind = b.kind
 ·by_cases hn : a.n = b.n
  ·by_cases hs : a.s = b.s
   ·by_cases he : Ke = Ke2
    ·by_cases hr : Kr = Kr2
     ·subst he hr
      rw [← hk,← hn,← hs]
      have HK : Hid (a.kind = b.kind ∧ a.n = b.n ∧ a.s = b.s) := ⟨hk,hn,hs⟩
      clear hk hn hs
      obtain ⟨K,hK⟩ : ∃ K,a.kind = K := ⟨_,rfl⟩
      obtain ⟨N,hN⟩ : ∃ K,a.n = K := ⟨_,rfl⟩
      obtain ⟨S,hS⟩ : ∃ K,a.s = K := ⟨_,rfl⟩
      rw [hK,hN,hS]
      clear hK hN hS ka na kb nb
      go_enter Tryz.func15,Tryz.ntmps15
      go_wp2_with fail
      go_loopw [5] (fun iv wr => ∃ i : Nat,iv = .int .i64 (i : Int) ∧ i ≤ Kr ∧ Hid (∀ j,j < i → a.rest[j]? = b.rest[j]?) ∧ Below w.heap.size w wr ∧ Hid (Blk wr w.heap.size #[.int .i64 K,.int .i64 N,.string S,.slice pe Ke ce,.slice pr Kr cr] 39) ∧ Hid (Blk wr (w.heap.size + 1) #[.int .i64 K,.int .i64 N,.string S,.slice pe2 Ke ce2,.slice pr2 Kr cr2] 39)) (fun iv _ => Kr - (intOf iv).toNat)
      case atStart => exact ⟨0,rfl,by omega,(fun j hj => absurd hj (by omega) : ∀ j,j < 0 → a.rest[j]? = b.rest[j]?),((Below.refl _ _).alloc (Nat.le_refl _) _).alloc (by simp) _,(Blk.new w _ _).below ((Below.refl _ _).alloc (Nat.le_refl _) _),blk_new2 w _ _ _⟩
      case round =>
       obtain ⟨i,rfl,hi,HJ,hbel,HB1,HB2⟩ := hrel
       have q14 := HB1.out.cell 4
       have q24 := HB2.out.cell 4
       have q13 := HB1.out.cell 3
       have q23 := HB2.out.cell 3
       simp at q14 q24 q13 q23
       by_cases hlt : i < Kr
       ·obtain ⟨r,hr⟩ : ∃ r,a.rest[i]? = some r := ⟨_,List.getElem?_eq_getElem (by rw [HKr.out]; exact hlt)⟩
        obtain ⟨s,hs⟩ : ∃ r,b.rest[i]? = some r := ⟨_,List.getElem?_eq_getElem (by rw [HKr2.out]; exact hlt)⟩
        obtain ⟨g,off,rfl,c1⟩ := (RA.out.below hbel).get (show (fdRows a.rest)[i]? = some r.cells by simp [fdRows,hr])
        obtain ⟨g2,off2,rfl,c2⟩ := (RB.out.below hbel).get (show (fdRows b.rest)[i]? = some s.cells by simp [fdRows,hs])
        have p0 := c1 0 _ rfl
        have p1 := c1 1 _ rfl
        have p2 := c1 2 _ rfl
        have p3 := c1 3 _ rfl
        have o0 := c2 0 _ rfl
        have o1 := c2 1 _ rfl
        have o2 := c2 2 _ rfl
        have o3 := c2 3 _ rfl
        simp only [Nat.add_zero] at p0 o0
        have HR : Hid (a.rest[i]? = some r) := hr
        have HS : Hid (b.rest[i]? = some s) := hs
        clear c1 c2 hr hs q13 q23
        by_cases hrs : r = s
        ·subst hrs
         obtain ⟨t1,t2,t3,t4⟩ := r
         simp only at p0 p1 p2 p3 o0 o1 o2 o3
         go_wp2_with fail
         go_quiet (fail)
         have hbn := below_drewN nq hbel
         clear p0 p1 p2 p3 o0 o1 o2 o3 q14 q24
         go_wp2_with fail
         go_roundw
         case rel => exact ⟨i + 1,by go_num,by omega,(fun j hj => by
          rcases Nat.lt_or_eq_of_le (Nat.le_of_lt_succ hj) with h | h
          ·exact HJ.out j h
          ·subst h; rw [HR.out,HS.out] : ∀ j,j < i + 1 → a.rest[j]? = b.rest[j]?),hbn,HB1.out.below (below_drewN nq (Below.refl _ _)),HB2.out.below (below_drewN nq (Below.refl _ _))⟩
         case measure => simp [intOf]; omega
        ·obtain ⟨t1,t2,t3,t4⟩ := r
         obtain ⟨s1,s2,s3,s4⟩ := s
         simp only at p0 p1 p2 p3 o0 o1 o2 o3
         have hne : a ≠ b := fun e => hrs (by have := HR.out; rw [e,HS.out] at this; exact (Option.some.inj this).symm)
         have hx := fd_neq t1 t2 t3 s1 s2 s3 t4 s4 hrs
         clear hrs
         go_wp2_with fail
         go_quiet (fail)
         have hbn := below_drewN nq hbel
         clear p0 p1 p2 p3 o0 o1 o2 o3 q14 q24 hx
         go_wp2_with fail
         go_ret
         exact ⟨sam_no hne,hbn⟩
       ·have hje : a.rest = b.rest := list_ext (by rw [HKr.out,HKr2.out]) (fun j hj => HJ.out j (by rw [HKr.out] at hj; omega))
        have HJE : Hid (a.rest = b.rest) := hje
        clear hje HJ RA RB HKr HKr2 q13 q23
        go_wp2_with fail
        go_loopw [6] (fun iv wr => ∃ i : Nat,iv = .int .i64 (i : Int) ∧ i ≤ Ke ∧ Hid (∀ j,j < i → a.es[j]? = b.es[j]?) ∧ Below w.heap.size w wr ∧ Hid (Blk wr w.heap.size #[.int .i64 K,.int .i64 N,.string S,.slice pe Ke ce,.slice pr Kr cr] 39) ∧ Hid (Blk wr (w.heap.size + 1) #[.int .i64 K,.int .i64 N,.string S,.slice pe2 Ke ce2,.slice pr2 Kr cr2] 39)) (fun iv _ => Ke - (intOf iv).toNat)
        case atStart => exact ⟨0,rfl,by omega,(fun j hj => absurd hj (by omega) : ∀ j,j < 0 → a.es[j]? = b.es[j]?),hbel,HB1,HB2⟩
        case round =>
         clear hi hbel HB1 HB2 hlt q14 q24
         obtain ⟨i,rfl,hi,HJ,hbel,HB1,HB2⟩ := hrel
         have q13 := HB1.out.cell 3
         have q23 := HB2.out.cell 3
         simp at q13 q23
         by_cases hlt : i < Ke
         ·obtain ⟨x,hx⟩ : ∃ r,a.es[i]? = some r := ⟨_,List.getElem?_eq_getElem (by rw [HKe.out]; exact hlt)⟩
          obtain ⟨y,hy⟩ : ∃ r,b.es[i]? = some r := ⟨_,List.getElem?_eq_getElem (by rw [HKe2.out]; exact hlt)⟩
          obtain ⟨g,off,rfl,c1⟩ := (EA.out.belowE hbel).get hx
          obtain ⟨g2,off2,rfl,c2⟩ := (EB.out.belowE hbel).get hy
          obtain ⟨vt,p0,p1,p2,p3⟩ := ens_at c1
          obtain ⟨vt2,o0,o1,o2,o3⟩ := ens_at c2
          obtain ⟨pt,ct,rfl,t1,t2,t3,t4,t5⟩ := p3.open
          obtain ⟨pt2,ct2,rfl,s1,s2,s3,s4,s5⟩ := o3.open
          unfold maxLen at t2 s2
          have HX : Hid (a.es[i]? = some x) := hx
          have HY : Hid (b.es[i]? = some y) := hy
          clear t3 t4 t5 s3 s4 s5 hx hy c1 c2 p2 o2
          obtain ⟨xt,xl⟩ := x
          obtain ⟨yt,yl⟩ := y
          simp only at p0 p1 o0 o1 t1 s1 p3 o3
          obtain ⟨Kt,hKt⟩ : ∃ K,xl.length = K := ⟨_,rfl⟩
          obtain ⟨Kt2,hKt2⟩ : ∃ K,yl.length = K := ⟨_,rfl⟩
          rw [hKt] at p1 t1
          rw [hKt2] at o1 s1
          have T1 : Hid (TrsIn n' wr (.slice pt Kt ct) xl) := (by rw [← hKt]; exact p3 : TrsIn n' wr (.slice pt Kt ct) xl)
          have T2 : Hid (TrsIn m' wr (.slice pt2 Kt2 ct2) yl) := (by rw [← hKt2]; exact o3 : TrsIn m' wr (.slice pt2 Kt2 ct2) yl)
          clear p3 o3
          have HKt : Hid (xl.length = Kt) := hKt
          have HKt2 : Hid (yl.length = Kt2) := hKt2
          clear hKt hKt2
          have hz1 := HB1.out.lt
          have hz2 := HB2.out.lt
          have hz3 : g < wr.heap.size := World.block_lt_of_cell? _ _ p0
          have hz4 : g2 < wr.heap.size := World.block_lt_of_cell? _ _ o0
          go_wp2_with fail
          go_region
          have hbA : Below w.heap.size w ((wr.alloc (Obj.cells #[Value.int IntKind.i64 xt,Value.slice pt Kt ct] 63)).alloc (Obj.cells #[Value.int IntKind.i64 yt,Value.slice pt2 Kt2 ct2] 63)).drew := ((hbel.alloc hbel.size _).alloc (by have := hbel.size; simp; omega) _).drew
          have hbB : Below wr.heap.size wr ((wr.alloc (Obj.cells #[Value.int IntKind.i64 xt,Value.slice pt Kt ct] 63)).alloc (Obj.cells #[Value.int IntKind.i64 yt,Value.slice pt2 Kt2 ct2] 63)).drew := (((Below.refl _ _).alloc (Nat.le_refl _) _).alloc (by simp) _).drew
          have hX1 : Blk ((wr.alloc (Obj.cells #[Value.int IntKind.i64 xt,Value.slice pt Kt ct] 63)).alloc (Obj.cells #[Value.int IntKind.i64 yt,Value.slice pt2 Kt2 ct2] 63)).drew wr.heap.size #[Value.int IntKind.i64 xt,Value.slice pt Kt ct] 63 := ((Blk.new wr _ _).below ((Below.refl _ _).alloc (Nat.le_refl _) _)).below (Below.refl _ _).drew
          have hX2 : Blk ((wr.alloc (Obj.cells #[Value.int IntKind.i64 xt,Value.slice pt Kt ct] 63)).alloc (Obj.cells #[Value.int IntKind.i64 yt,Value.slice pt2 Kt2 ct2] 63)).drew (wr.heap.size + 1) #[Value.int IntKind.i64 yt,Value.slice pt2 Kt2 ct2] 63 := (blk_new2 wr _ _ _).below (Below.refl _ _).drew
          generalize ((wr.alloc (Obj.cells #[Value.int IntKind.i64 xt,Value.slice pt Kt ct] 63)).alloc (Obj.cells #[Value.int IntKind.i64 yt,Value.slice pt2 Kt2 ct2] 63)).drew = W at hbA hbB hX1 hX2 ⊢
          have HY1 : Hid (Blk W w.heap.size #[.int .i64 K,.int .i64 N,.string S,.slice (some ⟨g,off,none⟩) Ke ce,.slice pr Kr cr] 39) := HB1.out.below hbB
          have HY2 : Hid (Blk W (w.heap.size + 1) #[.int .i64 K,.int .i64 N,.string S,.slice (some ⟨g2,off2,none⟩) Ke ce2,.slice pr2 Kr cr2] 39) := HB2.out.below hbB
          have HT1 : Hid (TrsIn n' W (.slice pt Kt ct) xl) := T1.out.belowT hbB
          have HT2 : Hid (TrsIn m' W (.slice pt2 Kt2 ct2) yl) := T2.out.belowT hbB
          clear hbB HB1 HB2 T1 T2 p0 p1 o0 o1 hz1 hz2 hz3 hz4 q13 q23 hbel
          generalize wr.heap.size + 1 = GY at hX1 hX2 ⊢
          generalize wr.heap.size = GX at hX1 hX2 ⊢
          rotate_left
          have hbA : Below w.heap.size w ((wr.alloc (Obj.cells #[Value.int IntKind.i64 yt,Value.slice pt2 Kt2 ct2] 63)).alloc (Obj.cells #[Value.int IntKind.i64 xt,Value.slice pt Kt ct] 63)).drew := ((hbel.alloc hbel.size _).alloc (by have := hbel.size; simp; omega) _).drew
          have hbB : Below wr.heap.size wr ((wr.alloc (Obj.cells #[Value.int IntKind.i64 yt,Value.slice pt2 Kt2 ct2] 63)).alloc (Obj.cells #[Value.int IntKind.i64 xt,Value.slice pt Kt ct] 63)).drew := (((Below.refl _ _).alloc (Nat.le_refl _) _).alloc (by simp) _).drew
          have hX1 : Blk ((wr.alloc (Obj.cells #[Value.int IntKind.i64 yt,Value.slice pt2 Kt2 ct2] 63)).alloc (Obj.cells #[Value.int IntKind.i64 xt,Value.slice pt Kt ct] 63)).drew (wr.heap.size + 1) #[Value.int IntKind.i64 xt,Value.slice pt Kt ct] 63 := (blk_new2 wr _ _ _).below (Below.refl _ _).drew
          have hX2 : Blk ((wr.alloc (Obj.cells #[Value.int IntKind.i64 yt,Value.slice pt2 Kt2 ct2] 63)).alloc (Obj.cells #[Value.int IntKind.i64 xt,Value.slice pt Kt ct] 63)).drew wr.heap.size #[Value.int IntKind.i64 yt,Value.slice pt2 Kt2 ct2] 63 := ((Blk.new wr _ _).below ((Below.refl _ _).alloc (Nat.le_refl _) _)).below (Below.refl _ _).drew
          generalize ((wr.alloc (Obj.cells #[Value.int IntKind.i64 yt,Value.slice pt2 Kt2 ct2] 63)).alloc (Obj.cells #[Value.int IntKind.i64 xt,Value.slice pt Kt ct] 63)).drew = W at hbA hbB hX1 hX2 ⊢
          have HY1 : Hid (Blk W w.heap.size #[.int .i64 K,.int .i64 N,.string S,.slice (some ⟨g,off,none⟩) Ke ce,.slice pr Kr cr] 39) := HB1.out.below hbB
          have HY2 : Hid (Blk W (w.heap.size + 1) #[.int .i64 K,.int .i64 N,.string S,.slice (some ⟨g2,off2,none⟩) Ke ce2,.slice pr2 Kr cr2] 39) := HB2.out.below hbB
          have HT1 : Hid (TrsIn n' W (.slice pt Kt ct) xl) := T1.out.belowT hbB
          have HT2 : Hid (TrsIn m' W (.slice pt2 Kt2 ct2) yl) := T2.out.belowT hbB
          clear hbB HB1 HB2 T1 T2 p0 p1 o0 o1 hz1 hz2 hz3 hz4 q13 q23 hbel
          generalize wr.heap.size + 1 = GX at hX1 hX2 ⊢
          generalize wr.heap.size = GY at hX1 hX2 ⊢
          all_goals
           have a0 := hX1.cell 0
           have a1 := hX1.cell 1
           have b0 := hX2.cell 0
           have b1 := hX2.cell 1
           simp at a0 a1 b0 b1
           by_cases ht : xt = yt
           ·subst ht
            by_cases hk : Kt = Kt2
            ·subst hk
             have HZ1 : Hid (Blk W GX #[Value.int IntKind.i64 xt,Value.slice pt Kt ct] 63) := hX1
             have HZ2 : Hid (Blk W GY #[Value.int IntKind.i64 xt,Value.slice pt2 Kt ct2] 63) := hX2
             clear hX1 hX2
             go_wp2_with fail
             clear a0 a1 b0 b1
             go_loopw [9] (fun iv wz => ∃ j : Nat,iv = .int .i64 (j : Int) ∧ j ≤ Kt ∧ Hid (∀ l,l < j → xl[l]? = yl[l]?) ∧ Below w.heap.size w wz ∧ Below W.heap.size W wz) (fun iv _ => Kt - (intOf iv).toNat)
             case atStart => exact ⟨0,rfl,by omega,(fun j hj => absurd hj (by omega) : ∀ l,l < 0 → xl[l]? = yl[l]?),hbA,Below.refl _ _⟩
             case round =>
              obtain ⟨j,rfl,hj,HL,hbel,hbW⟩ := hrel
              have a1 := (HZ1.out.below hbW).cell 1
              have b1 := (HZ2.out.below hbW).cell 1
              simp at a1 b1
              by_cases hlt2 : j < Kt
              ·obtain ⟨x,hx⟩ : ∃ r,xl[j]? = some r := ⟨_,List.getElem?_eq_getElem (by rw [HKt.out]; exact hlt2)⟩
               obtain ⟨y,hy⟩ : ∃ r,yl[j]? = some r := ⟨_,List.getElem?_eq_getElem (by rw [HKt2.out]; exact hlt2)⟩
               obtain ⟨g3,off3,rfl,c1⟩ := (HT1.out.belowT hbW).get hx
               obtain ⟨g4,off4,rfl,c2⟩ := (HT2.out.belowT hbW).get hy
               obtain ⟨z1,n1,d1,z2,n2,d2,p0,p1,p2,p3,p4,p5⟩ := trs_get c1
               obtain ⟨z3,n3,d3,z4,n4,d4,o0,o1,o2,o3,o4,o5⟩ := trs_get c2
               have HX2 : Hid (xl[j]? = some x) := hx
               have HY2 : Hid (yl[j]? = some y) := hy
               clear c1 c2 hx hy
               by_cases hxy : x = y
               ·have HC : Hid (∀ W1,Below wr.heap.size wr W1 → Calls Tryz.prog 15 #[.agg #[.int .i64 x.kind,.int .i64 x.n,.string x.s,.slice z1 n1 d1,.slice z2 n2 d2],.agg #[.int .i64 y.kind,.int .i64 y.n,.string y.s,.slice z3 n3 d3,.slice z4 n4 d4]] W1 fun e W' => e = .returned (.bool true) ∧ Below wr.heap.size wr W') := fun W1 hW1 => by
                 refine (IH m' x y _ _ W1 (p5.below hW1) (o5.below hW1)).mono ?_
                 rintro e W' ⟨⟨R,rfl,hR⟩,hb⟩
                 rw [hR.2 hxy]
                 exact ⟨rfl,hW1.trans (hb.mono hW1.size)⟩
                have k1 := kept_cellT a1
                have k2 := kept_cellT b1
                have k3 := kept_cellT p0
                have k4 := kept_cellT p1
                have k5 := kept_cellT p2
                have k6 := kept_cellT p3
                have k7 := kept_cellT p4
                have k8 := kept_cellT o0
                have k9 := kept_cellT o1
                have k10 := kept_cellT o2
                have k11 := kept_cellT o3
                have k12 := kept_cellT o4
                have HXY : Hid (x = y) := hxy
                clear p0 p1 p2 p3 p4 p5 o0 o1 o2 o3 o4 o5 hxy
                go_wp2_with fail
                clear a1 b1
                haveI := nonempty_qb (Below.refl wr.heap.size wr)
                refine wp_region_qb (Below.refl wr.heap.size wr) (by kernel_rfl) (by kernel_rfl) ?_
                repeat (go_big_quiet_step (first | (go_at_call 15; exact qb_call HC.out)))
                refine wpQuiet_nil ?_
                rintro _ ⟨⟨W1,hW1⟩,rfl⟩
                have hb1 := hbel.trans (hW1.mono hbel.size)
                have hb2 := hbW.trans (hW1.mono hbW.size)
                clear k1 k2 k3 k4 k5 k6 k7 k8 k9 k10 k11 k12 hW1 hbel hbW
                go_wp2_with fail
                go_roundw
                case rel => exact ⟨j + 1,by go_num,by omega,(fun l hl => by
                 rcases Nat.lt_or_eq_of_le (Nat.le_of_lt_succ hl) with h | h
                 ·exact HL.out l h
                 ·subst h; rw [HX2.out,HY2.out,HXY.out] : ∀ l,l < j + 1 → xl[l]? = yl[l]?),hb1,hb2⟩
                case measure => simp [intOf]; omega
               ·have hne : a ≠ b := fun e => hxy (by
                 have h1 := HX.out
                 rw [e,HY.out] at h1
                 have h2 := (Prod.mk.inj (Option.some.inj h1)).2
                 have h3 := HX2.out
                 rw [← h2,HY2.out] at h3
                 exact (Option.some.inj h3).symm)
                have HC : Hid (∀ W1,Below wr.heap.size wr W1 → Calls Tryz.prog 15 #[.agg #[.int .i64 x.kind,.int .i64 x.n,.string x.s,.slice z1 n1 d1,.slice z2 n2 d2],.agg #[.int .i64 y.kind,.int .i64 y.n,.string y.s,.slice z3 n3 d3,.slice z4 n4 d4]] W1 fun e W' => e = .returned (.bool false) ∧ Below wr.heap.size wr W') := fun W1 hW1 => by
                 refine (IH m' x y _ _ W1 (p5.below hW1) (o5.below hW1)).mono ?_
                 rintro e W' ⟨⟨R,rfl,hR⟩,hb⟩
                 have : R = false := by cases R; rfl; exact absurd (hR.1 rfl) hxy
                 rw [this]
                 exact ⟨rfl,hW1.trans (hb.mono hW1.size)⟩
                have k1 := kept_cellT a1
                have k2 := kept_cellT b1
                have k3 := kept_cellT p0
                have k4 := kept_cellT p1
                have k5 := kept_cellT p2
                have k6 := kept_cellT p3
                have k7 := kept_cellT p4
                have k8 := kept_cellT o0
                have k9 := kept_cellT o1
                have k10 := kept_cellT o2
                have k11 := kept_cellT o3
                have k12 := kept_cellT o4
                have HNE : Hid (a ≠ b) := hne
                clear p0 p1 p2 p3 p4 p5 o0 o1 o2 o3 o4 o5 hxy hne
                go_wp2_with fail
                clear a1 b1
                haveI := nonempty_qb (Below.refl wr.heap.size wr)
                refine wp_region_qb (Below.refl wr.heap.size wr) (by kernel_rfl) (by kernel_rfl) ?_
                repeat (go_big_quiet_step (first | (go_at_call 15; exact qb_call HC.out)))
                refine wpQuiet_nil ?_
                rintro _ ⟨⟨W1,hW1⟩,rfl⟩
                have hb1 := hbel.trans (hW1.mono hbel.size)
                clear k1 k2 k3 k4 k5 k6 k7 k8 k9 k10 k11 k12 hW1 hbel hbW
                go_wp2_with fail
                go_ret
                exact ⟨sam_no HNE.out,hb1⟩
              ·have hle : xl = yl := list_ext (by rw [HKt.out,HKt2.out]) (fun l hl => HL.out l (by rw [HKt.out] at hl; omega))
               have HLE : Hid (xl = yl) := hle
               clear hle HL
               go_wp2_with fail
               clear a1 b1
               go_roundw
               case rel => exact ⟨i + 1,by go_num,by omega,(fun l hl => by
                 rcases Nat.lt_or_eq_of_le (Nat.le_of_lt_succ hl) with h | h
                 ·exact HJ.out l h
                 ·subst h; rw [HX.out,HY.out,HLE.out] : ∀ l,l < i + 1 → a.es[l]? = b.es[l]?),hbel,HY1.out.below hbW,HY2.out.below hbW⟩
               case measure => simp [intOf]; omega
            ·have hne : a ≠ b := fun e => hk (by
              have h1 := HX.out
              rw [e,HY.out] at h1
              have h2 := (Prod.mk.inj (Option.some.inj h1)).2
              rw [← HKt.out,← HKt2.out,h2])
             have hd : ((Kt : Int) != (Kt2 : Int)) = true := by simp; omega
             clear hX1 hX2 HX HY HKt HKt2
             go_wp2_with fail
             go_ret
             exact ⟨sam_no hne,hbA⟩
           ·have hne : a ≠ b := fun e => ht (by
             have h1 := HX.out
             rw [e,HY.out] at h1
             exact (Prod.mk.inj (Option.some.inj h1)).1.symm)
            have hd : (xt != yt) = true := by simpa using ht
            clear hX1 hX2 HX HY HKt HKt2
            go_wp2_with fail
            go_ret
            exact ⟨sam_no hne,hbA⟩
         ·have hje : a.es = b.es := list_ext (by rw [HKe.out,HKe2.out]) (fun j hj => HJ.out j (by rw [HKe.out] at hj; omega))
          have hab : a = b := tr_ext HK.out.1 HK.out.2.1 HK.out.2.2 hje HJE.out
          clear hje HJ HB1 HB2 HJE
          have HAB : Hid (a = b) := hab
          clear hab
          go_wp2_with fail
          go_ret
          exact ⟨sam_yes HAB.out,hbel⟩
     ·have hne : a ≠ b := fun e => hr (by rw [← HKr.out,← HKr2.out,e])
      have hd : ((Kr : Int) != (Kr2 : Int)) = true := by simp; omega
      subst he
      rw [← hk,← hn,← hs]
      clear hk hn hs hr
      obtain ⟨K,hK⟩ : ∃ K,a.kind = K := ⟨_,rfl⟩
      obtain ⟨N,hN⟩ : ∃ K,a.n = K := ⟨_,rfl⟩
      obtain ⟨S,hS⟩ : ∃ K,a.s = K := ⟨_,rfl⟩
      rw [hK,hN,hS]
      clear hK hN hS
      go_enter Tryz.func15,Tryz.ntmps15
      go_wp2_with fail
      go_ret
      exact ⟨sam_no hne,((Below.refl _ _).alloc (Nat.le_refl _) _).alloc (by simp) _⟩
    ·have hne : a ≠ b := fun e => he (by rw [← HKe.out,← HKe2.out,e])
     have hd : ((Ke : Int) != (Ke2 : Int)) = true := by simp; omega
     rw [← hk,← hn,← hs]
     clear hk hn hs he
     obtain ⟨K,hK⟩ : ∃ K,a.kind = K := ⟨_,rfl⟩
     obtain ⟨N,hN⟩ : ∃ K,a.n = K := ⟨_,rfl⟩
     obtain ⟨S,hS⟩ : ∃ K,a.s = K := ⟨_,rfl⟩
     rw [hK,hN,hS]
     clear hK hN hS
     go_enter Tryz.func15,Tryz.ntmps15
     go_wp2_with fail
     go_ret
     exact ⟨sam_no hne,((Below.refl _ _).alloc (Nat.le_refl _) _).alloc (by simp) _⟩
   ·have hne : a ≠ b := fun e => hs (by rw [e])
    have hd : (a.s.toList == b.s.toList) = false := by simpa using fun h => hs (toList_ext h)
    rw [← hk,← hn]
    clear hk hn hs
    obtain ⟨K,hK⟩ : ∃ K,a.kind = K := ⟨_,rfl⟩
    obtain ⟨N,hN⟩ : ∃ K,a.n = K := ⟨_,rfl⟩
    obtain ⟨S,hS⟩ : ∃ K,a.s = K := ⟨_,rfl⟩
    obtain ⟨S2,hS2⟩ : ∃ K,b.s = K := ⟨_,rfl⟩
    rw [hS,hS2] at hd
    rw [hK,hN,hS,hS2]
    clear hK hN hS hS2
    go_enter Tryz.func15,Tryz.ntmps15
    go_wp2_with fail
    go_ret
    exact ⟨sam_no hne,((Below.refl _ _).alloc (Nat.le_refl _) _).alloc (by simp) _⟩
  ·have hne : a ≠ b := fun e => hn (by rw [e])
   have hd : (a.n != b.n) = true := by simpa using hn
   rw [← hk]
   clear hk hn
   obtain ⟨K,hK⟩ : ∃ K,a.kind = K := ⟨_,rfl⟩
   obtain ⟨N,hN⟩ : ∃ K,a.n = K := ⟨_,rfl⟩
   obtain ⟨N2,hN2⟩ : ∃ K,b.n = K := ⟨_,rfl⟩
   rw [hN,hN2] at hd
   rw [hK,hN,hN2]
   clear hK hN hN2
   go_enter Tryz.func15,Tryz.ntmps15
   go_wp2_with fail
   go_ret
   exact ⟨sam_no hne,((Below.refl _ _).alloc (Nat.le_refl _) _).alloc (by simp) _⟩
 ·have hne : a ≠ b := fun e => hk (by rw [e])
  obtain ⟨K,hK⟩ : ∃ K,a.kind = K := ⟨_,rfl⟩
  obtain ⟨K2,hK2⟩ : ∃ K,b.kind = K := ⟨_,rfl⟩
  rw [hK,hK2] at hk ⊢
  have h1 : (K != K2) = true := by simpa using hk
  clear hK hK2 hk
  go_enter Tryz.func15,Tryz.ntmps15
  go_wp2_with fail
  go_ret
  exact ⟨sam_no hne,((Below.refl _ _).alloc (Nat.le_refl _) _).alloc (by simp) _⟩
theorem rsame_any : ∀ (n m : Nat) (a b : Tr) (va vb : Value) (w : World),TrIn n w va a → TrIn m w vb b → Calls Tryz.prog 15 #[va,vb] w fun e w' => SamT a b e ∧ Below w.heap.size w w'
 | 0,_,a,_,_,_,_,ha,_ => by obtain ⟨r,_,h⟩ := ha; exact h.elim
 | n + 1,m,a,b,va,vb,w,ha,hb => rsame_step n m (fun m' a b va vb w ha hb => rsame_any n m' a b va vb w ha hb) a b va vb w ha hb
end Go.Proofs.YtiajaocckkghgabGreat

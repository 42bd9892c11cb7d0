/- Part 17 of what the proof stands on. -/
import Derived.Test.YtiajaocckkghgaaGreatPkTAP
import Derived.Deep.LoopGhost
namespace Go.Proofs.YtiajaocckkghgaaGreat
set_option maxHeartbeats 8000000
set_option linter.unusedVariables false
set_option linter.unusedSimpArgs false
set_option maxRecDepth 20000
open Go.ChangeShapes Go.WideShapes Go.ChangeAt Go.RowKit
def LowT (n m : Nat) (w : World) (x : Tr) : Prop := ∀ r,TrC n w r x → TrC m w r x
def cntL (m : Nat) (ts : List Tr) : Nat := (ts.map (cntN m)).sum
def cntE (m : Nat) (es : List (Int × List Tr)) : Nat := cntL m (subs es)
theorem cntE_snoc (m : Nat) (es : List (Int × List Tr)) (e : Int × List Tr) : cntE m (es ++ [e]) = cntE m es + cntL m e.2 := by
 simp [cntE,cntL,subs,List.flatMap_append,List.map_append,List.sum_append]
theorem cntL_snoc (m : Nat) (ts : List Tr) (t : Tr) : cntL m (ts ++ [t]) = cntL m ts + cntN m t := by
 simp [cntL,List.map_append,List.sum_append]
theorem take_snocT {α : Type} {l : List α} {i : Nat} {x : α} (h : l[i]? = some x) : l.take (i + 1) = l.take i ++ [x] := by
 obtain ⟨hl,rfl⟩ := List.getElem?_eq_some_iff.1 h;rw [List.take_succ_eq_append_getElem hl]
theorem low_up {n m : Nat} {w : World} {t : Tr} (h : ∀ e ∈ t.es,∀ x ∈ e.2,LowT n m w x) : LowT (n + 1) (m + 1) w t := by
 intro r hr;obtain ⟨ve,vr,h1,h2,h3,h4,h5,h6,h7⟩ := hr;refine ⟨ve,vr,h1,h2,h3,h4,h5,h6,h7.imp fun r x hx hp => ?_⟩;obtain ⟨vt,g1,g2,g3⟩ := hp;exact ⟨vt,g1,g2,g3.imp fun r y hy hp => h x hx y hy r hp⟩
theorem kp_set_alloc (w : World) (g i : Nat) (u : Value) (o : Obj) : Kp (fun b => b = g) w ((w.setCell ⟨g,i,none⟩ u).alloc o) := Kp.alloc (Kp.setCell (S := fun b => b = g) (p := ⟨g,i,none⟩) (Kp.refl (fun b => b = g) w) (fun _ => (rfl : g = g)) u) o
theorem blk_new2T (w : World) (o : Obj) (cs : Array Value) (t : TypeId) : Blk ((w.alloc o).alloc (.cells cs t)) (w.heap.size + 1) cs t := by
 have := Blk.new (w.alloc o) cs t
 rwa [show (w.alloc o).heap.size = w.heap.size + 1 from by simp] at this
def SmlP (n d : Nat) (t : Tr) (g : Nat) (c : Nat) (w0 w : World) (e : Ending) (w' : World) : Prop :=
 ∃ (r : Bool) (c' : Nat),e = .returned (.bool r) ∧ Blk w' g #[.int .i64 (c' : Int)] 3 ∧ c' ≤ 201 ∧ Kp (fun b => b = g) w w' ∧ (r = true → ∃ m,d + (m + 1) = 14 ∧ SmN (m + 1) t ∧ c' = c + cntN (m + 1) t ∧ c' ≤ 200 ∧ LowT n (m + 1) w0 t)
theorem sml_no {n d g c : Nat} {t : Tr} {w0 w w' : World} {c' : Nat} (h1 : Blk w' g #[.int .i64 (c' : Int)] 3) (h2 : c' ≤ 201) (h3 : Kp (fun b => b = g) w w') : SmlP n d t g c w0 w (.returned (.bool false)) w' :=
 ⟨false,c',rfl,h1,h2,h3,by simp⟩
theorem small_step (n : Nat) (w0 : World)
  (IH : ∀ (t : Tr) (v : Value) (d g c : Nat) (w : World),TrIn n w0 v t → Below w0.heap.size w0 w → w0.heap.size ≤ g → Blk w g #[.int .i64 (c : Int)] 3 → c ≤ 200 → d ≤ 14 → Calls Tryz.prog 36 #[v,.int .i64 (d : Int),.pointer (some ⟨g,0,none⟩)] w (SmlP n d t g c w0 w))
  (t : Tr) (v : Value) (d g c : Nat) (w : World) (ht : TrIn (n + 1) w0 v t) (hb0 : Below w0.heap.size w0 w) (hg0 : w0.heap.size ≤ g) (hB : Blk w g #[.int .i64 (c : Int)] 3) (hc : c ≤ 200) (hd : d ≤ 14) :
  Calls Tryz.prog 36 #[v,.int .i64 (d : Int),.pointer (some ⟨g,0,none⟩)] w (SmlP (n + 1) d t g c w0 w) := by
 obtain ⟨n',ve,vr,e0,rfl,ka,na,sa,fa,ra,ea⟩ := ht.open
 obtain rfl : n' = n := by omega
 clear e0 ht;obtain ⟨pe,ce,rfl,u1,u2, -⟩ := ea.open;obtain ⟨pr,cr,rfl,x1,x2, -⟩ := rest_holds ra;unfold maxLen at u2 x2;obtain ⟨Ke,hKe⟩ : ∃ K,t.es.length = K := ⟨_,rfl⟩;obtain ⟨Kr,hKr⟩ : ∃ K,t.rest.length = K := ⟨_,rfl⟩;rw [hKe] at u1 ⊢;rw [hKr] at x1 ⊢;have EA : Hid (EnsIn n' w0 (.slice pe Ke ce) t.es) := hid (by rw [← hKe]; exact ea);have RA : Hid (RowG w0 (.slice pr Kr cr) 4 (fdRows t.rest)) := hid (by rw [← hKr]; exact ra);have HKe : Hid (t.es.length = Ke) := hKe;have HKr : Hid (t.rest.length = Kr) := hKr;have HFA : Hid (∀ f ∈ t.rest,f.b.size ≤ 140737488351232) := fun f hf => (fa f hf).2.2.2
 clear hKe hKr ea ra fa ka na;obtain ⟨K,hK⟩ : ∃ K,t.kind = K := ⟨_,rfl⟩;obtain ⟨N,hN⟩ : ∃ K,t.n = K := ⟨_,rfl⟩;obtain ⟨S,hS⟩ : ∃ K,t.s = K := ⟨_,rfl⟩;rw [hS] at sa;rw [hK,hN,hS];have HS : Hid (t.s = S) := hS;clear hK hN hS;have hgw := hB.lt;have cB := hB.cell 0;have fB := hB.froz 0
 simp at cB
 have HB : Hid (Blk w g #[.int .i64 (c : Int)] 3) := hB;clear hB
 by_cases h1 : c < 200
 ·have d1 : decide (200 < (c : Int) + 1) = false := by simp; omega
  by_cases h2 : d ≤ 13
  ·have d2 : decide (13 < (d : Int)) = false := by simp; omega
   by_cases h3 : S.size ≤ 5000
   ·have d3 : decide (5000 < (S.size : Int)) = false := by simp; omega
    by_cases h4 : Kr ≤ 40
    ·have d4 : decide (40 < (Kr : Int)) = false := by simp; omega
     by_cases h5 : Ke ≤ 40
     ·have d5 : decide (40 < (Ke : Int)) = false := by simp; omega
      go_enter Tryz.func36,Tryz.ntmps36
      go_wp2_with fail;have hBg : Blk ((w.setCell ⟨g,0,none⟩ (.int .i64 ((c : Int) + 1))).alloc (Obj.cells #[.int .i64 K,.int .i64 N,.string S,.slice pe Ke ce,.slice pr Kr cr] 33)) g #[.int .i64 ((c + 1 : Nat) : Int)] 3 := (HB.out.set 0 (.int .i64 ((c : Int) + 1)) (by simp)).below (bra _)
      have hBox : Blk ((w.setCell ⟨g,0,none⟩ (.int .i64 ((c : Int) + 1))).alloc (Obj.cells #[.int .i64 K,.int .i64 N,.string S,.slice pe Ke ce,.slice pr Kr cr] 33)) w.heap.size #[.int .i64 K,.int .i64 N,.string S,.slice pe Ke ce,.slice pr Kr cr] 33 := by
       have := Blk.new (w.setCell ⟨g,0,none⟩ (.int .i64 ((c : Int) + 1))) #[.int .i64 K,.int .i64 N,.string S,.slice pe Ke ce,.slice pr Kr cr] 33
       rwa [show (w.setCell ⟨g,0,none⟩ (.int .i64 ((c : Int) + 1))).heap.size = w.heap.size from by simp [World.setCell]] at this
      have hKp : Kp (fun b => b = g) w ((w.setCell ⟨g,0,none⟩ (.int .i64 ((c : Int) + 1))).alloc (Obj.cells #[.int .i64 K,.int .i64 N,.string S,.slice pe Ke ce,.slice pr Kr cr] 33)) := kp_set_alloc _ _ _ _ _;generalize ((w.setCell ⟨g,0,none⟩ (.int .i64 ((c : Int) + 1))).alloc (Obj.cells #[.int .i64 K,.int .i64 N,.string S,.slice pe Ke ce,.slice pr Kr cr] 33)) = W at hBg hBox hKp ⊢;clear cB fB HB d1 d2 d3 d4 d5;have hbW : Below w0.heap.size w0 W := hb0.trans (hKp.toBelow hb0.size (fun k hk => by omega))
      have hHg : w.heap.size ≠ g := by omega
      have HBG : Hid (Blk W g #[.int .i64 ((c + 1 : Nat) : Int)] 3) := hBg;have HBX : Hid (Blk W w.heap.size #[.int .i64 K,.int .i64 N,.string S,.slice pe Ke ce,.slice pr Kr cr] 33) := hBox;have q4 := hBox.cell 4;have q3 := hBox.cell 3
      simp at q4 q3
      clear hBg hBox
      go_loop [7] (fun iv => ∃ i : Nat,iv = .int .i64 (i : Int) ∧ i ≤ Kr ∧ Hid (∀ j f,j < i → t.rest[j]? = some f → f.b.size ≤ 5000)) (fun iv => Kr - (intOf iv).toNat)
      case atStart => exact ⟨0,rfl,by omega,(fun j f hj => absurd hj (by omega) : ∀ j f,j < 0 → t.rest[j]? = some f → f.b.size ≤ 5000)⟩
      case round =>
       obtain ⟨i,rfl,hi,HJ⟩ := hrel
       by_cases hlt : i < Kr
       ·obtain ⟨r,hr⟩ : ∃ r,t.rest[i]? = some r := ⟨_,List.getElem?_eq_getElem (by rw [HKr.out]; exact hlt)⟩;obtain ⟨gr,off,rfl,c1⟩ := (RA.out.below hbW).get (show (fdRows t.rest)[i]? = some r.cells by simp [fdRows,hr]);have p3 := c1 3 _ rfl;have hbs := HFA.out r (List.mem_of_getElem? hr);have HR : Hid (t.rest[i]? = some r) := hr;obtain ⟨rt,rk,rn,rb⟩ := r;simp only at p3 hbs;clear c1 hr q3
        by_cases hbl : rb.size ≤ 5000
        ·have d6 : decide (5000 < (rb.size : Int)) = false := by simp; omega
         go_wp2_with fail
         go_round
         case rel => exact ⟨i + 1,by go_num,by omega,(fun j f hj hf => by
          rcases Nat.lt_or_eq_of_le (Nat.le_of_lt_succ hj) with h | h
          ·exact HJ.out j f h hf
          ·subst h; rw [HR.out] at hf; cases hf; exact hbl : ∀ j f,j < i + 1 → t.rest[j]? = some f → f.b.size ≤ 5000)⟩
         case measure => simp [intOf]; omega
        ·have d6 : decide (5000 < (rb.size : Int)) = true := by simp; omega
         go_wp2_with fail;go_ret;exact sml_no HBG.out (by omega) hKp
       ·have hrs : ∀ f ∈ t.rest,f.b.size ≤ 5000 := fun f hf => by
         obtain ⟨j,hj,e⟩ := List.getElem_of_mem hf;exact HJ.out j f (by rw [HKr.out] at hj; omega) (by rw [List.getElem?_eq_getElem hj,e])
        have HRS : Hid (∀ f ∈ t.rest,f.b.size ≤ 5000) := hrs;clear HJ hrs RA;obtain ⟨m,hm⟩ : ∃ m,d + (m + 1) = 14 := ⟨13 - d,by omega⟩;have HM : Hid (d + (m + 1) = 14) := hm;clear hm;go_wp2_with fail;clear q3 q4
        go_loopw [8] (fun iv wr => ∃ i c1 : Nat,iv = .int .i64 (i : Int) ∧ i ≤ Ke ∧ c1 ≤ 200 ∧ Hid (c1 = c + 1 + cntE m (t.es.take i)) ∧ Hid (∀ e ∈ t.es.take i,e.2.length ≤ 70 ∧ ∀ x ∈ e.2,SmN m x ∧ LowT n' m w0 x) ∧ Hid (Blk wr g #[.int .i64 (c1 : Int)] 3) ∧ Hid (Blk wr w.heap.size #[.int .i64 K,.int .i64 N,.string S,.slice pe Ke ce,.slice pr Kr cr] 33) ∧ Kp (fun b => b = g) w wr) (fun iv _ => Ke - (intOf iv).toNat)
        case atStart => exact ⟨0,c + 1,rfl,by omega,by omega,(by simp [cntE,cntL,subs] : c + 1 = c + 1 + cntE m (t.es.take 0)),(by simp : ∀ e ∈ t.es.take 0,e.2.length ≤ 70 ∧ ∀ x ∈ e.2,SmN m x ∧ LowT n' m w0 x),HBG,HBX,hKp⟩
        case round =>
         clear hi hlt HBG HBX hKp hbW;obtain ⟨i,c1,rfl,hi,hc1,HC,HE,HBG,HBX,hKp⟩ := hrel;have hbW : Below w0.heap.size w0 wr := hb0.trans (hKp.toBelow hb0.size (fun k hk => by omega));have q3 := HBX.out.cell 3
         simp at q3
         by_cases hlt : i < Ke
         ·obtain ⟨x,hx⟩ : ∃ r,t.es[i]? = some r := ⟨_,List.getElem?_eq_getElem (by rw [HKe.out]; exact hlt)⟩;obtain ⟨ge,off,rfl,cc⟩ := (EA.out.belowE hbW).get hx;obtain ⟨vt,p0,p1,p2,p3⟩ := ens_at cc;obtain ⟨ge',off',ee,cc'⟩ := EA.out.get hx
          obtain ⟨rfl,rfl⟩ : ge = ge' ∧ off = off' := by simpa using ee
          obtain ⟨vt',p0',p1',p2',p3'⟩ := ens_at cc'
          obtain rfl : vt = vt' := by
           have := p1;rw [hbW.cell (World.block_lt_of_cell? _ _ p1'),p1'] at this;exact (Option.some.inj this).symm
          obtain ⟨pt,ct,rfl,t1,t2,t3,t4,t5⟩ := p3'.open;unfold maxLen at t2;have HX : Hid (t.es[i]? = some x) := hx;obtain ⟨xt,xl⟩ := x;simp only at p1 p1' t1 p3';obtain ⟨Kt,hKt⟩ : ∃ K,xl.length = K := ⟨_,rfl⟩;rw [hKt] at p1 t1;have T1 : Hid (TrsIn n' w0 (.slice pt Kt ct) xl) := hid (by rw [← hKt]; exact p3');have HKt : Hid (xl.length = Kt) := hKt;rw [hKt] at p1';have PV : Hid (w0.cell? ⟨ge,off + i * 2 + 1,none⟩ = some (.slice pt Kt ct)) := p1';clear t3 t4 t5 hx cc cc' p0 p2 p3 p0' p1' p2' p3' hKt ee
          by_cases hkt : Kt ≤ 70
          ·have d7 : decide (70 < (Kt : Int)) = false := by simp; omega
           go_wp2_with fail;clear q3 p1
           go_loopw [9] (fun iv wz => ∃ j c2 : Nat,iv = .int .i64 (j : Int) ∧ j ≤ Kt ∧ c2 ≤ 200 ∧ Hid (c2 = c1 + cntL m (xl.take j)) ∧ Hid (∀ x ∈ xl.take j,SmN m x ∧ LowT n' m w0 x) ∧ Hid (Blk wz g #[.int .i64 (c2 : Int)] 3) ∧ Hid (Blk wz w.heap.size #[.int .i64 K,.int .i64 N,.string S,.slice (some ⟨ge,off,none⟩) Ke ce,.slice pr Kr cr] 33) ∧ Kp (fun b => b = g) w wz) (fun iv _ => Kt - (intOf iv).toNat)
           case atStart => exact ⟨0,c1,rfl,by omega,by omega,(by simp [cntL] : c1 = c1 + cntL m (xl.take 0)),(by simp : ∀ x ∈ xl.take 0,SmN m x ∧ LowT n' m w0 x),HBG,HBX,hKp⟩
           case round =>
            clear HBG HBX hKp hbW;obtain ⟨j,c2,rfl,hj,hc2,HD,HL,HBG,HBX,hKp⟩ := hrel;have hbW : Below w0.heap.size w0 wr := hb0.trans (hKp.toBelow hb0.size (fun k hk => by omega));have q3 := HBX.out.cell 3
            simp at q3
            obtain ⟨ge',off',ee,cc'⟩ := EA.out.get HX.out
            obtain ⟨rfl,rfl⟩ : ge = ge' ∧ off = off' := by simpa using ee
            obtain ⟨vt',p0',p1',p2',p3'⟩ := ens_at cc'
            obtain rfl : vt' = .slice pt Kt ct := by
             have := PV.out;rw [p1'] at this;exact Option.some.inj this
            have p1 : wr.cell? ⟨ge,off + i * 2 + 1,none⟩ = some (.slice pt Kt ct) := by rw [hbW.cell (World.block_lt_of_cell? _ _ p1')]; exact p1'
            clear p0' p1' p2' p3' cc' ee
            by_cases hlt2 : j < Kt
            ·obtain ⟨x,hx⟩ : ∃ r,xl[j]? = some r := ⟨_,List.getElem?_eq_getElem (by rw [HKt.out]; exact hlt2)⟩;obtain ⟨g3,off3,rfl,k1⟩ := T1.out.get hx;obtain ⟨z1,n1,e1,z2,n2,e2,y0,y1,y2,y3,y4,y5⟩ := trs_get k1;have r0 := (hbW.cell (World.block_lt_of_cell? _ _ y0)).trans y0;have r1 := (hbW.cell (World.block_lt_of_cell? _ _ y1)).trans y1;have r2 := (hbW.cell (World.block_lt_of_cell? _ _ y2)).trans y2;have r3 := (hbW.cell (World.block_lt_of_cell? _ _ y3)).trans y3;have r4 := (hbW.cell (World.block_lt_of_cell? _ _ y4)).trans y4;have HX2 : Hid (xl[j]? = some x) := hx;have HC3 : Hid (Calls Tryz.prog 36 #[.agg #[.int .i64 x.kind,.int .i64 x.n,.string x.s,.slice z1 n1 e1,.slice z2 n2 e2],.int .i64 ((d + 1 : Nat) : Int),.pointer (some ⟨g,0,none⟩)] wr (SmlP n' (d + 1) x g c2 w0 wr)) := IH x _ (d + 1) g c2 wr y5 hbW hg0 HBG.out hc2 (by omega);clear y0 y1 y2 y3 y4 y5 k1 hx;go_wp2_with fail;refine HC3.out.mono ?_;rintro e w5 ⟨rr,c3,rfl,hB5,hc3,hKp5,hyes⟩;have hKp6 : Kp (fun b => b = g) w w5 := hKp.trans hKp5;have HBX5 : Hid (Blk w5 w.heap.size #[.int .i64 K,.int .i64 N,.string S,.slice (some ⟨ge,off,none⟩) Ke ce,.slice pr Kr cr] 33) := HBX.out.kp hKp5 hHg;have HB5 : Hid (Blk w5 g #[.int .i64 (c3 : Int)] 3) := hB5;clear hB5 hKp hKp5 HBX HBG q3 p1 r0 r1 r2 r3 r4 HC3
             cases rr with
             | false =>
              clear hyes;go_wp2_with fail;go_ret;exact sml_no HB5.out hc3 hKp6
             | true =>
              obtain ⟨m',hm',s1,s2,s3,s4⟩ := hyes rfl
              have hmm : m = m' + 1 := by have := HM.out; omega
              rw [← hmm] at s1 s2 s4;have HD2 : Hid (c3 = c1 + cntL m (xl.take (j + 1))) := hid (by rw [take_snocT HX2.out,cntL_snoc,s2,HD.out]; omega)
              have HL2 : Hid (∀ x ∈ xl.take (j + 1),SmN m x ∧ LowT n' m w0 x) := hid (by
               intro y hy;rw [take_snocT HX2.out,List.mem_append] at hy
               rcases hy with hy | hy
               ·exact HL.out y hy
               ·obtain rfl : y = x := by simpa using hy
                exact ⟨s1,s4⟩)
              clear hyes hm' hmm s1 s2 s4 HD HL;go_wp2_with fail
              go_roundw
              case rel => exact ⟨j + 1,c3,by go_num,by omega,s3,HD2,HL2,HB5,HBX5,hKp6⟩
              case measure => simp [intOf]; omega
            ·have htk : xl.take j = xl := List.take_of_length_le (by rw [HKt.out]; omega);have HC4 : Hid (c2 = c + 1 + cntE m (t.es.take (i + 1))) := hid (by rw [take_snocT HX.out,cntE_snoc,HD.out,htk,HC.out]; dsimp only; omega)
             have HE4 : Hid (∀ e ∈ t.es.take (i + 1),e.2.length ≤ 70 ∧ ∀ x ∈ e.2,SmN m x ∧ LowT n' m w0 x) := hid (by
              intro y hy;rw [take_snocT HX.out,List.mem_append] at hy
              rcases hy with hy | hy
              ·exact HE.out y hy
              ·obtain rfl : y = (xt,xl) := by simpa using hy
               have := HL.out;rw [htk] at this
               exact ⟨by rw [HKt.out]; exact hkt,this⟩)
             clear htk HD HL HC HE;go_wp2_with fail
             go_roundw
             case rel => exact ⟨i + 1,c2,by go_num,by omega,hc2,HC4,HE4,HBG,HBX,hKp⟩
             case measure => simp [intOf]; omega
          ·have d7 : decide (70 < (Kt : Int)) = true := by simp; omega
           go_wp2_with fail;go_ret;exact sml_no HBG.out (by omega) hKp
         ·have hfin : SmN (m + 1) t ∧ c1 = c + cntN (m + 1) t ∧ LowT (n' + 1) (m + 1) w0 t := by
           have htk : t.es.take i = t.es := List.take_of_length_le (by rw [HKe.out]; omega);have hC := HC.out;have hE := HE.out;rw [htk] at hC hE;refine ⟨⟨by rw [HS.out]; exact h3,by rw [HKr.out]; omega,by rw [HKe.out]; omega,HRS.out,fun e he => ⟨(hE e he).1,fun y hy => ((hE e he).2 y hy).1⟩⟩,?_,low_up fun e he y hy => ((hE e he).2 y hy).2⟩;rw [hC]
           show c + 1 + cntE m t.es = c + (1 + cntE m t.es)
           omega
          have HF : Hid _ := hfin;clear hfin HC HE;go_wp2_with fail;go_ret;exact ⟨true,c1,rfl,HBG.out,by omega,hKp,fun _ => ⟨m,HM.out,HF.out.1,HF.out.2.1,hc1,HF.out.2.2⟩⟩
     ·have d5 : decide (40 < (Ke : Int)) = true := by simp; omega
      have hx := d5
      go_enter Tryz.func36,Tryz.ntmps36
      go_wp2_with fail;go_ret;exact sml_no (c' := c + 1) ((HB.out.set 0 (.int .i64 ((c : Int) + 1)) (by simp)).below (bra _)) (by omega) (kp_set_alloc _ _ _ _ _)
    ·have d4 : decide (40 < (Kr : Int)) = true := by simp; omega
     have hx := d4
     go_enter Tryz.func36,Tryz.ntmps36
     go_wp2_with fail;go_ret;exact sml_no (c' := c + 1) ((HB.out.set 0 (.int .i64 ((c : Int) + 1)) (by simp)).below (bra _)) (by omega) (kp_set_alloc _ _ _ _ _)
   ·have d3 : decide (5000 < (S.size : Int)) = true := by simp; omega
    have hx := d3
    go_enter Tryz.func36,Tryz.ntmps36
    go_wp2_with fail;go_ret;exact sml_no (c' := c + 1) ((HB.out.set 0 (.int .i64 ((c : Int) + 1)) (by simp)).below (bra _)) (by omega) (kp_set_alloc _ _ _ _ _)
  ·have d2 : decide (13 < (d : Int)) = true := by simp; omega
   have hx := d2
   go_enter Tryz.func36,Tryz.ntmps36
   go_wp2_with fail;go_ret;exact sml_no (c' := c + 1) ((HB.out.set 0 (.int .i64 ((c : Int) + 1)) (by simp)).below (bra _)) (by omega) (kp_set_alloc _ _ _ _ _)
 ·have d1 : decide (200 < (c : Int) + 1) = true := by simp; omega
  have hx := d1
  go_enter Tryz.func36,Tryz.ntmps36
  go_wp2_with fail;go_ret;exact sml_no (c' := c + 1) ((HB.out.set 0 (.int .i64 ((c : Int) + 1)) (by simp)).below (bra _)) (by omega) (kp_set_alloc _ _ _ _ _)
theorem small_rec (w0 : World) : ∀ (n : Nat) (t : Tr) (v : Value) (d g c : Nat) (w : World),TrIn n w0 v t → Below w0.heap.size w0 w → w0.heap.size ≤ g → Blk w g #[.int .i64 (c : Int)] 3 → c ≤ 200 → d ≤ 14 → Calls Tryz.prog 36 #[v,.int .i64 (d : Int),.pointer (some ⟨g,0,none⟩)] w (SmlP n d t g c w0 w)
 | 0,t,v,d,g,c,w,h,_,_,_,_,_ => by obtain ⟨r,_,h⟩ := h; exact h.elim
 | n + 1,t,v,d,g,c,w,h,h1,h2,h3,h4,h5 => small_step n w0 (fun t v d g c w => small_rec w0 n t v d g c w) t v d g c w h h1 h2 h3 h4 h5
def SmallP (t : Tr) (v : Value) (w : World) (e : Ending) : Prop := ∃ r : Bool,e = .returned (.bool r) ∧ (r = true → SmN 14 t ∧ cntN 14 t ≤ 200 ∧ TrIn 14 w v t)
theorem small_any (n : Nat) (t : Tr) (v : Value) (w : World) (h : TrIn n w v t) : Calls Tryz.prog 18 #[v] w fun e w' => SmallP t v w e ∧ Below w.heap.size w w' := by
 obtain ⟨m,ve,vr, -,rfl, -, -, -, -,ra,ea⟩ := h.open;obtain ⟨pe,ce,rfl, -⟩ := ea.open;obtain ⟨pr,cr,rfl, -⟩ := rest_holds ra;have HH : Hid _ := h;have hs := fun W hW hg hB => small_rec w n t _ 0 (w.heap.size + 1) 0 W h hW hg hB (by omega) (by omega)
 have HS : Hid _ := hs;clear hs ra ea h;generalize t.es.length = Ke at *;generalize t.rest.length = Kr at *;generalize t.kind = K at *;generalize t.n = N at *;generalize t.s = S at *
 go_enter Tryz.func18,Tryz.ntmps18
 go_wp2_with fail;refine (HS.out _ ((bra _).alloc (by simp) _) (by omega) (blk_new2T w _ _ _)).mono ?_;rintro e w1 ⟨r,c',rfl,h1,h2,h3,h4⟩;have hb : Below w.heap.size w w1 := ((bra _).alloc (by simp) _).trans (h3.toBelow (by simp; omega) (fun k hk => by omega));have H4 : Hid _ := h4;clear h1 h2 h3 h4 HS;go_wp2_with fail;go_ret;refine ⟨⟨r,rfl,fun hr => ?_⟩,hb⟩;obtain ⟨m,hm,s1,s2,s3,s4⟩ := H4.out hr
 obtain rfl : m = 13 := by omega
 refine ⟨s1,(by omega : cntN (13 + 1) t ≤ 200),?_⟩;obtain ⟨q,hq,hq2⟩ := HH.out;exact ⟨q,hq,s4 q hq2⟩
def dpL (m : Nat) (M : List (List (Int × List Tr))) : Nat := if M = [] then 0 else 1 + ((subsL M).map (dpN m)).foldr max 0
theorem mem_subsL {M : List (List (Int × List Tr))} {x : Tr} : x ∈ subsL M ↔ ∃ m ∈ M,x ∈ subs m := by simp [subsL,List.mem_flatMap]
theorem mem_msgsL {ts : List Tr} {m : List (Int × List Tr)} : m ∈ msgsL ts ↔ ∃ t ∈ ts,t.kind = 3 ∧ t.es = m := by
 simp only [msgsL,List.mem_map,List.mem_filter,beq_iff_eq]
 constructor
 ·rintro ⟨t,⟨h1,h2⟩,h3⟩; exact ⟨t,h1,h2,h3⟩
 ·rintro ⟨t,h1,h2,h3⟩; exact ⟨t,⟨h1,h2⟩,h3⟩
theorem dp_step {m : Nat} {ts : List Tr} {M : List (List (Int × List Tr))} (h : MsgS ts M) : (ts.map (dpN (m + 1))).foldr max 0 = dpL m M := by
 apply Nat.le_antisymm
 ·refine foldr_max_le fun d hd => ?_
  obtain ⟨t,ht,rfl⟩ := List.mem_map.1 hd;simp only [dpN]
  split
  ·rename_i hk
   have hm := h.2 t ht hk
   have hne : M ≠ [] := fun e => by rw [e] at hm; cases hm
   rw [dpL,if_neg hne];refine Nat.add_le_add_left (foldr_max_le fun d hd => ?_) 1;obtain ⟨x,hx,rfl⟩ := List.mem_map.1 hd;exact le_foldr_max (List.mem_map_of_mem (mem_subsL.2 ⟨_,hm,hx⟩))
  ·exact Nat.zero_le _
 ·unfold dpL
  split
  ·exact Nat.zero_le _
  ·rename_i hne
   obtain ⟨m0,hm0⟩ := List.exists_mem_of_ne_nil _ hne;obtain ⟨t0,ht0,hk0,rfl⟩ := mem_msgsL.1 (h.1.subset hm0);have hone : 1 ≤ (ts.map (dpN (m + 1))).foldr max 0 := Nat.le_trans (by simp [dpN,hk0]) (le_foldr_max (List.mem_map_of_mem ht0))
   have : ((subsL M).map (dpN m)).foldr max 0 ≤ (ts.map (dpN (m + 1))).foldr max 0 - 1 := foldr_max_le fun d hd => by
    obtain ⟨x,hx,rfl⟩ := List.mem_map.1 hd;obtain ⟨m1,hm1,hx⟩ := mem_subsL.1 hx;obtain ⟨t1,ht1,hk1,rfl⟩ := mem_msgsL.1 (h.1.subset hm1);have h2 : dpN (m + 1) t1 ≤ (ts.map (dpN (m + 1))).foldr max 0 := le_foldr_max (List.mem_map_of_mem ht1);have h3 : dpN m x ≤ ((subs t1.es).map (dpN m)).foldr max 0 := le_foldr_max (List.mem_map_of_mem hx)
    have h4 : dpN (m + 1) t1 = 1 + ((subs t1.es).map (dpN m)).foldr max 0 := by simp [dpN,hk1]
    rw [h4] at h2
    omega
   omega
theorem cntL_zero : ∀ ts : List Tr,cntL 0 ts = 0
 | [] => rfl
 | t :: l => by
  have := cntL_zero l;simp only [cntL,List.map_cons,List.sum_cons,cntN] at this ⊢
  omega
theorem cntL_append (m : Nat) (a b : List Tr) : cntL m (a ++ b) = cntL m a + cntL m b := by simp [cntL,List.sum_append]
theorem cnt_msgs (m : Nat) : ∀ ts : List Tr,cntL m (subsL (msgsL ts)) ≤ cntL (m + 1) ts
 | [] => by simp [cntL,subsL,msgsL]
 | t :: ts => by
  have ih := cnt_msgs m ts
  have h1 : cntL (m + 1) (t :: ts) = 1 + cntL m (subs t.es) + cntL (m + 1) ts := by simp [cntL,cntN]
  by_cases hk : t.kind = 3
  ·have h2 : subsL (msgsL (t :: ts)) = subs t.es ++ subsL (msgsL ts) := by simp [msgsL,hk,subsL]
   rw [h1,h2,cntL_append]
   omega
  ·have h2 : msgsL (t :: ts) = msgsL ts := by simp [msgsL,hk]
   rw [h1,h2]
   omega
theorem cnt_sub {m : Nat} {M M' : List (List (Int × List Tr))} (h : M.Sublist M') : cntL m (subsL M) ≤ cntL m (subsL M') := by
 induction h with
 | slnil => simp
 | cons a _ ih => simp only [subsL,List.flatMap_cons,cntL_append] at *; omega
 | cons_cons a _ ih => simp only [subsL,List.flatMap_cons,cntL_append] at *; omega
theorem cnt_step {m : Nat} {ts : List Tr} {M : List (List (Int × List Tr))} (h : MsgS ts M) : cntL m (subsL M) ≤ cntL (m + 1) ts := Nat.le_trans (cnt_sub h.1) (cnt_msgs m ts)
theorem len_cnt {m : Nat} {w : World} {v : Value} {ts : List Tr} (h : TrsQ m w v ts) : ts.length ≤ cntL m ts := by
 cases m with
 | zero =>
  cases ts with
  | nil => simp
  | cons t l =>
   obtain ⟨rows,_,_,h3⟩ := h;obtain ⟨r,_,hp⟩ := h3 0 t rfl;exact hp.elim
 | succ m => exact len_le_sum fun x hx => by simp [cntN]
theorem len_subsL {m : Nat} {w : World} {v : Value} {M : List (List (Int × List Tr))} (h : LvQ m w v M) : (subsL M).length ≤ cntL m (subsL M) := by
 cases m with
 | zero =>
  cases hs : subsL M with
  | nil => simp
  | cons t l =>
   have ht : t ∈ subsL M := by rw [hs]; simp
   obtain ⟨m0,hm0,hx⟩ := mem_subsL.1 ht;obtain ⟨e,he,hx⟩ := mem_subs.1 hx;obtain ⟨rows,_,_,h3⟩ := h;obtain ⟨i,hi,ei⟩ := List.getElem_of_mem hm0;obtain ⟨r,_,ve,rfl,hE,_⟩ := h3 i m0 (by rw [List.getElem?_eq_getElem hi,ei]);obtain ⟨rows2,_,_,h4⟩ := hE;obtain ⟨j,hj,ej⟩ := List.getElem_of_mem he;obtain ⟨r2,_,vt,rfl,_,hT⟩ := h4 j e (by rw [List.getElem?_eq_getElem hj,ej]);obtain ⟨rows3,_,_,h5⟩ := hT;obtain ⟨k,hk,ek⟩ := List.getElem_of_mem hx;obtain ⟨r3,_,hq⟩ := h5 k t (by rw [List.getElem?_eq_getElem hk,ek]);exact hq.elim
 | succ m => exact len_le_sum fun x hx => by simp [cntN]
theorem messages_any (n : Nat) (v : Value) (ts : List Tr) (w : World) (h : TrsQ n w v ts) (hl : ts.length ≤ 5000) : Calls Tryz.prog 82 #[v] w (MsgP (n - 1) ts w) := by
 cases n with
 | zero =>
  have : ts = [] := by
   cases ts with
   | nil => rfl
   | cons t l =>
    obtain ⟨rows,_,_,h3⟩ := h;obtain ⟨r,_,hp⟩ := h3 0 t rfl;exact hp.elim
  subst this;exact messages_step 0 v [] w (h.imp fun r x hx => by cases hx) hl
 | succ n => exact messages_step n v ts w h hl
theorem one_row {n : Nat} {w : World} {g : Nat} {r : List Value} {t : Tr} {ty : TypeId} (hb : Blk w g r.toArray ty) (h : TrQ n w r t) : TrsQ n w (.slice (some ⟨g, 0, none⟩) 1 1) [t] := by
  refine ⟨[r], ⟨some ⟨g, 0, none⟩, 1, rfl, by simp, by unfold maxLen; omega, by simp, fun _ => ⟨g, 0, rfl, fun i c u j hi hj => ?_⟩⟩, rfl, fun i x hx => ?_⟩
  · cases i with
    | zero =>
      obtain rfl : r = c := by simpa using hi
      rw [hb.cell]
      simpa using hj
    | succ i => simp at hi
  · cases i with
    | zero => obtain rfl : t = x := by simpa using hx
              exact ⟨r, rfl, h⟩
    | succ i => simp at hx
def TrV2 (n : Nat) (w : World) (v : Value) (t : Tr) : Prop := ∃ r,v = .agg r.toArray ∧ TrQ n w r t
theorem TrV2.open {n : Nat} {w : World} {v : Value} {t : Tr} (h : TrV2 n w v t) : ∃ ea el ec ra rl rc,v = .agg #[.int .i64 t.kind,.int .i64 t.n,.string t.s,.slice ea el ec,.slice ra rl rc] ∧ TrQ n w [.int .i64 t.kind,.int .i64 t.n,.string t.s,.slice ea el ec,.slice ra rl rc] t := by
 obtain ⟨r,rfl,h⟩ := h
 cases n with
 | zero => exact h.elim
 | succ n =>
  have h' := h;obtain ⟨ve,vr,rfl,_,_,_,_,h6,h7,_⟩ := h;obtain ⟨a1,c1,rfl,_⟩ := RowP.open h7;obtain ⟨a2,c2,rfl,_⟩ := h6.form2;exact ⟨_,_,_,_,_,_,rfl,h'⟩
theorem TrV2.below {n : Nat} {w w1 : World} {v : Value} {t : Tr} (h : TrV2 n w v t) (hb : Below w.heap.size w w1) : TrV2 n w1 v t := by
 obtain ⟨r,h1,h2⟩ := h;exact ⟨r,h1,h2.below hb⟩
theorem depth_any (n : Nat) (t : Tr) (v : Value) (w : World) (h : TrV2 n w v t) (hn : n ≤ 60) (hc : cntN n t ≤ 5000) :
  Calls Tryz.prog 80 #[v] w fun e w' => e = .returned (.int .i64 (dpN n t : Int)) ∧ Below w.heap.size w w' := by
 obtain ⟨ea,el,ec,ra,rl,rc,rfl,hq⟩ := h.open;have HQ : Hid (TrQ n w [.int .i64 t.kind,.int .i64 t.n,.string t.s,.slice ea el ec,.slice ra rl rc] t) := hq;have HC : Hid (cntN n t ≤ 5000) := hc
 obtain ⟨m,rfl⟩ : ∃ m,n = m + 1 := by
  cases n with
  | zero => exact hq.elim
  | succ m => exact ⟨m,rfl⟩
 clear h hq hc;obtain ⟨D,hD⟩ : ∃ D,dpN (m + 1) t = D := ⟨_,rfl⟩;have HD : Hid (dpN (m + 1) t = D) := hD
 have hD60 : D ≤ 60 := by have := dpN_le (m + 1) t; omega
 rw [hD];clear hD;generalize t.kind = K at *;generalize t.n = N at *;generalize t.s = S at *
 go_enter Tryz.func80,Tryz.ntmps80
 go_wp2_with fail;have hw2 : Below w.heap.size w ((w.alloc (Obj.cells #[.int .i64 K,.int .i64 N,.string S,.slice ea el ec,.slice ra rl rc] 33)).alloc (Obj.cells #[.int .i64 K,.int .i64 N,.string S,.slice ea el ec,.slice ra rl rc] 33)) := (bra _).alloc (by simp) _;refine (messages_any (m + 1) _ [t] _ (one_row (blk_new2T w _ _ _) (HQ.out.below hw2)) (by simp)).mono ?_;rintro e w1 ⟨lv,M,rfl,hM,hS,hb1⟩;have hb : Below w.heap.size w w1 := hw2.trans (hb1.mono hw2.size);have H0 : Hid (LvQ m w1 lv M) := hM
 have hdp : 0 + dpL m M = D := by
  rw [← HD.out,← dp_step hS]
  simp
 have hcn : cntL m (subsL M) ≤ 5000 := Nat.le_trans (cnt_step hS) (by have := HC.out; simpa [cntL] using this);have H1 : Hid (0 + dpL m M = D) := hdp;obtain ⟨la,lc,rfl,l1,l2, -⟩ := RowP.open hM;clear hM hS hb1 hw2 hdp HQ HC HD;go_wp2_with fail
 go_loopw [3,4] (fun dv lv wr => ∃ (d m : Nat) (M : List (List (Int × List Tr))),dv = .int .i64 (d : Int) ∧ Hid (LvQ m wr lv M) ∧ Hid (d + dpL m M = D) ∧ Hid (cntL m (subsL M) ≤ 5000) ∧ d ≤ D ∧ Below w.heap.size w wr) (fun dv _ _ => 101 - (intOf dv).toNat)
 case atStart => exact ⟨0,m,M,rfl,H0,H1,hcn,by omega,hb⟩
 case round =>
  clear H0 H1 hcn hb l1 l2;obtain ⟨d,m,M,rfl,HL,HD,HC,hdD,hb⟩ := hrel;obtain ⟨la,lc,rfl,l1,l2, -⟩ := RowP.open HL.out;unfold maxLen at l2
  have hd1 : decide ((d : Int) ≤ 100) = true := by simp; omega
  obtain ⟨Ml,hMl⟩ : ∃ k,M.length = k := ⟨_,rfl⟩;rw [hMl] at l1;have HL' : Hid (LvQ m wr (.slice la Ml lc) M) := hid (by rw [← hMl]; exact HL.out);rw [hMl];have HMl : Hid (M.length = Ml) := hMl;clear hMl HL
  by_cases h0 : Ml = 0
  ·subst h0;have hM0 : M = [] := List.eq_nil_of_length_eq_zero HMl.out
   have hdd : d = D := by have := HD.out; rw [hM0] at this; simpa [dpL] using this
   have HDD : Hid (d = D) := hdd;clear hM0 hdd;go_wp2_with fail;go_ret;refine ⟨?_,hb⟩;have := HDD.out;subst this
   rfl
  ·have hpos : 0 < Ml := by omega
   have hd2 : decide (0 < (Ml : Int)) = true := by simp; omega
   have hne : M ≠ [] := fun e => h0 (by rw [← HMl.out,e]; rfl)
   have hdpM : dpL m M = 1 + ((subsL M).map (dpN m)).foldr max 0 := by rw [dpL,if_neg hne]
   have HDP : Hid (d + (1 + ((subsL M).map (dpN m)).foldr max 0) = D) := hid (by rw [← hdpM]; exact HD.out);have hlen := len_subsL HL'.out;have hlen2 : (subsL M).length ≤ 5000 := Nat.le_trans hlen HC.out;have HI : Hid (Calls Tryz.prog 81 #[.slice la Ml lc] wr (InsP m M wr)) := inside_any m _ M wr HL'.out hlen2;have HLN : Hid ((subsL M).length ≤ 5000) := hlen2;clear hlen hlen2 hdpM hne HD;go_wp2_with fail;refine HI.out.mono ?_;rintro e w2 ⟨iv,rfl,hT,hb2⟩;have HM2 : Hid (Calls Tryz.prog 82 #[iv] w2 (MsgP (m - 1) (subsL M) w2)) := messages_any m iv (subsL M) w2 hT HLN.out;have hbw2 : Below w.heap.size w w2 := hb.trans (hb2.mono hb.size);obtain ⟨ia,ic,rfl, -⟩ := RowP.open hT;clear hT hb2 HI hb;generalize (subsL M).length = Sl at HM2 ⊢;go_wp2_with fail;refine HM2.out.mono ?_;rintro e w3 ⟨lv3,M3,rfl,hL3,hS3,hb3⟩;have hbw3 : Below w.heap.size w w3 := hbw2.trans (hb3.mono hbw2.size)
   have HD3 : Hid (d + 1 + dpL (m - 1) M3 = D) := by
    show _ = _
    cases m with
    | zero =>
     have h00 : subsL M = [] := by
      have := len_subsL HL'.out;have h1 : cntL 0 (subsL M) = 0 := cntL_zero _;exact List.eq_nil_of_length_eq_zero (by omega)
     have hM3 : M3 = [] := by
      have := hS3.1;rw [h00] at this
      simpa [msgsL] using this
     have := HDP.out;rw [h00] at this;rw [hM3]
     simpa [dpL] using this
    | succ m =>
     have h1 := dp_step (m := m) hS3;have := HDP.out;simp only [Nat.add_sub_cancel]
     omega
   have HC3 : Hid (cntL (m - 1) (subsL M3) ≤ 5000) := by
    show _ ≤ _
    cases m with
    | zero =>
     have h1 : cntL 0 (subsL M3) = 0 := cntL_zero _;simp only [Nat.zero_sub]
     omega
    | succ m => exact Nat.le_trans (cnt_step (m := m) hS3) HC.out
   have hdD3 : d + 1 ≤ D := by have := HD3.out; omega
   have HL3 : Hid (LvQ (m - 1) w3 lv3 M3) := hL3;clear hL3 hS3 hb3 hbw2 HM2 HC HDP HL';go_wp2_with fail
   go_roundw
   case rel => exact ⟨d + 1,m - 1,M3,by go_num,HL3,HD3,HC3,hdD3,hbw3⟩
   case measure => simp [intOf]; omega
def FunP (n : Nat) (w : World) (ts : List Tr) (f : FuncId) (caps : List Value) (p : Tr → Bool) : Prop :=
 ∀ W x r,Below w.heap.size w W → x ∈ ts → TrQ n W r x → Calls Tryz.prog f (.agg r.toArray :: caps).toArray W fun e w' => e = .returned (.bool (p x)) ∧ Below W.heap.size W w'
theorem indexW_any (n : Nat) (v : Value) (ts : List Tr) (w : World) (p : Tr → Bool) (h : TrsQ n w v ts) (hf : FunP n w ts 84 [] p) :
  Calls Tryz.prog 124 #[v,.func (.func 84) #[] #[]] w fun e w' => (∃ k : Int,e = .returned (.int .i64 k) ∧ (0 ≤ k ↔ ts.any p = true)) ∧ Below w.heap.size w w' := by
 obtain ⟨a,cap,rfl,h1,h2, -⟩ := RowP.open h;obtain ⟨N,hN⟩ : ∃ N,ts.length = N := ⟨_,rfl⟩;rw [hN] at h1 ⊢;have HH : Hid (TrsQ n w (.slice a N cap) ts) := hid (by rw [← hN]; exact h);have HN : Hid (ts.length = N) := hN;have HF : Hid (FunP n w ts 84 [] p) := hf;unfold maxLen at h2;clear h hN hf
 go_enter Tryz.func124,Tryz.ntmps124
 go_wp2_with fail
 go_loopw [8] (fun iv wr => ∃ i : Nat,iv = .int .i64 (i : Int) ∧ i ≤ N ∧ Hid (∀ x ∈ ts.take i,p x = false) ∧ Below w.heap.size w wr) (fun iv _ => N - (intOf iv).toNat)
 case atStart => exact ⟨0,rfl,by omega,(by simp : ∀ x ∈ ts.take 0,p x = false),Below.refl _ _⟩
 case round =>
  obtain ⟨i,rfl,hi,HI,hbel⟩ := hrel
  by_cases hlt : i < N
  ·obtain ⟨t,ht⟩ : ∃ r,ts[i]? = some r := ⟨_,List.getElem?_eq_getElem (by rw [HN.out]; exact hlt)⟩;obtain ⟨g,off,rfl,r,hr,hc⟩ := (HH.out.belowTQ hbel).get ht;have h5 := hr.five
   obtain ⟨r0,r1,r2,r3,r4,rfl⟩ : ∃ a b c d e,r = [a,b,c,d,e] := by
    match r,h5.1 with
    | [a,b,c,d,e],_ => exact ⟨a,b,c,d,e,rfl⟩
   have o0 := h5.2 r0 (by simp);have o1 := h5.2 r1 (by simp);have o2 := h5.2 r2 (by simp);have o3 := h5.2 r3 (by simp);have o4 := h5.2 r4 (by simp);obtain ⟨ea,el,ec,ra,rl,rc,e1, -⟩ := TrV2.open ⟨_,rfl,hr⟩;simp only [Value.agg.injEq,Array.mk.injEq,List.cons.injEq,and_true] at e1;obtain ⟨rfl,rfl,rfl,rfl,rfl⟩ := e1;have c0 := hc 0 _ rfl;have c1 := hc 1 _ rfl;have c2 := hc 2 _ rfl;have c3 := hc 3 _ rfl;have c4 := hc 4 _ rfl;simp only [Nat.add_zero] at c0;have HC := HF.out wr t _ hbel (List.mem_of_getElem? ht) hr;have HCC : Hid _ := HC;have HT : Hid (ts.take (i + 1) = ts.take i ++ [t]) := take_atQ ht;have HTM : Hid (t ∈ ts) := List.mem_of_getElem? ht;clear hc h5 o0 o1 o2 o3 o4 HC ht hr;obtain ⟨R,hR⟩ : ∃ R,p t = R := ⟨_,rfl⟩;have HR : Hid (p t = R) := hR;clear hR;go_wp2_with fail;refine Calls.mono HCC.out ?_;rintro e w2 ⟨rfl,hb2⟩;rw [HR.out];have hbw : Below w.heap.size w w2 := hbel.trans (hb2.mono hbel.size);clear HCC hb2 c0 c1 c2 c3 c4 hbel
   cases R with
   | true =>
    go_wp2_with fail;go_ret;exact ⟨⟨_,rfl,by simp only [Int.natCast_nonneg,true_iff]; exact List.any_eq_true.2 ⟨t,HTM.out,HR.out⟩⟩,hbw⟩
   | false =>
    go_wp2_with fail
    go_roundw
    case rel => exact ⟨i + 1,by go_num,by omega,(by
     rw [HT.out];intro x hx
     rcases List.mem_append.1 hx with hx | hx
     ·exact HI.out x hx
     ·obtain rfl : x = t := by simpa using hx
      exact HR.out : ∀ x ∈ ts.take (i + 1),p x = false),hbw⟩
    case measure => simp [intOf]; omega
  ·go_wp2_with fail;go_ret;have h5 := HI.out;rw [List.take_of_length_le (by rw [HN.out]; omega)] at h5;refine ⟨⟨-1,rfl,?_⟩,hbel⟩
   have : ts.any p = false := by rw [List.any_eq_false]; intro x hx; rw [h5 x hx]; simp
   rw [this]
   simp
theorem containsW_any (n : Nat) (v : Value) (ts : List Tr) (w : World) (p : Tr → Bool) (h : TrsQ n w v ts) (hf : FunP n w ts 84 [] p) :
  Calls Tryz.prog 83 #[v,.func (.func 84) #[] #[]] w fun e w' => e = .returned (.bool (ts.any p)) ∧ Below w.heap.size w w' := by
 have HI : Hid _ := indexW_any n v ts w p h hf;obtain ⟨a,cap,rfl,h1,h2, -⟩ := RowP.open h;clear h hf;generalize ts.length = N at *;obtain ⟨R,hR⟩ : ∃ R,ts.any p = R := ⟨_,rfl⟩;rw [hR] at HI ⊢;clear hR
 go_enter Tryz.func83,Tryz.ntmps83
 go_wp2_with fail;refine Calls.mono HI.out ?_;rintro e w2 ⟨⟨k,rfl,hk⟩,hb⟩;clear HI
 have hd : decide (0 ≤ k) = R := by
  cases R
  ·simpa using hk
  ·simpa using hk
 clear hk;go_wp2_with fail;go_ret;exact ⟨rfl,hb⟩
theorem indexK_any (b : Nat) (n : Nat) (v : Value) (ts : List Tr) (w : World) (p : Tr → Bool) (h : TrsQ n w v ts) (hf : FunP n w ts 168 [.pointer (some ⟨b,0,none⟩)] p) :
  Calls Tryz.prog 124 #[v,.func (.func 168) #[] #[.pointer (some ⟨b,0,none⟩)]] w fun e w' => (∃ k : Int,e = .returned (.int .i64 k) ∧ (0 ≤ k ↔ ts.any p = true)) ∧ Below w.heap.size w w' := by
 obtain ⟨a,cap,rfl,h1,h2, -⟩ := RowP.open h;obtain ⟨N,hN⟩ : ∃ N,ts.length = N := ⟨_,rfl⟩;rw [hN] at h1 ⊢;have HH : Hid (TrsQ n w (.slice a N cap) ts) := hid (by rw [← hN]; exact h);have HN : Hid (ts.length = N) := hN;have HF : Hid (FunP n w ts 168 [.pointer (some ⟨b,0,none⟩)] p) := hf;unfold maxLen at h2;clear h hN hf
 go_enter Tryz.func124,Tryz.ntmps124
 go_wp2_with fail
 go_loopw [8] (fun iv wr => ∃ i : Nat,iv = .int .i64 (i : Int) ∧ i ≤ N ∧ Hid (∀ x ∈ ts.take i,p x = false) ∧ Below w.heap.size w wr) (fun iv _ => N - (intOf iv).toNat)
 case atStart => exact ⟨0,rfl,by omega,(by simp : ∀ x ∈ ts.take 0,p x = false),Below.refl _ _⟩
 case round =>
  obtain ⟨i,rfl,hi,HI,hbel⟩ := hrel
  by_cases hlt : i < N
  ·obtain ⟨t,ht⟩ : ∃ r,ts[i]? = some r := ⟨_,List.getElem?_eq_getElem (by rw [HN.out]; exact hlt)⟩;obtain ⟨g,off,rfl,r,hr,hc⟩ := (HH.out.belowTQ hbel).get ht;have h5 := hr.five
   obtain ⟨r0,r1,r2,r3,r4,rfl⟩ : ∃ a b c d e,r = [a,b,c,d,e] := by
    match r,h5.1 with
    | [a,b,c,d,e],_ => exact ⟨a,b,c,d,e,rfl⟩
   have o0 := h5.2 r0 (by simp);have o1 := h5.2 r1 (by simp);have o2 := h5.2 r2 (by simp);have o3 := h5.2 r3 (by simp);have o4 := h5.2 r4 (by simp);obtain ⟨ea,el,ec,ra,rl,rc,e1, -⟩ := TrV2.open ⟨_,rfl,hr⟩;simp only [Value.agg.injEq,Array.mk.injEq,List.cons.injEq,and_true] at e1;obtain ⟨rfl,rfl,rfl,rfl,rfl⟩ := e1;have c0 := hc 0 _ rfl;have c1 := hc 1 _ rfl;have c2 := hc 2 _ rfl;have c3 := hc 3 _ rfl;have c4 := hc 4 _ rfl;simp only [Nat.add_zero] at c0;have HC := HF.out wr t _ hbel (List.mem_of_getElem? ht) hr;have HCC : Hid _ := HC;have HT : Hid (ts.take (i + 1) = ts.take i ++ [t]) := take_atQ ht;have HTM : Hid (t ∈ ts) := List.mem_of_getElem? ht;clear hc h5 o0 o1 o2 o3 o4 HC ht hr;obtain ⟨R,hR⟩ : ∃ R,p t = R := ⟨_,rfl⟩;have HR : Hid (p t = R) := hR;clear hR;go_wp2_with fail;refine Calls.mono HCC.out ?_;rintro e w2 ⟨rfl,hb2⟩;rw [HR.out];have hbw : Below w.heap.size w w2 := hbel.trans (hb2.mono hbel.size);clear HCC hb2 c0 c1 c2 c3 c4 hbel
   cases R with
   | true =>
    go_wp2_with fail;go_ret;exact ⟨⟨_,rfl,by simp only [Int.natCast_nonneg,true_iff]; exact List.any_eq_true.2 ⟨t,HTM.out,HR.out⟩⟩,hbw⟩
   | false =>
    go_wp2_with fail
    go_roundw
    case rel => exact ⟨i + 1,by go_num,by omega,(by
     rw [HT.out];intro x hx
     rcases List.mem_append.1 hx with hx | hx
     ·exact HI.out x hx
     ·obtain rfl : x = t := by simpa using hx
      exact HR.out : ∀ x ∈ ts.take (i + 1),p x = false),hbw⟩
    case measure => simp [intOf]; omega
  ·go_wp2_with fail;go_ret;have h5 := HI.out;rw [List.take_of_length_le (by rw [HN.out]; omega)] at h5;refine ⟨⟨-1,rfl,?_⟩,hbel⟩
   have : ts.any p = false := by rw [List.any_eq_false]; intro x hx; rw [h5 x hx]; simp
   rw [this]
   simp
theorem containsK_any (b : Nat) (n : Nat) (v : Value) (ts : List Tr) (w : World) (p : Tr → Bool) (h : TrsQ n w v ts) (hf : FunP n w ts 168 [.pointer (some ⟨b,0,none⟩)] p) :
  Calls Tryz.prog 83 #[v,.func (.func 168) #[] #[.pointer (some ⟨b,0,none⟩)]] w fun e w' => e = .returned (.bool (ts.any p)) ∧ Below w.heap.size w w' := by
 have HI : Hid _ := indexK_any b n v ts w p h hf;obtain ⟨a,cap,rfl,h1,h2, -⟩ := RowP.open h;clear h hf;generalize ts.length = N at *;obtain ⟨R,hR⟩ : ∃ R,ts.any p = R := ⟨_,rfl⟩;rw [hR] at HI ⊢;clear hR
 go_enter Tryz.func83,Tryz.ntmps83
 go_wp2_with fail;refine Calls.mono HI.out ?_;rintro e w2 ⟨⟨k,rfl,hk⟩,hb⟩;clear HI
 have hd : decide (0 ≤ k) = R := by
  cases R
  ·simpa using hk
  ·simpa using hk
 clear hk;go_wp2_with fail;go_ret;exact ⟨rfl,hb⟩
def cmpI (a b : Int) : Int := if a < b then -1 else if b < a then 1 else 0
theorem nan_any (a : Int) (w : World) : Calls Tryz.prog 186 #[.int .i64 a] w fun e w' => e = .returned (.bool false) ∧ w' = w := by
 go_enter Tryz.func186,Tryz.ntmps186
 go_wp2
 go_ret;exact ⟨rfl,rfl⟩
theorem compare_any (a b : Int) (w : World) : Calls Tryz.prog 171 #[.int .i64 a,.int .i64 b] w fun e w' => e = .returned (.int .i64 (cmpI a b)) ∧ w' = w := by
 by_cases h1 : a < b
 ·go_enter Tryz.func171,Tryz.ntmps171
  go_wp2_with (first | (go_at_call 186; refine (nan_any _ _).mono ?_; rintro e w' ⟨rfl,rfl⟩) | fail)
  go_ret;exact ⟨by simp [cmpI,h1],rfl⟩
 ·by_cases h2 : b < a
  ·go_enter Tryz.func171,Tryz.ntmps171
   go_wp2_with (first | (go_at_call 186; refine (nan_any _ _).mono ?_; rintro e w' ⟨rfl,rfl⟩) | fail)
   go_ret;exact ⟨by simp [cmpI,h1,h2],rfl⟩
  ·have HC : Hid (cmpI a b = 0) := hid (by simp [cmpI,h1,h2]);rw [HC.out]
   go_enter Tryz.func171,Tryz.ntmps171
   go_wp2_with (first | (go_at_call 186; refine (nan_any _ _).mono ?_; rintro e w' ⟨rfl,rfl⟩) | fail)
   go_ret;exact ⟨rfl,rfl⟩
theorem tagc_any (a b : Int) (p : Option Addr) (n c : Nat) (w : World) : Calls Tryz.prog 170 #[.agg #[.int .i64 a,.slice p n c],.int .i64 b] w fun e w' => e = .returned (.int .i64 (cmpI a b)) ∧ Below w.heap.size w w' := by
 go_enter Tryz.func170,Tryz.ntmps170
 go_wp2_with (first | (go_at_call 171; refine (compare_any _ _ _).mono ?_; rintro e w' ⟨rfl,rfl⟩) | fail)
 go_ret;exact ⟨rfl,bra _⟩
def RisT (es : List (Int × List Tr)) : Prop := ∀ (i j : Nat) (x y : Int × List Tr),i < j → es[i]? = some x → es[j]? = some y → x.1 < y.1
theorem cmp_lt (a b : Int) : cmpI a b < 0 ↔ a < b := by
 unfold cmpI
 by_cases h1 : a < b
 ·simp [h1]
 ·by_cases h2 : b < a
  ·simp [h1,h2]
  ·simp [h1,h2]
theorem cmp_eq (a b : Int) : cmpI a b = 0 ↔ a = b := by
 unfold cmpI
 by_cases h1 : a < b
 ·simp [h1]; omega
 ·by_cases h2 : b < a
  ·simp [h1,h2]; omega
  ·simp [h1,h2]; omega
theorem ents_low : ∀ (es : List (Int × List Tr)) (last : Int),entsB last es = true → ∀ x ∈ es,last < x.1
 | [],_,_,x,hx => by cases hx
 | e :: l,last,h,x,hx => by
  simp only [entsB,Bool.and_eq_true,decide_eq_true_eq] at h
  rcases List.mem_cons.1 hx with rfl | hx
  ·exact h.1.1.1.1.1
  ·exact Int.lt_trans h.1.1.1.1.1 (ents_low l e.1 h.2 x hx)
theorem ents_ris : ∀ (es : List (Int × List Tr)) (last : Int),entsB last es = true → RisT es
 | [],_,_ => by intro i j x y _ h; simp at h
 | e :: l,last,h => by
  simp only [entsB,Bool.and_eq_true,decide_eq_true_eq] at h;intro i j x y hij hx hy
  cases j with
  | zero => omega
  | succ j =>
   simp only [List.getElem?_cons_succ] at hy
   cases i with
   | zero =>
    obtain rfl : e = x := by simpa using hx
    exact ents_low l e.1 h.2 y (List.mem_of_getElem? hy)
   | succ i => exact ents_ris l e.1 h.2 i j x y (by omega) (by simpa using hx) hy
theorem bin_any (n : Nat) (v : Value) (es : List (Int × List Tr)) (tag : Int) (w : World) (h : EnsQ n w v es) (hr : RisT es) (hl : es.length ≤ 1000000) :
  Calls Tryz.prog 169 #[v,.int .i64 tag,.func (.func 170) #[] #[]] w fun e w' => (∃ k : Int,e = .returned (.tuple #[.int .i64 k,.bool (hasB es tag)])) ∧ Below w.heap.size w w' := by
 obtain ⟨a,cap,rfl,h1,h2, -⟩ := RowP.open h;obtain ⟨N,hN⟩ : ∃ N,es.length = N := ⟨_,rfl⟩;rw [hN] at h1 hl ⊢;have HH : Hid (EnsQ n w (.slice a N cap) es) := hid (by rw [← hN]; exact h);have HN : Hid (es.length = N) := hN;have HR : Hid (RisT es) := hr;unfold maxLen at h2;obtain ⟨R0,hR0⟩ : ∃ R0,hasB es tag = R0 := ⟨_,rfl⟩;have HR0 : Hid (hasB es tag = R0) := hR0;rw [hR0];clear h hN hr hR0
 go_enter Tryz.func169,Tryz.ntmps169
 go_wp2_with fail
 go_loopw [9,10] (fun iv jv wr => ∃ i j : Nat,iv = .int .i64 (i : Int) ∧ jv = .int .i64 (j : Int) ∧ i ≤ j ∧ j ≤ N ∧ Hid (∀ (k : Nat) (x : Int × List Tr),k < i → es[k]? = some x → x.1 < tag) ∧ Hid (∀ (k : Nat) (x : Int × List Tr),j ≤ k → es[k]? = some x → tag ≤ x.1) ∧ Below w.heap.size w wr) (fun iv jv _ => (intOf jv - intOf iv).toNat)
 case atStart => exact ⟨0,N,rfl,rfl,by omega,by omega,(fun k x hk => absurd hk (by omega) : ∀ (k : Nat) (x : Int × List Tr),k < 0 → es[k]? = some x → x.1 < tag),(fun k x hk hx => by have := (List.getElem?_eq_some_iff.1 hx).1; rw [HN.out] at this; omega : ∀ (k : Nat) (x : Int × List Tr),N ≤ k → es[k]? = some x → tag ≤ x.1),Below.refl _ _⟩
 case round =>
  obtain ⟨i,j,rfl,rfl,hij,hjN,HI,HJ,hbel⟩ := hrel
  by_cases hlt : i < j
  ·obtain ⟨q,hq⟩ : ∃ q : Nat,q = (i + j) / 2 := ⟨_,rfl⟩
   have hq1 : i ≤ q := by omega
   have hq2 : q < j := by omega
   obtain ⟨x,hx⟩ : ∃ r,es[q]? = some r := ⟨_,List.getElem?_eq_getElem (by rw [HN.out]; omega)⟩;obtain ⟨g,off,rfl,r,⟨vt,rfl, -,ht⟩,hc⟩ := (HH.out.belowEQ hbel).get hx;obtain ⟨ta,tc,rfl, -⟩ := RowP.open ht;have c0 := hc 0 _ rfl;have c1 := hc 1 _ rfl;simp only [Nat.add_zero] at c0
   have hqi : ((i : Int) + (j : Int)) / 2 = (q : Int) := by omega
   have HX : Hid (es[q]? = some x) := hx;clear hc ht hx;generalize x.2.length = Xl at *;obtain ⟨xt,hxt⟩ : ∃ z,x.1 = z := ⟨_,rfl⟩;rw [hxt] at c0;have HXT : Hid (x.1 = xt) := hxt;clear hxt hq;obtain ⟨c,hcc⟩ : ∃ c,cmpI xt tag = c := ⟨_,rfl⟩
   have HCA : Hid (∀ W,Calls Tryz.prog 170 #[.agg #[.int .i64 xt,.slice ta Xl tc],.int .i64 tag] W fun e w' => e = .returned (.int .i64 c) ∧ Below W.heap.size W w') := fun W => by
    rw [← hcc]; exact tagc_any xt tag ta Xl tc W
   have hc0 : c < 0 ↔ xt < tag := by rw [← hcc]; exact cmp_lt xt tag
   clear hcc
   by_cases hxl : xt < tag
   ·have hdc : decide (c < 0) = true := by simp [hc0,hxl]
    clear hc0;go_wp2_with fail;refine (HCA.out _).mono ?_;rintro e w2 ⟨rfl,hb2⟩;have hbw : Below w.heap.size w w2 := hbel.trans (hb2.mono hbel.size);clear hb2 hbel c0 c1 HCA;go_wp2_with fail
    go_roundw
    case rel => exact ⟨q + 1,j,by go_num,rfl,by omega,hjN,(fun k y hk hy => by
     rcases Nat.lt_or_eq_of_le (Nat.le_of_lt_succ hk) with h | h
     ·exact Int.lt_trans (HR.out k q y x h hy HX.out) (by rw [HXT.out]; exact hxl)
     ·subst h; rw [HX.out] at hy; cases hy; rw [HXT.out]; exact hxl : ∀ (k : Nat) (x : Int × List Tr),k < q + 1 → es[k]? = some x → x.1 < tag),HJ,hbw⟩
    case measure => simp [intOf]; omega
   ·have hdc : decide (c < 0) = false := by simp; exact Int.not_lt.1 (fun h => hxl (hc0.1 h))
    clear hc0;go_wp2_with fail;refine (HCA.out _).mono ?_;rintro e w2 ⟨rfl,hb2⟩;have hbw : Below w.heap.size w w2 := hbel.trans (hb2.mono hbel.size);clear hb2 hbel c0 c1 HCA;go_wp2_with fail
    go_roundw
    case rel => exact ⟨i,q,rfl,rfl,by omega,by omega,HI,(fun k y hk hy => by
     rcases Nat.lt_or_eq_of_le hk with h | h
     ·have := HR.out q k x y h HX.out hy;rw [HXT.out] at this
      omega
     ·subst h; rw [HX.out] at hy; cases hy; rw [HXT.out]; omega : ∀ (k : Nat) (x : Int × List Tr),q ≤ k → es[k]? = some x → tag ≤ x.1),hbw⟩
    case measure => simp [intOf]; omega
  ·obtain rfl : i = j := by omega
   by_cases hiN : i < N
   ·obtain ⟨x,hx⟩ : ∃ r,es[i]? = some r := ⟨_,List.getElem?_eq_getElem (by rw [HN.out]; omega)⟩;obtain ⟨g,off,rfl,r,⟨vt,rfl, -,ht⟩,hc⟩ := (HH.out.belowEQ hbel).get hx;obtain ⟨ta,tc,rfl, -⟩ := RowP.open ht;have c0 := hc 0 _ rfl;have c1 := hc 1 _ rfl;simp only [Nat.add_zero] at c0;have HX : Hid (es[i]? = some x) := hx;clear hc ht hx;generalize x.2.length = Xl at *;obtain ⟨xt,hxt⟩ : ∃ z,x.1 = z := ⟨_,rfl⟩;rw [hxt] at c0;have HXT : Hid (x.1 = xt) := hxt;clear hxt;obtain ⟨c,hcc⟩ : ∃ c,cmpI xt tag = c := ⟨_,rfl⟩
    have HCA : Hid (∀ W,Calls Tryz.prog 170 #[.agg #[.int .i64 xt,.slice ta Xl tc],.int .i64 tag] W fun e w' => e = .returned (.int .i64 c) ∧ Below W.heap.size W w') := fun W => by
     rw [← hcc]; exact tagc_any xt tag ta Xl tc W
    have hc0 : c = 0 ↔ xt = tag := by rw [← hcc]; exact cmp_eq xt tag
    have hB : hasB es tag = decide (xt = tag) := by
     by_cases he : xt = tag
     ·rw [decide_eq_true he];exact List.any_eq_true.2 ⟨x,List.mem_of_getElem? HX.out,by rw [HXT.out,he]; simp⟩
     ·rw [decide_eq_false he];refine List.any_eq_false.2 fun y hy => ?_
      obtain ⟨k,hk,ek⟩ := List.getElem_of_mem hy
      have hyk : es[k]? = some y := by rw [List.getElem?_eq_getElem hk,ek]
      have hge := HJ.out i x (Nat.le_refl _) HX.out;rw [HXT.out] at hge
      rcases Nat.lt_trichotomy k i with h | h | h
      ·have := HI.out k y h hyk; simp; omega
      ·subst h; rw [HX.out] at hyk; cases hyk; rw [HXT.out]; simp; omega
      ·have := HR.out i k x y h HX.out hyk; rw [HXT.out] at this; simp; omega
    have hdc : (c == 0) = R0 := by
     rw [← HR0.out,hB,Bool.eq_iff_iff]; simp [hc0]
    clear hcc hc0 hB;go_wp2_with fail;refine (HCA.out _).mono ?_;rintro e w2 ⟨rfl,hb2⟩;have hbw : Below w.heap.size w w2 := hbel.trans (hb2.mono hbel.size);clear hb2 hbel c0 c1 HCA;go_wp2_with fail
    go_ret2
    exact ⟨⟨_,rfl⟩,hbw⟩
   ·have hB : hasB es tag = false := by
     refine List.any_eq_false.2 fun y hy => ?_
     obtain ⟨k,hk,ek⟩ := List.getElem_of_mem hy
     have hyk : es[k]? = some y := by rw [List.getElem?_eq_getElem hk,ek]
     have := HI.out k y (by rw [HN.out] at hk; omega) hyk
     simp; omega
    obtain rfl : R0 = false := by rw [← HR0.out,hB]
    clear hB;go_wp2_with fail
    go_ret2
    exact ⟨⟨_,rfl⟩,hbel⟩
theorem hasTag_any (n : Nat) (v : Value) (es : List (Int × List Tr)) (tag : Int) (w : World) (h : EnsQ n w v es) (hr : RisT es) (hl : es.length ≤ 1000000) :
  Calls Tryz.prog 155 #[v,.int .i64 tag] w fun e w' => e = .returned (.bool (hasB es tag)) ∧ Below w.heap.size w w' := by
 have HI : Hid _ := bin_any n v es tag w h hr hl;obtain ⟨a,cap,rfl, -⟩ := RowP.open h;clear h hr hl;generalize es.length = N at *;generalize hasB es tag = R at *
 go_enter Tryz.func155,Tryz.ntmps155
 go_wp2_with fail;refine Calls.mono HI.out ?_;rintro e w2 ⟨⟨k,rfl⟩,hb⟩;clear HI;go_wp2_with fail;go_ret;exact ⟨rfl,hb⟩
theorem kindc_any (n : Nat) (x : Tr) (r : List Value) (b g off Kt tc : Nat) (k0 : Int) (W : World) (h : TrQ n W r x) (hB : Blk W b #[.slice (some ⟨g,off,none⟩) Kt tc] 78) (hc : W.cell? ⟨g,off,none⟩ = some (.int .i64 k0)) (hk : 0 < Kt) :
  Calls Tryz.prog 168 #[.agg r.toArray,.pointer (some ⟨b,0,none⟩)] W fun e w' => e = .returned (.bool (x.kind != k0)) ∧ Below W.heap.size W w' := by
 obtain ⟨ea,el,ec,ra,rl,rc,e1, -⟩ := TrV2.open ⟨_,rfl,h⟩;rw [e1];clear e1 h;have q0 := (hB.cell 0).trans rfl;have hb := hB.lt;have hg : g < W.heap.size := World.block_lt_of_cell? _ _ hc;clear hB;generalize x.kind = K at *;generalize x.n = N at *;generalize x.s = S at *
 go_enter Tryz.func168,Tryz.ntmps168
 go_wp2_with fail
 go_quiet (fail)
 go_wp2_with fail;go_ret;exact ⟨rfl,below_drewN nq (bra _)⟩
def okB (ts : List Tr) : Bool := decide (1 ≤ ts.length) && decide (ts.length ≤ 64) && (ts.all fun x => x.kind == (ts.head?.map Tr.kind).getD 0)
theorem oneKind_any (n : Nat) (v : Value) (ts : List Tr) (w : World) (h : TrsQ n w v ts) :
  Calls Tryz.prog 154 #[v] w fun e w' => e = .returned (.bool (okB ts)) ∧ Below w.heap.size w w' := by
 have hmf : ∀ (fn : Fn) (first cap : Array Value) (w : World),(Instr.makeFunc fn first cap).run Tryz.prog w = .ok (.func fn first cap) w := fun _ _ _ _ => rfl
 obtain ⟨a,cap,rfl,h1,h2,h3, -, -⟩ := RowP.open h;obtain ⟨N,hN⟩ : ∃ N,ts.length = N := ⟨_,rfl⟩;obtain ⟨R,hR⟩ : ∃ R,okB ts = R := ⟨_,rfl⟩;rw [hR];rw [hN] at h1 ⊢;have HH : Hid (TrsQ n w (.slice a N cap) ts) := hid (by rw [← hN]; exact h);have HN : Hid (ts.length = N) := hN;have HR : Hid (okB ts = R) := hR;unfold maxLen at h2;clear h hN hR h3
 by_cases l1 : 1 ≤ N
 ·have d1 : decide ((N : Int) < 1) = false := by simp; omega
  by_cases l2 : N ≤ 64
  ·have d2 : decide (64 < (N : Int)) = false := by simp; omega
   obtain ⟨t0,ht0⟩ : ∃ t,ts[0]? = some t := ⟨_,List.getElem?_eq_getElem (by rw [HN.out]; omega)⟩;obtain ⟨g,off,rfl,r,hr,hc⟩ := HH.out.get ht0;obtain ⟨ea,el,ec,ra,rl,rc,e1, -⟩ := TrV2.open ⟨_,rfl,hr⟩
   have hcell : w.cell? ⟨g,off,none⟩ = some (.int .i64 t0.kind) := by
    have := hc 0 (.int .i64 t0.kind) (by
     have h9 : r.toArray = #[.int .i64 t0.kind,.int .i64 t0.n,.string t0.s,.slice ea el ec,.slice ra rl rc] := by simpa using e1
     have h8 : r = [.int .i64 t0.kind,.int .i64 t0.n,.string t0.s,.slice ea el ec,.slice ra rl rc] := by simpa using congrArg Array.toList h9
     rw [h8]; rfl)
    simpa using this
   have hw1 : Below w.heap.size w (w.alloc (Obj.cells #[.slice (some ⟨g,off,none⟩) N cap] 78)) := bra _;have BX : Blk (w.alloc (Obj.cells #[.slice (some ⟨g,off,none⟩) N cap] 78)) w.heap.size #[.slice (some ⟨g,off,none⟩) N cap] 78 := Blk.new w _ _
   have HC : Hid (Calls Tryz.prog 83 #[.slice (some ⟨g,off,none⟩) N cap,.func (.func 168) #[] #[.pointer (some ⟨w.heap.size,0,none⟩)]] (w.alloc (Obj.cells #[.slice (some ⟨g,off,none⟩) N cap] 78)) fun e w' => e = .returned (.bool (!R)) ∧ Below (w.alloc (Obj.cells #[.slice (some ⟨g,off,none⟩) N cap] 78)).heap.size (w.alloc (Obj.cells #[.slice (some ⟨g,off,none⟩) N cap] 78)) w') := by
    have hh : ts.head? = some t0 := by rw [List.head?_eq_getElem?]; exact ht0
    have hb : (!R) = ts.any (fun x => x.kind != t0.kind) := by
     rw [← HR.out,okB,HN.out,decide_eq_true l1,decide_eq_true l2,hh];simp only [Option.map_some,Option.getD_some,Bool.true_and,List.not_all_eq_any_not]
     rfl
    rw [hb];refine containsK_any w.heap.size n _ ts _ (fun x => x.kind != t0.kind) (HH.out.belowTQ hw1) fun W x r' hW hx hr' => ?_
    exact kindc_any n x r' w.heap.size g off N cap t0.kind W hr' (BX.below hW) ((hW.cell (by have hg9 : g < w.heap.size := World.block_lt_of_cell? _ _ hcell; simp; omega)).trans ((hw1.cell (World.block_lt_of_cell? _ _ hcell)).trans hcell)) (by omega)
   clear hcell hc e1 hr ht0 HH HR BX
   go_enter Tryz.func154,Tryz.ntmps154
   go_wp2_with fail;refine HC.out.mono ?_;rintro e w2 ⟨rfl,hb2⟩;have hbw : Below w.heap.size w w2 := hw1.trans (hb2.mono hw1.size);clear HC hb2 hw1;go_wp2_with fail;go_ret;exact ⟨by simp,hbw⟩
  ·have d2 : decide (64 < (N : Int)) = true := by simp; omega
   obtain rfl : R = false := by rw [← HR.out,okB,HN.out]; simp; omega
   go_enter Tryz.func154,Tryz.ntmps154
   go_wp2_with fail;go_ret;exact ⟨rfl,bra _⟩
 ·have d1 : decide ((N : Int) < 1) = true := by simp; omega
  obtain rfl : R = false := by rw [← HR.out,okB,HN.out]; simp; omega
  go_enter Tryz.func154,Tryz.ntmps154
  go_wp2_with fail;go_ret;exact ⟨rfl,bra _⟩
theorem ents_cons (last : Int) (e : Int × List Tr) (l : List (Int × List Tr)) : entsB last (e :: l) = (decide (last < e.1) && decide (e.1 ≤ 500) && okB e.2 && entsB e.1 l) := by
 simp only [entsB,okB,Bool.and_assoc]
theorem entries_any (n : Nat) (v : Value) (es : List (Int × List Tr)) (w : World) (h : EnsQ n w v es) :
  Calls Tryz.prog 125 #[v] w fun e w' => e = .returned (.bool (entsB 0 es)) ∧ Below w.heap.size w w' := by
 obtain ⟨a,cap,rfl,h1,h2, -⟩ := RowP.open h;obtain ⟨N,hN⟩ : ∃ N,es.length = N := ⟨_,rfl⟩;obtain ⟨R,hR⟩ : ∃ R,entsB 0 es = R := ⟨_,rfl⟩;rw [hR];rw [hN] at h1 ⊢;have HH : Hid (EnsQ n w (.slice a N cap) es) := hid (by rw [← hN]; exact h);have HN : Hid (es.length = N) := hN;have HR0 : Hid (entsB 0 (es.drop 0) = R) := hR;unfold maxLen at h2;clear h hN hR
 go_enter Tryz.func125,Tryz.ntmps125
 go_wp2_with fail
 go_loopw [3,8] (fun av iv wr => ∃ (i : Nat) (last : Int),iv = .int .i64 (i : Int) ∧ av = .int .i64 last ∧ i ≤ N ∧ Hid (entsB last (es.drop i) = R) ∧ Below w.heap.size w wr) (fun _ iv _ => N - (intOf iv).toNat)
 case atStart => exact ⟨0,0,rfl,rfl,by omega,HR0,Below.refl _ _⟩
 case round =>
  clear HR0;obtain ⟨i,last,rfl,rfl,hi,HR,hbel⟩ := hrel
  by_cases hlt : i < N
  ·obtain ⟨x,hx⟩ : ∃ r,es[i]? = some r := ⟨_,List.getElem?_eq_getElem (by rw [HN.out]; exact hlt)⟩;obtain ⟨g,off,rfl,r,⟨vt,rfl, -,ht⟩,hc⟩ := (HH.out.belowEQ hbel).get hx;obtain ⟨ta,tc,rfl, -⟩ := RowP.open ht;have c0 := hc 0 _ rfl;have c1 := hc 1 _ rfl;simp only [Nat.add_zero] at c0
   have hdr : es.drop i = x :: es.drop (i + 1) := by
    obtain ⟨hl',e⟩ := List.getElem?_eq_some_iff.1 hx;rw [List.drop_eq_getElem_cons hl',e]
   have HR1 : Hid ((decide (last < x.1) && decide (x.1 ≤ 500) && okB x.2 && entsB x.1 (es.drop (i + 1))) = R) := hid (by rw [← ents_cons,← hdr]; exact HR.out);have HOK : Hid (∀ W,Below wr.heap.size wr W → Calls Tryz.prog 154 #[.slice ta x.2.length tc] W fun e w' => e = .returned (.bool (okB x.2)) ∧ Below W.heap.size W w') := fun W hW => oneKind_any n _ x.2 W (RowP.belowTQ ht hW)
   clear hc ht hx hdr HR;generalize x.2.length = Xl at *;generalize okB x.2 = O at *;generalize x.1 = xt at *
   by_cases k1 : last < xt
   ·by_cases k2 : xt ≤ 500
    ·have d1 : decide (xt ≤ last) = false := by simp; omega
     have d2 : decide (500 < xt) = false := by simp; omega
     have hal : Below wr.heap.size wr (wr.alloc (Obj.cells #[.int .i64 xt,.slice ta Xl tc] 80)) := bra _;have BE : Blk (wr.alloc (Obj.cells #[.int .i64 xt,.slice ta Xl tc] 80)) wr.heap.size #[.int .i64 xt,.slice ta Xl tc] 80 := Blk.new wr _ _;go_wp2_with fail;refine (HOK.out _ hal).mono ?_;rintro e w2 ⟨rfl,hb2⟩;have hb3 : Below wr.heap.size wr w2 := hal.trans (hb2.mono hal.size);have hbw : Below w.heap.size w w2 := hbel.trans (hb3.mono hbel.size);have q0 := ((BE.below hb2).cell 0).trans rfl;generalize wr.heap.size = bw at *;clear hb2 hb3 hbel c0 c1 HOK hal BE
     cases O with
     | true =>
      go_wp2_with fail
      go_roundw
      case rel => exact ⟨i + 1,xt,by go_num,rfl,by omega,(by have := HR1.out; rw [decide_eq_true k1,decide_eq_true k2] at this; simpa using this : entsB xt (es.drop (i + 1)) = R),hbw⟩
      case measure => simp [intOf]; omega
     | false =>
      obtain rfl : R = false := by rw [← HR1.out]; simp
      go_wp2_with fail;go_ret;exact ⟨rfl,hbw⟩
    ·have d1 : decide (xt ≤ last) = false := by simp; omega
     have d2 : decide (500 < xt) = true := by simp; omega
     obtain rfl : R = false := by rw [← HR1.out,decide_eq_false k2]; simp
     go_wp2_with fail;go_ret;exact ⟨rfl,hbel.alloc hbel.size _⟩
   ·have d1 : decide (xt ≤ last) = true := by simp; omega
    obtain rfl : R = false := by rw [← HR1.out,decide_eq_false k1]; simp
    go_wp2_with fail;go_ret;exact ⟨rfl,hbel.alloc hbel.size _⟩
  ·obtain rfl : R = true := by rw [← HR.out,List.drop_eq_nil_of_le (by rw [HN.out]; omega)]; rfl
   go_wp2_with fail;go_ret;exact ⟨rfl,hbel⟩
theorem rowG_holdsR {w : World} {a : Option Addr} {N cap : Nat} {l : List Fd} (h : RowG w (.slice a N cap) 4 (fdRows l)) : HoldsR w a l := by
 obtain ⟨a',cap',e,_,_,_,h4⟩ := h.form;simp only [Value.slice.injEq] at e;obtain ⟨rfl,_,_⟩ := e;intro b hb j u hu;rw [rawCells_flat] at hu;obtain ⟨i,c,k,h1,h2,rfl⟩ := flat_inv (fdRows l) (fdr_len l) j u hu;obtain ⟨g,off,e,hc⟩ := h4 (by intro e; rw [e] at h1; simp at h1);rw [hb] at e
 cases e
 have := hc i c u k h1 h2;rw [Nat.add_assoc] at this;rw [Addr.add_lit];exact this
theorem rest_all {l : List Fd} {p : Fd → Bool} {i : Nat} {f : Fd} (h : ∀ x ∈ l.take i,p x = true) (hf : l[i]? = some f) (hp : p f = true) : ∀ x ∈ l.take (i + 1),p x = true := by
 rw [take_atQ hf];intro x hx
 rcases List.mem_append.1 hx with hx | hx
 ·exact h x hx
 ·obtain rfl : x = f := by simpa using hx
  exact hp
theorem restMayBe_any (n : Nat) (v ve : Value) (l : List Fd) (es : List (Int × List Tr)) (w : World) (h : RowG w v 4 (fdRows l)) (he : EnsQ n w ve es) (hr : RisT es) (hl : es.length ≤ 1000000) :
  Calls Tryz.prog 126 #[v,ve] w fun e w' => e = .returned (.bool (restB l es)) ∧ Below w.heap.size w w' := by
 obtain ⟨a,cap,rfl,h1,h2,h3, -, -⟩ := rest_holds h;obtain ⟨N,hN⟩ : ∃ N,l.length = N := ⟨_,rfl⟩;obtain ⟨R,hR⟩ : ∃ R,restB l es = R := ⟨_,rfl⟩;rw [hR];rw [hN] at h1 ⊢;have HH : Hid (RowG w (.slice a N cap) 4 (fdRows l)) := hid (by rw [← hN]; exact h);have HN : Hid (l.length = N) := hN;have HR : Hid (restB l es = R) := hR;have HT : Hid (∀ W tag,Below w.heap.size w W → Calls Tryz.prog 155 #[ve,.int .i64 tag] W fun e w' => e = .returned (.bool (hasB es tag)) ∧ Below W.heap.size W w') := fun W tag hW => hasTag_any n ve es tag W (he.belowEQ hW) hr hl
 have HRS : Hid (∀ W,Below w.heap.size w W → Calls Tryz.prog 49 #[.slice a N cap] W fun e w' => e = .returned (.bool (risesB l)) ∧ Below W.heap.size W w') := fun W hW => rising_any a l N cap W hN h3 h1 h2 (rowG_holdsR (HH.out.below hW))
 obtain ⟨pe,ce,rfl, -⟩ := RowP.open he;unfold maxLen at h2;generalize es.length = El at *;clear h hN hR h3 he hr
 go_enter Tryz.func126,Tryz.ntmps126
 go_wp2_with fail
 go_loopw [9] (fun iv wr => ∃ i : Nat,iv = .int .i64 (i : Int) ∧ i ≤ N ∧ Hid (∀ f ∈ l.take i,(okF f && !hasB es f.tag) = true) ∧ Below w.heap.size w wr) (fun iv _ => N - (intOf iv).toNat)
 case atStart => exact ⟨0,rfl,by omega,(by simp : ∀ f ∈ l.take 0,(okF f && !hasB es f.tag) = true),Below.refl _ _⟩
 case round =>
  obtain ⟨i,rfl,hi,HI,hbel⟩ := hrel
  by_cases hlt : i < N
  ·obtain ⟨f,hf⟩ : ∃ r,l[i]? = some r := ⟨_,List.getElem?_eq_getElem (by rw [HN.out]; exact hlt)⟩;obtain ⟨g,off,rfl,cc⟩ := (HH.out.below hbel).get (show (fdRows l)[i]? = some f.cells by simp [fdRows,hf]);have p0 := cc 0 _ rfl;have p1 := cc 1 _ rfl;have p2 := cc 2 _ rfl;have p3 := cc 3 _ rfl;simp only [Nat.add_zero] at p0;have HF : Hid (l[i]? = some f) := hf;have HM : Hid (f ∈ l) := List.mem_of_getElem? hf;have HFO : Hid (okF f = okV f.tag f.wire f.n f.b) := hid (rfl);have HTG : Hid (∀ W,Below w.heap.size w W → Calls Tryz.prog 155 #[.slice pe El ce,.int .i64 f.tag] W fun e w' => e = .returned (.bool (hasB es f.tag)) ∧ Below W.heap.size W w') := fun W hW => HT.out W f.tag hW
   clear cc hf;obtain ⟨O,hO⟩ : ∃ O,okV f.tag f.wire f.n f.b = O := ⟨_,rfl⟩;obtain ⟨B,hB⟩ : ∃ B,hasB es f.tag = B := ⟨_,rfl⟩;have HO : Hid (okV f.tag f.wire f.n f.b = O) := hO;have HB : Hid (hasB es f.tag = B) := hB
   have HCK : Hid (∀ W,Calls Tryz.prog 45 #[.agg #[.int .i64 f.tag,.int .i64 f.wire,.int .i64 f.n,.string f.b]] W fun e w' => e = .returned (.bool O) ∧ Below W.heap.size W w') := fun W => by rw [← hO]; exact checkV_any f.tag f.wire f.n f.b W
   rw [hB] at HTG;clear hO hB;generalize hft : f.tag = ft at *;generalize hfw : f.wire = fw at *;generalize hfn : f.n = fn at *;generalize hfb : f.b = fb at *;have HE : Hid (f.tag = ft ∧ f.wire = fw ∧ f.n = fn ∧ f.b = fb) := ⟨hft,hfw,hfn,hfb⟩;clear hft hfw hfn hfb;have hal : Below wr.heap.size wr (wr.alloc (Obj.cells #[.int .i64 ft,.int .i64 fw,.int .i64 fn,.string fb] 61)) := bra _;have BE : Blk (wr.alloc (Obj.cells #[.int .i64 ft,.int .i64 fw,.int .i64 fn,.string fb] 61)) wr.heap.size #[.int .i64 ft,.int .i64 fw,.int .i64 fn,.string fb] 61 := Blk.new wr _ _;go_wp2_with fail;refine (HCK.out _).mono ?_;rintro e w2 ⟨rfl,hb2⟩;have hb3 : Below wr.heap.size wr w2 := hal.trans (hb2.mono hal.size);have hbw : Below w.heap.size w w2 := hbel.trans (hb3.mono hbel.size);have q0 := ((BE.below hb2).cell 0).trans rfl;generalize wr.heap.size = bw at *;clear hb2 hb3 hbel hal BE p0 p1 p2 p3 HCK
   cases O with
   | false =>
    obtain rfl : R = false := by
     rw [← HR.out,restB,Bool.and_eq_false_iff]
     left
     rw [List.all_eq_false];exact ⟨f,HM.out,by rw [HFO.out,HE.out.1,HO.out]; simp⟩
    go_wp2_with fail;go_ret;exact ⟨rfl,hbw⟩
   | true =>
    go_wp2_with fail;refine (HTG.out _ hbw).mono ?_;rintro e w4 ⟨rfl,hb4⟩;have hbw4 : Below w.heap.size w w4 := hbw.trans (hb4.mono hbw.size);clear hb4 hbw HTG
    cases B with
    | true =>
     obtain rfl : R = false := by
      rw [← HR.out,restB,Bool.and_eq_false_iff]
      left
      rw [List.all_eq_false];exact ⟨f,HM.out,by rw [HE.out.1,HB.out]; simp⟩
     go_wp2_with fail;go_ret;exact ⟨rfl,hbw4⟩
    | false =>
     have HI2 : Hid (∀ f ∈ l.take (i + 1),(okF f && !hasB es f.tag) = true) := rest_all HI.out HF.out (by rw [HFO.out,HE.out.1,HO.out,HB.out]; rfl);go_wp2_with fail
     go_roundw
     case rel => exact ⟨i + 1,by go_num,by omega,HI2,hbw4⟩
     case measure => simp [intOf]; omega
  ·have hall : R = risesB l := by
    have h5 := HI.out;rw [List.take_of_length_le (by rw [HN.out]; omega)] at h5;rw [← HR.out,restB,List.all_eq_true.2 h5]
    rfl
   have HRX : Hid (Calls Tryz.prog 49 #[.slice a N cap] wr fun e w' => e = .returned (.bool R) ∧ Below wr.heap.size wr w') := by
    rw [hall]; exact HRS.out wr hbel
   clear hall;go_wp2_with fail;refine HRX.out.mono ?_;rintro e w2 ⟨rfl,hb2⟩;have hbw : Below w.heap.size w w2 := hbel.trans (hb2.mono hbel.size);go_wp2_with fail;go_ret;exact ⟨rfl,hbw⟩
theorem wrong_any (n : Nat) (t : Tr) (r : List Value) (w : World) (h : TrQ n w r t) (hl : t.es.length ≤ 1000000) :
  Calls Tryz.prog 84 #[.agg r.toArray] w fun e w' => e = .returned (.bool (!lvB t)) ∧ Below w.heap.size w w' := by
 cases n with
 | zero => exact h.elim
 | succ n =>
  obtain ⟨ve,vr,rfl,ka,na,sa,fa,ra,ea,pa⟩ := h;obtain ⟨pe,ce,rfl,u1,u2, -⟩ := RowP.open ea;obtain ⟨pr,cr,rfl,x1,x2, -⟩ := rest_holds ra;have HEN : Hid (∀ W,Below w.heap.size w W → Calls Tryz.prog 125 #[.slice pe t.es.length ce] W fun e w' => e = .returned (.bool (entsB 0 t.es)) ∧ Below W.heap.size W w') := fun W hW => entries_any n _ t.es W (RowP.belowEQ ea hW)
  have HRE : Hid (entsB 0 t.es = true → ∀ W,Below w.heap.size w W → Calls Tryz.prog 126 #[.slice pr t.rest.length cr,.slice pe t.es.length ce] W fun e w' => e = .returned (.bool (restB t.rest t.es)) ∧ Below W.heap.size W w') := fun he W hW => restMayBe_any n _ _ t.rest t.es W (ra.below hW) (RowP.belowEQ ea hW) (ents_ris t.es 0 he) hl
  obtain ⟨R,hR⟩ : ∃ R,(!lvB t) = R := ⟨_,rfl⟩;rw [hR];have HR : Hid ((!lvB t) = R) := hR;unfold maxLen at u2 x2
  have hel : (t.es.isEmpty = decide (t.es.length = 0)) := by cases t.es <;> simp
  have hrl : (t.rest.isEmpty = decide (t.rest.length = 0)) := by cases t.rest <;> simp
  have hlv := hR;simp only [lvB,hel,hrl] at hlv;have HLV : Hid _ := hlv;clear hR hlv ea ra fa ka na pa hel hrl HR;generalize t.es.length = Ke at *;generalize t.rest.length = Kr at *;generalize t.kind = K at *;generalize t.n = N at *;generalize t.s = S at *;generalize entsB 0 t.es = E at *;generalize restB t.rest t.es = Rs at *
  have hsz : (S.toList == ([] : List UInt8)) = (S.size == 0) := by
   rw [ByteArray.toList_eq];obtain ⟨⟨l⟩⟩ := S
   cases l <;> simp [ByteArray.size]
  have hs0 : S.size = 0 → S = ByteArray.empty := fun h => by
   obtain ⟨⟨l⟩⟩ := S
   cases l with
   | nil => rfl
   | cons a l => simp [ByteArray.size] at h
  by_cases k1 : K = 1
  ·subst k1;simp only [if_true] at HLV;have HSE : Hid (S.size = 0 → S = ByteArray.empty) := hs0;clear hs0 hsz
   by_cases hs : S.size = 0
   ·have := HSE.out hs;subst this;clear HSE hs
    go_enter Tryz.func84,Tryz.ntmps84
    go_wp2_with fail
    all_goals
     go_ret;refine ⟨ret_boolF ?_,bra _⟩;rw [← HLV.out]
     first
      | (rw [Bool.eq_iff_iff]; simp; omega)
      | (simp; omega)
   ·have hne : (S.toList == ([] : List UInt8)) = false := by
     rw [ByteArray.toList_eq];obtain ⟨⟨l⟩⟩ := S
     cases l with
     | nil => exact absurd rfl hs
     | cons a l => rfl
    obtain rfl : R = true := by rw [← HLV.out]; simp [hs]
    clear hs HSE HLV
    go_enter Tryz.func84,Tryz.ntmps84
    go_wp2_with fail
    all_goals
     go_ret;exact ⟨rfl,bra _⟩
  ·have d1 : (K == 1) = false := by simpa using k1
   simp only [if_neg k1] at HLV
   by_cases k2 : K = 2
   ·subst k2;simp only [if_true] at HLV
    go_enter Tryz.func84,Tryz.ntmps84
    go_wp2_with fail
    all_goals
     go_ret;refine ⟨ret_boolF ?_,bra _⟩;rw [← HLV.out]
     first
      | (rw [Bool.eq_iff_iff]; simp; omega)
      | (simp; omega)
      | (simp; left; omega)
      | (simp_all; omega)
      | simp_all
   ·have d2 : (K == 2) = false := by simpa using k2
    simp only [if_neg k2] at HLV
    by_cases k3 : K = 3
    ·subst k3;simp only [if_true] at HLV
     by_cases hn : N = 0
     ·subst hn
      by_cases hs : S.size = 0
      ·have := hs0 hs;subst this;clear hs0 hsz hs
       go_enter Tryz.func84,Tryz.ntmps84
       go_wp2_with fail;refine (HEN.out _ (bra _)).mono ?_;rintro e w2 ⟨rfl,hb2⟩;have hal : Below w.heap.size w (w.alloc (Obj.cells #[.int .i64 3,.int .i64 0,.string ByteArray.empty,.slice pe Ke ce,.slice pr Kr cr] 33)) := bra _;have hbw : Below w.heap.size w w2 := hal.trans (hb2.mono hal.size);have BX := (Blk.new w #[.int .i64 3,.int .i64 0,.string ByteArray.empty,.slice pe Ke ce,.slice pr Kr cr] 33).below hb2;have q3 := (BX.cell 3).trans rfl;have q4 := (BX.cell 4).trans rfl;clear hb2 HEN hal BX
       cases E with
       | false =>
        obtain rfl : R = true := by rw [← HLV.out]; simp
        go_wp2_with fail;go_ret;exact ⟨rfl,hbw⟩
       | true =>
        go_wp2_with fail;refine (HRE.out trivial _ hbw).mono ?_;rintro e w3 ⟨rfl,hb3⟩;have hbw3 : Below w.heap.size w w3 := hbw.trans (hb3.mono hbw.size)
        have hRR : (!Rs) = R := by rw [← HLV.out]; simp
        clear hb3 hbw HRE;go_wp2_with fail;go_ret;exact ⟨rfl,hbw3⟩
      ·have hne : (S.toList == ([] : List UInt8)) = false := by
        rw [ByteArray.toList_eq];obtain ⟨⟨l⟩⟩ := S
        cases l with
        | nil => exact absurd rfl hs
        | cons a l => rfl
       obtain rfl : R = true := by rw [← HLV.out]; simp [hs]
       clear hs hs0 hsz HLV
       go_enter Tryz.func84,Tryz.ntmps84
       go_wp2_with fail
       all_goals
        go_ret;exact ⟨rfl,bra _⟩
     ·have hne : (N != 0) = true := by simpa using hn
      obtain rfl : R = true := by rw [← HLV.out]; simp [hn]
      clear hs0 hsz HLV
      go_enter Tryz.func84,Tryz.ntmps84
      go_wp2_with fail
      all_goals
       go_ret;exact ⟨rfl,bra _⟩
    ·have d3 : (K == 3) = false := by simpa using k3
     simp only [if_neg k3] at HLV
     obtain rfl : R = true := by rw [← HLV.out]; rfl
     go_enter Tryz.func84,Tryz.ntmps84
     go_wp2_with fail;go_ret;exact ⟨rfl,bra _⟩
theorem ok_step {m : Nat} {ts : List Tr} {M : List (List (Int × List Tr))} (h : MsgS ts M) (hl : ∀ x ∈ ts,lvB x = true) : ts.all (okN (m + 1)) = (subsL M).all (okN m) := by
 rw [Bool.eq_iff_iff,List.all_eq_true,List.all_eq_true]
 constructor
 ·intro h1 y hy;obtain ⟨m1,hm1,hy⟩ := mem_subsL.1 hy;obtain ⟨t1,ht1,hk1,rfl⟩ := mem_msgsL.1 (h.1.subset hm1);have := h1 t1 ht1;simp only [okN,hk1,if_true,Bool.and_eq_true,List.all_eq_true] at this;exact this.2 y hy
 ·intro h1 x hx;simp only [okN,hl x hx,Bool.true_and]
  split
  ·rename_i hk
   exact List.all_eq_true.2 fun y hy => h1 y (mem_subsL.2 ⟨_,h.2 x hx hk,hy⟩)
  ·rfl
theorem sm_step {m : Nat} {ts : List Tr} {M : List (List (Int × List Tr))} (h : MsgS ts M) (hs : ∀ x ∈ ts,SmN (m + 1) x) : ∀ x ∈ subsL M,SmN m x := by
 intro y hy;obtain ⟨m1,hm1,hy⟩ := mem_subsL.1 hy;obtain ⟨t1,ht1,hk1,rfl⟩ := mem_msgsL.1 (h.1.subset hm1);obtain ⟨e,he,hy⟩ := mem_subs.1 hy;exact ((hs t1 ht1).2.2.2.2 e he).2 y hy
theorem vcheck_any (n : Nat) (t : Tr) (v : Value) (w : World) (h : TrV2 n w v t) (hn : n ≤ 60) (hc : cntN n t ≤ 5000) (hs : SmN n t) :
  Calls Tryz.prog 43 #[v] w fun e w' => e = .returned (.bool (chkN n t)) ∧ Below w.heap.size w w' := by
 have HDP : Hid (∀ W,Below w.heap.size w W → Calls Tryz.prog 80 #[v] W fun e w' => e = .returned (.int .i64 (dpN n t : Int)) ∧ Below W.heap.size W w') := fun W hW => depth_any n t v W (h.below hW) hn hc
 obtain ⟨ea,el,ec,ra,rl,rc,rfl,hq⟩ := h.open;have HQ : Hid (TrQ n w [.int .i64 t.kind,.int .i64 t.n,.string t.s,.slice ea el ec,.slice ra rl rc] t) := hq;have HC : Hid (cntN n t ≤ 5000) := hc;have HS : Hid (SmN n t) := hs;obtain ⟨D,hD⟩ : ∃ D,dpN n t = D := ⟨_,rfl⟩;obtain ⟨R,hR⟩ : ∃ R,okN n t = R := ⟨_,rfl⟩;have HR : Hid (okN n t = R) := hR;rw [hD] at HDP;rw [chkN,hD,hR];clear h hq hc hs hD hR;generalize t.kind = K at *;generalize t.n = N at *;generalize t.s = S at *;have hal : Below w.heap.size w (w.alloc (Obj.cells #[.int .i64 K,.int .i64 N,.string S,.slice ea el ec,.slice ra rl rc] 33)) := bra _;have HBX : Hid (Blk (w.alloc (Obj.cells #[.int .i64 K,.int .i64 N,.string S,.slice ea el ec,.slice ra rl rc] 33)) w.heap.size #[.int .i64 K,.int .i64 N,.string S,.slice ea el ec,.slice ra rl rc] 33) := Blk.new w _ _
 by_cases hd : D ≤ 10
 ·have d1 : decide (10 < (D : Int)) = false := by simp; omega
  rw [decide_eq_true hd,Bool.true_and]
  go_enter Tryz.func43,Tryz.ntmps43
  go_wp2_with fail;refine (HDP.out _ hal).mono ?_;rintro e w1 ⟨rfl,hb1⟩;have hb : Below w.heap.size w w1 := hal.trans (hb1.mono hal.size);have BX := HBX.out.below hb1;clear hb1 hal HBX HDP;obtain ⟨q0,q1,q2,q3,q4⟩ := cl5 BX;go_wp2_with fail;have hbA : Below w.heap.size w (w1.alloc (Obj.cells #[.int .i64 K,.int .i64 N,.string S,.slice ea el ec,.slice ra rl rc] 33)) := hb.alloc hb.size _;have HT0 : Hid (TrsQ n (w1.alloc (Obj.cells #[.int .i64 K,.int .i64 N,.string S,.slice ea el ec,.slice ra rl rc] 33)) (.slice (some ⟨w1.heap.size,0,none⟩) 1 1) [t]) := one_row (Blk.new w1 _ _) (HQ.out.below hbA);clear q0 q1 q2 q3 q4 BX
  go_loopg [3] n (fun k lv wr => ∃ ts : List Tr,Hid (TrsQ k wr lv ts) ∧ Hid (cntL k ts ≤ 5000) ∧ Hid (∀ x ∈ ts,SmN k x) ∧ Hid (ts.all (okN k) = R) ∧ Below w.heap.size w wr)
  case atStart => exact ⟨[t],HT0,(by simpa [cntL] using HC.out : cntL n [t] ≤ 5000),(by simpa using HS.out : ∀ x ∈ [t],SmN n x),(by simpa using HR.out : [t].all (okN n) = R),hbA⟩
  case round =>
   clear HT0 hbA hb;obtain ⟨ts,HT,HC,HS,HR,hb⟩ := hrel;obtain ⟨la,lc,rfl,l1,l2, -⟩ := RowP.open HT.out;unfold maxLen at l2;obtain ⟨Tl,hTl⟩ : ∃ k,ts.length = k := ⟨_,rfl⟩;have HT' : Hid (TrsQ gk wr (.slice la Tl lc) ts) := hid (by rw [← hTl]; exact HT.out);rw [hTl] at l1 ⊢;have HTl : Hid (ts.length = Tl) := hTl;have hlen : ts.length ≤ 5000 := Nat.le_trans (len_cnt HT'.out) HC.out;have HLN : Hid (ts.length ≤ 5000) := hlen;clear hTl HT hlen
   by_cases h0 : Tl = 0
   ·subst h0;have hts : ts = [] := List.eq_nil_of_length_eq_zero HTl.out
    obtain rfl : R = true := by rw [← HR.out,hts]; rfl
    clear hts;go_wp2_with fail;go_ret;exact ⟨rfl,hb⟩
   ·have d2 : decide (0 < (Tl : Int)) = true := by simp; omega
    obtain ⟨m,rfl⟩ : ∃ m,gk = m + 1 := by
     cases gk with
     | zero =>
      exfalso
      obtain ⟨rows,_,_,h3⟩ := HT'.out;obtain ⟨x,hx⟩ : ∃ x,ts[0]? = some x := ⟨_,List.getElem?_eq_getElem (by rw [HTl.out]; omega)⟩;obtain ⟨r,_,hp⟩ := h3 0 x hx;exact hp
     | succ m => exact ⟨m,rfl⟩
    obtain ⟨B,hB⟩ : ∃ B,ts.any (fun x => !lvB x) = B := ⟨_,rfl⟩
    have HCF : Hid (Calls Tryz.prog 83 #[.slice la Tl lc,.func (.func 84) #[] #[]] wr fun e w' => e = .returned (.bool B) ∧ Below wr.heap.size wr w') := by
     rw [← hB];exact containsW_any (m + 1) _ ts wr (fun x => !lvB x) HT'.out fun W x r hW hx hr => wrong_any (m + 1) x r W hr (by have := (HS.out x hx).2.2.1; omega)
    have HB : Hid (ts.any (fun x => !lvB x) = B) := hB;clear hB;go_wp2_with fail;refine HCF.out.mono ?_;rintro e w2 ⟨rfl,hb2⟩;have hbw2 : Below w.heap.size w w2 := hb.trans (hb2.mono hb.size);have HT2 : Hid (TrsQ (m + 1) w2 (.slice la Tl lc) ts) := HT'.out.belowTQ hb2;clear HCF hb hb2 HT'
    cases B with
    | true =>
     obtain rfl : R = false := by
      rw [← HR.out,List.all_eq_false];obtain ⟨x,hx,hlx⟩ := List.any_eq_true.1 HB.out;refine ⟨x,hx,?_⟩
      simp at hlx
      simp [okN,hlx]
     go_wp2_with fail;go_ret;exact ⟨rfl,hbw2⟩
    | false =>
     have hlv : ∀ x ∈ ts,lvB x = true := fun x hx => by
      have := List.any_eq_false.1 HB.out x hx
      simpa using this
     have HLV : Hid (∀ x ∈ ts,lvB x = true) := hlv;have HM : Hid (Calls Tryz.prog 82 #[.slice la Tl lc] w2 (MsgP m ts w2)) := messages_any (m + 1) _ ts w2 HT2.out HLN.out;clear hlv;go_wp2_with fail;refine HM.out.mono ?_;rintro e w3 ⟨lv3,M,rfl,hL3,hS3,hb3⟩;have hbw3 : Below w.heap.size w w3 := hbw2.trans (hb3.mono hbw2.size);have HC3 : Hid (cntL m (subsL M) ≤ 5000) := hid (Nat.le_trans (cnt_step hS3) HC.out);have HI : Hid (Calls Tryz.prog 81 #[lv3] w3 (InsP m M w3)) := inside_any m _ M w3 hL3 (Nat.le_trans (len_subsL hL3) HC3.out);have HR3 : Hid ((subsL M).all (okN m) = R) := hid (by rw [← ok_step hS3 HLV.out]; exact HR.out);have HS3 : Hid (∀ x ∈ subsL M,SmN m x) := sm_step hS3 HS.out;obtain ⟨ma,mc,rfl, -⟩ := RowP.open hL3;clear hL3 hS3 hb3 hbw2 HM HT2 HC HS HR HLV;generalize M.length = Ml at *;go_wp2_with fail;refine HI.out.mono ?_;rintro e w4 ⟨iv,rfl,hT4,hb4⟩;have hbw4 : Below w.heap.size w w4 := hbw3.trans (hb4.mono hbw3.size);have HT4 : Hid (TrsQ m w4 iv (subsL M)) := hT4;clear hT4 hb4 hbw3 HI;go_wp2_with fail
     go_roundg m
     case measure => omega
     case rel => exact ⟨subsL M,HT4,HC3,HS3,HR3,hbw4⟩
 ·have d1 : decide (10 < (D : Int)) = true := by simp; omega
  rw [decide_eq_false hd,Bool.false_and]
  go_enter Tryz.func43,Tryz.ntmps43
  go_wp2_with fail;refine (HDP.out _ hal).mono ?_;rintro e w1 ⟨rfl,hb1⟩;have hb : Below w.heap.size w w1 := hal.trans (hb1.mono hal.size);have BX := HBX.out.below hb1;clear hb1 hal HBX HDP;clear BX;go_wp2_with fail;go_ret;exact ⟨rfl,hb⟩
theorem TrW.v3 {n : Nat} {w : World} {v : Value} {t : Tr} (h : TrW n w v t) : TrV2 n w v t := by
 obtain ⟨r,h1,h2⟩ := h;exact ⟨r,h1,h2.trQ⟩
def RwsP (R : List Fd × Nat) (w : World) (e : Ending) (w' : World) : Prop := ∃ r,e = .returned (.tuple #[r,.int .i64 (R.2 : Int)]) ∧ RawsAt w.heap.size w' r R.1 ∧ FdsOk R.1 ∧ Below w.heap.size w w'
def EncP (R : List Nat × Nat) (w : World) (e : Ending) (w' : World) : Prop := ∃ r,e = .returned (.tuple #[r,.int .i64 (R.2 : Int)]) ∧ w'.ownsRow w.heap.size 5 1 r R.1.length (byteCells R.1) ∧ Below w.heap.size w w'
theorem EncP.no {R : List Nat × Nat} {w w' : World} {er : Nat} (h : R = ([],er)) (h2 : Below w.heap.size w w') : EncP R w (.returned (.tuple #[.slice none 0 0,.int .i64 (er : Int)])) w' := by
 subst h;exact ⟨.slice none 0 0,rfl,World.ownsRow_nil _ _ _ _,h2⟩
theorem RwsP.no {R : List Fd × Nat} {w w' : World} (h : R = ([],1)) (h2 : Below w.heap.size w w') : RwsP R w (.returned (.tuple #[.slice none 0 0,.int .i64 1])) w' := by
 subst h;exact ⟨.slice none 0 0,rfl,RawsAt.nil _ _,⟨by simp,by simp⟩,h2⟩
theorem eraws_any {n : Nat} {t : Tr} {v : Value} {w : World} (ht : TrW n w v t) (hn : n ≤ 60) (hc : cntN n t ≤ 5000) (hsm : SmN n t) :
  Calls Tryz.prog 37 #[v] w (RwsP (rawsA n t) w) := by
 have hmm := @run_makeMap Tryz.prog;obtain ⟨R,hR⟩ : ∃ R,rawsA n t = R := ⟨_,rfl⟩;have HR : Hid (rawsA n t = R) := hR;rw [hR];obtain ⟨m,a1,c1,a2,c2, -,rfl, -⟩ := ht.open;obtain ⟨K,hK⟩ : ∃ z,t.kind = z := ⟨_,rfl⟩;obtain ⟨N,hN⟩ : ∃ z,t.n = z := ⟨_,rfl⟩;obtain ⟨S,hS⟩ : ∃ z,t.s = z := ⟨_,rfl⟩;generalize t.es.length = n1 at *;generalize t.rest.length = n2 at *;have HT3 : Hid (t.kind = K) := hK;rw [hK,hN,hS] at ht ⊢;have HVC : Hid (∀ W,Below w.heap.size w W → Calls Tryz.prog 43 #[.agg #[.int .i64 K,.int .i64 N,.string S,.slice a1 n1 c1,.slice a2 n2 c2]] W fun e w' => e = .returned (.bool (chkN n t)) ∧ Below W.heap.size W w') := fun W hW => vcheck_any n t _ W ((ht.cel (Cel.ofBelow hW)).v3) hn hc hsm
 have HFC : Hid (∀ W b,Below w.heap.size w W → KnE w W b → Calls Tryz.prog 68 #[.agg #[.map (some b)],.agg #[.int .i64 K,.int .i64 N,.string S,.slice a1 n1 c1,.slice a2 n2 c2]] W (FlsP w (rwE (bytE (n - 1)) t) b W)) := fun W b hW hk => efields_any w b n t _ W ht hsm hW hk
 have BT : Blk (w.alloc (Obj.cells #[.int .i64 K,.int .i64 N,.string S,.slice a1 n1 c1,.slice a2 n2 c2] 33)) w.heap.size #[.int .i64 K,.int .i64 N,.string S,.slice a1 n1 c1,.slice a2 n2 c2] 33 := Blk.new w _ _;have hbw : Below w.heap.size w (w.alloc (Obj.cells #[.int .i64 K,.int .i64 N,.string S,.slice a1 n1 c1,.slice a2 n2 c2] 33)) := bra _;clear hR hK hN hS ht hn hc hsm
 by_cases hK3 : K = 3
 rotate_left
 ·have d : (K != 3) = true := by simpa using hK3
  have HRV : Hid (R = ([],1)) := (by rw [← HR.out,rawsA,if_neg (by rw [HT3.out]; exact fun h => hK3 h.1)] : R = _);clear hK3 HR HT3 HVC HFC BT
  go_enter Tryz.func37,Tryz.ntmps37
  go_wp2_with fail
  go_ret2
  exact RwsP.no HRV.out hbw
 ·subst hK3
  go_enter Tryz.func37,Tryz.ntmps37
  go_wp2_with fail;refine (HVC.out _ hbw).mono ?_;rintro ee w1 ⟨rfl,hb1⟩;have hbw1 : Below w.heap.size w w1 := hbw.trans (hb1.mono hbw.size);have BT1 := BT.below hb1;clear hb1 hbw BT HVC;obtain ⟨C,hC⟩ : ∃ z,chkN n t = z := ⟨_,rfl⟩;have HC : Hid (chkN n t = C) := hC;rw [hC];clear hC
  cases C with
  | false =>
   have HRV : Hid (R = ([],1)) := (by rw [← HR.out,rawsA,if_neg (by rw [HC.out]; simp)] : R = _);clear HR HC;go_wp2_with fail
   go_ret2
   exact RwsP.no HRV.out hbw1
  | true =>
   have HRV : Hid (rwE (bytE (n - 1)) t = R) := (by rw [← HR.out,rawsA,if_pos ⟨HT3.out,HC.out⟩] : _ = R);have alm : Below w1.heap.size w1 (w1.alloc (.map #[] 0)) := bra _;have hbw2 : Below w.heap.size w (w1.alloc (.map #[] 0)) := hbw1.trans (alm.mono hbw1.size)
   have HF2 : Hid (Calls Tryz.prog 68 #[.agg #[.map (some w1.heap.size)],.agg #[.int .i64 3,.int .i64 N,.string S,.slice a1 n1 c1,.slice a2 n2 c2]] (w1.alloc (.map #[] 0)) (FlsP w R w1.heap.size (w1.alloc (.map #[] 0)))) := (by
    have h1 := HFC.out (w1.alloc (.map #[] 0)) w1.heap.size hbw2 (KnE.made hbw1.size);rw [HRV.out] at h1
    exact h1 : Calls Tryz.prog _ _ _ _)
   have BT2 := BT1.below alm;obtain ⟨t0,t1,t2,t3,t4⟩ := cl5 BT2;clear HFC HRV HR HC BT1 BT2;go_wp2_with fail;refine Calls.mono HF2.out ?_;rintro ee w3 ⟨r,rfl,hra,hok, -,hkp⟩;have hbw3 : Below w.heap.size w w3 := hbw2.trans (hkp.toBelow hbw2.size (fun k e => by rw [e]; exact hbw1.size))
   have HRA : Hid (RawsAt w.heap.size w3 r R.1) := hid (by
    obtain ⟨qa,qc,q1,q2,q3,q4,q5⟩ := hra;refine ⟨qa,qc,q1,?_,q3,q4,q5⟩
    rcases q2 with h | ⟨g,g1,g2,g3⟩
    ·exact .inl h
    ·exact .inr ⟨g,g1,Nat.le_trans hbw2.size g2,g3⟩)
   clear hra hkp HF2 t0 t1 t2 t3 t4 alm;go_wp2_with fail
   go_ret2
   exact ⟨r,rfl,HRA.out,hok,hbw3⟩
theorem encode_any {n : Nat} {t : Tr} {v : Value} {w : World} (ht : TrW n w v t) (hn : n ≤ 60) (hc : cntN n t ≤ 5000) (hsm : SmN n t) :
  Calls Tryz.prog 19 #[v] w (EncP (encA n t) w) := by
 obtain ⟨R,hR⟩ : ∃ R,encA n t = R := ⟨_,rfl⟩;have HR : Hid (ofR (rawsA n t) = R) := hR;rw [hR];have HRC : Hid (∀ W,Below w.heap.size w W → Calls Tryz.prog 37 #[v] W (RwsP (rawsA n t) W)) := fun W hW => eraws_any (ht.cel (Cel.ofBelow hW)) hn hc hsm
 obtain ⟨m,a1,c1,a2,c2, -,rfl, -⟩ := ht.open;generalize t.kind = K at *;generalize t.n = N at *;generalize t.s = S at *;generalize t.es.length = n1 at *;generalize t.rest.length = n2 at *;have hbw : Below w.heap.size w (w.alloc (Obj.cells #[.int .i64 K,.int .i64 N,.string S,.slice a1 n1 c1,.slice a2 n2 c2] 33)) := bra _;clear hR ht hn hc hsm
 go_enter Tryz.func19,Tryz.ntmps19
 go_wp2_with fail;refine Calls.mono (HRC.out _ hbw) ?_;rintro ee w1 ⟨r,rfl,hra,hok,hb1⟩;have hbw1 : Below w.heap.size w w1 := hbw.trans (hb1.mono hbw.size);obtain ⟨⟨rs,er⟩,hq⟩ : ∃ q,rawsA n t = q := ⟨_,rfl⟩;rw [hq] at HR hra hok ⊢;have HPC : Hid (Calls Tryz.prog 25 #[r] w1 fun e w' => ∃ v,e = .returned (.tuple #[v,.int .i64 ((putL rs).2 : Int)]) ∧ w'.ownsRow w1.heap.size 5 1 v (putL rs).1.length (byteCells (putL rs).1) ∧ Below w1.heap.size w1 w') := putall_at hra hok;clear hra hok hq hb1 hbw HRC
 by_cases he : er = 0
 ·subst he;have HRV : Hid (putL rs = R) := hid (by have := HR.out; rw [ofR,if_neg (by simp)] at this; exact this);rw [HRV.out] at HPC;clear HR HRV;go_wp2_with fail;refine Calls.mono HPC.out ?_;rintro ee w2 ⟨u,rfl,ho,hb2⟩;have hbw2 : Below w.heap.size w w2 := hbw1.trans (hb2.mono hbw1.size)
  have HO : Hid (w2.ownsRow w.heap.size 5 1 u R.1.length (byteCells R.1)) := hid (by
   refine ⟨ho.1,?_⟩
   rcases ho.2 with h | ⟨g,cap,cur,h1,h2,h3⟩
   ·exact .inl h
   ·exact .inr ⟨g,cap,cur,h1,Nat.le_trans hbw1.size h2,h3⟩)
  clear ho hb2 HPC;go_wp2_with fail
  go_ret2
  exact ⟨u,rfl,HO.out,hbw2⟩
 ·have hd : ((er : Int) != 0) = true := by simp; omega
  have HRV : Hid (R = ([],er)) := (by have := HR.out; rw [ofR,if_pos he] at this; exact this.symm : R = _);clear HR HPC he;go_wp2_with fail
  go_ret2
  exact EncP.no HRV.out hbw1
theorem RowG.blk {w : World} {b : Nat} {cs : Array Value} {t : TypeId} {size n : Nat} {rs : List (List Value)} (h : Blk w b cs t) (hc : cs.toList = rs.flatten) (hl : ∀ r ∈ rs,r.length = size) (hn : rs.length = n) (hm : n ≤ 1000000) : RowG w (.slice (some ⟨b,0,none⟩) n n) size rs := by
 subst hn;refine ⟨some ⟨b,0,none⟩,rs.length,rfl,Nat.le_refl _,by unfold maxLen; omega,(fun e => by cases e),fun _ => ⟨b,0,rfl,fun i c u j hi hj => ?_⟩⟩;rw [h.cell,← Array.getElem?_toList,hc,Nat.zero_add];exact flat_get rs hl i c hi j u hj
end Go.Proofs.YtiajaocckkghgaaGreat

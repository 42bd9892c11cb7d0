/- Part 5 of what the proof stands on. -/
import Derived.Test.YtmgbhicogmclgaaGreatPkAAD
import Derived.OneCell
namespace Go.Proofs.YtmgbhicogmclgaaGreat
set_option maxHeartbeats 8000000
set_option linter.unusedVariables false
set_option linter.unusedSimpArgs false
set_option maxRecDepth 20000
section
open Go.ChangeShapes Go.WideShapes Go.ChangeAt Go.RowKit
theorem infoTq : (Tryz.prog.info? 30).map (fun i => (i.zero,i.size,i.bytes)) = some (some (.agg #[.int .i64 0,.int .i64 0,.string ⟨#[]⟩,.slice none 0 0,.slice none 0 0]),5,80) := by kernel_rfl
def SideT (n : Nat) (w : World) (rows : List (List Value)) (ts : List Tr) : Prop := rows.length = ts.length ∧ ∀ (i : Nat) (r : List Value) (t : Tr),rows[i]? = some r → ts[i]? = some t → TrQ n w r t
theorem SideT.append {n : Nat} {w : World} {rows rs : List (List Value)} {ts us : List Tr} (h : SideT n w rows ts) (k : SideT n w rs us) : SideT n w (rows ++ rs) (ts ++ us) := by
 refine ⟨by simp [h.1,k.1],fun i r t hr ht => ?_⟩
 by_cases hi : i < rows.length
 ·rw [List.getElem?_append_left hi] at hr;rw [List.getElem?_append_left (by rw [← h.1]; exact hi)] at ht;exact h.2 i r t hr ht
 ·rw [List.getElem?_append_right (by omega)] at hr;rw [List.getElem?_append_right (by rw [← h.1]; omega),← h.1] at ht;exact k.2 _ r t hr ht
theorem SideT.below {n : Nat} {w w1 : World} {rows : List (List Value)} {ts : List Tr} (h : SideT n w rows ts) (hb : Below w.heap.size w w1) : SideT n w1 rows ts := ⟨h.1,fun i r t hr ht => (h.2 i r t hr ht).below hb⟩
theorem TrQ.five {n : Nat} {w : World} {r : List Value} {t : Tr} (h : TrQ n w r t) : r.length = 5 ∧ ∀ u ∈ r,u.oneCell' = true := by
 cases n with
 | zero => exact h.elim
 | succ n =>
  obtain ⟨ve,vr,rfl,_,_,_,_,h6,h7,_⟩ := h;obtain ⟨a1,c1,rfl,_⟩ := RowP.open h7;obtain ⟨a2,c2,rfl,_⟩ := h6.form2;refine ⟨rfl,fun u hu => ?_⟩;simp only [List.mem_cons,List.not_mem_nil,or_false] at hu
  rcases hu with rfl | rfl | rfl | rfl | rfl <;> rfl
theorem SideT.rows {n : Nat} {w : World} {rows : List (List Value)} {ts : List Tr} (h : SideT n w rows ts) : (∀ r ∈ rows,r.length = 5) ∧ ∀ u ∈ rows.flatten,u.oneCell' = true := by
 have each : ∀ r ∈ rows,r.length = 5 ∧ ∀ u ∈ r,u.oneCell' = true := fun r hr => by
  obtain ⟨i,hi,e⟩ := List.getElem_of_mem hr;have ht : ts[i]? = some (ts[i]'(by rw [← h.1]; exact hi)) := List.getElem?_eq_getElem _;exact (h.2 i r _ (by rw [List.getElem?_eq_getElem hi,e]) ht).five
 refine ⟨fun r hr => (each r hr).1,fun u hu => ?_⟩;obtain ⟨r,hr,hu⟩ := List.mem_flatten.1 hu;exact (each r hr).2 u hu
theorem TrsQ_side {n : Nat} {w : World} {v : Value} {ts : List Tr} (h : TrsQ n w v ts) : ∃ rows,RowG w v 5 rows ∧ SideT n w rows ts := by
 obtain ⟨rows,h1,h2,h3⟩ := h;refine ⟨rows,h1,h2,fun i r t hr ht => ?_⟩;obtain ⟨r',e,hp⟩ := h3 i t ht;rw [hr] at e
 cases e
 exact hp
theorem SideT.row {n : Nat} {w : World} {rows : List (List Value)} {ts : List Tr} (h : SideT n w rows ts) {B k : Nat} {v : Value} (ho : w.ownsRow B 30 5 v k rows.flatten) : TrsQ n w v ts := by
 refine ⟨rows,(RowG.own h.rows.1 (by decide) ho).1,h.1,fun i t ht => ?_⟩;obtain ⟨r,hr⟩ : ∃ r,rows[i]? = some r := ⟨_,List.getElem?_eq_getElem (by rw [h.1]; exact (List.getElem?_eq_some_iff.1 ht).1)⟩;exact ⟨r,hr,h.2 i r t hr ht⟩
def subsL (M : List (List (Int × List Tr))) : List Tr := M.flatMap subs
theorem subs_snoc (es : List (Int × List Tr)) (e : Int × List Tr) : subs (es ++ [e]) = subs es ++ e.2 := by simp [subs,List.flatMap_append]
theorem subsL_snoc (M : List (List (Int × List Tr))) (m : List (Int × List Tr)) : subsL (M ++ [m]) = subsL M ++ subs m := by simp [subsL,List.flatMap_append]
theorem take_atQ {α : Type} {l : List α} {i : Nat} {x : α} (h : l[i]? = some x) : l.take (i + 1) = l.take i ++ [x] := by
 obtain ⟨hl,rfl⟩ := List.getElem?_eq_some_iff.1 h;rw [List.take_succ_eq_append_getElem hl]
theorem subs_take_le (m : List (Int × List Tr)) (j : Nat) : (subs (m.take j)).length ≤ (subs m).length := by
 have : subs m = subs (m.take j) ++ subs (m.drop j) := by rw [subs,subs,subs,← List.flatMap_append,List.take_append_drop]
 rw [this,List.length_append]
 omega
theorem subsL_take_le (M : List (List (Int × List Tr))) (j : Nat) : (subsL (M.take j)).length ≤ (subsL M).length := by
 have : subsL M = subsL (M.take j) ++ subsL (M.drop j) := by rw [subsL,subsL,subsL,← List.flatMap_append,List.take_append_drop]
 rw [this,List.length_append]
 omega
theorem acc_le {M : List (List (Int × List Tr))} {m : List (Int × List Tr)} {i j : Nat} (h : M[i]? = some m) : (subsL (M.take i) ++ subs (m.take j)).length ≤ (subsL M).length := by
 refine Nat.le_trans ?_ (subsL_take_le M (i + 1));rw [take_atQ h,subsL_snoc,List.length_append,List.length_append];have := subs_take_le m j
 omega
def InsP (n : Nat) (M : List (List (Int × List Tr))) (w : World) (e : Ending) (w' : World) : Prop := ∃ v,e = .returned v ∧ TrsQ n w' v (subsL M) ∧ Below w.heap.size w w'
theorem inside_any (n : Nat) (v : Value) (M : List (List (Int × List Tr))) (w : World) (h : LvQ n w v M) (hl : (subsL M).length ≤ 5000) :
  Calls Tryz.prog 41 #[v] w (InsP n M w) := by
 obtain ⟨a,cap,rfl,h1,h2, -⟩ := RowP.open h;obtain ⟨N,hN⟩ : ∃ N,M.length = N := ⟨_,rfl⟩;rw [hN] at h1 ⊢;have HH : Hid (LvQ n w (.slice a N cap) M) := (by rw [← hN]; exact h : LvQ n w (.slice a N cap) M);have HN : Hid (M.length = N) := hN;have HL : Hid ((subsL M).length ≤ 5000) := hl;unfold maxLen at h2;clear h hN hl
 go_enter Tryz.func41,Tryz.ntmps41
 go_wp2_with fail
 go_loopw [3,10] (fun ov iv wr => ∃ (i k : Nat) (oa : Option Addr) (oc : Nat) (rows : List (List Value)),iv = .int .i64 (i : Int) ∧ ov = .slice oa k oc ∧ i ≤ N ∧ Hid (SideT n w rows (subsL (M.take i))) ∧ Hid (wr.ownsRow w.heap.size 30 5 (.slice oa k oc) k rows.flatten) ∧ Below w.heap.size w wr) (fun _ iv _ => N - (intOf iv).toNat)
 case atStart => exact ⟨0,0,none,0,[],rfl,rfl,by omega,(⟨rfl,by simp⟩ : SideT n w [] (subsL (M.take 0))),World.ownsRow_nil _ _ _ _,Below.refl _ _⟩
 case round =>
  obtain ⟨i,k,oa,oc,rows,rfl,rfl,hi,HS,HO,hbel⟩ := hrel
  by_cases hlt : i < N
  ·obtain ⟨m,hm⟩ : ∃ r,M[i]? = some r := ⟨_,List.getElem?_eq_getElem (by rw [HN.out]; exact hlt)⟩;obtain ⟨g,off,rfl,r,⟨ve,rfl,he,hp⟩,hc⟩ := HH.out.get hm;obtain ⟨ea,ec,rfl,e1,e2, -⟩ := RowP.open he;have c0 := (hbel.cell (World.block_lt_of_cell? _ _ (hc 0 _ rfl))).trans (hc 0 _ rfl);simp only [Nat.mul_one,Nat.add_zero] at c0;obtain ⟨El,hEl⟩ : ∃ N,m.length = N := ⟨_,rfl⟩;rw [hEl] at e1 c0;have HE : Hid (EnsQ n w (.slice ea El ec) m) := (by rw [← hEl]; exact he : EnsQ n w (.slice ea El ec) m);have HEl : Hid (m.length = El) := hEl;have HM : Hid (M[i]? = some m) := hm;unfold maxLen at e2;clear hc he hp hm hEl;go_wp2_with fail;clear c0
   go_loopw [3,16] (fun ov jv wz => ∃ (j k : Nat) (oa : Option Addr) (oc : Nat) (rows : List (List Value)),jv = .int .i64 (j : Int) ∧ ov = .slice oa k oc ∧ j ≤ El ∧ Hid (SideT n w rows (subsL (M.take i) ++ subs (m.take j))) ∧ Hid (wz.ownsRow w.heap.size 30 5 (.slice oa k oc) k rows.flatten) ∧ Below w.heap.size w wz) (fun _ jv _ => El - (intOf jv).toNat)
   case atStart => exact ⟨0,k,oa,oc,rows,rfl,rfl,by omega,(by simpa [subs] using HS.out : SideT n w rows (subsL (M.take i) ++ subs (m.take 0))),HO,hbel⟩
   case round =>
    clear HS HO hbel;obtain ⟨j,k,oa,oc,rows,rfl,rfl,hj,HS,HO,hbel⟩ := hrel
    by_cases hlt2 : j < El
    ·obtain ⟨x,hx⟩ : ∃ r,m[j]? = some r := ⟨_,List.getElem?_eq_getElem (by rw [HEl.out]; exact hlt2)⟩;obtain ⟨ge,offe,rfl,r,⟨vt,rfl, -,ht⟩,hc⟩ := HE.out.get hx;obtain ⟨ta,tc,rfl, -⟩ := RowP.open ht;have c0 := (hbel.cell (World.block_lt_of_cell? _ _ (hc 0 _ rfl))).trans (hc 0 _ rfl);have c1 := (hbel.cell (World.block_lt_of_cell? _ _ (hc 1 _ rfl))).trans (hc 1 _ rfl);simp only [Nat.add_zero] at c0;obtain ⟨rs,hrg,hsd⟩ := TrsQ_side ht;have hal : Below wr.heap.size wr (wr.alloc (Obj.cells #[.int .i64 x.1,.slice ta x.2.length tc] 69)) := (Below.refl _ _).alloc (Nat.le_refl _) _;have hb2 : Below w.heap.size w (wr.alloc (Obj.cells #[.int .i64 x.1,.slice ta x.2.length tc] 69)) := hbel.trans (hal.mono hbel.size)
     have hlen : k + rs.length ≤ 5000 := by
      have h1 := acc_le (j := j + 1) HM.out;rw [take_atQ hx,subs_snoc] at h1;have h2 := HL.out;have h3 := HS.out.1;have h4 := hsd.1;have h5 := (RowG.own HS.out.rows.1 (by decide) HO.out).2;simp only [List.length_append] at h1 h3
      omega
     obtain ⟨v',W4,r1,r2,r3⟩ := run_joinG (w := wr.alloc (Obj.cells #[.int .i64 x.1,.slice ta x.2.length tc] 69)) 67 67 30 5 80 _ Tryz.underlying67 infoTq rfl (by decide) w.heap.size (.slice oa k oc) k rows.flatten (own_below HO.out hal) (.slice ta x.2.length tc) rs (hrg.below hb2) hsd.rows.1 hsd.rows.2 (by omega) (by decide) hb2.size;have HRUN : Hid _ := r1;have HS4 : Hid (SideT n w (rows ++ rs) (subsL (M.take i) ++ subs (m.take (j + 1)))) := (by rw [take_atQ hx,subs_snoc,← List.append_assoc]; exact HS.out.append hsd : SideT n w (rows ++ rs) (subsL (M.take i) ++ subs (m.take (j + 1))));have hb4 : Below w.heap.size w W4 := hb2.grown r3 hb2.size (fun q hq => (own_lt HO.out hq).1);rw [← List.flatten_append] at r2;obtain ⟨na,nc,hv'⟩ := own_form r2;subst hv';have HO4 : Hid (W4.ownsRow w.heap.size 30 5 (.slice na (k + rs.length) nc) (k + rs.length) (rows ++ rs).flatten) := r2;clear r1 r2 r3 hrg hsd hc ht hx HS HO;generalize x.2.length = Xl at *;generalize x.1 = xt at *;generalize k + rs.length = k2 at *
     go_wp2_with (first | (at_builtin; refine wpList_ran rfl (append_run rfl rfl rfl HRUN.out) ?_) | fail)
     clear HRUN c0 c1 hal hb2 hbel
     go_roundw
     case rel => exact ⟨j + 1,k2,na,nc,_,by go_num,rfl,by omega,HS4,HO4,hb4⟩
     case measure => simp [intOf]; omega
    ·have HS5 : Hid (SideT n w rows (subsL (M.take (i + 1)))) := (by
      have := HS.out;rw [List.take_of_length_le (l := m) (by rw [HEl.out]; omega)] at this;rw [take_atQ HM.out,subsL_snoc]
      exact this : SideT n w rows (subsL (M.take (i + 1))))
     clear HS;go_wp2_with fail
     go_roundw
     case rel => exact ⟨i + 1,k,oa,oc,rows,by go_num,rfl,by omega,HS5,HO,hbel⟩
     case measure => simp [intOf]; omega
  ·go_wp2_with fail;go_ret;have h5 := HS.out;rw [List.take_of_length_le (by rw [HN.out]; omega)] at h5;exact ⟨_,rfl,(h5.below hbel).row HO.out,hbel⟩
def LowT (n m : Nat) (w : World) (x : Tr) : Prop := ∀ r,TrC n w r x → TrC m w r x
def cntL (m : Nat) (ts : List Tr) : Nat := (ts.map (cntN m)).sum
def cntE (m : Nat) (es : List (Int × List Tr)) : Nat := cntL m (subs es)
theorem cntE_snoc (m : Nat) (es : List (Int × List Tr)) (e : Int × List Tr) : cntE m (es ++ [e]) = cntE m es + cntL m e.2 := by
 simp [cntE,cntL,subs,List.flatMap_append,List.map_append,List.sum_append]
theorem cntL_snoc (m : Nat) (ts : List Tr) (t : Tr) : cntL m (ts ++ [t]) = cntL m ts + cntN m t := by
 simp [cntL,List.map_append,List.sum_append]
theorem take_snocT {α : Type} {l : List α} {i : Nat} {x : α} (h : l[i]? = some x) : l.take (i + 1) = l.take i ++ [x] := by
 obtain ⟨hl,rfl⟩ := List.getElem?_eq_some_iff.1 h;rw [List.take_succ_eq_append_getElem hl]
theorem low_up {n m : Nat} {w : World} {t : Tr} (h : ∀ e ∈ t.es,∀ x ∈ e.2,LowT n m w x) : LowT (n + 1) (m + 1) w t := by
 intro r hr;obtain ⟨ve,vr,h1,h2,h3,h4,h5,h6,h7⟩ := hr;refine ⟨ve,vr,h1,h2,h3,h4,h5,h6,h7.imp fun r x hx hp => ?_⟩;obtain ⟨vt,g1,g2,g3⟩ := hp;exact ⟨vt,g1,g2,g3.imp fun r y hy hp => h x hx y hy r hp⟩
theorem kp_set_alloc (w : World) (g i : Nat) (u : Value) (o : Obj) : Kp (fun b => b = g) w ((w.setCell ⟨g,i,none⟩ u).alloc o) := Kp.alloc (Kp.setCell (S := fun b => b = g) (p := ⟨g,i,none⟩) (Kp.refl (fun b => b = g) w) (fun _ => (rfl : g = g)) u) o
theorem blk_new2T (w : World) (o : Obj) (cs : Array Value) (t : TypeId) : Blk ((w.alloc o).alloc (.cells cs t)) (w.heap.size + 1) cs t := by
 have := Blk.new (w.alloc o) cs t
 rwa [show (w.alloc o).heap.size = w.heap.size + 1 from by simp] at this
def SmlP (n d : Nat) (t : Tr) (g : Nat) (c : Nat) (w0 w : World) (e : Ending) (w' : World) : Prop :=
 ∃ (r : Bool) (c' : Nat),e = .returned (.bool r) ∧ Blk w' g #[.int .i64 (c' : Int)] 3 ∧ c' ≤ 201 ∧ Kp (fun b => b = g) w w' ∧ (r = true → ∃ m,d + (m + 1) = 14 ∧ SmN (m + 1) t ∧ c' = c + cntN (m + 1) t ∧ c' ≤ 200 ∧ LowT n (m + 1) w0 t)
theorem sml_no {n d g c : Nat} {t : Tr} {w0 w w' : World} {c' : Nat} (h1 : Blk w' g #[.int .i64 (c' : Int)] 3) (h2 : c' ≤ 201) (h3 : Kp (fun b => b = g) w w') : SmlP n d t g c w0 w (.returned (.bool false)) w' :=
 ⟨false,c',rfl,h1,h2,h3,by simp⟩
theorem small_step (n : Nat) (w0 : World)
  (IH : ∀ (t : Tr) (v : Value) (d g c : Nat) (w : World),TrIn n w0 v t → Below w0.heap.size w0 w → w0.heap.size ≤ g → Blk w g #[.int .i64 (c : Int)] 3 → c ≤ 200 → d ≤ 14 → Calls Tryz.prog 18 #[v,.int .i64 (d : Int),.pointer (some ⟨g,0,none⟩)] w (SmlP n d t g c w0 w))
  (t : Tr) (v : Value) (d g c : Nat) (w : World) (ht : TrIn (n + 1) w0 v t) (hb0 : Below w0.heap.size w0 w) (hg0 : w0.heap.size ≤ g) (hB : Blk w g #[.int .i64 (c : Int)] 3) (hc : c ≤ 200) (hd : d ≤ 14) :
  Calls Tryz.prog 18 #[v,.int .i64 (d : Int),.pointer (some ⟨g,0,none⟩)] w (SmlP (n + 1) d t g c w0 w) := by
 obtain ⟨n',ve,vr,e0,rfl,ka,na,sa,fa,ra,ea⟩ := ht.open
 obtain rfl : n' = n := by omega
 clear e0 ht;obtain ⟨pe,ce,rfl,u1,u2, -⟩ := ea.open;obtain ⟨pr,cr,rfl,x1,x2, -⟩ := rest_holds ra;unfold maxLen at u2 x2;obtain ⟨Ke,hKe⟩ : ∃ K,t.es.length = K := ⟨_,rfl⟩;obtain ⟨Kr,hKr⟩ : ∃ K,t.rest.length = K := ⟨_,rfl⟩;rw [hKe] at u1 ⊢;rw [hKr] at x1 ⊢;have EA : Hid (EnsIn n' w0 (.slice pe Ke ce) t.es) := (by rw [← hKe]; exact ea : EnsIn n' w0 (.slice pe Ke ce) t.es);have RA : Hid (RowG w0 (.slice pr Kr cr) 4 (fdRows t.rest)) := (by rw [← hKr]; exact ra : RowG w0 (.slice pr Kr cr) 4 (fdRows t.rest));have HKe : Hid (t.es.length = Ke) := hKe;have HKr : Hid (t.rest.length = Kr) := hKr;have HFA : Hid (∀ f ∈ t.rest,f.b.size ≤ 140737488351232) := fun f hf => (fa f hf).2.2.2
 clear hKe hKr ea ra fa ka na;obtain ⟨K,hK⟩ : ∃ K,t.kind = K := ⟨_,rfl⟩;obtain ⟨N,hN⟩ : ∃ K,t.n = K := ⟨_,rfl⟩;obtain ⟨S,hS⟩ : ∃ K,t.s = K := ⟨_,rfl⟩;rw [hS] at sa;rw [hK,hN,hS];have HS : Hid (t.s = S) := hS;clear hK hN hS;have hgw := hB.lt;have cB := hB.cell 0;have fB := hB.froz 0
 simp at cB
 have HB : Hid (Blk w g #[.int .i64 (c : Int)] 3) := hB;clear hB
 by_cases h1 : c < 200
 ·have d1 : decide (200 < (c : Int) + 1) = false := by simp; omega
  by_cases h2 : d ≤ 13
  ·have d2 : decide (13 < (d : Int)) = false := by simp; omega
   by_cases h3 : S.size ≤ 5000
   ·have d3 : decide (5000 < (S.size : Int)) = false := by simp; omega
    by_cases h4 : Kr ≤ 40
    ·have d4 : decide (40 < (Kr : Int)) = false := by simp; omega
     by_cases h5 : Ke ≤ 40
     ·have d5 : decide (40 < (Ke : Int)) = false := by simp; omega
      go_enter Tryz.func18,Tryz.ntmps18
      go_wp2_with fail;have hBg : Blk ((w.setCell ⟨g,0,none⟩ (.int .i64 ((c : Int) + 1))).alloc (Obj.cells #[.int .i64 K,.int .i64 N,.string S,.slice pe Ke ce,.slice pr Kr cr] 30)) g #[.int .i64 ((c + 1 : Nat) : Int)] 3 := (HB.out.set 0 (.int .i64 ((c : Int) + 1)) (by simp)).below ((Below.refl _ _).alloc (Nat.le_refl _) _)
      have hBox : Blk ((w.setCell ⟨g,0,none⟩ (.int .i64 ((c : Int) + 1))).alloc (Obj.cells #[.int .i64 K,.int .i64 N,.string S,.slice pe Ke ce,.slice pr Kr cr] 30)) w.heap.size #[.int .i64 K,.int .i64 N,.string S,.slice pe Ke ce,.slice pr Kr cr] 30 := by
       have := Blk.new (w.setCell ⟨g,0,none⟩ (.int .i64 ((c : Int) + 1))) #[.int .i64 K,.int .i64 N,.string S,.slice pe Ke ce,.slice pr Kr cr] 30
       rwa [show (w.setCell ⟨g,0,none⟩ (.int .i64 ((c : Int) + 1))).heap.size = w.heap.size from by simp [World.setCell]] at this
      have hKp : Kp (fun b => b = g) w ((w.setCell ⟨g,0,none⟩ (.int .i64 ((c : Int) + 1))).alloc (Obj.cells #[.int .i64 K,.int .i64 N,.string S,.slice pe Ke ce,.slice pr Kr cr] 30)) := kp_set_alloc _ _ _ _ _;generalize ((w.setCell ⟨g,0,none⟩ (.int .i64 ((c : Int) + 1))).alloc (Obj.cells #[.int .i64 K,.int .i64 N,.string S,.slice pe Ke ce,.slice pr Kr cr] 30)) = W at hBg hBox hKp ⊢;clear cB fB HB d1 d2 d3 d4 d5;have hbW : Below w0.heap.size w0 W := hb0.trans (hKp.toBelow hb0.size (fun k hk => by omega))
      have hHg : w.heap.size ≠ g := by omega
      have HBG : Hid (Blk W g #[.int .i64 ((c + 1 : Nat) : Int)] 3) := hBg;have HBX : Hid (Blk W w.heap.size #[.int .i64 K,.int .i64 N,.string S,.slice pe Ke ce,.slice pr Kr cr] 30) := hBox;have q4 := hBox.cell 4;have q3 := hBox.cell 3
      simp at q4 q3
      clear hBg hBox
      go_loop [7] (fun iv => ∃ i : Nat,iv = .int .i64 (i : Int) ∧ i ≤ Kr ∧ Hid (∀ j f,j < i → t.rest[j]? = some f → f.b.size ≤ 5000)) (fun iv => Kr - (intOf iv).toNat)
      case atStart => exact ⟨0,rfl,by omega,(fun j f hj => absurd hj (by omega) : ∀ j f,j < 0 → t.rest[j]? = some f → f.b.size ≤ 5000)⟩
      case round =>
       obtain ⟨i,rfl,hi,HJ⟩ := hrel
       by_cases hlt : i < Kr
       ·obtain ⟨r,hr⟩ : ∃ r,t.rest[i]? = some r := ⟨_,List.getElem?_eq_getElem (by rw [HKr.out]; exact hlt)⟩;obtain ⟨gr,off,rfl,c1⟩ := (RA.out.below hbW).get (show (fdRows t.rest)[i]? = some r.cells by simp [fdRows,hr]);have p3 := c1 3 _ rfl;have hbs := HFA.out r (List.mem_of_getElem? hr);have HR : Hid (t.rest[i]? = some r) := hr;obtain ⟨rt,rk,rn,rb⟩ := r;simp only at p3 hbs;clear c1 hr q3
        by_cases hbl : rb.size ≤ 5000
        ·have d6 : decide (5000 < (rb.size : Int)) = false := by simp; omega
         go_wp2_with fail
         go_round
         case rel => exact ⟨i + 1,by go_num,by omega,(fun j f hj hf => by
          rcases Nat.lt_or_eq_of_le (Nat.le_of_lt_succ hj) with h | h
          ·exact HJ.out j f h hf
          ·subst h; rw [HR.out] at hf; cases hf; exact hbl : ∀ j f,j < i + 1 → t.rest[j]? = some f → f.b.size ≤ 5000)⟩
         case measure => simp [intOf]; omega
        ·have d6 : decide (5000 < (rb.size : Int)) = true := by simp; omega
         go_wp2_with fail;go_ret;exact sml_no HBG.out (by omega) hKp
       ·have hrs : ∀ f ∈ t.rest,f.b.size ≤ 5000 := fun f hf => by
         obtain ⟨j,hj,e⟩ := List.getElem_of_mem hf;exact HJ.out j f (by rw [HKr.out] at hj; omega) (by rw [List.getElem?_eq_getElem hj,e])
        have HRS : Hid (∀ f ∈ t.rest,f.b.size ≤ 5000) := hrs;clear HJ hrs RA;obtain ⟨m,hm⟩ : ∃ m,d + (m + 1) = 14 := ⟨13 - d,by omega⟩;have HM : Hid (d + (m + 1) = 14) := hm;clear hm;go_wp2_with fail;clear q3 q4
        go_loopw [8] (fun iv wr => ∃ i c1 : Nat,iv = .int .i64 (i : Int) ∧ i ≤ Ke ∧ c1 ≤ 200 ∧ Hid (c1 = c + 1 + cntE m (t.es.take i)) ∧ Hid (∀ e ∈ t.es.take i,e.2.length ≤ 70 ∧ ∀ x ∈ e.2,SmN m x ∧ LowT n' m w0 x) ∧ Hid (Blk wr g #[.int .i64 (c1 : Int)] 3) ∧ Hid (Blk wr w.heap.size #[.int .i64 K,.int .i64 N,.string S,.slice pe Ke ce,.slice pr Kr cr] 30) ∧ Kp (fun b => b = g) w wr) (fun iv _ => Ke - (intOf iv).toNat)
        case atStart => exact ⟨0,c + 1,rfl,by omega,by omega,(by simp [cntE,cntL,subs] : c + 1 = c + 1 + cntE m (t.es.take 0)),(by simp : ∀ e ∈ t.es.take 0,e.2.length ≤ 70 ∧ ∀ x ∈ e.2,SmN m x ∧ LowT n' m w0 x),HBG,HBX,hKp⟩
        case round =>
         clear hi hlt HBG HBX hKp hbW;obtain ⟨i,c1,rfl,hi,hc1,HC,HE,HBG,HBX,hKp⟩ := hrel;have hbW : Below w0.heap.size w0 wr := hb0.trans (hKp.toBelow hb0.size (fun k hk => by omega));have q3 := HBX.out.cell 3
         simp at q3
         by_cases hlt : i < Ke
         ·obtain ⟨x,hx⟩ : ∃ r,t.es[i]? = some r := ⟨_,List.getElem?_eq_getElem (by rw [HKe.out]; exact hlt)⟩;obtain ⟨ge,off,rfl,cc⟩ := (EA.out.belowE hbW).get hx;obtain ⟨vt,p0,p1,p2,p3⟩ := ens_at cc;obtain ⟨ge',off',ee,cc'⟩ := EA.out.get hx
          obtain ⟨rfl,rfl⟩ : ge = ge' ∧ off = off' := by simpa using ee
          obtain ⟨vt',p0',p1',p2',p3'⟩ := ens_at cc'
          obtain rfl : vt = vt' := by
           have := p1;rw [hbW.cell (World.block_lt_of_cell? _ _ p1'),p1'] at this;exact (Option.some.inj this).symm
          obtain ⟨pt,ct,rfl,t1,t2,t3,t4,t5⟩ := p3'.open;unfold maxLen at t2;have HX : Hid (t.es[i]? = some x) := hx;obtain ⟨xt,xl⟩ := x;simp only at p1 p1' t1 p3';obtain ⟨Kt,hKt⟩ : ∃ K,xl.length = K := ⟨_,rfl⟩;rw [hKt] at p1 t1;have T1 : Hid (TrsIn n' w0 (.slice pt Kt ct) xl) := (by rw [← hKt]; exact p3' : TrsIn n' w0 (.slice pt Kt ct) xl);have HKt : Hid (xl.length = Kt) := hKt;rw [hKt] at p1';have PV : Hid (w0.cell? ⟨ge,off + i * 2 + 1,none⟩ = some (.slice pt Kt ct)) := p1';clear t3 t4 t5 hx cc cc' p0 p2 p3 p0' p1' p2' p3' hKt ee
          by_cases hkt : Kt ≤ 70
          ·have d7 : decide (70 < (Kt : Int)) = false := by simp; omega
           go_wp2_with fail;clear q3 p1
           go_loopw [9] (fun iv wz => ∃ j c2 : Nat,iv = .int .i64 (j : Int) ∧ j ≤ Kt ∧ c2 ≤ 200 ∧ Hid (c2 = c1 + cntL m (xl.take j)) ∧ Hid (∀ x ∈ xl.take j,SmN m x ∧ LowT n' m w0 x) ∧ Hid (Blk wz g #[.int .i64 (c2 : Int)] 3) ∧ Hid (Blk wz w.heap.size #[.int .i64 K,.int .i64 N,.string S,.slice (some ⟨ge,off,none⟩) Ke ce,.slice pr Kr cr] 30) ∧ Kp (fun b => b = g) w wz) (fun iv _ => Kt - (intOf iv).toNat)
           case atStart => exact ⟨0,c1,rfl,by omega,by omega,(by simp [cntL] : c1 = c1 + cntL m (xl.take 0)),(by simp : ∀ x ∈ xl.take 0,SmN m x ∧ LowT n' m w0 x),HBG,HBX,hKp⟩
           case round =>
            clear HBG HBX hKp hbW;obtain ⟨j,c2,rfl,hj,hc2,HD,HL,HBG,HBX,hKp⟩ := hrel;have hbW : Below w0.heap.size w0 wr := hb0.trans (hKp.toBelow hb0.size (fun k hk => by omega));have q3 := HBX.out.cell 3
            simp at q3
            obtain ⟨ge',off',ee,cc'⟩ := EA.out.get HX.out
            obtain ⟨rfl,rfl⟩ : ge = ge' ∧ off = off' := by simpa using ee
            obtain ⟨vt',p0',p1',p2',p3'⟩ := ens_at cc'
            obtain rfl : vt' = .slice pt Kt ct := by
             have := PV.out;rw [p1'] at this;exact Option.some.inj this
            have p1 : wr.cell? ⟨ge,off + i * 2 + 1,none⟩ = some (.slice pt Kt ct) := by rw [hbW.cell (World.block_lt_of_cell? _ _ p1')]; exact p1'
            clear p0' p1' p2' p3' cc' ee
            by_cases hlt2 : j < Kt
            ·obtain ⟨x,hx⟩ : ∃ r,xl[j]? = some r := ⟨_,List.getElem?_eq_getElem (by rw [HKt.out]; exact hlt2)⟩;obtain ⟨g3,off3,rfl,k1⟩ := T1.out.get hx;obtain ⟨z1,n1,e1,z2,n2,e2,y0,y1,y2,y3,y4,y5⟩ := trs_get k1;have r0 := (hbW.cell (World.block_lt_of_cell? _ _ y0)).trans y0;have r1 := (hbW.cell (World.block_lt_of_cell? _ _ y1)).trans y1;have r2 := (hbW.cell (World.block_lt_of_cell? _ _ y2)).trans y2;have r3 := (hbW.cell (World.block_lt_of_cell? _ _ y3)).trans y3;have r4 := (hbW.cell (World.block_lt_of_cell? _ _ y4)).trans y4;have HX2 : Hid (xl[j]? = some x) := hx;have HC3 : Hid (Calls Tryz.prog 18 #[.agg #[.int .i64 x.kind,.int .i64 x.n,.string x.s,.slice z1 n1 e1,.slice z2 n2 e2],.int .i64 ((d + 1 : Nat) : Int),.pointer (some ⟨g,0,none⟩)] wr (SmlP n' (d + 1) x g c2 w0 wr)) := IH x _ (d + 1) g c2 wr y5 hbW hg0 HBG.out hc2 (by omega);clear y0 y1 y2 y3 y4 y5 k1 hx;go_wp2_with fail;refine HC3.out.mono ?_;rintro e w5 ⟨rr,c3,rfl,hB5,hc3,hKp5,hyes⟩;have hKp6 : Kp (fun b => b = g) w w5 := hKp.trans hKp5;have HBX5 : Hid (Blk w5 w.heap.size #[.int .i64 K,.int .i64 N,.string S,.slice (some ⟨ge,off,none⟩) Ke ce,.slice pr Kr cr] 30) := HBX.out.kp hKp5 hHg;have HB5 : Hid (Blk w5 g #[.int .i64 (c3 : Int)] 3) := hB5;clear hB5 hKp hKp5 HBX HBG q3 p1 r0 r1 r2 r3 r4 HC3
             cases rr with
             | false =>
              clear hyes;go_wp2_with fail;go_ret;exact sml_no HB5.out hc3 hKp6
             | true =>
              obtain ⟨m',hm',s1,s2,s3,s4⟩ := hyes rfl
              have hmm : m = m' + 1 := by have := HM.out; omega
              rw [← hmm] at s1 s2 s4;have HD2 : Hid (c3 = c1 + cntL m (xl.take (j + 1))) := (by rw [take_snocT HX2.out,cntL_snoc,s2,HD.out]; omega : c3 = c1 + cntL m (xl.take (j + 1)))
              have HL2 : Hid (∀ x ∈ xl.take (j + 1),SmN m x ∧ LowT n' m w0 x) := (by
               intro y hy;rw [take_snocT HX2.out,List.mem_append] at hy
               rcases hy with hy | hy
               ·exact HL.out y hy
               ·obtain rfl : y = x := by simpa using hy
                exact ⟨s1,s4⟩ : ∀ x ∈ xl.take (j + 1),SmN m x ∧ LowT n' m w0 x)
              clear hyes hm' hmm s1 s2 s4 HD HL;go_wp2_with fail
              go_roundw
              case rel => exact ⟨j + 1,c3,by go_num,by omega,s3,HD2,HL2,HB5,HBX5,hKp6⟩
              case measure => simp [intOf]; omega
            ·have htk : xl.take j = xl := List.take_of_length_le (by rw [HKt.out]; omega);have HC4 : Hid (c2 = c + 1 + cntE m (t.es.take (i + 1))) := (by rw [take_snocT HX.out,cntE_snoc,HD.out,htk,HC.out]; dsimp only; omega : c2 = c + 1 + cntE m (t.es.take (i + 1)))
             have HE4 : Hid (∀ e ∈ t.es.take (i + 1),e.2.length ≤ 70 ∧ ∀ x ∈ e.2,SmN m x ∧ LowT n' m w0 x) := (by
              intro y hy;rw [take_snocT HX.out,List.mem_append] at hy
              rcases hy with hy | hy
              ·exact HE.out y hy
              ·obtain rfl : y = (xt,xl) := by simpa using hy
               have := HL.out;rw [htk] at this
               exact ⟨by rw [HKt.out]; exact hkt,this⟩ : ∀ e ∈ t.es.take (i + 1),e.2.length ≤ 70 ∧ ∀ x ∈ e.2,SmN m x ∧ LowT n' m w0 x)
             clear htk HD HL HC HE;go_wp2_with fail
             go_roundw
             case rel => exact ⟨i + 1,c2,by go_num,by omega,hc2,HC4,HE4,HBG,HBX,hKp⟩
             case measure => simp [intOf]; omega
          ·have d7 : decide (70 < (Kt : Int)) = true := by simp; omega
           go_wp2_with fail;go_ret;exact sml_no HBG.out (by omega) hKp
         ·have hfin : SmN (m + 1) t ∧ c1 = c + cntN (m + 1) t ∧ LowT (n' + 1) (m + 1) w0 t := by
           have htk : t.es.take i = t.es := List.take_of_length_le (by rw [HKe.out]; omega);have hC := HC.out;have hE := HE.out;rw [htk] at hC hE;refine ⟨⟨by rw [HS.out]; exact h3,by rw [HKr.out]; omega,by rw [HKe.out]; omega,HRS.out,fun e he => ⟨(hE e he).1,fun y hy => ((hE e he).2 y hy).1⟩⟩,?_,low_up fun e he y hy => ((hE e he).2 y hy).2⟩;rw [hC]
           show c + 1 + cntE m t.es = c + (1 + cntE m t.es)
           omega
          have HF : Hid _ := hfin;clear hfin HC HE;go_wp2_with fail;go_ret;exact ⟨true,c1,rfl,HBG.out,by omega,hKp,fun _ => ⟨m,HM.out,HF.out.1,HF.out.2.1,hc1,HF.out.2.2⟩⟩
     ·have d5 : decide (40 < (Ke : Int)) = true := by simp; omega
      have hx := d5
      go_enter Tryz.func18,Tryz.ntmps18
      go_wp2_with fail;go_ret;exact sml_no (c' := c + 1) ((HB.out.set 0 (.int .i64 ((c : Int) + 1)) (by simp)).below ((Below.refl _ _).alloc (Nat.le_refl _) _)) (by omega) (kp_set_alloc _ _ _ _ _)
    ·have d4 : decide (40 < (Kr : Int)) = true := by simp; omega
     have hx := d4
     go_enter Tryz.func18,Tryz.ntmps18
     go_wp2_with fail;go_ret;exact sml_no (c' := c + 1) ((HB.out.set 0 (.int .i64 ((c : Int) + 1)) (by simp)).below ((Below.refl _ _).alloc (Nat.le_refl _) _)) (by omega) (kp_set_alloc _ _ _ _ _)
   ·have d3 : decide (5000 < (S.size : Int)) = true := by simp; omega
    have hx := d3
    go_enter Tryz.func18,Tryz.ntmps18
    go_wp2_with fail;go_ret;exact sml_no (c' := c + 1) ((HB.out.set 0 (.int .i64 ((c : Int) + 1)) (by simp)).below ((Below.refl _ _).alloc (Nat.le_refl _) _)) (by omega) (kp_set_alloc _ _ _ _ _)
  ·have d2 : decide (13 < (d : Int)) = true := by simp; omega
   have hx := d2
   go_enter Tryz.func18,Tryz.ntmps18
   go_wp2_with fail;go_ret;exact sml_no (c' := c + 1) ((HB.out.set 0 (.int .i64 ((c : Int) + 1)) (by simp)).below ((Below.refl _ _).alloc (Nat.le_refl _) _)) (by omega) (kp_set_alloc _ _ _ _ _)
 ·have d1 : decide (200 < (c : Int) + 1) = true := by simp; omega
  have hx := d1
  go_enter Tryz.func18,Tryz.ntmps18
  go_wp2_with fail;go_ret;exact sml_no (c' := c + 1) ((HB.out.set 0 (.int .i64 ((c : Int) + 1)) (by simp)).below ((Below.refl _ _).alloc (Nat.le_refl _) _)) (by omega) (kp_set_alloc _ _ _ _ _)
theorem small_rec (w0 : World) : ∀ (n : Nat) (t : Tr) (v : Value) (d g c : Nat) (w : World),TrIn n w0 v t → Below w0.heap.size w0 w → w0.heap.size ≤ g → Blk w g #[.int .i64 (c : Int)] 3 → c ≤ 200 → d ≤ 14 → Calls Tryz.prog 18 #[v,.int .i64 (d : Int),.pointer (some ⟨g,0,none⟩)] w (SmlP n d t g c w0 w)
 | 0,t,v,d,g,c,w,h,_,_,_,_,_ => by obtain ⟨r,_,h⟩ := h; exact h.elim
 | n + 1,t,v,d,g,c,w,h,h1,h2,h3,h4,h5 => small_step n w0 (fun t v d g c w => small_rec w0 n t v d g c w) t v d g c w h h1 h2 h3 h4 h5
def SmallP (t : Tr) (v : Value) (w : World) (e : Ending) : Prop := ∃ r : Bool,e = .returned (.bool r) ∧ (r = true → SmN 14 t ∧ cntN 14 t ≤ 200 ∧ TrIn 14 w v t)
theorem small_any (n : Nat) (t : Tr) (v : Value) (w : World) (h : TrIn n w v t) : Calls Tryz.prog 6 #[v] w fun e w' => SmallP t v w e ∧ Below w.heap.size w w' := by
 obtain ⟨m,ve,vr, -,rfl, -, -, -, -,ra,ea⟩ := h.open;obtain ⟨pe,ce,rfl, -⟩ := ea.open;obtain ⟨pr,cr,rfl, -⟩ := rest_holds ra;have HH : Hid _ := h;have hs := fun W hW hg hB => small_rec w n t _ 0 (w.heap.size + 1) 0 W h hW hg hB (by omega) (by omega)
 have HS : Hid _ := hs;clear hs ra ea h;generalize t.es.length = Ke at *;generalize t.rest.length = Kr at *;generalize t.kind = K at *;generalize t.n = N at *;generalize t.s = S at *
 go_enter Tryz.func6,Tryz.ntmps6
 go_wp2_with fail;refine (HS.out _ (((Below.refl _ _).alloc (Nat.le_refl _) _).alloc (by simp) _) (by omega) (blk_new2T w _ _ _)).mono ?_;rintro e w1 ⟨r,c',rfl,h1,h2,h3,h4⟩;have hb : Below w.heap.size w w1 := (((Below.refl _ _).alloc (Nat.le_refl _) _).alloc (by simp) _).trans (h3.toBelow (by simp; omega) (fun k hk => by omega));have H4 : Hid _ := h4;clear h1 h2 h3 h4 HS;go_wp2_with fail;go_ret;refine ⟨⟨r,rfl,fun hr => ?_⟩,hb⟩;obtain ⟨m,hm,s1,s2,s3,s4⟩ := H4.out hr
 obtain rfl : m = 13 := by omega
 refine ⟨s1,(by omega : cntN (13 + 1) t ≤ 200),?_⟩;obtain ⟨q,hq,hq2⟩ := HH.out;exact ⟨q,hq,s4 q hq2⟩
def dpL (m : Nat) (M : List (List (Int × List Tr))) : Nat := if M = [] then 0 else 1 + ((subsL M).map (dpN m)).foldr max 0
theorem mem_subsL {M : List (List (Int × List Tr))} {x : Tr} : x ∈ subsL M ↔ ∃ m ∈ M,x ∈ subs m := by simp [subsL,List.mem_flatMap]
theorem mem_msgsL {ts : List Tr} {m : List (Int × List Tr)} : m ∈ msgsL ts ↔ ∃ t ∈ ts,t.kind = 3 ∧ t.es = m := by
 simp only [msgsL,List.mem_map,List.mem_filter,beq_iff_eq]
 constructor
 ·rintro ⟨t,⟨h1,h2⟩,h3⟩; exact ⟨t,h1,h2,h3⟩
 ·rintro ⟨t,h1,h2,h3⟩; exact ⟨t,⟨h1,h2⟩,h3⟩
theorem dp_step {m : Nat} {ts : List Tr} {M : List (List (Int × List Tr))} (h : MsgS ts M) : (ts.map (dpN (m + 1))).foldr max 0 = dpL m M := by
 apply Nat.le_antisymm
 ·refine foldr_max_le fun d hd => ?_
  obtain ⟨t,ht,rfl⟩ := List.mem_map.1 hd;simp only [dpN]
  split
  ·rename_i hk
   have hm := h.2 t ht hk
   have hne : M ≠ [] := fun e => by rw [e] at hm; cases hm
   rw [dpL,if_neg hne];refine Nat.add_le_add_left (foldr_max_le fun d hd => ?_) 1;obtain ⟨x,hx,rfl⟩ := List.mem_map.1 hd;exact le_foldr_max (List.mem_map_of_mem (mem_subsL.2 ⟨_,hm,hx⟩))
  ·exact Nat.zero_le _
 ·unfold dpL
  split
  ·exact Nat.zero_le _
  ·rename_i hne
   obtain ⟨m0,hm0⟩ := List.exists_mem_of_ne_nil _ hne;obtain ⟨t0,ht0,hk0,rfl⟩ := mem_msgsL.1 (h.1.subset hm0);have hone : 1 ≤ (ts.map (dpN (m + 1))).foldr max 0 := Nat.le_trans (by simp [dpN,hk0]) (le_foldr_max (List.mem_map_of_mem ht0))
   have : ((subsL M).map (dpN m)).foldr max 0 ≤ (ts.map (dpN (m + 1))).foldr max 0 - 1 := foldr_max_le fun d hd => by
    obtain ⟨x,hx,rfl⟩ := List.mem_map.1 hd;obtain ⟨m1,hm1,hx⟩ := mem_subsL.1 hx;obtain ⟨t1,ht1,hk1,rfl⟩ := mem_msgsL.1 (h.1.subset hm1);have h2 : dpN (m + 1) t1 ≤ (ts.map (dpN (m + 1))).foldr max 0 := le_foldr_max (List.mem_map_of_mem ht1);have h3 : dpN m x ≤ ((subs t1.es).map (dpN m)).foldr max 0 := le_foldr_max (List.mem_map_of_mem hx)
    have h4 : dpN (m + 1) t1 = 1 + ((subs t1.es).map (dpN m)).foldr max 0 := by simp [dpN,hk1]
    rw [h4] at h2
    omega
   omega
theorem cntL_zero : ∀ ts : List Tr,cntL 0 ts = 0
 | [] => rfl
 | t :: l => by
  have := cntL_zero l;simp only [cntL,List.map_cons,List.sum_cons,cntN] at this ⊢
  omega
theorem cntL_append (m : Nat) (a b : List Tr) : cntL m (a ++ b) = cntL m a + cntL m b := by simp [cntL,List.sum_append]
theorem cnt_msgs (m : Nat) : ∀ ts : List Tr,cntL m (subsL (msgsL ts)) ≤ cntL (m + 1) ts
 | [] => by simp [cntL,subsL,msgsL]
 | t :: ts => by
  have ih := cnt_msgs m ts
  have h1 : cntL (m + 1) (t :: ts) = 1 + cntL m (subs t.es) + cntL (m + 1) ts := by simp [cntL,cntN]
  by_cases hk : t.kind = 3
  ·have h2 : subsL (msgsL (t :: ts)) = subs t.es ++ subsL (msgsL ts) := by simp [msgsL,hk,subsL]
   rw [h1,h2,cntL_append]
   omega
  ·have h2 : msgsL (t :: ts) = msgsL ts := by simp [msgsL,hk]
   rw [h1,h2]
   omega
theorem cnt_sub {m : Nat} {M M' : List (List (Int × List Tr))} (h : M.Sublist M') : cntL m (subsL M) ≤ cntL m (subsL M') := by
 induction h with
 | slnil => simp
 | cons a _ ih => simp only [subsL,List.flatMap_cons,cntL_append] at *; omega
 | cons_cons a _ ih => simp only [subsL,List.flatMap_cons,cntL_append] at *; omega
theorem cnt_step {m : Nat} {ts : List Tr} {M : List (List (Int × List Tr))} (h : MsgS ts M) : cntL m (subsL M) ≤ cntL (m + 1) ts := Nat.le_trans (cnt_sub h.1) (cnt_msgs m ts)
theorem len_cnt {m : Nat} {w : World} {v : Value} {ts : List Tr} (h : TrsQ m w v ts) : ts.length ≤ cntL m ts := by
 cases m with
 | zero =>
  cases ts with
  | nil => simp
  | cons t l =>
   obtain ⟨rows,_,_,h3⟩ := h;obtain ⟨r,_,hp⟩ := h3 0 t rfl;exact hp.elim
 | succ m => exact len_le_sum fun x hx => by simp [cntN]
theorem len_subsL {m : Nat} {w : World} {v : Value} {M : List (List (Int × List Tr))} (h : LvQ m w v M) : (subsL M).length ≤ cntL m (subsL M) := by
 cases m with
 | zero =>
  cases hs : subsL M with
  | nil => simp
  | cons t l =>
   have ht : t ∈ subsL M := by rw [hs]; simp
   obtain ⟨m0,hm0,hx⟩ := mem_subsL.1 ht;obtain ⟨e,he,hx⟩ := mem_subs.1 hx;obtain ⟨rows,_,_,h3⟩ := h;obtain ⟨i,hi,ei⟩ := List.getElem_of_mem hm0;obtain ⟨r,_,ve,rfl,hE,_⟩ := h3 i m0 (by rw [List.getElem?_eq_getElem hi,ei]);obtain ⟨rows2,_,_,h4⟩ := hE;obtain ⟨j,hj,ej⟩ := List.getElem_of_mem he;obtain ⟨r2,_,vt,rfl,_,hT⟩ := h4 j e (by rw [List.getElem?_eq_getElem hj,ej]);obtain ⟨rows3,_,_,h5⟩ := hT;obtain ⟨k,hk,ek⟩ := List.getElem_of_mem hx;obtain ⟨r3,_,hq⟩ := h5 k t (by rw [List.getElem?_eq_getElem hk,ek]);exact hq.elim
 | succ m => exact len_le_sum fun x hx => by simp [cntN]
theorem messages_any (n : Nat) (v : Value) (ts : List Tr) (w : World) (h : TrsQ n w v ts) (hl : ts.length ≤ 5000) : Calls Tryz.prog 42 #[v] w (MsgP (n - 1) ts w) := by
 cases n with
 | zero =>
  have : ts = [] := by
   cases ts with
   | nil => rfl
   | cons t l =>
    obtain ⟨rows,_,_,h3⟩ := h;obtain ⟨r,_,hp⟩ := h3 0 t rfl;exact hp.elim
  subst this;exact messages_step 0 v [] w (h.imp fun r x hx => by cases hx) hl
 | succ n => exact messages_step n v ts w h hl
theorem one_row {n : Nat} {w : World} {g : Nat} {r : List Value} {t : Tr} {ty : TypeId} (hb : Blk w g r.toArray ty) (h : TrQ n w r t) : TrsQ n w (.slice (some ⟨g, 0, none⟩) 1 1) [t] := by
  refine ⟨[r], ⟨some ⟨g, 0, none⟩, 1, rfl, by simp, by unfold maxLen; omega, by simp, fun _ => ⟨g, 0, rfl, fun i c u j hi hj => ?_⟩⟩, rfl, fun i x hx => ?_⟩
  · cases i with
    | zero =>
      obtain rfl : r = c := by simpa using hi
      rw [hb.cell]
      simpa using hj
    | succ i => simp at hi
  · cases i with
    | zero => obtain rfl : t = x := by simpa using hx
              exact ⟨r, rfl, h⟩
    | succ i => simp at hx
def TrV2 (n : Nat) (w : World) (v : Value) (t : Tr) : Prop := ∃ r,v = .agg r.toArray ∧ TrQ n w r t
theorem TrV2.open {n : Nat} {w : World} {v : Value} {t : Tr} (h : TrV2 n w v t) : ∃ ea el ec ra rl rc,v = .agg #[.int .i64 t.kind,.int .i64 t.n,.string t.s,.slice ea el ec,.slice ra rl rc] ∧ TrQ n w [.int .i64 t.kind,.int .i64 t.n,.string t.s,.slice ea el ec,.slice ra rl rc] t := by
 obtain ⟨r,rfl,h⟩ := h
 cases n with
 | zero => exact h.elim
 | succ n =>
  have h' := h;obtain ⟨ve,vr,rfl,_,_,_,_,h6,h7,_⟩ := h;obtain ⟨a1,c1,rfl,_⟩ := RowP.open h7;obtain ⟨a2,c2,rfl,_⟩ := h6.form2;exact ⟨_,_,_,_,_,_,rfl,h'⟩
theorem TrV2.below {n : Nat} {w w1 : World} {v : Value} {t : Tr} (h : TrV2 n w v t) (hb : Below w.heap.size w w1) : TrV2 n w1 v t := by
 obtain ⟨r,h1,h2⟩ := h;exact ⟨r,h1,h2.below hb⟩
theorem depth_any (n : Nat) (t : Tr) (v : Value) (w : World) (h : TrV2 n w v t) (hn : n ≤ 60) (hc : cntN n t ≤ 5000) :
  Calls Tryz.prog 40 #[v] w fun e w' => e = .returned (.int .i64 (dpN n t : Int)) ∧ Below w.heap.size w w' := by
 obtain ⟨ea,el,ec,ra,rl,rc,rfl,hq⟩ := h.open;have HQ : Hid (TrQ n w [.int .i64 t.kind,.int .i64 t.n,.string t.s,.slice ea el ec,.slice ra rl rc] t) := hq;have HC : Hid (cntN n t ≤ 5000) := hc
 obtain ⟨m,rfl⟩ : ∃ m,n = m + 1 := by
  cases n with
  | zero => exact hq.elim
  | succ m => exact ⟨m,rfl⟩
 clear h hq hc;obtain ⟨D,hD⟩ : ∃ D,dpN (m + 1) t = D := ⟨_,rfl⟩;have HD : Hid (dpN (m + 1) t = D) := hD
 have hD60 : D ≤ 60 := by have := dpN_le (m + 1) t; omega
 rw [hD];clear hD;generalize t.kind = K at *;generalize t.n = N at *;generalize t.s = S at *
 go_enter Tryz.func40,Tryz.ntmps40
 go_wp2_with fail;have hw2 : Below w.heap.size w ((w.alloc (Obj.cells #[.int .i64 K,.int .i64 N,.string S,.slice ea el ec,.slice ra rl rc] 30)).alloc (Obj.cells #[.int .i64 K,.int .i64 N,.string S,.slice ea el ec,.slice ra rl rc] 30)) := ((Below.refl _ _).alloc (Nat.le_refl _) _).alloc (by simp) _;refine (messages_any (m + 1) _ [t] _ (one_row (blk_new2T w _ _ _) (HQ.out.below hw2)) (by simp)).mono ?_;rintro e w1 ⟨lv,M,rfl,hM,hS,hb1⟩;have hb : Below w.heap.size w w1 := hw2.trans (hb1.mono hw2.size);have H0 : Hid (LvQ m w1 lv M) := hM
 have hdp : 0 + dpL m M = D := by
  rw [← HD.out,← dp_step hS]
  simp
 have hcn : cntL m (subsL M) ≤ 5000 := Nat.le_trans (cnt_step hS) (by have := HC.out; simpa [cntL] using this);have H1 : Hid (0 + dpL m M = D) := hdp;obtain ⟨la,lc,rfl,l1,l2, -⟩ := RowP.open hM;clear hM hS hb1 hw2 hdp HQ HC HD;go_wp2_with fail
 go_loopw [3,4] (fun dv lv wr => ∃ (d m : Nat) (M : List (List (Int × List Tr))),dv = .int .i64 (d : Int) ∧ Hid (LvQ m wr lv M) ∧ Hid (d + dpL m M = D) ∧ Hid (cntL m (subsL M) ≤ 5000) ∧ d ≤ D ∧ Below w.heap.size w wr) (fun dv _ _ => 101 - (intOf dv).toNat)
 case atStart => exact ⟨0,m,M,rfl,H0,H1,hcn,by omega,hb⟩
 case round =>
  clear H0 H1 hcn hb l1 l2;obtain ⟨d,m,M,rfl,HL,HD,HC,hdD,hb⟩ := hrel;obtain ⟨la,lc,rfl,l1,l2, -⟩ := RowP.open HL.out;unfold maxLen at l2
  have hd1 : decide ((d : Int) ≤ 100) = true := by simp; omega
  obtain ⟨Ml,hMl⟩ : ∃ k,M.length = k := ⟨_,rfl⟩;rw [hMl] at l1;have HL' : Hid (LvQ m wr (.slice la Ml lc) M) := (by rw [← hMl]; exact HL.out : LvQ m wr (.slice la Ml lc) M);rw [hMl];have HMl : Hid (M.length = Ml) := hMl;clear hMl HL
  by_cases h0 : Ml = 0
  ·subst h0;have hM0 : M = [] := List.eq_nil_of_length_eq_zero HMl.out
   have hdd : d = D := by have := HD.out; rw [hM0] at this; simpa [dpL] using this
   have HDD : Hid (d = D) := hdd;clear hM0 hdd;go_wp2_with fail;go_ret;refine ⟨?_,hb⟩;have := HDD.out;subst this
   rfl
  ·have hpos : 0 < Ml := by omega
   have hd2 : decide (0 < (Ml : Int)) = true := by simp; omega
   have hne : M ≠ [] := fun e => h0 (by rw [← HMl.out,e]; rfl)
   have hdpM : dpL m M = 1 + ((subsL M).map (dpN m)).foldr max 0 := by rw [dpL,if_neg hne]
   have HDP : Hid (d + (1 + ((subsL M).map (dpN m)).foldr max 0) = D) := (by rw [← hdpM]; exact HD.out : d + (1 + ((subsL M).map (dpN m)).foldr max 0) = D);have hlen := len_subsL HL'.out;have hlen2 : (subsL M).length ≤ 5000 := Nat.le_trans hlen HC.out;have HI : Hid (Calls Tryz.prog 41 #[.slice la Ml lc] wr (InsP m M wr)) := inside_any m _ M wr HL'.out hlen2;have HLN : Hid ((subsL M).length ≤ 5000) := hlen2;clear hlen hlen2 hdpM hne HD;go_wp2_with fail;refine HI.out.mono ?_;rintro e w2 ⟨iv,rfl,hT,hb2⟩;have HM2 : Hid (Calls Tryz.prog 42 #[iv] w2 (MsgP (m - 1) (subsL M) w2)) := messages_any m iv (subsL M) w2 hT HLN.out;have hbw2 : Below w.heap.size w w2 := hb.trans (hb2.mono hb.size);obtain ⟨ia,ic,rfl, -⟩ := RowP.open hT;clear hT hb2 HI hb;generalize (subsL M).length = Sl at HM2 ⊢;go_wp2_with fail;refine HM2.out.mono ?_;rintro e w3 ⟨lv3,M3,rfl,hL3,hS3,hb3⟩;have hbw3 : Below w.heap.size w w3 := hbw2.trans (hb3.mono hbw2.size)
   have HD3 : Hid (d + 1 + dpL (m - 1) M3 = D) := by
    show _ = _
    cases m with
    | zero =>
     have h00 : subsL M = [] := by
      have := len_subsL HL'.out;have h1 : cntL 0 (subsL M) = 0 := cntL_zero _;exact List.eq_nil_of_length_eq_zero (by omega)
     have hM3 : M3 = [] := by
      have := hS3.1;rw [h00] at this
      simpa [msgsL] using this
     have := HDP.out;rw [h00] at this;rw [hM3]
     simpa [dpL] using this
    | succ m =>
     have h1 := dp_step (m := m) hS3;have := HDP.out;simp only [Nat.add_sub_cancel]
     omega
   have HC3 : Hid (cntL (m - 1) (subsL M3) ≤ 5000) := by
    show _ ≤ _
    cases m with
    | zero =>
     have h1 : cntL 0 (subsL M3) = 0 := cntL_zero _;simp only [Nat.zero_sub]
     omega
    | succ m => exact Nat.le_trans (cnt_step (m := m) hS3) HC.out
   have hdD3 : d + 1 ≤ D := by have := HD3.out; omega
   have HL3 : Hid (LvQ (m - 1) w3 lv3 M3) := hL3;clear hL3 hS3 hb3 hbw2 HM2 HC HDP HL';go_wp2_with fail
   go_roundw
   case rel => exact ⟨d + 1,m - 1,M3,by go_num,HL3,HD3,HC3,hdD3,hbw3⟩
   case measure => simp [intOf]; omega
def FunP (n : Nat) (w : World) (ts : List Tr) (f : FuncId) (caps : List Value) (p : Tr → Bool) : Prop :=
 ∀ W x r,Below w.heap.size w W → x ∈ ts → TrQ n W r x → Calls Tryz.prog f (.agg r.toArray :: caps).toArray W fun e w' => e = .returned (.bool (p x)) ∧ Below W.heap.size W w'
theorem indexW_any (n : Nat) (v : Value) (ts : List Tr) (w : World) (p : Tr → Bool) (h : TrsQ n w v ts) (hf : FunP n w ts 44 [] p) :
  Calls Tryz.prog 76 #[v,.func (.func 44) #[] #[]] w fun e w' => (∃ k : Int,e = .returned (.int .i64 k) ∧ (0 ≤ k ↔ ts.any p = true)) ∧ Below w.heap.size w w' := by
 obtain ⟨a,cap,rfl,h1,h2, -⟩ := RowP.open h;obtain ⟨N,hN⟩ : ∃ N,ts.length = N := ⟨_,rfl⟩;rw [hN] at h1 ⊢;have HH : Hid (TrsQ n w (.slice a N cap) ts) := (by rw [← hN]; exact h : TrsQ n w (.slice a N cap) ts);have HN : Hid (ts.length = N) := hN;have HF : Hid (FunP n w ts 44 [] p) := hf;unfold maxLen at h2;clear h hN hf
 go_enter Tryz.func76,Tryz.ntmps76
 go_wp2_with fail
 go_loopw [8] (fun iv wr => ∃ i : Nat,iv = .int .i64 (i : Int) ∧ i ≤ N ∧ Hid (∀ x ∈ ts.take i,p x = false) ∧ Below w.heap.size w wr) (fun iv _ => N - (intOf iv).toNat)
 case atStart => exact ⟨0,rfl,by omega,(by simp : ∀ x ∈ ts.take 0,p x = false),Below.refl _ _⟩
 case round =>
  obtain ⟨i,rfl,hi,HI,hbel⟩ := hrel
  by_cases hlt : i < N
  ·obtain ⟨t,ht⟩ : ∃ r,ts[i]? = some r := ⟨_,List.getElem?_eq_getElem (by rw [HN.out]; exact hlt)⟩;obtain ⟨g,off,rfl,r,hr,hc⟩ := (HH.out.belowTQ hbel).get ht;have h5 := hr.five
   obtain ⟨r0,r1,r2,r3,r4,rfl⟩ : ∃ a b c d e,r = [a,b,c,d,e] := by
    match r,h5.1 with
    | [a,b,c,d,e],_ => exact ⟨a,b,c,d,e,rfl⟩
   have o0 := h5.2 r0 (by simp);have o1 := h5.2 r1 (by simp);have o2 := h5.2 r2 (by simp);have o3 := h5.2 r3 (by simp);have o4 := h5.2 r4 (by simp);obtain ⟨ea,el,ec,ra,rl,rc,e1, -⟩ := TrV2.open ⟨_,rfl,hr⟩;simp only [Value.agg.injEq,Array.mk.injEq,List.cons.injEq,and_true] at e1;obtain ⟨rfl,rfl,rfl,rfl,rfl⟩ := e1;have c0 := hc 0 _ rfl;have c1 := hc 1 _ rfl;have c2 := hc 2 _ rfl;have c3 := hc 3 _ rfl;have c4 := hc 4 _ rfl;simp only [Nat.add_zero] at c0;have HC := HF.out wr t _ hbel (List.mem_of_getElem? ht) hr;have HCC : Hid _ := HC;have HT : Hid (ts.take (i + 1) = ts.take i ++ [t]) := take_atQ ht;have HTM : Hid (t ∈ ts) := List.mem_of_getElem? ht;clear hc h5 o0 o1 o2 o3 o4 HC ht hr;obtain ⟨R,hR⟩ : ∃ R,p t = R := ⟨_,rfl⟩;have HR : Hid (p t = R) := hR;clear hR;go_wp2_with fail;refine Calls.mono HCC.out ?_;rintro e w2 ⟨rfl,hb2⟩;rw [HR.out];have hbw : Below w.heap.size w w2 := hbel.trans (hb2.mono hbel.size);clear HCC hb2 c0 c1 c2 c3 c4 hbel
   cases R with
   | true =>
    go_wp2_with fail;go_ret;exact ⟨⟨_,rfl,by simp only [Int.natCast_nonneg,true_iff]; exact List.any_eq_true.2 ⟨t,HTM.out,HR.out⟩⟩,hbw⟩
   | false =>
    go_wp2_with fail
    go_roundw
    case rel => exact ⟨i + 1,by go_num,by omega,(by
     rw [HT.out];intro x hx
     rcases List.mem_append.1 hx with hx | hx
     ·exact HI.out x hx
     ·obtain rfl : x = t := by simpa using hx
      exact HR.out : ∀ x ∈ ts.take (i + 1),p x = false),hbw⟩
    case measure => simp [intOf]; omega
  ·go_wp2_with fail;go_ret;have h5 := HI.out;rw [List.take_of_length_le (by rw [HN.out]; omega)] at h5;refine ⟨⟨-1,rfl,?_⟩,hbel⟩
   have : ts.any p = false := by rw [List.any_eq_false]; intro x hx; rw [h5 x hx]; simp
   rw [this]
   simp
theorem containsW_any (n : Nat) (v : Value) (ts : List Tr) (w : World) (p : Tr → Bool) (h : TrsQ n w v ts) (hf : FunP n w ts 44 [] p) :
  Calls Tryz.prog 43 #[v,.func (.func 44) #[] #[]] w fun e w' => e = .returned (.bool (ts.any p)) ∧ Below w.heap.size w w' := by
 have HI : Hid _ := indexW_any n v ts w p h hf;obtain ⟨a,cap,rfl,h1,h2, -⟩ := RowP.open h;clear h hf;generalize ts.length = N at *;obtain ⟨R,hR⟩ : ∃ R,ts.any p = R := ⟨_,rfl⟩;rw [hR] at HI ⊢;clear hR
 go_enter Tryz.func43,Tryz.ntmps43
 go_wp2_with fail;refine Calls.mono HI.out ?_;rintro e w2 ⟨⟨k,rfl,hk⟩,hb⟩;clear HI
 have hd : decide (0 ≤ k) = R := by
  cases R
  ·simpa using hk
  ·simpa using hk
 clear hk;go_wp2_with fail;go_ret;exact ⟨rfl,hb⟩
theorem indexK_any (b : Nat) (n : Nat) (v : Value) (ts : List Tr) (w : World) (p : Tr → Bool) (h : TrsQ n w v ts) (hf : FunP n w ts 123 [.pointer (some ⟨b,0,none⟩)] p) :
  Calls Tryz.prog 76 #[v,.func (.func 123) #[] #[.pointer (some ⟨b,0,none⟩)]] w fun e w' => (∃ k : Int,e = .returned (.int .i64 k) ∧ (0 ≤ k ↔ ts.any p = true)) ∧ Below w.heap.size w w' := by
 obtain ⟨a,cap,rfl,h1,h2, -⟩ := RowP.open h;obtain ⟨N,hN⟩ : ∃ N,ts.length = N := ⟨_,rfl⟩;rw [hN] at h1 ⊢;have HH : Hid (TrsQ n w (.slice a N cap) ts) := (by rw [← hN]; exact h : TrsQ n w (.slice a N cap) ts);have HN : Hid (ts.length = N) := hN;have HF : Hid (FunP n w ts 123 [.pointer (some ⟨b,0,none⟩)] p) := hf;unfold maxLen at h2;clear h hN hf
 go_enter Tryz.func76,Tryz.ntmps76
 go_wp2_with fail
 go_loopw [8] (fun iv wr => ∃ i : Nat,iv = .int .i64 (i : Int) ∧ i ≤ N ∧ Hid (∀ x ∈ ts.take i,p x = false) ∧ Below w.heap.size w wr) (fun iv _ => N - (intOf iv).toNat)
 case atStart => exact ⟨0,rfl,by omega,(by simp : ∀ x ∈ ts.take 0,p x = false),Below.refl _ _⟩
 case round =>
  obtain ⟨i,rfl,hi,HI,hbel⟩ := hrel
  by_cases hlt : i < N
  ·obtain ⟨t,ht⟩ : ∃ r,ts[i]? = some r := ⟨_,List.getElem?_eq_getElem (by rw [HN.out]; exact hlt)⟩;obtain ⟨g,off,rfl,r,hr,hc⟩ := (HH.out.belowTQ hbel).get ht;have h5 := hr.five
   obtain ⟨r0,r1,r2,r3,r4,rfl⟩ : ∃ a b c d e,r = [a,b,c,d,e] := by
    match r,h5.1 with
    | [a,b,c,d,e],_ => exact ⟨a,b,c,d,e,rfl⟩
   have o0 := h5.2 r0 (by simp);have o1 := h5.2 r1 (by simp);have o2 := h5.2 r2 (by simp);have o3 := h5.2 r3 (by simp);have o4 := h5.2 r4 (by simp);obtain ⟨ea,el,ec,ra,rl,rc,e1, -⟩ := TrV2.open ⟨_,rfl,hr⟩;simp only [Value.agg.injEq,Array.mk.injEq,List.cons.injEq,and_true] at e1;obtain ⟨rfl,rfl,rfl,rfl,rfl⟩ := e1;have c0 := hc 0 _ rfl;have c1 := hc 1 _ rfl;have c2 := hc 2 _ rfl;have c3 := hc 3 _ rfl;have c4 := hc 4 _ rfl;simp only [Nat.add_zero] at c0;have HC := HF.out wr t _ hbel (List.mem_of_getElem? ht) hr;have HCC : Hid _ := HC;have HT : Hid (ts.take (i + 1) = ts.take i ++ [t]) := take_atQ ht;have HTM : Hid (t ∈ ts) := List.mem_of_getElem? ht;clear hc h5 o0 o1 o2 o3 o4 HC ht hr;obtain ⟨R,hR⟩ : ∃ R,p t = R := ⟨_,rfl⟩;have HR : Hid (p t = R) := hR;clear hR;go_wp2_with fail;refine Calls.mono HCC.out ?_;rintro e w2 ⟨rfl,hb2⟩;rw [HR.out];have hbw : Below w.heap.size w w2 := hbel.trans (hb2.mono hbel.size);clear HCC hb2 c0 c1 c2 c3 c4 hbel
   cases R with
   | true =>
    go_wp2_with fail;go_ret;exact ⟨⟨_,rfl,by simp only [Int.natCast_nonneg,true_iff]; exact List.any_eq_true.2 ⟨t,HTM.out,HR.out⟩⟩,hbw⟩
   | false =>
    go_wp2_with fail
    go_roundw
    case rel => exact ⟨i + 1,by go_num,by omega,(by
     rw [HT.out];intro x hx
     rcases List.mem_append.1 hx with hx | hx
     ·exact HI.out x hx
     ·obtain rfl : x = t := by simpa using hx
      exact HR.out : ∀ x ∈ ts.take (i + 1),p x = false),hbw⟩
    case measure => simp [intOf]; omega
  ·go_wp2_with fail;go_ret;have h5 := HI.out;rw [List.take_of_length_le (by rw [HN.out]; omega)] at h5;refine ⟨⟨-1,rfl,?_⟩,hbel⟩
   have : ts.any p = false := by rw [List.any_eq_false]; intro x hx; rw [h5 x hx]; simp
   rw [this]
   simp
theorem containsK_any (b : Nat) (n : Nat) (v : Value) (ts : List Tr) (w : World) (p : Tr → Bool) (h : TrsQ n w v ts) (hf : FunP n w ts 123 [.pointer (some ⟨b,0,none⟩)] p) :
  Calls Tryz.prog 43 #[v,.func (.func 123) #[] #[.pointer (some ⟨b,0,none⟩)]] w fun e w' => e = .returned (.bool (ts.any p)) ∧ Below w.heap.size w w' := by
 have HI : Hid _ := indexK_any b n v ts w p h hf;obtain ⟨a,cap,rfl,h1,h2, -⟩ := RowP.open h;clear h hf;generalize ts.length = N at *;obtain ⟨R,hR⟩ : ∃ R,ts.any p = R := ⟨_,rfl⟩;rw [hR] at HI ⊢;clear hR
 go_enter Tryz.func43,Tryz.ntmps43
 go_wp2_with fail;refine Calls.mono HI.out ?_;rintro e w2 ⟨⟨k,rfl,hk⟩,hb⟩;clear HI
 have hd : decide (0 ≤ k) = R := by
  cases R
  ·simpa using hk
  ·simpa using hk
 clear hk;go_wp2_with fail;go_ret;exact ⟨rfl,hb⟩
theorem indexP_any (b : Nat) (n : Nat) (v : Value) (ts : List Tr) (w : World) (p : Tr → Bool) (h : TrsQ n w v ts) (hf : FunP n w ts 82 [.pointer (some ⟨b,0,none⟩)] p) :
  Calls Tryz.prog 76 #[v,.func (.func 82) #[] #[.pointer (some ⟨b,0,none⟩)]] w fun e w' => (∃ k : Int,e = .returned (.int .i64 k) ∧ (0 ≤ k ↔ ts.any p = true)) ∧ Below w.heap.size w w' := by
 obtain ⟨a,cap,rfl,h1,h2, -⟩ := RowP.open h;obtain ⟨N,hN⟩ : ∃ N,ts.length = N := ⟨_,rfl⟩;rw [hN] at h1 ⊢;have HH : Hid (TrsQ n w (.slice a N cap) ts) := (by rw [← hN]; exact h : TrsQ n w (.slice a N cap) ts);have HN : Hid (ts.length = N) := hN;have HF : Hid (FunP n w ts 82 [.pointer (some ⟨b,0,none⟩)] p) := hf;unfold maxLen at h2;clear h hN hf
 go_enter Tryz.func76,Tryz.ntmps76
 go_wp2_with fail
 go_loopw [8] (fun iv wr => ∃ i : Nat,iv = .int .i64 (i : Int) ∧ i ≤ N ∧ Hid (∀ x ∈ ts.take i,p x = false) ∧ Below w.heap.size w wr) (fun iv _ => N - (intOf iv).toNat)
 case atStart => exact ⟨0,rfl,by omega,(by simp : ∀ x ∈ ts.take 0,p x = false),Below.refl _ _⟩
 case round =>
  obtain ⟨i,rfl,hi,HI,hbel⟩ := hrel
  by_cases hlt : i < N
  ·obtain ⟨t,ht⟩ : ∃ r,ts[i]? = some r := ⟨_,List.getElem?_eq_getElem (by rw [HN.out]; exact hlt)⟩;obtain ⟨g,off,rfl,r,hr,hc⟩ := (HH.out.belowTQ hbel).get ht;have h5 := hr.five
   obtain ⟨r0,r1,r2,r3,r4,rfl⟩ : ∃ a b c d e,r = [a,b,c,d,e] := by
    match r,h5.1 with
    | [a,b,c,d,e],_ => exact ⟨a,b,c,d,e,rfl⟩
   have o0 := h5.2 r0 (by simp);have o1 := h5.2 r1 (by simp);have o2 := h5.2 r2 (by simp);have o3 := h5.2 r3 (by simp);have o4 := h5.2 r4 (by simp);obtain ⟨ea,el,ec,ra,rl,rc,e1, -⟩ := TrV2.open ⟨_,rfl,hr⟩;simp only [Value.agg.injEq,Array.mk.injEq,List.cons.injEq,and_true] at e1;obtain ⟨rfl,rfl,rfl,rfl,rfl⟩ := e1;have c0 := hc 0 _ rfl;have c1 := hc 1 _ rfl;have c2 := hc 2 _ rfl;have c3 := hc 3 _ rfl;have c4 := hc 4 _ rfl;simp only [Nat.add_zero] at c0;have HC := HF.out wr t _ hbel (List.mem_of_getElem? ht) hr;have HCC : Hid _ := HC;have HT : Hid (ts.take (i + 1) = ts.take i ++ [t]) := take_atQ ht;have HTM : Hid (t ∈ ts) := List.mem_of_getElem? ht;clear hc h5 o0 o1 o2 o3 o4 HC ht hr;obtain ⟨R,hR⟩ : ∃ R,p t = R := ⟨_,rfl⟩;have HR : Hid (p t = R) := hR;clear hR;go_wp2_with fail;refine Calls.mono HCC.out ?_;rintro e w2 ⟨rfl,hb2⟩;rw [HR.out];have hbw : Below w.heap.size w w2 := hbel.trans (hb2.mono hbel.size);clear HCC hb2 c0 c1 c2 c3 c4 hbel
   cases R with
   | true =>
    go_wp2_with fail;go_ret;exact ⟨⟨_,rfl,by simp only [Int.natCast_nonneg,true_iff]; exact List.any_eq_true.2 ⟨t,HTM.out,HR.out⟩⟩,hbw⟩
   | false =>
    go_wp2_with fail
    go_roundw
    case rel => exact ⟨i + 1,by go_num,by omega,(by
     rw [HT.out];intro x hx
     rcases List.mem_append.1 hx with hx | hx
     ·exact HI.out x hx
     ·obtain rfl : x = t := by simpa using hx
      exact HR.out : ∀ x ∈ ts.take (i + 1),p x = false),hbw⟩
    case measure => simp [intOf]; omega
  ·go_wp2_with fail;go_ret;have h5 := HI.out;rw [List.take_of_length_le (by rw [HN.out]; omega)] at h5;refine ⟨⟨-1,rfl,?_⟩,hbel⟩
   have : ts.any p = false := by rw [List.any_eq_false]; intro x hx; rw [h5 x hx]; simp
   rw [this]
   simp
theorem containsP_any (b : Nat) (n : Nat) (v : Value) (ts : List Tr) (w : World) (p : Tr → Bool) (h : TrsQ n w v ts) (hf : FunP n w ts 82 [.pointer (some ⟨b,0,none⟩)] p) :
  Calls Tryz.prog 43 #[v,.func (.func 82) #[] #[.pointer (some ⟨b,0,none⟩)]] w fun e w' => e = .returned (.bool (ts.any p)) ∧ Below w.heap.size w w' := by
 have HI : Hid _ := indexP_any b n v ts w p h hf;obtain ⟨a,cap,rfl,h1,h2, -⟩ := RowP.open h;clear h hf;generalize ts.length = N at *;obtain ⟨R,hR⟩ : ∃ R,ts.any p = R := ⟨_,rfl⟩;rw [hR] at HI ⊢;clear hR
 go_enter Tryz.func43,Tryz.ntmps43
 go_wp2_with fail;refine Calls.mono HI.out ?_;rintro e w2 ⟨⟨k,rfl,hk⟩,hb⟩;clear HI
 have hd : decide (0 ≤ k) = R := by
  cases R
  ·simpa using hk
  ·simpa using hk
 clear hk;go_wp2_with fail;go_ret;exact ⟨rfl,hb⟩
theorem pfits_any (f : FlS) (x : Tr) (a1 a2 : Option Addr) (n1 c1 n2 c2 : Nat) (w : World) (hk : 1 ≤ f.kind ∧ f.kind ≤ 7) (hS : x.s.size ≤ 140737488351232) :
  Calls Tryz.prog 83 #[.agg #[.int .i64 f.kind,.string f.tname],.agg #[.int .i64 x.kind,.int .i64 x.n,.string x.s,.slice a1 n1 c1,.slice a2 n2 c2]] w fun e w' => e = .returned (.bool (pfitB f x)) ∧ Below w.heap.size w w' := by
 obtain ⟨V,hV⟩ : ∃ V,pfitB f x = V := ⟨_,rfl⟩;have HV : Hid ((decide (x.kind = kindT f.kind) && (if f.kind = 3 ∨ f.kind = 6 then nmrB f.kind x.n else if f.kind = 4 then validB x.s.data.toList else true)) = V) := hV;rw [hV];clear hV;generalize f.kind = k at *;generalize f.tname = tn at *;generalize x.kind = K at *;generalize x.n = N at *;generalize x.s = S at *;have hbw : Below w.heap.size w ((w.alloc (Obj.cells #[.int .i64 k,.string tn] 54)).alloc (Obj.cells #[.int .i64 K,.int .i64 N,.string S,.slice a1 n1 c1,.slice a2 n2 c2] 30)) := ((Below.refl _ _).alloc (Nat.le_refl _) _).alloc (by simp) _;have BT : Blk ((w.alloc (Obj.cells #[.int .i64 k,.string tn] 54)).alloc (Obj.cells #[.int .i64 K,.int .i64 N,.string S,.slice a1 n1 c1,.slice a2 n2 c2] 30)) (w.heap.size + 1) #[.int .i64 K,.int .i64 N,.string S,.slice a1 n1 c1,.slice a2 n2 c2] 30 := blk_new2T _ _ _ _;have HSZ : Hid (S.size ≤ 140737488351232) := hS;clear hS;obtain ⟨hk1,hk2⟩ := hk
 have hc : k = 1 ∨ k = 2 ∨ k = 3 ∨ k = 4 ∨ k = 5 ∨ k = 6 ∨ k = 7 := by omega
 clear hk1 hk2
 rcases hc with rfl | rfl | rfl | rfl | rfl | rfl | rfl
 ·skip
  have HW : Hid ((K == 1) = V) := (by
   rw [← HV.out]
   show (K == 1) = (decide (K = 1) && true)
   rw [Bool.and_true]; rfl : (K == 1) = V)
  clear HV BT
  go_enter Tryz.func83,Tryz.ntmps83
  go_wp2_with fail;go_ret;exact ⟨congrArg (fun b => Ending.returned (.bool b)) HW.out,hbw⟩
 ·skip
  have HW : Hid ((K == 1) = V) := (by
   rw [← HV.out]
   show (K == 1) = (decide (K = 1) && true)
   rw [Bool.and_true]; rfl : (K == 1) = V)
  clear HV BT
  go_enter Tryz.func83,Tryz.ntmps83
  go_wp2_with fail;go_ret;exact ⟨congrArg (fun b => Ending.returned (.bool b)) HW.out,hbw⟩
 ·skip
  obtain ⟨R,hR⟩ : ∃ R,nmrB 3 N = R := ⟨_,rfl⟩
  have HC : Hid (∀ W,Calls Tryz.prog 111 #[.agg #[.int .i64 3,.string tn],.int .i64 N] W fun e w' => e = .returned (.bool R) ∧ Below W.heap.size W w') := fun W => by rw [← hR]; exact number_any 3 N tn W
  have HW : Hid ((decide (K = 1) && R) = V) := (by rw [← HV.out,← hR]; rfl : (decide (K = 1) && R) = V);clear hR HV
  go_enter Tryz.func83,Tryz.ntmps83
  go_wp2_with fail;refine (HC.out _).mono ?_;rintro e W1 ⟨rfl,hb1⟩;have BT1 := BT.below hb1;have hbw1 := hbw.trans (hb1.mono hbw.size);have t0 := (BT1.cell 0).trans rfl;clear HC hb1 BT BT1
  cases R with
  | false =>
   go_wp2_with fail;go_ret;exact ⟨congrArg (fun b => Ending.returned (.bool b)) (by rw [← HW.out,Bool.and_false] : false = V),hbw1⟩
  | true =>
   go_wp2_with fail;go_ret;exact ⟨congrArg (fun b => Ending.returned (.bool b)) (by rw [← HW.out,Bool.and_true]; rfl : (K == 1) = V),hbw1⟩
 ·skip
  obtain ⟨R,hR⟩ : ∃ R,validB S.data.toList = R := ⟨_,rfl⟩
  have HC : Hid (∀ W,Calls Tryz.prog 112 #[.string S] W fun e w' => e = .returned (.bool R) ∧ Below W.heap.size W w') := fun W => by rw [← hR]; exact valid_any S W HSZ.out
  have HW : Hid ((decide (K = 2) && R) = V) := (by rw [← HV.out,← hR]; rfl : (decide (K = 2) && R) = V);clear hR HV
  go_enter Tryz.func83,Tryz.ntmps83
  go_wp2_with fail;refine (HC.out _).mono ?_;rintro e W1 ⟨rfl,hb1⟩;have BT1 := BT.below hb1;have hbw1 := hbw.trans (hb1.mono hbw.size);have t0 := (BT1.cell 0).trans rfl;clear HC hb1 BT BT1
  cases R with
  | false =>
   go_wp2_with fail;go_ret;exact ⟨congrArg (fun b => Ending.returned (.bool b)) (by rw [← HW.out,Bool.and_false] : false = V),hbw1⟩
  | true =>
   go_wp2_with fail;go_ret;exact ⟨congrArg (fun b => Ending.returned (.bool b)) (by rw [← HW.out,Bool.and_true]; rfl : (K == 2) = V),hbw1⟩
 ·skip
  have HW : Hid ((K == 2) = V) := (by
   rw [← HV.out]
   show (K == 2) = (decide (K = 2) && true)
   rw [Bool.and_true]; rfl : (K == 2) = V)
  clear HV BT
  go_enter Tryz.func83,Tryz.ntmps83
  go_wp2_with fail;go_ret;exact ⟨congrArg (fun b => Ending.returned (.bool b)) HW.out,hbw⟩
 ·skip
  obtain ⟨R,hR⟩ : ∃ R,nmrB 6 N = R := ⟨_,rfl⟩
  have HC : Hid (∀ W,Calls Tryz.prog 111 #[.agg #[.int .i64 6,.string tn],.int .i64 N] W fun e w' => e = .returned (.bool R) ∧ Below W.heap.size W w') := fun W => by rw [← hR]; exact number_any 6 N tn W
  have HW : Hid ((decide (K = 1) && R) = V) := (by rw [← HV.out,← hR]; rfl : (decide (K = 1) && R) = V);clear hR HV
  go_enter Tryz.func83,Tryz.ntmps83
  go_wp2_with fail;refine (HC.out _).mono ?_;rintro e W1 ⟨rfl,hb1⟩;have BT1 := BT.below hb1;have hbw1 := hbw.trans (hb1.mono hbw.size);have t0 := (BT1.cell 0).trans rfl;clear HC hb1 BT BT1
  cases R with
  | false =>
   go_wp2_with fail;go_ret;exact ⟨congrArg (fun b => Ending.returned (.bool b)) (by rw [← HW.out,Bool.and_false] : false = V),hbw1⟩
  | true =>
   go_wp2_with fail;go_ret;exact ⟨congrArg (fun b => Ending.returned (.bool b)) (by rw [← HW.out,Bool.and_true]; rfl : (K == 1) = V),hbw1⟩
 ·skip
  have HW : Hid ((K == 3) = V) := (by
   rw [← HV.out]
   show (K == 3) = (decide (K = 3) && true)
   rw [Bool.and_true]; rfl : (K == 3) = V)
  clear HV BT
  go_enter Tryz.func83,Tryz.ntmps83
  go_wp2_with fail;go_ret;exact ⟨congrArg (fun b => Ending.returned (.bool b)) HW.out,hbw⟩
theorem pfun_any (b : Nat) (f : FlS) (w : World) (n : Nat) (ts : List Tr) (hB : Blk w b #[.string f.name,.int .i64 f.tag,.int .i64 f.label,.int .i64 f.kind,.string f.tname] 56) (hk : 1 ≤ f.kind ∧ f.kind ≤ 7) (hS : ∀ x ∈ ts,x.s.size ≤ 140737488351232) : FunP n w ts 82 [.pointer (some ⟨b,0,none⟩)] (fun x => !pfitB f x) := by
 intro W x r hW hx hr;obtain ⟨a1,n1,c1,a2,n2,c2,e1, -⟩ := TrV2.open ⟨_,rfl,hr⟩;simp only [Value.agg.injEq,Array.mk.injEq] at e1;have HF : Hid (∀ U,Calls Tryz.prog 83 #[.agg #[.int .i64 f.kind,.string f.tname],.agg #[.int .i64 x.kind,.int .i64 x.n,.string x.s,.slice a1 n1 c1,.slice a2 n2 c2]] U fun e w' => e = .returned (.bool (pfitB f x)) ∧ Below U.heap.size U w') := fun U => pfits_any f x a1 a2 n1 c1 n2 c2 U hk (hS x hx)
 have BF := hB.below hW;have e2 : r = [.int .i64 x.kind,.int .i64 x.n,.string x.s,.slice a1 n1 c1,.slice a2 n2 c2] := e1;subst e2;obtain ⟨V,hV⟩ : ∃ V,pfitB f x = V := ⟨_,rfl⟩;simp only [hV] at HF ⊢;clear hV e1 hr hx hS hk;generalize f.kind = k at *;generalize f.tname = tn at *;generalize x.kind = K at *;generalize x.n = N at *;generalize x.s = S at *;have al : Below W.heap.size W (W.alloc (Obj.cells #[.int .i64 K,.int .i64 N,.string S,.slice a1 n1 c1,.slice a2 n2 c2] 30)) := (Below.refl _ _).alloc (Nat.le_refl _) _;have BF1 := BF.below al;have f3 := (BF1.cell 3).trans rfl;have f4 := (BF1.cell 4).trans rfl;have hbl : b < W.heap.size := BF.lt;clear BF BF1 hB
 go_enter Tryz.func82,Tryz.ntmps82
 go_wp2_with fail;refine (HF.out _).mono ?_;rintro e W1 ⟨rfl,hb1⟩;have hbw1 := al.trans (hb1.mono al.size);clear HF hb1 f3 f4;go_wp2_with fail;go_ret;exact ⟨rfl,hbw1⟩
theorem clamp_any (n : Int) (w : World) : Calls Tryz.prog 13 #[.int .i64 n] w fun e w' => e = .returned (.int .i64 (clampI n)) ∧ Below w.heap.size w w' := by
 have hb : Below w.heap.size w w := Below.refl _ _;obtain ⟨K,hK⟩ : ∃ K,clampI n = K := ⟨_,rfl⟩;have HK : Hid (clampI n = K) := hK;rw [hK];clear hK
 go_enter Tryz.func13,Tryz.ntmps13
 go_wp2_with fail
 all_goals
  go_ret;refine ⟨congrArg (fun z : Int => Ending.returned (Value.int .i64 z)) ?_,hb⟩;rw [← HK.out,clampI]
  repeat (first | omega | split at * | split)
def LeafX (r : List Value) (t : Tr) : Prop := ∃ a c a' c',r = [.int .i64 t.kind,.int .i64 t.n,.string t.s,.slice a 0 c,.slice a' 0 c'] ∧ Is64 t.kind ∧ Is64 t.n ∧ t.s.size ≤ 140737488351232 ∧ t.es = [] ∧ t.rest = [] ∧
 (∀ w,RowG w (.slice a 0 c) 2 []) ∧ (∀ w,RowG w (.slice a' 0 c') 4 [])
def TrX : Nat → Nat → World → List Value → Tr → List Nat → Prop
 | 0,_,_,_,_,_ => False
 | n + 1,B,w,r,t,bs => (LeafX r t ∧ bs = []) ∨ ∃ ve rows bss,r = [.int .i64 t.kind,.int .i64 t.n,.string t.s,ve,.slice none 0 0] ∧ Is64 t.kind ∧ Is64 t.n ∧ t.s.size ≤ 140737488351232 ∧ t.rest = [] ∧
   RowO (EtO (TrX n B) B) B 69 2 w ve t.es rows bss ∧ bs = allB ve bss
theorem TrX.sm : ∀ {n B : Nat} {w w' : World} {r : List Value} {t : Tr} {bs : List Nat},TrX n B w r t bs → Sm w w' bs → TrX n B w' r t bs
 | 0,_,_,_,_,_,_,h,_ => h
 | n + 1,B,w,w',r,t,bs,h,hb => by
  rcases h with h | ⟨ve,rows,bss,h1,h2,h3,h4,h5,h7,rfl⟩
  ·exact .inl h
  ·refine .inr ⟨ve,rows,bss,h1,h2,h3,h4,h5,h7.sm hb fun r x b hp hs => ?_,rfl⟩;obtain ⟨vt,rows',bss',g1,g2,g3,rfl⟩ := hp;exact ⟨vt,rows',bss',g1,g2,g3.sm hs fun r x b hp hs => hp.sm hs,rfl⟩
theorem EtX.sm {n B : Nat} {w w' : World} {r : List Value} {e : Int × List Tr} {bs : List Nat} (h : EtO (TrX n B) B w r e bs) (hb : Sm w w' bs) : EtO (TrX n B) B w' r e bs := by
 obtain ⟨vt,rows',bss',g1,g2,g3,rfl⟩ := h;exact ⟨vt,rows',bss',g1,g2,g3.sm hb fun r x b hp hs => hp.sm hs,rfl⟩
theorem TrX.trC : ∀ {n B : Nat} {w : World} {r : List Value} {t : Tr} {bs : List Nat},TrX n B w r t bs → TrC n w r t
 | 0,_,_,_,_,_,h => h
 | n + 1,B,w,r,t,bs,h => by
  rcases h with ⟨⟨a,c,a',c',h1,h2,h3,h4,h5,h6,h7,h8⟩, -⟩ | ⟨ve,rows,bss,h1,h2,h3,h4,h5,h7,rfl⟩
  ·refine ⟨_,_,h1,h2,h3,h4,?_,?_,⟨[],h7 w,?_,?_⟩⟩
   ·rw [h6]; simp
   ·rw [h6]; exact h8 w
   ·rw [h5]; rfl
   ·rw [h5]; simp
  ·refine ⟨ve,.slice none 0 0,h1,h2,h3,h4,?_,?_,h7.rowP (by decide) fun r x b hx hp => ?_⟩
   ·rw [h5]; simp
   ·rw [h5]; exact RowG.nil w 4
   ·obtain ⟨vt,rows',bss',g1,g2,g3,rfl⟩ := hp;exact ⟨vt,g1,g2,g3.rowP (by decide) fun r x b hx hp => hp.trC⟩
theorem TrX.trIn {n B : Nat} {w : World} {r : List Value} {t : Tr} {bs : List Nat} (h : TrX n B w r t bs) : TrIn n w (.agg r.toArray) t := ⟨r,rfl,h.trC⟩
theorem TrX.base : ∀ {n B B' : Nat} {w : World} {r : List Value} {t : Tr} {bs : List Nat},TrX n B w r t bs → B' ≤ B → TrX n B' w r t bs
 | 0,_,_,_,_,_,_,h,_ => h
 | n + 1,B,B',w,r,t,bs,h,hB => by
  rcases h with h | ⟨ve,rows,bss,h1,h2,h3,h4,h5,h7,rfl⟩
  ·exact .inl h
  ·refine .inr ⟨ve,rows,bss,h1,h2,h3,h4,h5,h7.base hB fun r x b hp => ?_,rfl⟩;obtain ⟨vt,rows',bss',g1,g2,g3,rfl⟩ := hp;exact ⟨vt,rows',bss',g1,g2,g3.base hB fun r x b hp => hp.base hB,rfl⟩
theorem TrX.open {n B : Nat} {w : World} {r : List Value} {t : Tr} {bs : List Nat} (h : TrX n B w r t bs) : ∃ a1 n1 c1 a2 n2 c2,r = [.int .i64 t.kind,.int .i64 t.n,.string t.s,.slice a1 n1 c1,.slice a2 n2 c2] := by
 cases n with
 | zero => exact h.elim
 | succ n =>
  rcases h with ⟨⟨a,c,a',c',h1, -⟩, -⟩ | ⟨ve,rows,bss,h1,h2,h3,h4,h5,h7,rfl⟩
  ·exact ⟨_,_,_,_,_,_,h1⟩
  ·obtain ⟨a1,c1,rfl⟩ := own_form h7.own;exact ⟨_,_,_,_,_,_,h1⟩
theorem leafX_of {n : Nat} {w : World} {r : List Value} {t : Tr} (h : TrC (n + 1) w r t) (h1 : t.es = []) (h2 : t.rest = []) : LeafX r t := by
 obtain ⟨ve,vr,e,k1,k2,k3,k4,k5,rows,k6,k7,k8⟩ := h;rw [h1] at k7;obtain rfl : rows = [] := List.length_eq_zero_iff.1 k7;rw [h2] at k5;obtain ⟨ae,ce,rfl,x1,x2,x3, -⟩ := k6.form;obtain ⟨ar,cr,rfl,y1,y2,y3, -⟩ := (show RowG w vr 4 [] from k5).form;exact ⟨ae,ce,ar,cr,e,k1,k2,k3,h1,h2,fun w' => ⟨ae,ce,rfl,x1,x2,x3,fun h => absurd rfl h⟩,fun w' => ⟨ar,cr,rfl,y1,y2,y3,fun h => absurd rfl h⟩⟩
theorem flat_set {size : Nat} : ∀ (rs : List (List Value)),(∀ r ∈ rs,r.length = size) → ∀ (j : Nat) (r : List Value),rs[j]? = some r → ∀ (c : Nat) (u : Value),c < size → rs.flatten.set (j * size + c) u = (rs.set j (r.set c u)).flatten
 | [],_,j,r,h,_,_,_ => by simp at h
 | x :: l,hl,0,r,h,c,u,hc => by
  obtain rfl : x = r := by simpa using h
  have hx := hl x (List.mem_cons_self ..);rw [List.flatten_cons,Nat.zero_mul,Nat.zero_add,List.set_append_left _ _ (by omega),List.set_cons_zero,List.flatten_cons]
 | x :: l,hl,j + 1,r,h,c,u,hc => by
  have hx := hl x (List.mem_cons_self ..);have ih := flat_set l (fun r hr => hl r (List.mem_cons_of_mem _ hr)) j r (by simpa using h) c u hc;rw [List.flatten_cons,List.set_append_right _ _ (by rw [hx,Nat.add_mul]; omega),List.set_cons_succ,List.flatten_cons,← ih]
  congr 2
  rw [hx,Nat.add_mul]; omega
def set5 (w : World) (g o : Nat) (a b c d e : Value) : World := ((((w.setCell ⟨g,o,none⟩ a).setCell ⟨g,o + 1,none⟩ b).setCell ⟨g,o + 2,none⟩ c).setCell ⟨g,o + 3,none⟩ d).setCell ⟨g,o + 4,none⟩ e
theorem set5_kp (w : World) (g o : Nat) (a b c d e : Value) : Kp (fun q => q = g) w (set5 w g o a b c d e) := by
 unfold set5;refine Kp.setCell ?_ (fun _ => by simp) _;refine Kp.setCell ?_ (fun _ => by simp) _;refine Kp.setCell ?_ (fun _ => by simp) _;refine Kp.setCell ?_ (fun _ => by simp) _;refine Kp.setCell ?_ (fun _ => by simp) _;exact Kp.refl _ _
theorem own_set5 {w : World} {B ty g n cap : Nat} {rows : List (List Value)} (h : w.ownsRow B ty 5 (.slice (some ⟨g,0,none⟩) n cap) n rows.flatten) (hl : ∀ r ∈ rows,r.length = 5) {j : Nat} (hj : j < rows.length) (a b c d e : Value) :
  (set5 w g (j * 5) a b c d e).ownsRow B ty 5 (.slice (some ⟨g,0,none⟩) n cap) n (rows.set j [a,b,c,d,e]).flatten := by
 obtain ⟨r,hr⟩ : ∃ r,rows[j]? = some r := ⟨_,List.getElem?_eq_getElem hj⟩;have h5 := hl r (List.mem_of_getElem? hr)
 have hset : ∀ (rs : List (List Value)) (q : List Value),(∀ r ∈ rs,r.length = 5) → q.length = 5 → ∀ r ∈ rs.set j q,r.length = 5 := fun rs q h1 h2 r hr => by
  rcases List.mem_or_eq_of_mem_set hr with hr | rfl
  ·exact h1 r hr
  ·exact h2
 have step : ∀ (W : World) (rs : List (List Value)) (q : List Value) (k : Nat) (u : Value),W.ownsRow B ty 5 (.slice (some ⟨g,0,none⟩) n cap) n (rs.set j q).flatten → (∀ r ∈ rs,r.length = 5) → q.length = 5 → j < rs.length → k < 5 → (W.setCell ⟨g,j * 5 + k,none⟩ u).ownsRow B ty 5 (.slice (some ⟨g,0,none⟩) n cap) n (rs.set j (q.set k u)).flatten := fun W rs q k u h1 h2 h3 h4 h5 => by
  have h6 := (h1.stored (j * 5 + k) u).1;rw [flat_set (rs.set j q) (hset rs q h2 h3) j q (by rw [List.getElem?_set,if_pos rfl,if_pos h4]) k u h5,List.set_set] at h6;exact h6
 have e0 : rows.set j r = rows := by
  obtain ⟨h1,h2⟩ := List.getElem?_eq_some_iff.1 hr;rw [← h2,List.set_getElem_self]
 match r,h5,hr,e0 with
 | [x0,x1,x2,x3,x4],_,hr,e0 =>
  have s0 := step w rows [x0,x1,x2,x3,x4] 0 a (by rw [e0]; exact h) hl rfl hj (by decide);have s1 := step _ rows [a,x1,x2,x3,x4] 1 b s0 hl rfl hj (by decide);have s2 := step _ rows [a,b,x2,x3,x4] 2 c s1 hl rfl hj (by decide);have s3 := step _ rows [a,b,c,x3,x4] 3 d s2 hl rfl hj (by decide);have s4 := step _ rows [a,b,c,d,x4] 4 e s3 hl rfl hj (by decide);exact s4
theorem set5_sm {w : World} {g o : Nat} {a b c d e : Value} {bs : List Nat} (h : g ∉ bs) : Sm w (set5 w g o a b c d e) bs := by
 intro k hk;have hne : k ≠ g := fun e => h (e ▸ hk)
 unfold set5;rw [Below.heap_setCell _ _ _ _ hne,Below.heap_setCell _ _ _ _ hne,Below.heap_setCell _ _ _ _ hne,Below.heap_setCell _ _ _ _ hne,Below.heap_setCell _ _ _ _ hne]
def SeeP (n : Nat) (t : Tr) (w : World) (e : Ending) (w' : World) : Prop := ∃ r bs,e = .returned (.agg r.toArray) ∧ TrX n w.heap.size w' r t bs ∧ Apt w.heap.size w' bs ∧ Below w.heap.size w w'
theorem SeeP.done {n b : Nat} {w W : World} {t : Tr} {x0 x1 x2 x3 x4 : Value} {bs : List Nat} (hB : Below w.heap.size w W) (hb : w.heap.size ≤ b) (ht : TrX n w.heap.size W [x0,x1,x2,x3,x4] t bs) (hap : Apt w.heap.size W bs) (hn : b ∉ bs) :
  SeeP n t w (.returned (.agg #[x0,x1,x2,x3,x4])) (set5 W b 0 x0 x1 x2 x3 x4) := by
 have hk := set5_kp W b 0 x0 x1 x2 x3 x4;exact ⟨[x0,x1,x2,x3,x4],bs,rfl,ht.sm (set5_sm hn),hap.mono hk.size,hB.trans (hk.toBelow hB.size fun q e => by rw [e]; exact hb)⟩
theorem blk_set5 {w : World} {b : Nat} {c0 c1 c2 c3 c4 x0 x1 x2 x3 x4 : Value} {t : TypeId} (h : Blk w b #[c0,c1,c2,c3,c4] t) : Blk (set5 w b 0 x0 x1 x2 x3 x4) b #[x0,x1,x2,x3,x4] t := ((((h.set 0 x0 rfl).set 1 x1 rfl).set 2 x2 rfl).set 3 x3 rfl).set 4 x4 rfl
theorem LeafX.nilX {t : Tr} (h1 : Is64 t.kind) (h2 : Is64 t.n) (h3 : t.s.size ≤ 140737488351232) (h4 : t.es = []) (h5 : t.rest = []) : LeafX [.int .i64 t.kind,.int .i64 t.n,.string t.s,.slice none 0 0,.slice none 0 0] t :=
 ⟨none,0,none,0,rfl,h1,h2,h3,h4,h5,fun w => RowG.nil w 2,fun w => RowG.nil w 4⟩
theorem zeroX (n B : Nat) (w : World) : TrX (n + 1) B w [.int .i64 0,.int .i64 0,.string ⟨#[]⟩,.slice none 0 0,.slice none 0 0] tr0 [] :=
 .inl ⟨LeafX.nilX (t := tr0) (by show Is64 0; unfold Is64; omega) (by show Is64 0; unfold Is64; omega) (by decide) rfl rfl,rfl⟩
theorem pblk4 (w : World) (c1 c2 c3 c4 : Array Value) (t1 t2 t3 t4 : TypeId) : Blk ((((w.alloc (Obj.cells c1 t1)).alloc (Obj.cells c2 t2)).alloc (Obj.cells c3 t3)).alloc (Obj.cells c4 t4)) w.heap.size c1 t1 ∧ Blk ((((w.alloc (Obj.cells c1 t1)).alloc (Obj.cells c2 t2)).alloc (Obj.cells c3 t3)).alloc (Obj.cells c4 t4)) (w.heap.size + 1) c2 t2 ∧ Blk ((((w.alloc (Obj.cells c1 t1)).alloc (Obj.cells c2 t2)).alloc (Obj.cells c3 t3)).alloc (Obj.cells c4 t4)) (w.heap.size + 2) c3 t3 ∧ Blk ((((w.alloc (Obj.cells c1 t1)).alloc (Obj.cells c2 t2)).alloc (Obj.cells c3 t3)).alloc (Obj.cells c4 t4)) (w.heap.size + 3) c4 t4 ∧ Below w.heap.size w ((((w.alloc (Obj.cells c1 t1)).alloc (Obj.cells c2 t2)).alloc (Obj.cells c3 t3)).alloc (Obj.cells c4 t4)) := by
 have s1 : (w.alloc (Obj.cells c1 t1)).heap.size = w.heap.size + 1 := by simp
 have s2 : ((w.alloc (Obj.cells c1 t1)).alloc (Obj.cells c2 t2)).heap.size = w.heap.size + 2 := by simp
 have s3 : (((w.alloc (Obj.cells c1 t1)).alloc (Obj.cells c2 t2)).alloc (Obj.cells c3 t3)).heap.size = w.heap.size + 3 := by simp
 have al : ∀ (W : World) (x : Obj),Below W.heap.size W (W.alloc x) := fun W x => (Below.refl _ _).alloc (Nat.le_refl _) _
 have b1 := Blk.new w c1 t1;have b2 := Blk.new (w.alloc (Obj.cells c1 t1)) c2 t2;have b3 := Blk.new ((w.alloc (Obj.cells c1 t1)).alloc (Obj.cells c2 t2)) c3 t3;have b4 := Blk.new (((w.alloc (Obj.cells c1 t1)).alloc (Obj.cells c2 t2)).alloc (Obj.cells c3 t3)) c4 t4;rw [s1] at b2;rw [s2] at b3;rw [s3] at b4;refine ⟨((b1.below (al _ _)).below (al _ _)).below (al _ _),(b2.below (al _ _)).below (al _ _),b3.below (al _ _),b4,?_⟩;exact ((((Below.refl _ w).alloc (Nat.le_refl _) _).alloc (by omega) _).alloc (by omega) _).alloc (by omega) _
end
section
open Go.ChangeShapes Go.WideShapes Go.ChangeAt Go.RowKit Go.Maps
theorem numR_low {n : Int} (h : n < 0) : numR n = false := by unfold numR; rw [decide_eq_false (by omega)]
theorem numR_high {n : Int} (h : 2147483647 < n) : numR n = false := by unfold numR; rw [decide_eq_false (by omega)]
theorem numR_in {n : Int} (h : ¬ n < 0) (h2 : ¬ 2147483647 < n) : numR n = true := by unfold numR; rw [decide_eq_true (by omega)]
theorem cvalues_any {w : World} {v : Value} {vs : List NmS} (hr : RowG w v 2 (nmRows vs)) (hl : vs.length ≤ 30000) (hw : ∀ f ∈ vs,NmW f) :
  Calls Tryz.prog 73 #[v] w fun e w' => e = .returned (.int .i64 (chkVs [] [] vs)) ∧ Below w.heap.size w w' := by
 obtain ⟨a,c,rfl,q1,q2⟩ := hr.form2
 have hN : (nmRows vs).length = vs.length := by simp [nmRows]
 rw [hN] at hr q1 ⊢;clear hN;obtain ⟨N,hN⟩ : ∃ N,vs.length = N := ⟨_,rfl⟩;rw [hN] at hr q1 hl ⊢;have HN : Hid (vs.length = N) := hN;have HR : Hid (RowG w (.slice a N c) 2 (nmRows vs)) := hr;have HW : Hid (∀ f ∈ vs,NmW f) := hw;clear hN hr hw;obtain ⟨A,hA⟩ : ∃ A,chkVs [] [] vs = A := ⟨_,rfl⟩;rw [hA];have HA : Hid (A = chkVs [] [] vs) := hA.symm;clear hA;have hmm := @run_makeMap Tryz.prog
 go_enter Tryz.func73,Tryz.ntmps73
 go_wp2_with fail;clear hmm;have HM0 : SetS ((w.alloc (.map #[] 0)).alloc (.map #[] 0)) w.heap.size 0 [] := SetK.below (SetK.made 9 w) ((Below.refl _ _).alloc (Nat.le_refl _) _)
 have HM1 : SetI ((w.alloc (.map #[] 0)).alloc (.map #[] 0)) (w.heap.size + 1) 0 [] := by
  have := SetK.made 3 (w.alloc (.map #[] 0))
  rwa [show (w.alloc (.map #[] 0)).heap.size = w.heap.size + 1 by simp] at this
 have KP0 : Below w.heap.size w ((w.alloc (.map #[] 0)).alloc (.map #[] 0)) := ((Below.refl _ _).alloc (Nat.le_refl _) _).alloc (by simp) _;obtain ⟨bn,hbn⟩ : ∃ n,w.heap.size = n := ⟨_,rfl⟩;rw [hbn] at HM0 HM1 KP0 ⊢;have HB : Hid (w.heap.size = bn) := hbn;clear hbn
 go_loopw [11] (fun iv wr => ∃ (k : Nat) (al : List ByteArray) (t : List Int),iv = .int .i64 (k : Int) ∧ k ≤ N ∧ Hid (A = chkVs al t (vs.drop k)) ∧ Hid (SetS wr bn k al) ∧ Hid (SetI wr (bn + 1) k t) ∧ Below bn w wr) (fun iv _ => N - (intOf iv).toNat)
 case atStart => exact ⟨0,[],[],rfl,by omega,HA,HM0,HM1,KP0⟩
 case round =>
  obtain ⟨k,al,t,rfl,hk,HAk,HSn,HSt,hbel⟩ := hrel;clear HM0 HM1 KP0;have hbw : bn + 1 < wr.heap.size := SetK.lt HSt.out
  have hbW : Below w.heap.size w wr := by rw [HB.out]; exact hbel
  by_cases hlt : k < N
  ·obtain ⟨f,hf⟩ : ∃ n,vs[k]? = some n := ⟨_,List.getElem?_eq_getElem (by rw [HN.out]; exact hlt)⟩
   have hrr : (nmRows vs)[k]? = some f.cells := by simp [nmRows,hf]
   obtain ⟨g,off,rfl,c1⟩ := (HR.out.below hbW).get hrr;have hfw := HW.out _ (List.mem_of_getElem? hf);obtain ⟨f0,f1⟩ := f;obtain ⟨w1',w2'⟩ := hfw;simp only at w1' w2'
   have HA2 : Hid (A = if freshB f0 al = false then 6 else if numB f1 t = false then 11 else chkVs (al ++ [f0]) (t ++ [f1]) (vs.drop (k + 1))) := by
    show _ = _
    rw [HAk.out,drop_at hf]; rfl
   have p0 := c1 0 _ rfl;have p1 := c1 1 _ rfl;simp only [Nat.add_zero] at p0 p1;clear c1 hrr hf HAk hbW;go_wp2_with fail;clear p0 p1;have hba : Below wr.heap.size wr (wr.alloc (.cells #[.string f0,.int .i64 f1] 61)) := (Below.refl _ _).alloc (Nat.le_refl _) _;have BX := Blk.new wr #[.string f0,.int .i64 f1] 61;refine (newname_any (SetK.below HSn.out hba) w1' (by omega)).mono ?_;rintro e w1 ⟨rfl,hs1,hk1⟩;have HS1 : Hid _ := hs1;clear hs1;have hb1 : Below bn w w1 := (hbel.alloc (by omega) _).trans (hk1.toBelow (by simp; omega) (fun k e => by omega))
   cases h1 : freshB f0 al
   ·go_wp2_with fail;go_ret;exact ⟨ret_int (by rw [HA2.out,if_pos h1]),by rw [HB.out]; exact hb1⟩
   ·have BX1 := BX.kp hk1 (by omega);have b1 : w1.cell? ⟨wr.heap.size,1,none⟩ = some (.int .i64 f1) := BX1.cell 1
    by_cases hlo : f1 < 0
    ·go_wp2_with fail;go_ret;exact ⟨ret_int (by rw [HA2.out,if_neg (by rw [h1]; decide),if_pos (by unfold numB; rw [numR_low hlo]; rfl)]),by rw [HB.out]; exact hb1⟩
    ·by_cases hhi : 2147483647 < f1
     ·go_wp2_with fail;go_ret;exact ⟨ret_int (by rw [HA2.out,if_neg (by rw [h1]; decide),if_pos (by unfold numB; rw [numR_high hhi]; rfl)]),by rw [HB.out]; exact hb1⟩
     ·have HNB : Hid (numB f1 t = !memI f1 t) := by show _ = _; unfold numB; rw [numR_in hlo hhi]; rfl
      go_wp2_with fail;clear b1;refine (add_int (SetK.kp (SetK.below HSt.out hba) hk1 (by omega)) w2' (by omega)).mono ?_;rintro e w2 ⟨rfl,hs2,hk2⟩;have HS2 : Hid _ := hs2;clear hs2;have hb2 : Below bn w w2 := hb1.trans (hk2.toBelow (by have := hb1.size; have := HB.out; omega) (fun k e => by omega))
      cases h2 : memI f1 t
      ·have HA3 : Hid (A = chkVs (al ++ [f0]) (t ++ [f1]) (vs.drop (k + 1))) := by
        show _ = _
        rw [HA2.out,if_neg (by rw [h1]; decide),if_neg (by rw [HNB.out,h2]; decide)]
       have HS1' : Hid (SetS w2 bn (k + 1) (al ++ [f0])) := SetK.kp (HS1.out h1) hk2 (by omega);have HS2' : Hid (SetI w2 (bn + 1) (k + 1) (t ++ [f1])) := HS2.out h2;clear HS1 HS2 hbel hb1 hba hk1 hk2 BX BX1 HA2;go_wp2_with fail
       go_roundw
       case rel => exact ⟨k + 1,_,_,by go_num,by omega,HA3,HS1',HS2',hb2⟩
       case measure => simp [intOf]; omega
      ·go_wp2_with fail;go_ret;exact ⟨ret_int (by rw [HA2.out,if_neg (by rw [h1]; decide),if_pos (by rw [HNB.out,h2]; rfl)]),by rw [HB.out]; exact hb2⟩
  ·go_wp2_with fail;go_ret;exact ⟨ret_int (by rw [HAk.out,drop_end (by rw [HN.out]; omega)]; rfl),hbW⟩
theorem typeB_msg (mn en : List ByteArray) (t : ByteArray) : typeB mn en 7 t = memB t mn := by
 unfold typeB; simp
theorem cmethods_any {w : World} {v : Value} {ts : List MtS} {mn en : List ByteArray} {bY ny : Nat} {T : List (Int × ByteArray)}
  (hr : RowG w v 3 (mtRows ts)) (hl : ts.length ≤ 30000) (hT : SetT w bY ny T) (hTt : ∀ k s,memT (k,s) T = typeB mn en k s) (hw : ∀ f ∈ ts,MtW f) :
  Calls Tryz.prog 37 #[v,.map (some bY)] w fun e w' => e = .returned (.int .i64 (chkTs mn [] ts)) ∧ Below w.heap.size w w' := by
 obtain ⟨a,c,rfl,q1,q2⟩ := hr.form2
 have hN : (mtRows ts).length = ts.length := by simp [mtRows]
 rw [hN] at hr q1 ⊢;clear hN;obtain ⟨N,hN⟩ : ∃ N,ts.length = N := ⟨_,rfl⟩;rw [hN] at hr q1 hl ⊢;have HN : Hid (ts.length = N) := hN;have HR : Hid (RowG w (.slice a N c) 3 (mtRows ts)) := hr;have HT : Hid (SetT w bY ny T) := hT
 have HTT : Hid (∀ s,memT (7,s) T = memB s mn) := fun s => by rw [hTt,typeB_msg]
 have HW : Hid (∀ f ∈ ts,MtW f) := hw;clear hN hr hT hTt hw;obtain ⟨A,hA⟩ : ∃ A,chkTs mn [] ts = A := ⟨_,rfl⟩;rw [hA];have HA : Hid (A = chkTs mn [] ts) := hA.symm;clear hA;have hmm := @run_makeMap Tryz.prog
 go_enter Tryz.func37,Tryz.ntmps37
 go_wp2_with fail;clear hmm;have HM0 := SetK.made 9 w;have KP0 : Below w.heap.size w (w.alloc (.map #[] 0)) := (Below.refl _ _).alloc (Nat.le_refl _) _;obtain ⟨bn,hbn⟩ : ∃ n,w.heap.size = n := ⟨_,rfl⟩;rw [hbn] at HM0 KP0 ⊢;have HB : Hid (w.heap.size = bn) := hbn;clear hbn
 go_loopw [11] (fun iv wr => ∃ (k : Nat) (al : List ByteArray),iv = .int .i64 (k : Int) ∧ k ≤ N ∧ Hid (A = chkTs mn al (ts.drop k)) ∧ Hid (SetS wr bn k al) ∧ Below bn w wr) (fun iv _ => N - (intOf iv).toNat)
 case atStart => exact ⟨0,[],rfl,by omega,HA,HM0,KP0⟩
 case round =>
  obtain ⟨k,al,rfl,hk,HAk,HSn,hbel⟩ := hrel;clear HM0 KP0;have hbw : bn < wr.heap.size := SetK.lt HSn.out
  have hbW : Below w.heap.size w wr := by rw [HB.out]; exact hbel
  by_cases hlt : k < N
  ·obtain ⟨f,hf⟩ : ∃ n,ts[k]? = some n := ⟨_,List.getElem?_eq_getElem (by rw [HN.out]; exact hlt)⟩
   have hrr : (mtRows ts)[k]? = some f.cells := by simp [mtRows,hf]
   obtain ⟨g,off,rfl,c1⟩ := (HR.out.below hbW).get hrr;have hfw := HW.out _ (List.mem_of_getElem? hf);obtain ⟨f0,f1,f2⟩ := f;obtain ⟨w1',w2',w3'⟩ := hfw;simp only at w1' w2' w3'
   have HA2 : Hid (A = if freshB f0 al = false then 6 else if (memB f1 mn && memB f2 mn) = false then 8 else chkTs mn (al ++ [f0]) (ts.drop (k + 1))) := by
    show _ = _
    rw [HAk.out,drop_at hf]; rfl
   have p0 := c1 0 _ rfl;have p1 := c1 1 _ rfl;have p2 := c1 2 _ rfl;simp only [Nat.add_zero] at p0 p1 p2;have HTr : Hid (SetT wr bY ny T) := SetK.below HT.out hbW
   have hYn : bY < bn := by have := SetK.lt HT.out; have := HB.out; omega
   clear c1 hrr hf HAk hbW;go_wp2_with fail;clear p0 p1 p2;have hba : Below wr.heap.size wr (wr.alloc (.cells #[.string f0,.string f1,.string f2] 63)) := (Below.refl _ _).alloc (Nat.le_refl _) _;have BX := Blk.new wr #[.string f0,.string f1,.string f2] 63;refine (newname_any (SetK.below HSn.out hba) w1' (by omega)).mono ?_;rintro e w1 ⟨rfl,hs1,hk1⟩;have HS1 : Hid _ := hs1;clear hs1;have hb1 : Below bn w w1 := (hbel.alloc (by omega) _).trans (hk1.toBelow (by simp; omega) (fun k e => by omega))
   cases h1 : freshB f0 al
   ·go_wp2_with fail;go_ret;exact ⟨ret_int (by rw [HA2.out,if_pos h1]),by rw [HB.out]; exact hb1⟩
   ·have BX1 := BX.kp hk1 (by omega);have b1 : w1.cell? ⟨wr.heap.size,1,none⟩ = some (.string f1) := BX1.cell 1;have HT1 : Hid (SetT w1 bY ny T) := SetK.kp (SetK.below HTr.out hba) hk1 (by omega);go_wp2_with fail;refine (msgtype_any _ _).mono ?_;rintro e w2 ⟨rfl,hb2⟩;clear b1;go_wp2_with fail;refine (has_ty (SetK.below HT1.out hb2) ⟨by decide,by decide⟩ w2').mono ?_;rintro e w3 ⟨rfl,hb3⟩;rw [HTT.out];have hb13 : Below w1.heap.size w1 w3 := hb2.trans (hb3.mono hb2.size)
    have hbn1 : bn ≤ w1.heap.size := by have := hb1.size; have := HB.out; omega
    have hb03 : Below bn w w3 := hb1.trans (hb13.mono hbn1)
    cases h2 : memB f1 mn
    ·go_wp2_with fail;go_ret;exact ⟨ret_int (by rw [HA2.out,if_neg (by rw [h1]; decide),if_pos (by rw [h2]; rfl)]),by rw [HB.out]; exact hb03⟩
    ·have BX3 := BX1.below hb13;have b2 : w3.cell? ⟨wr.heap.size,2,none⟩ = some (.string f2) := BX3.cell 2;clear hb2 hb3;go_wp2_with fail;refine (msgtype_any _ _).mono ?_;rintro e w4 ⟨rfl,hb4⟩;clear b2;go_wp2_with fail;refine (has_ty (SetK.below (SetK.below HT1.out hb13) hb4) ⟨by decide,by decide⟩ w3').mono ?_;rintro e w5 ⟨rfl,hb5⟩;rw [HTT.out];have hb35 : Below w3.heap.size w3 w5 := hb4.trans (hb5.mono hb4.size);have hb05 : Below bn w w5 := hb03.trans (hb35.mono (Nat.le_trans hbn1 hb13.size))
     cases h3 : memB f2 mn
     ·go_wp2_with fail;go_ret;exact ⟨ret_int (by rw [HA2.out,if_neg (by rw [h1]; decide),if_pos (by rw [h2,h3]; rfl)]),by rw [HB.out]; exact hb05⟩
     ·have HA3 : Hid (A = chkTs mn (al ++ [f0]) (ts.drop (k + 1))) := by
       show _ = _
       rw [HA2.out,if_neg (by rw [h1]; decide),if_neg (by rw [h2,h3]; decide)]
      have HS1' : Hid (SetS w5 bn (k + 1) (al ++ [f0])) := SetK.below (SetK.below (HS1.out h1) hb13) hb35;clear HS1 hbel hb1 hba hk1 BX BX1 BX3 HA2 hb03 hb35 hb13 hb4 hb5 HT1;go_wp2_with fail
      go_roundw
      case rel => exact ⟨k + 1,_,by go_num,by omega,HA3,HS1',hb05⟩
      case measure => simp [intOf]; omega
  ·go_wp2_with fail;go_ret;exact ⟨ret_int (by rw [HAk.out,drop_end (by rw [HN.out]; omega)]; rfl),hbW⟩
end
end Go.Proofs.YtmgbhicogmclgaaGreat

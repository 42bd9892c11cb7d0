/- Part 24 of what the proof stands on. -/
import Derived.Test.YtfnjbbaphmmjlaaGreatPkAW
namespace Go.Proofs.YtfnjbbaphmmjlaaGreat
set_option linter.unusedVariables false
set_option linter.unusedSimpArgs false
open Go.ChangeShapes Go.WideShapes Go.ChangeAt Go.RowKit
set_option maxRecDepth 20000
theorem mtr_len3A (ms : List MtS) : ∀ r ∈ mtRows ms,r.length = 3 := fun r hr => by
 simp only [mtRows,List.mem_map] at hr
 obtain ⟨_,_,rfl⟩ := hr
 rfl
def ScO (w : World) (B : Nat) (v : Value) (s : ScS) : Prop := ∃ vm ve vt pm pe,v = .agg #[.string s.name,vm,ve,vt] ∧ MsO w B vm s.msgs pm ∧ EnO w B ve s.enums pe ∧ w.ownsRow B 72 3 vt s.methods.length (mtRows s.methods).flatten
theorem own_kpA {S : Nat → Prop} {w w' : World} {base e s n : Nat} {v : Value} {xs : List Value} (h : w.ownsRow base e s v n xs) (hk : Kp S w w') (hs : ∀ k,base ≤ k → ¬ S k) : w'.ownsRow base e s v n xs := by
 refine ⟨h.1,h.2.imp id ?_⟩
 rintro ⟨g,cap,cur,rfl,h1,h2,h3⟩
 exact ⟨g,cap,cur,rfl,h1,(hk.block g (Array.getElem?_eq_some_iff.1 h2).1 (hs g h1)).trans h2,h3⟩
theorem ScO.kp {w w' : World} {B : Nat} {v : Value} {s : ScS} (h : ScO w B v s) (hk : Kp (fun q => q < B) w w') : ScO w' B v s := by
 obtain ⟨vm,ve,vt,pm,pe,h1,h2,h3,h4⟩ := h
 exact ⟨vm,ve,vt,pm,pe,h1,h2.kp hk (fun k h => by omega),h3.kp hk (fun k h => by omega),own_kpA h4 hk (fun k h => by omega)⟩
theorem ScO.toIn {w : World} {B : Nat} {v : Value} {s : ScS} (h : ScO w B v s) : ScIn w v s := by
 obtain ⟨vm,ve,vt,pm,pe,h1,h2,h3,h4⟩ := h
 exact ⟨vm,ve,vt,h1,h2.to_in,h3.to_in,(RowG.own (mtr_len3A _) (by decide) h4).1⟩
theorem schemaO_any {w : World} {v : Value} {s : ScS} (hr : ScIn w v s) (hf : FewL s) : Calls Tryz.prog 10 #[v] w fun e w' => ∃ r,e = .returned r ∧ ScO w' w.heap.size r s ∧ Below w.heap.size w w' :=
 (schema_any hr hf).mono fun e w' ⟨vm,ve,vt,pm,pe,h1,h2,h3,h4,h5⟩ => ⟨_,h1,⟨vm,ve,vt,pm,pe,rfl,h2,h3,h4⟩,h5⟩
theorem TrV.kpA {n B : Nat} {w w' : World} {v : Value} {t : Tr} {bs : List Nat} (h : TrV n B w v t bs) (hk : Kp (fun q => q < B) w w') : TrW n w' v t := by
 obtain ⟨r,h1,h2,h3⟩ := h
 exact ⟨r,h1,(h2.sm (fun k hb => hk.block k (h3.2 k hb).2 (by have := (h3.2 k hb).1; omega))).trR⟩
def st4 (w : World) (g : Nat) (a b c d : Value) : World := (((w.setCell ⟨g,0,none⟩ a).setCell ⟨g,1,none⟩ b).setCell ⟨g,2,none⟩ c).setCell ⟨g,3,none⟩ d
def st5 (w : World) (g : Nat) (a b c d e : Value) : World := ((((w.setCell ⟨g,0,none⟩ a).setCell ⟨g,1,none⟩ b).setCell ⟨g,2,none⟩ c).setCell ⟨g,3,none⟩ d).setCell ⟨g,4,none⟩ e
theorem Kp.st4 {S : Nat → Prop} {a w : World} {g : Nat} (h : Kp S a w) (hp : g < a.heap.size → S g) (x0 x1 x2 x3 : Value) : Kp S a (st4 w g x0 x1 x2 x3) :=
 Kp.setCell (p := ⟨g,3,none⟩) (Kp.setCell (p := ⟨g,2,none⟩) (Kp.setCell (p := ⟨g,1,none⟩) (Kp.setCell (p := ⟨g,0,none⟩) h hp _) hp _) hp _) hp _
theorem Kp.st5 {S : Nat → Prop} {a w : World} {g : Nat} (h : Kp S a w) (hp : g < a.heap.size → S g) (x0 x1 x2 x3 x4 : Value) : Kp S a (st5 w g x0 x1 x2 x3 x4) :=
 Kp.setCell (p := ⟨g,4,none⟩) (Kp.setCell (p := ⟨g,3,none⟩) (Kp.setCell (p := ⟨g,2,none⟩) (Kp.setCell (p := ⟨g,1,none⟩) (Kp.setCell (p := ⟨g,0,none⟩) h hp _) hp _) hp _) hp _) hp _
theorem leaf_all {w4 W A C : World} {s : ScS} {t : Tr} {D1 D3 b13 b14 : Nat} {bs : List Nat} {u0 u1 u2 u3 x0 x1 x2 x3 x4 : Value} (B13 : Blk W b13 #[.string ⟨#[]⟩,.slice none 0 0,.slice none 0 0,.slice none 0 0] 26) (B14 : Blk W b14 #[.int .i64 0,.int .i64 0,.string ⟨#[]⟩,.slice none 0 0,.slice none 0 0] 30) (C1 : ScO A D1 (.agg #[u0,u1,u2,u3]) s) (F1 : Kp (fun q => q < D1) A W) (h1 : b13 < A.heap.size → b13 < D1) (h2 : b14 < A.heap.size → b14 < D1)
  (C3 : TrV 14 D3 C (.agg #[x0,x1,x2,x3,x4]) t bs) (F3 : Kp (fun q => q < D3) C W) (h3 : b13 < C.heap.size → b13 < D3) (h4 : b14 < C.heap.size → b14 < D3) (hS : Below w4.heap.size w4 W) (G13 : w4.heap.size ≤ b13) (G14 : w4.heap.size ≤ b14) :
  Below w4.heap.size w4 (st4 W b13 u0 u1 u2 u3) ∧ Blk (st4 W b13 u0 u1 u2 u3) b14 #[.int .i64 0,.int .i64 0,.string ⟨#[]⟩,.slice none 0 0,.slice none 0 0] 30 ∧ Hid (Blk (st5 (st4 W b13 u0 u1 u2 u3) b14 x0 x1 x2 x3 x4) b13 #[u0,u1,u2,u3] 26 ∧ Blk (st5 (st4 W b13 u0 u1 u2 u3) b14 x0 x1 x2 x3 x4) b14 #[x0,x1,x2,x3,x4] 30 ∧ ScIn (st5 (st4 W b13 u0 u1 u2 u3) b14 x0 x1 x2 x3 x4) (.agg #[u0,u1,u2,u3]) s ∧ TrW 14 (st5 (st4 W b13 u0 u1 u2 u3) b14 x0 x1 x2 x3 x4) (.agg #[x0,x1,x2,x3,x4]) t ∧ Below w4.heap.size w4 (st5 (st4 W b13 u0 u1 u2 u3) b14 x0 x1 x2 x3 x4)) := by
 have hne : b13 ≠ b14 := B13.ne B14 (by decide)
 have kp6 : Kp (fun q => q = b13) W (st4 W b13 u0 u1 u2 u3) := (Kp.refl (fun q => q = b13) W).st4 (fun _ => rfl) _ _ _ _
 have B136 : Blk (st4 W b13 u0 u1 u2 u3) b13 #[u0,u1,u2,u3] 26 := (((B13.set 0 u0 rfl).set 1 u1 rfl).set 2 u2 rfl).set 3 u3 rfl
 have B146 := B14.kp kp6 (Ne.symm hne)
 have hS6 : Below w4.heap.size w4 (st4 W b13 u0 u1 u2 u3) := hS.trans (kp6.toBelow hS.size (fun k e => by rw [e]; exact G13))
 have kp7 : Kp (fun q => q = b14) (st4 W b13 u0 u1 u2 u3) (st5 (st4 W b13 u0 u1 u2 u3) b14 x0 x1 x2 x3 x4) := (Kp.refl (fun q => q = b14) _).st5 (fun _ => rfl) _ _ _ _ _
 have B147 : Blk (st5 (st4 W b13 u0 u1 u2 u3) b14 x0 x1 x2 x3 x4) b14 #[x0,x1,x2,x3,x4] 30 := ((((B146.set 0 x0 rfl).set 1 x1 rfl).set 2 x2 rfl).set 3 x3 rfl).set 4 x4 rfl
 exact ⟨hS6,B146,B136.kp kp7 hne,B147,(C1.kp ((F1.st4 h1 _ _ _ _).st5 h2 _ _ _ _ _)).toIn,C3.kpA ((F3.st4 h3 _ _ _ _).st5 h4 _ _ _ _ _),hS6.trans (kp7.toBelow hS6.size (fun k e => by rw [e]; exact G14))⟩
theorem TrW.trInA {n : Nat} {w : World} {v : Value} {t : Tr} (h : TrW n w v t) : TrIn n w v t := by
 obtain ⟨r,h1,h2⟩ := h
 exact ⟨r,h1,h2.trQ.trC⟩
theorem ScIn.formA {w : World} {v : Value} {s : ScS} (h : ScIn w v s) : ∃ a1 c1 a2 c2 a3 n3 c3,v = .agg #[.string s.name,.slice a1 s.msgs.length c1,.slice a2 s.enums.length c2,.slice a3 n3 c3] := by
 obtain ⟨vm,ve,vt,rfl,hms,hen,hmt⟩ := h
 obtain ⟨ma,mc,rfl, -⟩ := hms.open
 obtain ⟨ea,ec,rfl, -⟩ := hen.open
 obtain ⟨ta,tn,tc,rfl⟩ := row_slice hmt
 exact ⟨_,_,_,_,_,_,_,rfl⟩
theorem sum_memA {es : List (Int × List Tr)} {e : Int × List Tr} (he : e ∈ es) (f : Tr → Nat) : (e.2.map f).sum ≤ ((subs es).map f).sum := by
 induction es with
 | nil => cases he
 | cons a l ih =>
  simp only [subs,List.flatMap_cons,List.map_append,List.sum_append] at ih ⊢
  rcases List.mem_cons.1 he with rfl | he
  ·omega
  ·have := ih he
   omega
set_option maxHeartbeats 8000000 in
theorem validAll_walk (v : Value) (s : ScS) (nm : ByteArray) (tv : Value) (n : Nat) (t : Tr) (tag yk : Int) (yn : ByteArray) (num : Int) (w : World) (hr : ScIn w v s) (hw : ScW s) (hnm : nm.size ≤ 140737488351232) (h : TrIn n w tv t) (g3 : (Lit.int .i64 tag).wf = true) (gy : Is64 yk) (g5 : (Lit.int .i64 num).wf = true) :
  Calls Tryz.prog 3 #[v,.string nm,tv,.int .i64 tag,.agg #[.int .i64 yk,.string yn],.int .i64 num] w fun e w' => e = .returned (.bool true) ∧ Below w.heap.size w w' := by
 have HS : Hid (∀ W,Below w.heap.size w W → Calls Tryz.prog 8 #[tv] W fun e w' => SmallP t tv W e ∧ Below W.heap.size W w') := fun W hW => small_any n t tv W (h.below hW)
 obtain ⟨m,ve0,vr0, -,rfl, -, -, -, -,ra,ea0⟩ := h.open
 obtain ⟨pe,ce,rfl,e1,e2, -⟩ := ea0.open
 obtain ⟨pr,cr,rfl,e3,e4, -⟩ := rest_holds ra
 clear ea0 ra h
 have hs' := hr
 obtain ⟨ma,mc,ea,ec,ta,tn,tc,rfl⟩ := hr.formA
 obtain ⟨mn,hmn⟩ : ∃ z,s.msgs.length = z := ⟨_,rfl⟩
 obtain ⟨en,hen'⟩ : ∃ z,s.enums.length = z := ⟨_,rfl⟩
 obtain ⟨sn,hsn⟩ : ∃ z,s.name = z := ⟨_,rfl⟩
 have HSN : Hid (s.msgs.length = mn ∧ s.enums.length = en ∧ s.name = sn) := ⟨hmn,hen',hsn⟩
 rw [hmn,hen',hsn] at hs' ⊢
 obtain ⟨Ke,hKe⟩ : ∃ z,t.es.length = z := ⟨_,rfl⟩
 obtain ⟨Kr,hKr⟩ : ∃ z,t.rest.length = z := ⟨_,rfl⟩
 obtain ⟨K,hK⟩ : ∃ z,t.kind = z := ⟨_,rfl⟩
 obtain ⟨N,hN⟩ : ∃ z,t.n = z := ⟨_,rfl⟩
 obtain ⟨S,hS⟩ : ∃ z,t.s = z := ⟨_,rfl⟩
 have HK : Hid (t.es.length = Ke ∧ t.rest.length = Kr ∧ t.kind = K ∧ t.n = N ∧ t.s = S) := ⟨hKe,hKr,hK,hN,hS⟩
 rw [hKe,hKr,hK,hN,hS] at HS ⊢
 have HSC : Hid (ScIn w (.agg #[.string sn,.slice ma mn mc,.slice ea en ec,.slice ta tn tc]) s) := hs'
 have HSW : Hid (ScW s) := hw
 have al1 : Below w.heap.size w (w.alloc (Obj.cells #[.string sn,.slice ma mn mc,.slice ea en ec,.slice ta tn tc] 26)) := (Below.refl _ _).alloc (Nat.le_refl _) _
 have al : Below w.heap.size w (((w.alloc (Obj.cells #[.string sn,.slice ma mn mc,.slice ea en ec,.slice ta tn tc] 26)).alloc (Obj.cells #[.int .i64 K,.int .i64 N,.string S,.slice pe Ke ce,.slice pr Kr cr] 30)).alloc (Obj.cells #[.int .i64 yk,.string yn] 32)) := (al1.alloc (by simp) _).alloc (by simp; omega) _
 have BS : Blk (((w.alloc (Obj.cells #[.string sn,.slice ma mn mc,.slice ea en ec,.slice ta tn tc] 26)).alloc (Obj.cells #[.int .i64 K,.int .i64 N,.string S,.slice pe Ke ce,.slice pr Kr cr] 30)).alloc (Obj.cells #[.int .i64 yk,.string yn] 32)) w.heap.size #[.string sn,.slice ma mn mc,.slice ea en ec,.slice ta tn tc] 26 := ((Blk.new w _ _).below ((Below.refl _ _).alloc (Nat.le_refl _) _)).below ((Below.refl _ _).alloc (Nat.le_refl _) _)
 have BT : Blk (((w.alloc (Obj.cells #[.string sn,.slice ma mn mc,.slice ea en ec,.slice ta tn tc] 26)).alloc (Obj.cells #[.int .i64 K,.int .i64 N,.string S,.slice pe Ke ce,.slice pr Kr cr] 30)).alloc (Obj.cells #[.int .i64 yk,.string yn] 32)) (w.heap.size + 1) #[.int .i64 K,.int .i64 N,.string S,.slice pe Ke ce,.slice pr Kr cr] 30 := by
  have := Blk.new (w.alloc (Obj.cells #[.string sn,.slice ma mn mc,.slice ea en ec,.slice ta tn tc] 26)) #[.int .i64 K,.int .i64 N,.string S,.slice pe Ke ce,.slice pr Kr cr] 30
  rw [show (w.alloc (Obj.cells #[.string sn,.slice ma mn mc,.slice ea en ec,.slice ta tn tc] 26)).heap.size = w.heap.size + 1 from by simp] at this
  exact this.below ((Below.refl _ _).alloc (Nat.le_refl _) _)
 have BY : Blk (((w.alloc (Obj.cells #[.string sn,.slice ma mn mc,.slice ea en ec,.slice ta tn tc] 26)).alloc (Obj.cells #[.int .i64 K,.int .i64 N,.string S,.slice pe Ke ce,.slice pr Kr cr] 30)).alloc (Obj.cells #[.int .i64 yk,.string yn] 32)) (w.heap.size + 1 + 1) #[.int .i64 yk,.string yn] 32 := by
  have := Blk.new ((w.alloc (Obj.cells #[.string sn,.slice ma mn mc,.slice ea en ec,.slice ta tn tc] 26)).alloc (Obj.cells #[.int .i64 K,.int .i64 N,.string S,.slice pe Ke ce,.slice pr Kr cr] 30)) #[.int .i64 yk,.string yn] 32
  rwa [show ((w.alloc (Obj.cells #[.string sn,.slice ma mn mc,.slice ea en ec,.slice ta tn tc] 26)).alloc (Obj.cells #[.int .i64 K,.int .i64 N,.string S,.slice pe Ke ce,.slice pr Kr cr] 30)).heap.size = w.heap.size + 1 + 1 from by simp] at this
 have HFW : Hid (Calls Tryz.prog 7 #[.agg #[.string sn,.slice ma mn mc,.slice ea en ec,.slice ta tn tc]] (((w.alloc (Obj.cells #[.string sn,.slice ma mn mc,.slice ea en ec,.slice ta tn tc] 26)).alloc (Obj.cells #[.int .i64 K,.int .i64 N,.string S,.slice pe Ke ce,.slice pr Kr cr] 30)).alloc (Obj.cells #[.int .i64 yk,.string yn] 32)) fun e w' => FewP s e ∧ Below (((w.alloc (Obj.cells #[.string sn,.slice ma mn mc,.slice ea en ec,.slice ta tn tc] 26)).alloc (Obj.cells #[.int .i64 K,.int .i64 N,.string S,.slice pe Ke ce,.slice pr Kr cr] 30)).alloc (Obj.cells #[.int .i64 yk,.string yn] 32)).heap.size (((w.alloc (Obj.cells #[.string sn,.slice ma mn mc,.slice ea en ec,.slice ta tn tc] 26)).alloc (Obj.cells #[.int .i64 K,.int .i64 N,.string S,.slice pe Ke ce,.slice pr Kr cr] 30)).alloc (Obj.cells #[.int .i64 yk,.string yn] 32)) w') := few_any (hs'.below al) hw
 clear hs' hr hmn hen' hsn hw hKe hKr hK hN hS hnm al1 e1 e2 e3 e4 g3 gy g5
 go_enter Tryz.func3,Tryz.ntmps3
 go_wp2_with fail
 refine HFW.out.mono ?_
 rintro e w3 ⟨hfw,hb3⟩
 have hbw3 : Below w.heap.size w w3 := al.trans (hb3.mono al.size)
 have BS3 := BS.below hb3
 have BT3 := BT.below hb3
 have BY3 := BY.below hb3
 clear hb3 al BS BT BY HFW
 obtain ⟨b0,hb0⟩ : ∃ z,w.heap.size = z := ⟨_,rfl⟩
 have HBZ : Hid (w.heap.size = b0) := hb0
 rw [hb0] at BS3 BT3 BY3
 simp only [hb0]
 clear hb0
 rcases hfw with rfl | ⟨rfl,hfs⟩
 ·clear BS3 BT3 BY3 HS
  go_wp2_with fail
  refine (awake_any _).mono ?_
  rintro e wz ⟨rfl,hbz⟩
  have hbwz : Below w.heap.size w wz := hbw3.trans (hbz.mono hbw3.size)
  clear hbz
  go_wp2_with fail
  go_ret
  exact ⟨rfl,hbwz⟩
 have HFS : Hid (FewS s) := hfs
 clear hfs
 have t0 := (BT3.cell 0).trans rfl
 have t1 := (BT3.cell 1).trans rfl
 have t2 := (BT3.cell 2).trans rfl
 have t3 := (BT3.cell 3).trans rfl
 have t4 := (BT3.cell 4).trans rfl
 go_wp2_with fail
 refine (HS.out _ hbw3).mono ?_
 rintro e w4 ⟨⟨R,rfl,hR⟩,hb4⟩
 have hbw4 : Below w.heap.size w w4 := hbw3.trans (hb4.mono hbw3.size)
 have BS4 := BS3.below hb4
 have BT4 := BT3.below hb4
 have BY4 := BY3.below hb4
 have HRR : Hid (R = true → SmN 14 t ∧ cntN 14 t ≤ 200 ∧ TrIn 14 w4 (.agg #[.int .i64 K,.int .i64 N,.string S,.slice pe Ke ce,.slice pr Kr cr]) t) := fun hr => ⟨(hR hr).1,(hR hr).2.1,(hR hr).2.2.below hb4⟩
 clear hR hb4 HS BS3 BT3 BY3 hbw3 t0 t1 t2 t3 t4
 cases R with
 | false =>
  clear BS4 BT4 BY4
  go_wp2_with fail
  refine (awake_any _).mono ?_
  rintro e wz ⟨rfl,hbz⟩
  have hbwz : Below w.heap.size w wz := hbw4.trans (hbz.mono hbw4.size)
  clear hbz
  go_wp2_with fail
  go_ret
  exact ⟨rfl,hbwz⟩
 | true =>
  obtain ⟨hsm,hcn,hin⟩ := HRR.out rfl
  have HSM : Hid (SmN 14 t ∧ cntN 14 t ≤ 200) := ⟨hsm,hcn⟩
  have HIN : Hid (TrIn 14 w4 (.agg #[.int .i64 K,.int .i64 N,.string S,.slice pe Ke ce,.slice pr Kr cr]) t) := hin
  clear hsm hcn hin HRR
  have y1 := (BY4.cell 1).trans rfl
  by_cases hy : 200 < yn.size
  ·have dy : decide (200 < (yn.size : Int)) = true := by simp; omega
   clear hy BS4 BT4 BY4
   go_wp2_with fail
   refine (awake_any _).mono ?_
   rintro e wz ⟨rfl,hbz⟩
   have hbwz : Below w.heap.size w wz := hbw4.trans (hbz.mono hbw4.size)
   clear hbz
   go_wp2_with fail
   go_ret
   exact ⟨rfl,hbwz⟩
  have dy : decide (200 < (yn.size : Int)) = false := by simp; omega
  have HCP : Hid (∀ W,Below w4.heap.size w4 W → Calls Tryz.prog 11 #[.agg #[.int .i64 K,.int .i64 N,.string S,.slice pe Ke ce,.slice pr Kr cr]] W (CopyP 14 t W)) := fun W hW => copy_any 14 t _ W (HIN.out.below hW) HSM.out.1
  have HCS : Hid (∀ W,Below w4.heap.size w4 W → Calls Tryz.prog 10 #[.agg #[.string sn,.slice ma mn mc,.slice ea en ec,.slice ta tn tc]] W fun e w' => ∃ r,e = .returned r ∧ ScO w' W.heap.size r s ∧ Below W.heap.size W w') := fun W hW => schemaO_any (HSC.out.below (hbw4.trans (hW.mono hbw4.size))) HFS.out.few
  go_upto_region 3 with fail
  clear dy y1 hy
  go_cut [13,14] from 35 to 38 (fun p13 p14 wx => ∃ (b13 b14 : Nat) (ma2 ea2 ta2 : Option Addr) (mc2 ec2 tn2 tc2 : Nat) (pe2 pr2 : Option Addr) (ce2 cr2 : Nat),p13 = .pointer (some ⟨b13,0,none⟩) ∧ p14 = .pointer (some ⟨b14,0,none⟩) ∧ Hid (Blk wx b13 #[.string sn,.slice ma2 mn mc2,.slice ea2 en ec2,.slice ta2 tn2 tc2] 26 ∧ Blk wx b14 #[.int .i64 K,.int .i64 N,.string S,.slice pe2 Ke ce2,.slice pr2 Kr cr2] 30 ∧ ScIn wx (.agg #[.string sn,.slice ma2 mn mc2,.slice ea2 en ec2,.slice ta2 tn2 tc2]) s ∧ TrW 14 wx (.agg #[.int .i64 K,.int .i64 N,.string S,.slice pe2 Ke ce2,.slice pr2 Kr cr2]) t ∧ Below w4.heap.size w4 wx))
  case first =>
   refine M_region (T := fun W => Below w4.heap.size w4 W) (m := 7) (by kernel_rfl) ?_
   have hS : Below w4.heap.size w4 w4.drew := (Below.refl _ _).drew
   refine M_take 0 35 (.agg #[.string sn,.slice ma mn mc,.slice ea en ec,.slice ta tn tc]) _ rfl rfl (by kernel_rfl) (by kernel_rfl) (by kernel_rfl) (by kernel_rfl) (by kernel_rfl) (fun _ _ _ h => h) (by rfl) (fun w' hw' => ?_) hS (listed' := bts 8 1) (by kernel_rfl) rfl ?_
   ·have f0 := ((BS4.below hw').cell 0).trans rfl; have f1 := ((BS4.below hw').cell 1).trans rfl; have f2 := ((BS4.below hw').cell 2).trans rfl; have f3 := ((BS4.below hw').cell 3).trans rfl; go_simp
   simp only [zsA,zsZ,zsS]
   refine M_take 2 37 (.agg #[.int .i64 K,.int .i64 N,.string S,.slice pe Ke ce,.slice pr Kr cr]) _ rfl rfl (by kernel_rfl) (by kernel_rfl) (by kernel_rfl) (by kernel_rfl) (by kernel_rfl) (fun _ _ _ h => h) (by rfl) (fun w' hw' => ?_) hS (listed' := bts 8 5) (by kernel_rfl) rfl ?_
   ·have f0 := ((BT4.below hw').cell 0).trans rfl; have f1 := ((BT4.below hw').cell 1).trans rfl; have f2 := ((BT4.below hw').cell 2).trans rfl; have f3 := ((BT4.below hw').cell 3).trans rfl; have f4 := ((BT4.below hw').cell 4).trans rfl; go_simp
   simp only [zsA,zsZ,zsS]
   generalize w4.drew = U0 at *
   refine M_fork3 1 4 5 36 13 14 10 #[.agg #[.string sn,.slice ma mn mc,.slice ea en ec,.slice ta tn tc]] (.pointer (some ⟨U0.heap.size,0,none⟩)) (.pointer (some ⟨U0.heap.size,0,none⟩)) (U0.alloc (Obj.cells #[.string ⟨#[]⟩,.slice none 0 0,.slice none 0 0,.slice none 0 0] 26)) (U0.alloc (Obj.cells #[.int .i64 0,.int .i64 0,.string ⟨#[]⟩,.slice none 0 0,.slice none 0 0] 30)) rfl rfl rfl rfl rfl rfl (by kernel_rfl) (by rfl) (by rfl) (by rfl) (by go_simp) (by go_simp) (by go_simp) ?_ (hS.trans (((Below.refl _ _).alloc (Nat.le_refl _) _).mono hS.size)) ?_ (hS.trans (((Below.refl _ _).alloc (Nat.le_refl _) _).mono hS.size)) ?_
   ·skip
    obtain ⟨D1,hD1⟩ : ∃ z,U0.heap.size = z := ⟨_,rfl⟩
    refine (HCS.out _ hS).mono ?_
    rintro ee U1 ⟨vs,rfl,C1,hbU⟩
    obtain ⟨ma2,mc2,ea2,ec2,ta2,tn2,tc2,hvs⟩ := C1.toIn.formA
    rw [HSN.out.1,HSN.out.2.1,HSN.out.2.2] at hvs
    subst hvs
    rw [hD1] at C1
    have hS0 := hS
    have hS : Below w4.heap.size w4 U1 := hS0.trans (hbU.mono hS0.size)
    have F1 : Kp (fun q => q < D1) U1 U1 := Kp.refl _ _
    clear hS0 hbU hD1
    refine ⟨_,rfl,hS,?_⟩
    simp only [zsA,zsZ,zsS]
    refine M_fork3 3 4 5 38 13 14 11 #[.agg #[.int .i64 K,.int .i64 N,.string S,.slice pe Ke ce,.slice pr Kr cr]] (.pointer (some ⟨U1.heap.size,0,none⟩)) (.pointer (some ⟨U1.heap.size,0,none⟩)) (U1.alloc (Obj.cells #[.string ⟨#[]⟩,.slice none 0 0,.slice none 0 0,.slice none 0 0] 26)) (U1.alloc (Obj.cells #[.int .i64 0,.int .i64 0,.string ⟨#[]⟩,.slice none 0 0,.slice none 0 0] 30)) rfl rfl rfl rfl rfl rfl (by kernel_rfl) (by rfl) (by rfl) (by rfl) (by go_simp) (by go_simp) (by go_simp) ?_ (hS.trans (((Below.refl _ _).alloc (Nat.le_refl _) _).mono hS.size)) ?_ (hS.trans (((Below.refl _ _).alloc (Nat.le_refl _) _).mono hS.size)) ?_
    ·skip
     obtain ⟨D3,hD3⟩ : ∃ z,U1.heap.size = z := ⟨_,rfl⟩
     refine Calls.mono (HCP.out _ hS) ?_
     rintro ee U2 ⟨va,bsu,rfl,C3,hbU⟩
     obtain ⟨mu,pe2,ce2,pr2,cr2, -,hvt, -⟩ := C3.trW.open
     rw [HK.out.1,HK.out.2.1,HK.out.2.2.1,HK.out.2.2.2.1,HK.out.2.2.2.2] at hvt
     subst hvt
     rw [hD3] at C3
     have hS0 := hS
     have hS : Below w4.heap.size w4 U2 := hS0.trans (hbU.mono hS0.size)
     replace F1 := F1.trans (Kp.ofBelow hbU)
     have F3 : Kp (fun q => q < D3) U2 U2 := Kp.refl _ _
     clear hS0 hbU hD3
     refine ⟨_,rfl,hS,?_⟩
     simp only [zsA,zsZ,zsS]
     refine M_forkAA 4 5 13 14 (.pointer (some ⟨U2.heap.size,0,none⟩)) (.pointer (some ⟨U2.heap.size,0,none⟩)) (U2.alloc (Obj.cells #[.string ⟨#[]⟩,.slice none 0 0,.slice none 0 0,.slice none 0 0] 26)) (U2.alloc (Obj.cells #[.int .i64 0,.int .i64 0,.string ⟨#[]⟩,.slice none 0 0,.slice none 0 0] 30)) rfl rfl rfl rfl (by kernel_rfl) (by rfl) (by rfl) (by go_simp) (by go_simp) (hS.trans (((Below.refl _ _).alloc (Nat.le_refl _) _).mono hS.size)) ?_ (hS.trans (((Below.refl _ _).alloc (Nat.le_refl _) _).mono hS.size)) ?_
     ·skip
      have hbU : Below U2.heap.size U2 (U2.alloc (Obj.cells #[.string ⟨#[]⟩,.slice none 0 0,.slice none 0 0,.slice none 0 0] 26)) := (Below.refl _ _).alloc (Nat.le_refl _) _
      obtain ⟨b13,hbk⟩ : ∃ z,U2.heap.size = z := ⟨_,rfl⟩
      have B13 : Blk (U2.alloc (Obj.cells #[.string ⟨#[]⟩,.slice none 0 0,.slice none 0 0,.slice none 0 0] 26)) b13 #[.string ⟨#[]⟩,.slice none 0 0,.slice none 0 0,.slice none 0 0] 26 := by rw [← hbk]; exact Blk.new U2 _ _
      have G13 : w4.heap.size ≤ b13 := by rw [← hbk]; exact hS.size
      have HE41 : Hid (U1.heap.size ≤ b13) := (by rw [← hbk]; exact F1.size : U1.heap.size ≤ b13)
      have HE43 : Hid (U2.heap.size ≤ b13) := (by rw [← hbk]; exact F3.size : U2.heap.size ≤ b13)
      have hS0 := hS
      have hS : Below w4.heap.size w4 (U2.alloc (Obj.cells #[.string ⟨#[]⟩,.slice none 0 0,.slice none 0 0,.slice none 0 0] 26)) := hS0.trans (hbU.mono hS0.size)
      replace F1 := F1.trans (Kp.ofBelow hbU)
      replace F3 := F3.trans (Kp.ofBelow hbU)
      clear hS0 hbU
      simp only [zsA,zsZ,zsS]
      simp only [hbk]
      clear hbk
      generalize (U2.alloc (Obj.cells #[.string ⟨#[]⟩,.slice none 0 0,.slice none 0 0,.slice none 0 0] 26)) = U3 at *
      refine M_run 5 14 (.pointer (some ⟨U3.heap.size,0,none⟩)) (U3.alloc (Obj.cells #[.int .i64 0,.int .i64 0,.string ⟨#[]⟩,.slice none 0 0,.slice none 0 0] 30)) rfl rfl (by kernel_rfl) (by rfl) (listed' := bts 8 63) (by kernel_rfl) (by go_simp) (hS.trans (((Below.refl _ _).alloc (Nat.le_refl _) _).mono hS.size)) ?_
      have hbU : Below U3.heap.size U3 (U3.alloc (Obj.cells #[.int .i64 0,.int .i64 0,.string ⟨#[]⟩,.slice none 0 0,.slice none 0 0] 30)) := (Below.refl _ _).alloc (Nat.le_refl _) _
      obtain ⟨b14,hbk⟩ : ∃ z,U3.heap.size = z := ⟨_,rfl⟩
      have B14 : Blk (U3.alloc (Obj.cells #[.int .i64 0,.int .i64 0,.string ⟨#[]⟩,.slice none 0 0,.slice none 0 0] 30)) b14 #[.int .i64 0,.int .i64 0,.string ⟨#[]⟩,.slice none 0 0,.slice none 0 0] 30 := by rw [← hbk]; exact Blk.new U3 _ _
      have G14 : w4.heap.size ≤ b14 := by rw [← hbk]; exact hS.size
      have HE51 : Hid (U1.heap.size ≤ b14) := (by rw [← hbk]; exact F1.size : U1.heap.size ≤ b14)
      have HE53 : Hid (U2.heap.size ≤ b14) := (by rw [← hbk]; exact F3.size : U2.heap.size ≤ b14)
      have hS0 := hS
      have hS : Below w4.heap.size w4 (U3.alloc (Obj.cells #[.int .i64 0,.int .i64 0,.string ⟨#[]⟩,.slice none 0 0,.slice none 0 0] 30)) := hS0.trans (hbU.mono hS0.size)
      replace F1 := F1.trans (Kp.ofBelow hbU)
      replace F3 := F3.trans (Kp.ofBelow hbU)
      replace B13 := B13.below hbU
      clear hS0 hbU
      simp only [zsA,zsZ,zsS]
      simp only [hbk]
      clear hbk
      generalize (U3.alloc (Obj.cells #[.int .i64 0,.int .i64 0,.string ⟨#[]⟩,.slice none 0 0,.slice none 0 0] 30)) = U4 at *
      have k0 := (B13.cell 0).trans rfl
      have z0 := B13.froz 0
      have k1 := (B13.cell 1).trans rfl
      have z1 := B13.froz 1
      have k2 := (B13.cell 2).trans rfl
      have z2 := B13.froz 2
      have k3 := (B13.cell 3).trans rfl
      have z3 := B13.froz 3
      obtain ⟨hS6,B146,HRR⟩ := leaf_all B13 B14 C1 F1 (fun h => absurd HE41.out (by omega)) (fun h => absurd HE51.out (by omega)) C3 F3 (fun h => absurd HE43.out (by omega)) (fun h => absurd HE53.out (by omega)) hS G13 G14
      refine M_storeT 6 (st4 U4 b13 (.string sn) (.slice ma2 mn mc2) (.slice ea2 en ec2) (.slice ta2 tn2 tc2)) rfl rfl (by kernel_rfl) (by rfl) (listed' := bts 8 127) (by kernel_rfl) (by unfold st4; go_simp) hS6 ?_
      clear k0 z0 k1 z1 k2 z2 k3 z3 hS B13 B14 F1 F3
      generalize (st4 U4 b13 (.string sn) (.slice ma2 mn mc2) (.slice ea2 en ec2) (.slice ta2 tn2 tc2)) = V6 at *
      have k0 := (B146.cell 0).trans rfl
      have z0 := B146.froz 0
      have k1 := (B146.cell 1).trans rfl
      have z1 := B146.froz 1
      have k2 := (B146.cell 2).trans rfl
      have z2 := B146.froz 2
      have k3 := (B146.cell 3).trans rfl
      have z3 := B146.froz 3
      have k4 := (B146.cell 4).trans rfl
      have z4 := B146.froz 4
      refine M_store 7 (st5 V6 b14 (.int .i64 K) (.int .i64 N) (.string S) (.slice pe2 Ke ce2) (.slice pr2 Kr cr2)) rfl rfl (by kernel_rfl) (by rfl) (listed' := bts 8 255) (by kernel_rfl) (by unfold st5; go_simp) (by kernel_rfl) ?_
      refine M_done (by kernel_rfl) ?_ _
      clear k0 z0 k1 z1 k2 z2 k3 z3 k4 z4 B146 hS6
      go_wp2_with fail
      go_meet
      exact ⟨b13,b14,ma2,ea2,ta2,mc2,ec2,tn2,tc2,pe2,pr2,ce2,cr2,rfl,rfl,HRR⟩
     ·skip
      have hbU : Below U2.heap.size U2 (U2.alloc (Obj.cells #[.int .i64 0,.int .i64 0,.string ⟨#[]⟩,.slice none 0 0,.slice none 0 0] 30)) := (Below.refl _ _).alloc (Nat.le_refl _) _
      obtain ⟨b14,hbk⟩ : ∃ z,U2.heap.size = z := ⟨_,rfl⟩
      have B14 : Blk (U2.alloc (Obj.cells #[.int .i64 0,.int .i64 0,.string ⟨#[]⟩,.slice none 0 0,.slice none 0 0] 30)) b14 #[.int .i64 0,.int .i64 0,.string ⟨#[]⟩,.slice none 0 0,.slice none 0 0] 30 := by rw [← hbk]; exact Blk.new U2 _ _
      have G14 : w4.heap.size ≤ b14 := by rw [← hbk]; exact hS.size
      have HE51 : Hid (U1.heap.size ≤ b14) := (by rw [← hbk]; exact F1.size : U1.heap.size ≤ b14)
      have HE53 : Hid (U2.heap.size ≤ b14) := (by rw [← hbk]; exact F3.size : U2.heap.size ≤ b14)
      have hS0 := hS
      have hS : Below w4.heap.size w4 (U2.alloc (Obj.cells #[.int .i64 0,.int .i64 0,.string ⟨#[]⟩,.slice none 0 0,.slice none 0 0] 30)) := hS0.trans (hbU.mono hS0.size)
      replace F1 := F1.trans (Kp.ofBelow hbU)
      replace F3 := F3.trans (Kp.ofBelow hbU)
      clear hS0 hbU
      simp only [zsA,zsZ,zsS]
      simp only [hbk]
      clear hbk
      generalize (U2.alloc (Obj.cells #[.int .i64 0,.int .i64 0,.string ⟨#[]⟩,.slice none 0 0,.slice none 0 0] 30)) = U5 at *
      refine M_run 4 13 (.pointer (some ⟨U5.heap.size,0,none⟩)) (U5.alloc (Obj.cells #[.string ⟨#[]⟩,.slice none 0 0,.slice none 0 0,.slice none 0 0] 26)) rfl rfl (by kernel_rfl) (by rfl) (listed' := bts 8 63) (by kernel_rfl) (by go_simp) (hS.trans (((Below.refl _ _).alloc (Nat.le_refl _) _).mono hS.size)) ?_
      have hbU : Below U5.heap.size U5 (U5.alloc (Obj.cells #[.string ⟨#[]⟩,.slice none 0 0,.slice none 0 0,.slice none 0 0] 26)) := (Below.refl _ _).alloc (Nat.le_refl _) _
      obtain ⟨b13,hbk⟩ : ∃ z,U5.heap.size = z := ⟨_,rfl⟩
      have B13 : Blk (U5.alloc (Obj.cells #[.string ⟨#[]⟩,.slice none 0 0,.slice none 0 0,.slice none 0 0] 26)) b13 #[.string ⟨#[]⟩,.slice none 0 0,.slice none 0 0,.slice none 0 0] 26 := by rw [← hbk]; exact Blk.new U5 _ _
      have G13 : w4.heap.size ≤ b13 := by rw [← hbk]; exact hS.size
      have HE41 : Hid (U1.heap.size ≤ b13) := (by rw [← hbk]; exact F1.size : U1.heap.size ≤ b13)
      have HE43 : Hid (U2.heap.size ≤ b13) := (by rw [← hbk]; exact F3.size : U2.heap.size ≤ b13)
      have hS0 := hS
      have hS : Below w4.heap.size w4 (U5.alloc (Obj.cells #[.string ⟨#[]⟩,.slice none 0 0,.slice none 0 0,.slice none 0 0] 26)) := hS0.trans (hbU.mono hS0.size)
      replace F1 := F1.trans (Kp.ofBelow hbU)
      replace F3 := F3.trans (Kp.ofBelow hbU)
      replace B14 := B14.below hbU
      clear hS0 hbU
      simp only [zsA,zsZ,zsS]
      simp only [hbk]
      clear hbk
      generalize (U5.alloc (Obj.cells #[.string ⟨#[]⟩,.slice none 0 0,.slice none 0 0,.slice none 0 0] 26)) = U6 at *
      have k0 := (B13.cell 0).trans rfl
      have z0 := B13.froz 0
      have k1 := (B13.cell 1).trans rfl
      have z1 := B13.froz 1
      have k2 := (B13.cell 2).trans rfl
      have z2 := B13.froz 2
      have k3 := (B13.cell 3).trans rfl
      have z3 := B13.froz 3
      obtain ⟨hS6,B146,HRR⟩ := leaf_all B13 B14 C1 F1 (fun h => absurd HE41.out (by omega)) (fun h => absurd HE51.out (by omega)) C3 F3 (fun h => absurd HE43.out (by omega)) (fun h => absurd HE53.out (by omega)) hS G13 G14
      refine M_storeT 6 (st4 U6 b13 (.string sn) (.slice ma2 mn mc2) (.slice ea2 en ec2) (.slice ta2 tn2 tc2)) rfl rfl (by kernel_rfl) (by rfl) (listed' := bts 8 127) (by kernel_rfl) (by unfold st4; go_simp) hS6 ?_
      clear k0 z0 k1 z1 k2 z2 k3 z3 hS B13 B14 F1 F3
      generalize (st4 U6 b13 (.string sn) (.slice ma2 mn mc2) (.slice ea2 en ec2) (.slice ta2 tn2 tc2)) = V6 at *
      have k0 := (B146.cell 0).trans rfl
      have z0 := B146.froz 0
      have k1 := (B146.cell 1).trans rfl
      have z1 := B146.froz 1
      have k2 := (B146.cell 2).trans rfl
      have z2 := B146.froz 2
      have k3 := (B146.cell 3).trans rfl
      have z3 := B146.froz 3
      have k4 := (B146.cell 4).trans rfl
      have z4 := B146.froz 4
      refine M_store 7 (st5 V6 b14 (.int .i64 K) (.int .i64 N) (.string S) (.slice pe2 Ke ce2) (.slice pr2 Kr cr2)) rfl rfl (by kernel_rfl) (by rfl) (listed' := bts 8 255) (by kernel_rfl) (by unfold st5; go_simp) (by kernel_rfl) ?_
      refine M_done (by kernel_rfl) ?_ _
      clear k0 z0 k1 z1 k2 z2 k3 z3 k4 z4 B146 hS6
      go_wp2_with fail
      go_meet
      exact ⟨b13,b14,ma2,ea2,ta2,mc2,ec2,tn2,tc2,pe2,pr2,ce2,cr2,rfl,rfl,HRR⟩
    ·skip
     have hbU : Below U1.heap.size U1 (U1.alloc (Obj.cells #[.string ⟨#[]⟩,.slice none 0 0,.slice none 0 0,.slice none 0 0] 26)) := (Below.refl _ _).alloc (Nat.le_refl _) _
     obtain ⟨b13,hbk⟩ : ∃ z,U1.heap.size = z := ⟨_,rfl⟩
     have B13 : Blk (U1.alloc (Obj.cells #[.string ⟨#[]⟩,.slice none 0 0,.slice none 0 0,.slice none 0 0] 26)) b13 #[.string ⟨#[]⟩,.slice none 0 0,.slice none 0 0,.slice none 0 0] 26 := by rw [← hbk]; exact Blk.new U1 _ _
     have G13 : w4.heap.size ≤ b13 := by rw [← hbk]; exact hS.size
     have HE41 : Hid (U1.heap.size ≤ b13) := (by rw [← hbk]; exact F1.size : U1.heap.size ≤ b13)
     have hS0 := hS
     have hS : Below w4.heap.size w4 (U1.alloc (Obj.cells #[.string ⟨#[]⟩,.slice none 0 0,.slice none 0 0,.slice none 0 0] 26)) := hS0.trans (hbU.mono hS0.size)
     replace F1 := F1.trans (Kp.ofBelow hbU)
     clear hS0 hbU
     simp only [zsA,zsZ,zsS]
     simp only [hbk]
     clear hbk
     generalize (U1.alloc (Obj.cells #[.string ⟨#[]⟩,.slice none 0 0,.slice none 0 0,.slice none 0 0] 26)) = U7 at *
     refine M_fork 3 5 38 14 11 #[.agg #[.int .i64 K,.int .i64 N,.string S,.slice pe Ke ce,.slice pr Kr cr]] (.pointer (some ⟨U7.heap.size,0,none⟩)) (U7.alloc (Obj.cells #[.int .i64 0,.int .i64 0,.string ⟨#[]⟩,.slice none 0 0,.slice none 0 0] 30)) rfl rfl rfl rfl (by kernel_rfl) (by rfl) (by rfl) (by go_simp) (by go_simp) ?_ (hS.trans (((Below.refl _ _).alloc (Nat.le_refl _) _).mono hS.size)) ?_
     ·skip
      obtain ⟨D3,hD3⟩ : ∃ z,U7.heap.size = z := ⟨_,rfl⟩
      have E43 : b13 < D3 := by have := B13.lt; omega
      refine Calls.mono (HCP.out _ hS) ?_
      rintro ee U8 ⟨va,bsu,rfl,C3,hbU⟩
      obtain ⟨mu,pe2,ce2,pr2,cr2, -,hvt, -⟩ := C3.trW.open
      rw [HK.out.1,HK.out.2.1,HK.out.2.2.1,HK.out.2.2.2.1,HK.out.2.2.2.2] at hvt
      subst hvt
      rw [hD3] at C3
      have hS0 := hS
      have hS : Below w4.heap.size w4 U8 := hS0.trans (hbU.mono hS0.size)
      replace F1 := F1.trans (Kp.ofBelow hbU)
      replace B13 := B13.below hbU
      have F3 : Kp (fun q => q < D3) U8 U8 := Kp.refl _ _
      clear hS0 hbU hD3
      refine ⟨_,rfl,hS,?_⟩
      simp only [zsA,zsZ,zsS]
      refine M_run 5 14 (.pointer (some ⟨U8.heap.size,0,none⟩)) (U8.alloc (Obj.cells #[.int .i64 0,.int .i64 0,.string ⟨#[]⟩,.slice none 0 0,.slice none 0 0] 30)) rfl rfl (by kernel_rfl) (by rfl) (listed' := bts 8 63) (by kernel_rfl) (by go_simp) (hS.trans (((Below.refl _ _).alloc (Nat.le_refl _) _).mono hS.size)) ?_
      have hbU : Below U8.heap.size U8 (U8.alloc (Obj.cells #[.int .i64 0,.int .i64 0,.string ⟨#[]⟩,.slice none 0 0,.slice none 0 0] 30)) := (Below.refl _ _).alloc (Nat.le_refl _) _
      obtain ⟨b14,hbk⟩ : ∃ z,U8.heap.size = z := ⟨_,rfl⟩
      have B14 : Blk (U8.alloc (Obj.cells #[.int .i64 0,.int .i64 0,.string ⟨#[]⟩,.slice none 0 0,.slice none 0 0] 30)) b14 #[.int .i64 0,.int .i64 0,.string ⟨#[]⟩,.slice none 0 0,.slice none 0 0] 30 := by rw [← hbk]; exact Blk.new U8 _ _
      have G14 : w4.heap.size ≤ b14 := by rw [← hbk]; exact hS.size
      have HE51 : Hid (U1.heap.size ≤ b14) := (by rw [← hbk]; exact F1.size : U1.heap.size ≤ b14)
      have HE53 : Hid (U8.heap.size ≤ b14) := (by rw [← hbk]; exact F3.size : U8.heap.size ≤ b14)
      have hS0 := hS
      have hS : Below w4.heap.size w4 (U8.alloc (Obj.cells #[.int .i64 0,.int .i64 0,.string ⟨#[]⟩,.slice none 0 0,.slice none 0 0] 30)) := hS0.trans (hbU.mono hS0.size)
      replace F1 := F1.trans (Kp.ofBelow hbU)
      replace F3 := F3.trans (Kp.ofBelow hbU)
      replace B13 := B13.below hbU
      clear hS0 hbU
      simp only [zsA,zsZ,zsS]
      simp only [hbk]
      clear hbk
      generalize (U8.alloc (Obj.cells #[.int .i64 0,.int .i64 0,.string ⟨#[]⟩,.slice none 0 0,.slice none 0 0] 30)) = U9 at *
      have k0 := (B13.cell 0).trans rfl
      have z0 := B13.froz 0
      have k1 := (B13.cell 1).trans rfl
      have z1 := B13.froz 1
      have k2 := (B13.cell 2).trans rfl
      have z2 := B13.froz 2
      have k3 := (B13.cell 3).trans rfl
      have z3 := B13.froz 3
      obtain ⟨hS6,B146,HRR⟩ := leaf_all B13 B14 C1 F1 (fun h => absurd HE41.out (by omega)) (fun h => absurd HE51.out (by omega)) C3 F3 (fun _ => E43) (fun h => absurd HE53.out (by omega)) hS G13 G14
      refine M_storeT 6 (st4 U9 b13 (.string sn) (.slice ma2 mn mc2) (.slice ea2 en ec2) (.slice ta2 tn2 tc2)) rfl rfl (by kernel_rfl) (by rfl) (listed' := bts 8 127) (by kernel_rfl) (by unfold st4; go_simp) hS6 ?_
      clear k0 z0 k1 z1 k2 z2 k3 z3 hS B13 B14 F1 F3
      generalize (st4 U9 b13 (.string sn) (.slice ma2 mn mc2) (.slice ea2 en ec2) (.slice ta2 tn2 tc2)) = V6 at *
      have k0 := (B146.cell 0).trans rfl
      have z0 := B146.froz 0
      have k1 := (B146.cell 1).trans rfl
      have z1 := B146.froz 1
      have k2 := (B146.cell 2).trans rfl
      have z2 := B146.froz 2
      have k3 := (B146.cell 3).trans rfl
      have z3 := B146.froz 3
      have k4 := (B146.cell 4).trans rfl
      have z4 := B146.froz 4
      refine M_store 7 (st5 V6 b14 (.int .i64 K) (.int .i64 N) (.string S) (.slice pe2 Ke ce2) (.slice pr2 Kr cr2)) rfl rfl (by kernel_rfl) (by rfl) (listed' := bts 8 255) (by kernel_rfl) (by unfold st5; go_simp) (by kernel_rfl) ?_
      refine M_done (by kernel_rfl) ?_ _
      clear k0 z0 k1 z1 k2 z2 k3 z3 k4 z4 B146 hS6
      go_wp2_with fail
      go_meet
      exact ⟨b13,b14,ma2,ea2,ta2,mc2,ec2,tn2,tc2,pe2,pr2,ce2,cr2,rfl,rfl,HRR⟩
     ·skip
      have hbU : Below U7.heap.size U7 (U7.alloc (Obj.cells #[.int .i64 0,.int .i64 0,.string ⟨#[]⟩,.slice none 0 0,.slice none 0 0] 30)) := (Below.refl _ _).alloc (Nat.le_refl _) _
      obtain ⟨b14,hbk⟩ : ∃ z,U7.heap.size = z := ⟨_,rfl⟩
      have B14 : Blk (U7.alloc (Obj.cells #[.int .i64 0,.int .i64 0,.string ⟨#[]⟩,.slice none 0 0,.slice none 0 0] 30)) b14 #[.int .i64 0,.int .i64 0,.string ⟨#[]⟩,.slice none 0 0,.slice none 0 0] 30 := by rw [← hbk]; exact Blk.new U7 _ _
      have G14 : w4.heap.size ≤ b14 := by rw [← hbk]; exact hS.size
      have HE51 : Hid (U1.heap.size ≤ b14) := (by rw [← hbk]; exact F1.size : U1.heap.size ≤ b14)
      have hS0 := hS
      have hS : Below w4.heap.size w4 (U7.alloc (Obj.cells #[.int .i64 0,.int .i64 0,.string ⟨#[]⟩,.slice none 0 0,.slice none 0 0] 30)) := hS0.trans (hbU.mono hS0.size)
      replace F1 := F1.trans (Kp.ofBelow hbU)
      replace B13 := B13.below hbU
      clear hS0 hbU
      simp only [zsA,zsZ,zsS]
      simp only [hbk]
      clear hbk
      generalize (U7.alloc (Obj.cells #[.int .i64 0,.int .i64 0,.string ⟨#[]⟩,.slice none 0 0,.slice none 0 0] 30)) = U10 at *
      refine M_call 3 38 11 #[.agg #[.int .i64 K,.int .i64 N,.string S,.slice pe Ke ce,.slice pr Kr cr]] rfl rfl (by kernel_rfl) (by rfl) (listed' := bts 8 63) (by kernel_rfl) (fun W => by go_simp) ?_
      obtain ⟨D3,hD3⟩ : ∃ z,U10.heap.size = z := ⟨_,rfl⟩
      have E43 : b13 < D3 := by have := B13.lt; omega
      have E53 : b14 < D3 := by have := B14.lt; omega
      refine Calls.mono (HCP.out _ hS) ?_
      rintro ee U11 ⟨va,bsu,rfl,C3,hbU⟩
      obtain ⟨mu,pe2,ce2,pr2,cr2, -,hvt, -⟩ := C3.trW.open
      rw [HK.out.1,HK.out.2.1,HK.out.2.2.1,HK.out.2.2.2.1,HK.out.2.2.2.2] at hvt
      subst hvt
      rw [hD3] at C3
      have hS0 := hS
      have hS : Below w4.heap.size w4 U11 := hS0.trans (hbU.mono hS0.size)
      replace F1 := F1.trans (Kp.ofBelow hbU)
      replace B13 := B13.below hbU
      replace B14 := B14.below hbU
      have F3 : Kp (fun q => q < D3) U11 U11 := Kp.refl _ _
      clear hS0 hbU hD3
      refine ⟨_,rfl,hS,?_⟩
      simp only [zsA,zsZ,zsS]
      have k0 := (B13.cell 0).trans rfl
      have z0 := B13.froz 0
      have k1 := (B13.cell 1).trans rfl
      have z1 := B13.froz 1
      have k2 := (B13.cell 2).trans rfl
      have z2 := B13.froz 2
      have k3 := (B13.cell 3).trans rfl
      have z3 := B13.froz 3
      obtain ⟨hS6,B146,HRR⟩ := leaf_all B13 B14 C1 F1 (fun h => absurd HE41.out (by omega)) (fun h => absurd HE51.out (by omega)) C3 F3 (fun _ => E43) (fun _ => E53) hS G13 G14
      refine M_storeT 6 (st4 U11 b13 (.string sn) (.slice ma2 mn mc2) (.slice ea2 en ec2) (.slice ta2 tn2 tc2)) rfl rfl (by kernel_rfl) (by rfl) (listed' := bts 8 127) (by kernel_rfl) (by unfold st4; go_simp) hS6 ?_
      clear k0 z0 k1 z1 k2 z2 k3 z3 hS B13 B14 F1 F3
      generalize (st4 U11 b13 (.string sn) (.slice ma2 mn mc2) (.slice ea2 en ec2) (.slice ta2 tn2 tc2)) = V6 at *
      have k0 := (B146.cell 0).trans rfl
      have z0 := B146.froz 0
      have k1 := (B146.cell 1).trans rfl
      have z1 := B146.froz 1
      have k2 := (B146.cell 2).trans rfl
      have z2 := B146.froz 2
      have k3 := (B146.cell 3).trans rfl
      have z3 := B146.froz 3
      have k4 := (B146.cell 4).trans rfl
      have z4 := B146.froz 4
      refine M_store 7 (st5 V6 b14 (.int .i64 K) (.int .i64 N) (.string S) (.slice pe2 Ke ce2) (.slice pr2 Kr cr2)) rfl rfl (by kernel_rfl) (by rfl) (listed' := bts 8 255) (by kernel_rfl) (by unfold st5; go_simp) (by kernel_rfl) ?_
      refine M_done (by kernel_rfl) ?_ _
      clear k0 z0 k1 z1 k2 z2 k3 z3 k4 z4 B146 hS6
      go_wp2_with fail
      go_meet
      exact ⟨b13,b14,ma2,ea2,ta2,mc2,ec2,tn2,tc2,pe2,pr2,ce2,cr2,rfl,rfl,HRR⟩
    ·skip
     have hbU : Below U1.heap.size U1 (U1.alloc (Obj.cells #[.int .i64 0,.int .i64 0,.string ⟨#[]⟩,.slice none 0 0,.slice none 0 0] 30)) := (Below.refl _ _).alloc (Nat.le_refl _) _
     obtain ⟨b14,hbk⟩ : ∃ z,U1.heap.size = z := ⟨_,rfl⟩
     have B14 : Blk (U1.alloc (Obj.cells #[.int .i64 0,.int .i64 0,.string ⟨#[]⟩,.slice none 0 0,.slice none 0 0] 30)) b14 #[.int .i64 0,.int .i64 0,.string ⟨#[]⟩,.slice none 0 0,.slice none 0 0] 30 := by rw [← hbk]; exact Blk.new U1 _ _
     have G14 : w4.heap.size ≤ b14 := by rw [← hbk]; exact hS.size
     have HE51 : Hid (U1.heap.size ≤ b14) := (by rw [← hbk]; exact F1.size : U1.heap.size ≤ b14)
     have hS0 := hS
     have hS : Below w4.heap.size w4 (U1.alloc (Obj.cells #[.int .i64 0,.int .i64 0,.string ⟨#[]⟩,.slice none 0 0,.slice none 0 0] 30)) := hS0.trans (hbU.mono hS0.size)
     replace F1 := F1.trans (Kp.ofBelow hbU)
     clear hS0 hbU
     simp only [zsA,zsZ,zsS]
     simp only [hbk]
     clear hbk
     generalize (U1.alloc (Obj.cells #[.int .i64 0,.int .i64 0,.string ⟨#[]⟩,.slice none 0 0,.slice none 0 0] 30)) = U12 at *
     refine M_fork 3 4 38 13 11 #[.agg #[.int .i64 K,.int .i64 N,.string S,.slice pe Ke ce,.slice pr Kr cr]] (.pointer (some ⟨U12.heap.size,0,none⟩)) (U12.alloc (Obj.cells #[.string ⟨#[]⟩,.slice none 0 0,.slice none 0 0,.slice none 0 0] 26)) rfl rfl rfl rfl (by kernel_rfl) (by rfl) (by rfl) (by go_simp) (by go_simp) ?_ (hS.trans (((Below.refl _ _).alloc (Nat.le_refl _) _).mono hS.size)) ?_
     ·skip
      obtain ⟨D3,hD3⟩ : ∃ z,U12.heap.size = z := ⟨_,rfl⟩
      have E53 : b14 < D3 := by have := B14.lt; omega
      refine Calls.mono (HCP.out _ hS) ?_
      rintro ee U13 ⟨va,bsu,rfl,C3,hbU⟩
      obtain ⟨mu,pe2,ce2,pr2,cr2, -,hvt, -⟩ := C3.trW.open
      rw [HK.out.1,HK.out.2.1,HK.out.2.2.1,HK.out.2.2.2.1,HK.out.2.2.2.2] at hvt
      subst hvt
      rw [hD3] at C3
      have hS0 := hS
      have hS : Below w4.heap.size w4 U13 := hS0.trans (hbU.mono hS0.size)
      replace F1 := F1.trans (Kp.ofBelow hbU)
      replace B14 := B14.below hbU
      have F3 : Kp (fun q => q < D3) U13 U13 := Kp.refl _ _
      clear hS0 hbU hD3
      refine ⟨_,rfl,hS,?_⟩
      simp only [zsA,zsZ,zsS]
      refine M_run 4 13 (.pointer (some ⟨U13.heap.size,0,none⟩)) (U13.alloc (Obj.cells #[.string ⟨#[]⟩,.slice none 0 0,.slice none 0 0,.slice none 0 0] 26)) rfl rfl (by kernel_rfl) (by rfl) (listed' := bts 8 63) (by kernel_rfl) (by go_simp) (hS.trans (((Below.refl _ _).alloc (Nat.le_refl _) _).mono hS.size)) ?_
      have hbU : Below U13.heap.size U13 (U13.alloc (Obj.cells #[.string ⟨#[]⟩,.slice none 0 0,.slice none 0 0,.slice none 0 0] 26)) := (Below.refl _ _).alloc (Nat.le_refl _) _
      obtain ⟨b13,hbk⟩ : ∃ z,U13.heap.size = z := ⟨_,rfl⟩
      have B13 : Blk (U13.alloc (Obj.cells #[.string ⟨#[]⟩,.slice none 0 0,.slice none 0 0,.slice none 0 0] 26)) b13 #[.string ⟨#[]⟩,.slice none 0 0,.slice none 0 0,.slice none 0 0] 26 := by rw [← hbk]; exact Blk.new U13 _ _
      have G13 : w4.heap.size ≤ b13 := by rw [← hbk]; exact hS.size
      have HE41 : Hid (U1.heap.size ≤ b13) := (by rw [← hbk]; exact F1.size : U1.heap.size ≤ b13)
      have HE43 : Hid (U13.heap.size ≤ b13) := (by rw [← hbk]; exact F3.size : U13.heap.size ≤ b13)
      have hS0 := hS
      have hS : Below w4.heap.size w4 (U13.alloc (Obj.cells #[.string ⟨#[]⟩,.slice none 0 0,.slice none 0 0,.slice none 0 0] 26)) := hS0.trans (hbU.mono hS0.size)
      replace F1 := F1.trans (Kp.ofBelow hbU)
      replace F3 := F3.trans (Kp.ofBelow hbU)
      replace B14 := B14.below hbU
      clear hS0 hbU
      simp only [zsA,zsZ,zsS]
      simp only [hbk]
      clear hbk
      generalize (U13.alloc (Obj.cells #[.string ⟨#[]⟩,.slice none 0 0,.slice none 0 0,.slice none 0 0] 26)) = U14 at *
      have k0 := (B13.cell 0).trans rfl
      have z0 := B13.froz 0
      have k1 := (B13.cell 1).trans rfl
      have z1 := B13.froz 1
      have k2 := (B13.cell 2).trans rfl
      have z2 := B13.froz 2
      have k3 := (B13.cell 3).trans rfl
      have z3 := B13.froz 3
      obtain ⟨hS6,B146,HRR⟩ := leaf_all B13 B14 C1 F1 (fun h => absurd HE41.out (by omega)) (fun h => absurd HE51.out (by omega)) C3 F3 (fun h => absurd HE43.out (by omega)) (fun _ => E53) hS G13 G14
      refine M_storeT 6 (st4 U14 b13 (.string sn) (.slice ma2 mn mc2) (.slice ea2 en ec2) (.slice ta2 tn2 tc2)) rfl rfl (by kernel_rfl) (by rfl) (listed' := bts 8 127) (by kernel_rfl) (by unfold st4; go_simp) hS6 ?_
      clear k0 z0 k1 z1 k2 z2 k3 z3 hS B13 B14 F1 F3
      generalize (st4 U14 b13 (.string sn) (.slice ma2 mn mc2) (.slice ea2 en ec2) (.slice ta2 tn2 tc2)) = V6 at *
      have k0 := (B146.cell 0).trans rfl
      have z0 := B146.froz 0
      have k1 := (B146.cell 1).trans rfl
      have z1 := B146.froz 1
      have k2 := (B146.cell 2).trans rfl
      have z2 := B146.froz 2
      have k3 := (B146.cell 3).trans rfl
      have z3 := B146.froz 3
      have k4 := (B146.cell 4).trans rfl
      have z4 := B146.froz 4
      refine M_store 7 (st5 V6 b14 (.int .i64 K) (.int .i64 N) (.string S) (.slice pe2 Ke ce2) (.slice pr2 Kr cr2)) rfl rfl (by kernel_rfl) (by rfl) (listed' := bts 8 255) (by kernel_rfl) (by unfold st5; go_simp) (by kernel_rfl) ?_
      refine M_done (by kernel_rfl) ?_ _
      clear k0 z0 k1 z1 k2 z2 k3 z3 k4 z4 B146 hS6
      go_wp2_with fail
      go_meet
      exact ⟨b13,b14,ma2,ea2,ta2,mc2,ec2,tn2,tc2,pe2,pr2,ce2,cr2,rfl,rfl,HRR⟩
     ·skip
      have hbU : Below U12.heap.size U12 (U12.alloc (Obj.cells #[.string ⟨#[]⟩,.slice none 0 0,.slice none 0 0,.slice none 0 0] 26)) := (Below.refl _ _).alloc (Nat.le_refl _) _
      obtain ⟨b13,hbk⟩ : ∃ z,U12.heap.size = z := ⟨_,rfl⟩
      have B13 : Blk (U12.alloc (Obj.cells #[.string ⟨#[]⟩,.slice none 0 0,.slice none 0 0,.slice none 0 0] 26)) b13 #[.string ⟨#[]⟩,.slice none 0 0,.slice none 0 0,.slice none 0 0] 26 := by rw [← hbk]; exact Blk.new U12 _ _
      have G13 : w4.heap.size ≤ b13 := by rw [← hbk]; exact hS.size
      have HE41 : Hid (U1.heap.size ≤ b13) := (by rw [← hbk]; exact F1.size : U1.heap.size ≤ b13)
      have hS0 := hS
      have hS : Below w4.heap.size w4 (U12.alloc (Obj.cells #[.string ⟨#[]⟩,.slice none 0 0,.slice none 0 0,.slice none 0 0] 26)) := hS0.trans (hbU.mono hS0.size)
      replace F1 := F1.trans (Kp.ofBelow hbU)
      replace B14 := B14.below hbU
      clear hS0 hbU
      simp only [zsA,zsZ,zsS]
      simp only [hbk]
      clear hbk
      generalize (U12.alloc (Obj.cells #[.string ⟨#[]⟩,.slice none 0 0,.slice none 0 0,.slice none 0 0] 26)) = U15 at *
      refine M_call 3 38 11 #[.agg #[.int .i64 K,.int .i64 N,.string S,.slice pe Ke ce,.slice pr Kr cr]] rfl rfl (by kernel_rfl) (by rfl) (listed' := bts 8 63) (by kernel_rfl) (fun W => by go_simp) ?_
      obtain ⟨D3,hD3⟩ : ∃ z,U15.heap.size = z := ⟨_,rfl⟩
      have E43 : b13 < D3 := by have := B13.lt; omega
      have E53 : b14 < D3 := by have := B14.lt; omega
      refine Calls.mono (HCP.out _ hS) ?_
      rintro ee U16 ⟨va,bsu,rfl,C3,hbU⟩
      obtain ⟨mu,pe2,ce2,pr2,cr2, -,hvt, -⟩ := C3.trW.open
      rw [HK.out.1,HK.out.2.1,HK.out.2.2.1,HK.out.2.2.2.1,HK.out.2.2.2.2] at hvt
      subst hvt
      rw [hD3] at C3
      have hS0 := hS
      have hS : Below w4.heap.size w4 U16 := hS0.trans (hbU.mono hS0.size)
      replace F1 := F1.trans (Kp.ofBelow hbU)
      replace B13 := B13.below hbU
      replace B14 := B14.below hbU
      have F3 : Kp (fun q => q < D3) U16 U16 := Kp.refl _ _
      clear hS0 hbU hD3
      refine ⟨_,rfl,hS,?_⟩
      simp only [zsA,zsZ,zsS]
      have k0 := (B13.cell 0).trans rfl
      have z0 := B13.froz 0
      have k1 := (B13.cell 1).trans rfl
      have z1 := B13.froz 1
      have k2 := (B13.cell 2).trans rfl
      have z2 := B13.froz 2
      have k3 := (B13.cell 3).trans rfl
      have z3 := B13.froz 3
      obtain ⟨hS6,B146,HRR⟩ := leaf_all B13 B14 C1 F1 (fun h => absurd HE41.out (by omega)) (fun h => absurd HE51.out (by omega)) C3 F3 (fun _ => E43) (fun _ => E53) hS G13 G14
      refine M_storeT 6 (st4 U16 b13 (.string sn) (.slice ma2 mn mc2) (.slice ea2 en ec2) (.slice ta2 tn2 tc2)) rfl rfl (by kernel_rfl) (by rfl) (listed' := bts 8 127) (by kernel_rfl) (by unfold st4; go_simp) hS6 ?_
      clear k0 z0 k1 z1 k2 z2 k3 z3 hS B13 B14 F1 F3
      generalize (st4 U16 b13 (.string sn) (.slice ma2 mn mc2) (.slice ea2 en ec2) (.slice ta2 tn2 tc2)) = V6 at *
      have k0 := (B146.cell 0).trans rfl
      have z0 := B146.froz 0
      have k1 := (B146.cell 1).trans rfl
      have z1 := B146.froz 1
      have k2 := (B146.cell 2).trans rfl
      have z2 := B146.froz 2
      have k3 := (B146.cell 3).trans rfl
      have z3 := B146.froz 3
      have k4 := (B146.cell 4).trans rfl
      have z4 := B146.froz 4
      refine M_store 7 (st5 V6 b14 (.int .i64 K) (.int .i64 N) (.string S) (.slice pe2 Ke ce2) (.slice pr2 Kr cr2)) rfl rfl (by kernel_rfl) (by rfl) (listed' := bts 8 255) (by kernel_rfl) (by unfold st5; go_simp) (by kernel_rfl) ?_
      refine M_done (by kernel_rfl) ?_ _
      clear k0 z0 k1 z1 k2 z2 k3 z3 k4 z4 B146 hS6
      go_wp2_with fail
      go_meet
      exact ⟨b13,b14,ma2,ea2,ta2,mc2,ec2,tn2,tc2,pe2,pr2,ce2,cr2,rfl,rfl,HRR⟩
   ·skip
    have hbU : Below U0.heap.size U0 (U0.alloc (Obj.cells #[.string ⟨#[]⟩,.slice none 0 0,.slice none 0 0,.slice none 0 0] 26)) := (Below.refl _ _).alloc (Nat.le_refl _) _
    obtain ⟨b13,hbk⟩ : ∃ z,U0.heap.size = z := ⟨_,rfl⟩
    have B13 : Blk (U0.alloc (Obj.cells #[.string ⟨#[]⟩,.slice none 0 0,.slice none 0 0,.slice none 0 0] 26)) b13 #[.string ⟨#[]⟩,.slice none 0 0,.slice none 0 0,.slice none 0 0] 26 := by rw [← hbk]; exact Blk.new U0 _ _
    have G13 : w4.heap.size ≤ b13 := by rw [← hbk]; exact hS.size
    have hS0 := hS
    have hS : Below w4.heap.size w4 (U0.alloc (Obj.cells #[.string ⟨#[]⟩,.slice none 0 0,.slice none 0 0,.slice none 0 0] 26)) := hS0.trans (hbU.mono hS0.size)
    clear hS0 hbU
    simp only [zsA,zsZ,zsS]
    simp only [hbk]
    clear hbk
    generalize (U0.alloc (Obj.cells #[.string ⟨#[]⟩,.slice none 0 0,.slice none 0 0,.slice none 0 0] 26)) = U17 at *
    refine M_fork 1 5 36 14 10 #[.agg #[.string sn,.slice ma mn mc,.slice ea en ec,.slice ta tn tc]] (.pointer (some ⟨U17.heap.size,0,none⟩)) (U17.alloc (Obj.cells #[.int .i64 0,.int .i64 0,.string ⟨#[]⟩,.slice none 0 0,.slice none 0 0] 30)) rfl rfl rfl rfl (by kernel_rfl) (by rfl) (by rfl) (by go_simp) (by go_simp) ?_ (hS.trans (((Below.refl _ _).alloc (Nat.le_refl _) _).mono hS.size)) ?_
    ·skip
     obtain ⟨D1,hD1⟩ : ∃ z,U17.heap.size = z := ⟨_,rfl⟩
     have E41 : b13 < D1 := by have := B13.lt; omega
     refine (HCS.out _ hS).mono ?_
     rintro ee U18 ⟨vs,rfl,C1,hbU⟩
     obtain ⟨ma2,mc2,ea2,ec2,ta2,tn2,tc2,hvs⟩ := C1.toIn.formA
     rw [HSN.out.1,HSN.out.2.1,HSN.out.2.2] at hvs
     subst hvs
     rw [hD1] at C1
     have hS0 := hS
     have hS : Below w4.heap.size w4 U18 := hS0.trans (hbU.mono hS0.size)
     replace B13 := B13.below hbU
     have F1 : Kp (fun q => q < D1) U18 U18 := Kp.refl _ _
     clear hS0 hbU hD1
     refine ⟨_,rfl,hS,?_⟩
     simp only [zsA,zsZ,zsS]
     refine M_fork 3 5 38 14 11 #[.agg #[.int .i64 K,.int .i64 N,.string S,.slice pe Ke ce,.slice pr Kr cr]] (.pointer (some ⟨U18.heap.size,0,none⟩)) (U18.alloc (Obj.cells #[.int .i64 0,.int .i64 0,.string ⟨#[]⟩,.slice none 0 0,.slice none 0 0] 30)) rfl rfl rfl rfl (by kernel_rfl) (by rfl) (by rfl) (by go_simp) (by go_simp) ?_ (hS.trans (((Below.refl _ _).alloc (Nat.le_refl _) _).mono hS.size)) ?_
     ·skip
      obtain ⟨D3,hD3⟩ : ∃ z,U18.heap.size = z := ⟨_,rfl⟩
      have E43 : b13 < D3 := by have := B13.lt; omega
      refine Calls.mono (HCP.out _ hS) ?_
      rintro ee U19 ⟨va,bsu,rfl,C3,hbU⟩
      obtain ⟨mu,pe2,ce2,pr2,cr2, -,hvt, -⟩ := C3.trW.open
      rw [HK.out.1,HK.out.2.1,HK.out.2.2.1,HK.out.2.2.2.1,HK.out.2.2.2.2] at hvt
      subst hvt
      rw [hD3] at C3
      have hS0 := hS
      have hS : Below w4.heap.size w4 U19 := hS0.trans (hbU.mono hS0.size)
      replace F1 := F1.trans (Kp.ofBelow hbU)
      replace B13 := B13.below hbU
      have F3 : Kp (fun q => q < D3) U19 U19 := Kp.refl _ _
      clear hS0 hbU hD3
      refine ⟨_,rfl,hS,?_⟩
      simp only [zsA,zsZ,zsS]
      refine M_run 5 14 (.pointer (some ⟨U19.heap.size,0,none⟩)) (U19.alloc (Obj.cells #[.int .i64 0,.int .i64 0,.string ⟨#[]⟩,.slice none 0 0,.slice none 0 0] 30)) rfl rfl (by kernel_rfl) (by rfl) (listed' := bts 8 63) (by kernel_rfl) (by go_simp) (hS.trans (((Below.refl _ _).alloc (Nat.le_refl _) _).mono hS.size)) ?_
      have hbU : Below U19.heap.size U19 (U19.alloc (Obj.cells #[.int .i64 0,.int .i64 0,.string ⟨#[]⟩,.slice none 0 0,.slice none 0 0] 30)) := (Below.refl _ _).alloc (Nat.le_refl _) _
      obtain ⟨b14,hbk⟩ : ∃ z,U19.heap.size = z := ⟨_,rfl⟩
      have B14 : Blk (U19.alloc (Obj.cells #[.int .i64 0,.int .i64 0,.string ⟨#[]⟩,.slice none 0 0,.slice none 0 0] 30)) b14 #[.int .i64 0,.int .i64 0,.string ⟨#[]⟩,.slice none 0 0,.slice none 0 0] 30 := by rw [← hbk]; exact Blk.new U19 _ _
      have G14 : w4.heap.size ≤ b14 := by rw [← hbk]; exact hS.size
      have HE51 : Hid (U18.heap.size ≤ b14) := (by rw [← hbk]; exact F1.size : U18.heap.size ≤ b14)
      have HE53 : Hid (U19.heap.size ≤ b14) := (by rw [← hbk]; exact F3.size : U19.heap.size ≤ b14)
      have hS0 := hS
      have hS : Below w4.heap.size w4 (U19.alloc (Obj.cells #[.int .i64 0,.int .i64 0,.string ⟨#[]⟩,.slice none 0 0,.slice none 0 0] 30)) := hS0.trans (hbU.mono hS0.size)
      replace F1 := F1.trans (Kp.ofBelow hbU)
      replace F3 := F3.trans (Kp.ofBelow hbU)
      replace B13 := B13.below hbU
      clear hS0 hbU
      simp only [zsA,zsZ,zsS]
      simp only [hbk]
      clear hbk
      generalize (U19.alloc (Obj.cells #[.int .i64 0,.int .i64 0,.string ⟨#[]⟩,.slice none 0 0,.slice none 0 0] 30)) = U20 at *
      have k0 := (B13.cell 0).trans rfl
      have z0 := B13.froz 0
      have k1 := (B13.cell 1).trans rfl
      have z1 := B13.froz 1
      have k2 := (B13.cell 2).trans rfl
      have z2 := B13.froz 2
      have k3 := (B13.cell 3).trans rfl
      have z3 := B13.froz 3
      obtain ⟨hS6,B146,HRR⟩ := leaf_all B13 B14 C1 F1 (fun _ => E41) (fun h => absurd HE51.out (by omega)) C3 F3 (fun _ => E43) (fun h => absurd HE53.out (by omega)) hS G13 G14
      refine M_storeT 6 (st4 U20 b13 (.string sn) (.slice ma2 mn mc2) (.slice ea2 en ec2) (.slice ta2 tn2 tc2)) rfl rfl (by kernel_rfl) (by rfl) (listed' := bts 8 127) (by kernel_rfl) (by unfold st4; go_simp) hS6 ?_
      clear k0 z0 k1 z1 k2 z2 k3 z3 hS B13 B14 F1 F3
      generalize (st4 U20 b13 (.string sn) (.slice ma2 mn mc2) (.slice ea2 en ec2) (.slice ta2 tn2 tc2)) = V6 at *
      have k0 := (B146.cell 0).trans rfl
      have z0 := B146.froz 0
      have k1 := (B146.cell 1).trans rfl
      have z1 := B146.froz 1
      have k2 := (B146.cell 2).trans rfl
      have z2 := B146.froz 2
      have k3 := (B146.cell 3).trans rfl
      have z3 := B146.froz 3
      have k4 := (B146.cell 4).trans rfl
      have z4 := B146.froz 4
      refine M_store 7 (st5 V6 b14 (.int .i64 K) (.int .i64 N) (.string S) (.slice pe2 Ke ce2) (.slice pr2 Kr cr2)) rfl rfl (by kernel_rfl) (by rfl) (listed' := bts 8 255) (by kernel_rfl) (by unfold st5; go_simp) (by kernel_rfl) ?_
      refine M_done (by kernel_rfl) ?_ _
      clear k0 z0 k1 z1 k2 z2 k3 z3 k4 z4 B146 hS6
      go_wp2_with fail
      go_meet
      exact ⟨b13,b14,ma2,ea2,ta2,mc2,ec2,tn2,tc2,pe2,pr2,ce2,cr2,rfl,rfl,HRR⟩
     ·skip
      have hbU : Below U18.heap.size U18 (U18.alloc (Obj.cells #[.int .i64 0,.int .i64 0,.string ⟨#[]⟩,.slice none 0 0,.slice none 0 0] 30)) := (Below.refl _ _).alloc (Nat.le_refl _) _
      obtain ⟨b14,hbk⟩ : ∃ z,U18.heap.size = z := ⟨_,rfl⟩
      have B14 : Blk (U18.alloc (Obj.cells #[.int .i64 0,.int .i64 0,.string ⟨#[]⟩,.slice none 0 0,.slice none 0 0] 30)) b14 #[.int .i64 0,.int .i64 0,.string ⟨#[]⟩,.slice none 0 0,.slice none 0 0] 30 := by rw [← hbk]; exact Blk.new U18 _ _
      have G14 : w4.heap.size ≤ b14 := by rw [← hbk]; exact hS.size
      have HE51 : Hid (U18.heap.size ≤ b14) := (by rw [← hbk]; exact F1.size : U18.heap.size ≤ b14)
      have hS0 := hS
      have hS : Below w4.heap.size w4 (U18.alloc (Obj.cells #[.int .i64 0,.int .i64 0,.string ⟨#[]⟩,.slice none 0 0,.slice none 0 0] 30)) := hS0.trans (hbU.mono hS0.size)
      replace F1 := F1.trans (Kp.ofBelow hbU)
      replace B13 := B13.below hbU
      clear hS0 hbU
      simp only [zsA,zsZ,zsS]
      simp only [hbk]
      clear hbk
      generalize (U18.alloc (Obj.cells #[.int .i64 0,.int .i64 0,.string ⟨#[]⟩,.slice none 0 0,.slice none 0 0] 30)) = U21 at *
      refine M_call 3 38 11 #[.agg #[.int .i64 K,.int .i64 N,.string S,.slice pe Ke ce,.slice pr Kr cr]] rfl rfl (by kernel_rfl) (by rfl) (listed' := bts 8 63) (by kernel_rfl) (fun W => by go_simp) ?_
      obtain ⟨D3,hD3⟩ : ∃ z,U21.heap.size = z := ⟨_,rfl⟩
      have E43 : b13 < D3 := by have := B13.lt; omega
      have E53 : b14 < D3 := by have := B14.lt; omega
      refine Calls.mono (HCP.out _ hS) ?_
      rintro ee U22 ⟨va,bsu,rfl,C3,hbU⟩
      obtain ⟨mu,pe2,ce2,pr2,cr2, -,hvt, -⟩ := C3.trW.open
      rw [HK.out.1,HK.out.2.1,HK.out.2.2.1,HK.out.2.2.2.1,HK.out.2.2.2.2] at hvt
      subst hvt
      rw [hD3] at C3
      have hS0 := hS
      have hS : Below w4.heap.size w4 U22 := hS0.trans (hbU.mono hS0.size)
      replace F1 := F1.trans (Kp.ofBelow hbU)
      replace B13 := B13.below hbU
      replace B14 := B14.below hbU
      have F3 : Kp (fun q => q < D3) U22 U22 := Kp.refl _ _
      clear hS0 hbU hD3
      refine ⟨_,rfl,hS,?_⟩
      simp only [zsA,zsZ,zsS]
      have k0 := (B13.cell 0).trans rfl
      have z0 := B13.froz 0
      have k1 := (B13.cell 1).trans rfl
      have z1 := B13.froz 1
      have k2 := (B13.cell 2).trans rfl
      have z2 := B13.froz 2
      have k3 := (B13.cell 3).trans rfl
      have z3 := B13.froz 3
      obtain ⟨hS6,B146,HRR⟩ := leaf_all B13 B14 C1 F1 (fun _ => E41) (fun h => absurd HE51.out (by omega)) C3 F3 (fun _ => E43) (fun _ => E53) hS G13 G14
      refine M_storeT 6 (st4 U22 b13 (.string sn) (.slice ma2 mn mc2) (.slice ea2 en ec2) (.slice ta2 tn2 tc2)) rfl rfl (by kernel_rfl) (by rfl) (listed' := bts 8 127) (by kernel_rfl) (by unfold st4; go_simp) hS6 ?_
      clear k0 z0 k1 z1 k2 z2 k3 z3 hS B13 B14 F1 F3
      generalize (st4 U22 b13 (.string sn) (.slice ma2 mn mc2) (.slice ea2 en ec2) (.slice ta2 tn2 tc2)) = V6 at *
      have k0 := (B146.cell 0).trans rfl
      have z0 := B146.froz 0
      have k1 := (B146.cell 1).trans rfl
      have z1 := B146.froz 1
      have k2 := (B146.cell 2).trans rfl
      have z2 := B146.froz 2
      have k3 := (B146.cell 3).trans rfl
      have z3 := B146.froz 3
      have k4 := (B146.cell 4).trans rfl
      have z4 := B146.froz 4
      refine M_store 7 (st5 V6 b14 (.int .i64 K) (.int .i64 N) (.string S) (.slice pe2 Ke ce2) (.slice pr2 Kr cr2)) rfl rfl (by kernel_rfl) (by rfl) (listed' := bts 8 255) (by kernel_rfl) (by unfold st5; go_simp) (by kernel_rfl) ?_
      refine M_done (by kernel_rfl) ?_ _
      clear k0 z0 k1 z1 k2 z2 k3 z3 k4 z4 B146 hS6
      go_wp2_with fail
      go_meet
      exact ⟨b13,b14,ma2,ea2,ta2,mc2,ec2,tn2,tc2,pe2,pr2,ce2,cr2,rfl,rfl,HRR⟩
    ·skip
     have hbU : Below U17.heap.size U17 (U17.alloc (Obj.cells #[.int .i64 0,.int .i64 0,.string ⟨#[]⟩,.slice none 0 0,.slice none 0 0] 30)) := (Below.refl _ _).alloc (Nat.le_refl _) _
     obtain ⟨b14,hbk⟩ : ∃ z,U17.heap.size = z := ⟨_,rfl⟩
     have B14 : Blk (U17.alloc (Obj.cells #[.int .i64 0,.int .i64 0,.string ⟨#[]⟩,.slice none 0 0,.slice none 0 0] 30)) b14 #[.int .i64 0,.int .i64 0,.string ⟨#[]⟩,.slice none 0 0,.slice none 0 0] 30 := by rw [← hbk]; exact Blk.new U17 _ _
     have G14 : w4.heap.size ≤ b14 := by rw [← hbk]; exact hS.size
     have hS0 := hS
     have hS : Below w4.heap.size w4 (U17.alloc (Obj.cells #[.int .i64 0,.int .i64 0,.string ⟨#[]⟩,.slice none 0 0,.slice none 0 0] 30)) := hS0.trans (hbU.mono hS0.size)
     replace B13 := B13.below hbU
     clear hS0 hbU
     simp only [zsA,zsZ,zsS]
     simp only [hbk]
     clear hbk
     generalize (U17.alloc (Obj.cells #[.int .i64 0,.int .i64 0,.string ⟨#[]⟩,.slice none 0 0,.slice none 0 0] 30)) = U23 at *
     refine M_call 1 36 10 #[.agg #[.string sn,.slice ma mn mc,.slice ea en ec,.slice ta tn tc]] rfl rfl (by kernel_rfl) (by rfl) (listed' := bts 8 55) (by kernel_rfl) (fun W => by go_simp) ?_
     obtain ⟨D1,hD1⟩ : ∃ z,U23.heap.size = z := ⟨_,rfl⟩
     have E41 : b13 < D1 := by have := B13.lt; omega
     have E51 : b14 < D1 := by have := B14.lt; omega
     refine (HCS.out _ hS).mono ?_
     rintro ee U24 ⟨vs,rfl,C1,hbU⟩
     obtain ⟨ma2,mc2,ea2,ec2,ta2,tn2,tc2,hvs⟩ := C1.toIn.formA
     rw [HSN.out.1,HSN.out.2.1,HSN.out.2.2] at hvs
     subst hvs
     rw [hD1] at C1
     have hS0 := hS
     have hS : Below w4.heap.size w4 U24 := hS0.trans (hbU.mono hS0.size)
     replace B13 := B13.below hbU
     replace B14 := B14.below hbU
     have F1 : Kp (fun q => q < D1) U24 U24 := Kp.refl _ _
     clear hS0 hbU hD1
     refine ⟨_,rfl,hS,?_⟩
     simp only [zsA,zsZ,zsS]
     refine M_call 3 38 11 #[.agg #[.int .i64 K,.int .i64 N,.string S,.slice pe Ke ce,.slice pr Kr cr]] rfl rfl (by kernel_rfl) (by rfl) (listed' := bts 8 63) (by kernel_rfl) (fun W => by go_simp) ?_
     obtain ⟨D3,hD3⟩ : ∃ z,U24.heap.size = z := ⟨_,rfl⟩
     have E43 : b13 < D3 := by have := B13.lt; omega
     have E53 : b14 < D3 := by have := B14.lt; omega
     refine Calls.mono (HCP.out _ hS) ?_
     rintro ee U25 ⟨va,bsu,rfl,C3,hbU⟩
     obtain ⟨mu,pe2,ce2,pr2,cr2, -,hvt, -⟩ := C3.trW.open
     rw [HK.out.1,HK.out.2.1,HK.out.2.2.1,HK.out.2.2.2.1,HK.out.2.2.2.2] at hvt
     subst hvt
     rw [hD3] at C3
     have hS0 := hS
     have hS : Below w4.heap.size w4 U25 := hS0.trans (hbU.mono hS0.size)
     replace F1 := F1.trans (Kp.ofBelow hbU)
     replace B13 := B13.below hbU
     replace B14 := B14.below hbU
     have F3 : Kp (fun q => q < D3) U25 U25 := Kp.refl _ _
     clear hS0 hbU hD3
     refine ⟨_,rfl,hS,?_⟩
     simp only [zsA,zsZ,zsS]
     have k0 := (B13.cell 0).trans rfl
     have z0 := B13.froz 0
     have k1 := (B13.cell 1).trans rfl
     have z1 := B13.froz 1
     have k2 := (B13.cell 2).trans rfl
     have z2 := B13.froz 2
     have k3 := (B13.cell 3).trans rfl
     have z3 := B13.froz 3
     obtain ⟨hS6,B146,HRR⟩ := leaf_all B13 B14 C1 F1 (fun _ => E41) (fun _ => E51) C3 F3 (fun _ => E43) (fun _ => E53) hS G13 G14
     refine M_storeT 6 (st4 U25 b13 (.string sn) (.slice ma2 mn mc2) (.slice ea2 en ec2) (.slice ta2 tn2 tc2)) rfl rfl (by kernel_rfl) (by rfl) (listed' := bts 8 127) (by kernel_rfl) (by unfold st4; go_simp) hS6 ?_
     clear k0 z0 k1 z1 k2 z2 k3 z3 hS B13 B14 F1 F3
     generalize (st4 U25 b13 (.string sn) (.slice ma2 mn mc2) (.slice ea2 en ec2) (.slice ta2 tn2 tc2)) = V6 at *
     have k0 := (B146.cell 0).trans rfl
     have z0 := B146.froz 0
     have k1 := (B146.cell 1).trans rfl
     have z1 := B146.froz 1
     have k2 := (B146.cell 2).trans rfl
     have z2 := B146.froz 2
     have k3 := (B146.cell 3).trans rfl
     have z3 := B146.froz 3
     have k4 := (B146.cell 4).trans rfl
     have z4 := B146.froz 4
     refine M_store 7 (st5 V6 b14 (.int .i64 K) (.int .i64 N) (.string S) (.slice pe2 Ke ce2) (.slice pr2 Kr cr2)) rfl rfl (by kernel_rfl) (by rfl) (listed' := bts 8 255) (by kernel_rfl) (by unfold st5; go_simp) (by kernel_rfl) ?_
     refine M_done (by kernel_rfl) ?_ _
     clear k0 z0 k1 z1 k2 z2 k3 z3 k4 z4 B146 hS6
     go_wp2_with fail
     go_meet
     exact ⟨b13,b14,ma2,ea2,ta2,mc2,ec2,tn2,tc2,pe2,pr2,ce2,cr2,rfl,rfl,HRR⟩
   ·skip
    have hbU : Below U0.heap.size U0 (U0.alloc (Obj.cells #[.int .i64 0,.int .i64 0,.string ⟨#[]⟩,.slice none 0 0,.slice none 0 0] 30)) := (Below.refl _ _).alloc (Nat.le_refl _) _
    obtain ⟨b14,hbk⟩ : ∃ z,U0.heap.size = z := ⟨_,rfl⟩
    have B14 : Blk (U0.alloc (Obj.cells #[.int .i64 0,.int .i64 0,.string ⟨#[]⟩,.slice none 0 0,.slice none 0 0] 30)) b14 #[.int .i64 0,.int .i64 0,.string ⟨#[]⟩,.slice none 0 0,.slice none 0 0] 30 := by rw [← hbk]; exact Blk.new U0 _ _
    have G14 : w4.heap.size ≤ b14 := by rw [← hbk]; exact hS.size
    have hS0 := hS
    have hS : Below w4.heap.size w4 (U0.alloc (Obj.cells #[.int .i64 0,.int .i64 0,.string ⟨#[]⟩,.slice none 0 0,.slice none 0 0] 30)) := hS0.trans (hbU.mono hS0.size)
    clear hS0 hbU
    simp only [zsA,zsZ,zsS]
    simp only [hbk]
    clear hbk
    generalize (U0.alloc (Obj.cells #[.int .i64 0,.int .i64 0,.string ⟨#[]⟩,.slice none 0 0,.slice none 0 0] 30)) = U26 at *
    refine M_fork 1 4 36 13 10 #[.agg #[.string sn,.slice ma mn mc,.slice ea en ec,.slice ta tn tc]] (.pointer (some ⟨U26.heap.size,0,none⟩)) (U26.alloc (Obj.cells #[.string ⟨#[]⟩,.slice none 0 0,.slice none 0 0,.slice none 0 0] 26)) rfl rfl rfl rfl (by kernel_rfl) (by rfl) (by rfl) (by go_simp) (by go_simp) ?_ (hS.trans (((Below.refl _ _).alloc (Nat.le_refl _) _).mono hS.size)) ?_
    ·skip
     obtain ⟨D1,hD1⟩ : ∃ z,U26.heap.size = z := ⟨_,rfl⟩
     have E51 : b14 < D1 := by have := B14.lt; omega
     refine (HCS.out _ hS).mono ?_
     rintro ee U27 ⟨vs,rfl,C1,hbU⟩
     obtain ⟨ma2,mc2,ea2,ec2,ta2,tn2,tc2,hvs⟩ := C1.toIn.formA
     rw [HSN.out.1,HSN.out.2.1,HSN.out.2.2] at hvs
     subst hvs
     rw [hD1] at C1
     have hS0 := hS
     have hS : Below w4.heap.size w4 U27 := hS0.trans (hbU.mono hS0.size)
     replace B14 := B14.below hbU
     have F1 : Kp (fun q => q < D1) U27 U27 := Kp.refl _ _
     clear hS0 hbU hD1
     refine ⟨_,rfl,hS,?_⟩
     simp only [zsA,zsZ,zsS]
     refine M_fork 3 4 38 13 11 #[.agg #[.int .i64 K,.int .i64 N,.string S,.slice pe Ke ce,.slice pr Kr cr]] (.pointer (some ⟨U27.heap.size,0,none⟩)) (U27.alloc (Obj.cells #[.string ⟨#[]⟩,.slice none 0 0,.slice none 0 0,.slice none 0 0] 26)) rfl rfl rfl rfl (by kernel_rfl) (by rfl) (by rfl) (by go_simp) (by go_simp) ?_ (hS.trans (((Below.refl _ _).alloc (Nat.le_refl _) _).mono hS.size)) ?_
     ·skip
      obtain ⟨D3,hD3⟩ : ∃ z,U27.heap.size = z := ⟨_,rfl⟩
      have E53 : b14 < D3 := by have := B14.lt; omega
      refine Calls.mono (HCP.out _ hS) ?_
      rintro ee U28 ⟨va,bsu,rfl,C3,hbU⟩
      obtain ⟨mu,pe2,ce2,pr2,cr2, -,hvt, -⟩ := C3.trW.open
      rw [HK.out.1,HK.out.2.1,HK.out.2.2.1,HK.out.2.2.2.1,HK.out.2.2.2.2] at hvt
      subst hvt
      rw [hD3] at C3
      have hS0 := hS
      have hS : Below w4.heap.size w4 U28 := hS0.trans (hbU.mono hS0.size)
      replace F1 := F1.trans (Kp.ofBelow hbU)
      replace B14 := B14.below hbU
      have F3 : Kp (fun q => q < D3) U28 U28 := Kp.refl _ _
      clear hS0 hbU hD3
      refine ⟨_,rfl,hS,?_⟩
      simp only [zsA,zsZ,zsS]
      refine M_run 4 13 (.pointer (some ⟨U28.heap.size,0,none⟩)) (U28.alloc (Obj.cells #[.string ⟨#[]⟩,.slice none 0 0,.slice none 0 0,.slice none 0 0] 26)) rfl rfl (by kernel_rfl) (by rfl) (listed' := bts 8 63) (by kernel_rfl) (by go_simp) (hS.trans (((Below.refl _ _).alloc (Nat.le_refl _) _).mono hS.size)) ?_
      have hbU : Below U28.heap.size U28 (U28.alloc (Obj.cells #[.string ⟨#[]⟩,.slice none 0 0,.slice none 0 0,.slice none 0 0] 26)) := (Below.refl _ _).alloc (Nat.le_refl _) _
      obtain ⟨b13,hbk⟩ : ∃ z,U28.heap.size = z := ⟨_,rfl⟩
      have B13 : Blk (U28.alloc (Obj.cells #[.string ⟨#[]⟩,.slice none 0 0,.slice none 0 0,.slice none 0 0] 26)) b13 #[.string ⟨#[]⟩,.slice none 0 0,.slice none 0 0,.slice none 0 0] 26 := by rw [← hbk]; exact Blk.new U28 _ _
      have G13 : w4.heap.size ≤ b13 := by rw [← hbk]; exact hS.size
      have HE41 : Hid (U27.heap.size ≤ b13) := (by rw [← hbk]; exact F1.size : U27.heap.size ≤ b13)
      have HE43 : Hid (U28.heap.size ≤ b13) := (by rw [← hbk]; exact F3.size : U28.heap.size ≤ b13)
      have hS0 := hS
      have hS : Below w4.heap.size w4 (U28.alloc (Obj.cells #[.string ⟨#[]⟩,.slice none 0 0,.slice none 0 0,.slice none 0 0] 26)) := hS0.trans (hbU.mono hS0.size)
      replace F1 := F1.trans (Kp.ofBelow hbU)
      replace F3 := F3.trans (Kp.ofBelow hbU)
      replace B14 := B14.below hbU
      clear hS0 hbU
      simp only [zsA,zsZ,zsS]
      simp only [hbk]
      clear hbk
      generalize (U28.alloc (Obj.cells #[.string ⟨#[]⟩,.slice none 0 0,.slice none 0 0,.slice none 0 0] 26)) = U29 at *
      have k0 := (B13.cell 0).trans rfl
      have z0 := B13.froz 0
      have k1 := (B13.cell 1).trans rfl
      have z1 := B13.froz 1
      have k2 := (B13.cell 2).trans rfl
      have z2 := B13.froz 2
      have k3 := (B13.cell 3).trans rfl
      have z3 := B13.froz 3
      obtain ⟨hS6,B146,HRR⟩ := leaf_all B13 B14 C1 F1 (fun h => absurd HE41.out (by omega)) (fun _ => E51) C3 F3 (fun h => absurd HE43.out (by omega)) (fun _ => E53) hS G13 G14
      refine M_storeT 6 (st4 U29 b13 (.string sn) (.slice ma2 mn mc2) (.slice ea2 en ec2) (.slice ta2 tn2 tc2)) rfl rfl (by kernel_rfl) (by rfl) (listed' := bts 8 127) (by kernel_rfl) (by unfold st4; go_simp) hS6 ?_
      clear k0 z0 k1 z1 k2 z2 k3 z3 hS B13 B14 F1 F3
      generalize (st4 U29 b13 (.string sn) (.slice ma2 mn mc2) (.slice ea2 en ec2) (.slice ta2 tn2 tc2)) = V6 at *
      have k0 := (B146.cell 0).trans rfl
      have z0 := B146.froz 0
      have k1 := (B146.cell 1).trans rfl
      have z1 := B146.froz 1
      have k2 := (B146.cell 2).trans rfl
      have z2 := B146.froz 2
      have k3 := (B146.cell 3).trans rfl
      have z3 := B146.froz 3
      have k4 := (B146.cell 4).trans rfl
      have z4 := B146.froz 4
      refine M_store 7 (st5 V6 b14 (.int .i64 K) (.int .i64 N) (.string S) (.slice pe2 Ke ce2) (.slice pr2 Kr cr2)) rfl rfl (by kernel_rfl) (by rfl) (listed' := bts 8 255) (by kernel_rfl) (by unfold st5; go_simp) (by kernel_rfl) ?_
      refine M_done (by kernel_rfl) ?_ _
      clear k0 z0 k1 z1 k2 z2 k3 z3 k4 z4 B146 hS6
      go_wp2_with fail
      go_meet
      exact ⟨b13,b14,ma2,ea2,ta2,mc2,ec2,tn2,tc2,pe2,pr2,ce2,cr2,rfl,rfl,HRR⟩
     ·skip
      have hbU : Below U27.heap.size U27 (U27.alloc (Obj.cells #[.string ⟨#[]⟩,.slice none 0 0,.slice none 0 0,.slice none 0 0] 26)) := (Below.refl _ _).alloc (Nat.le_refl _) _
      obtain ⟨b13,hbk⟩ : ∃ z,U27.heap.size = z := ⟨_,rfl⟩
      have B13 : Blk (U27.alloc (Obj.cells #[.string ⟨#[]⟩,.slice none 0 0,.slice none 0 0,.slice none 0 0] 26)) b13 #[.string ⟨#[]⟩,.slice none 0 0,.slice none 0 0,.slice none 0 0] 26 := by rw [← hbk]; exact Blk.new U27 _ _
      have G13 : w4.heap.size ≤ b13 := by rw [← hbk]; exact hS.size
      have HE41 : Hid (U27.heap.size ≤ b13) := (by rw [← hbk]; exact F1.size : U27.heap.size ≤ b13)
      have hS0 := hS
      have hS : Below w4.heap.size w4 (U27.alloc (Obj.cells #[.string ⟨#[]⟩,.slice none 0 0,.slice none 0 0,.slice none 0 0] 26)) := hS0.trans (hbU.mono hS0.size)
      replace F1 := F1.trans (Kp.ofBelow hbU)
      replace B14 := B14.below hbU
      clear hS0 hbU
      simp only [zsA,zsZ,zsS]
      simp only [hbk]
      clear hbk
      generalize (U27.alloc (Obj.cells #[.string ⟨#[]⟩,.slice none 0 0,.slice none 0 0,.slice none 0 0] 26)) = U30 at *
      refine M_call 3 38 11 #[.agg #[.int .i64 K,.int .i64 N,.string S,.slice pe Ke ce,.slice pr Kr cr]] rfl rfl (by kernel_rfl) (by rfl) (listed' := bts 8 63) (by kernel_rfl) (fun W => by go_simp) ?_
      obtain ⟨D3,hD3⟩ : ∃ z,U30.heap.size = z := ⟨_,rfl⟩
      have E43 : b13 < D3 := by have := B13.lt; omega
      have E53 : b14 < D3 := by have := B14.lt; omega
      refine Calls.mono (HCP.out _ hS) ?_
      rintro ee U31 ⟨va,bsu,rfl,C3,hbU⟩
      obtain ⟨mu,pe2,ce2,pr2,cr2, -,hvt, -⟩ := C3.trW.open
      rw [HK.out.1,HK.out.2.1,HK.out.2.2.1,HK.out.2.2.2.1,HK.out.2.2.2.2] at hvt
      subst hvt
      rw [hD3] at C3
      have hS0 := hS
      have hS : Below w4.heap.size w4 U31 := hS0.trans (hbU.mono hS0.size)
      replace F1 := F1.trans (Kp.ofBelow hbU)
      replace B13 := B13.below hbU
      replace B14 := B14.below hbU
      have F3 : Kp (fun q => q < D3) U31 U31 := Kp.refl _ _
      clear hS0 hbU hD3
      refine ⟨_,rfl,hS,?_⟩
      simp only [zsA,zsZ,zsS]
      have k0 := (B13.cell 0).trans rfl
      have z0 := B13.froz 0
      have k1 := (B13.cell 1).trans rfl
      have z1 := B13.froz 1
      have k2 := (B13.cell 2).trans rfl
      have z2 := B13.froz 2
      have k3 := (B13.cell 3).trans rfl
      have z3 := B13.froz 3
      obtain ⟨hS6,B146,HRR⟩ := leaf_all B13 B14 C1 F1 (fun h => absurd HE41.out (by omega)) (fun _ => E51) C3 F3 (fun _ => E43) (fun _ => E53) hS G13 G14
      refine M_storeT 6 (st4 U31 b13 (.string sn) (.slice ma2 mn mc2) (.slice ea2 en ec2) (.slice ta2 tn2 tc2)) rfl rfl (by kernel_rfl) (by rfl) (listed' := bts 8 127) (by kernel_rfl) (by unfold st4; go_simp) hS6 ?_
      clear k0 z0 k1 z1 k2 z2 k3 z3 hS B13 B14 F1 F3
      generalize (st4 U31 b13 (.string sn) (.slice ma2 mn mc2) (.slice ea2 en ec2) (.slice ta2 tn2 tc2)) = V6 at *
      have k0 := (B146.cell 0).trans rfl
      have z0 := B146.froz 0
      have k1 := (B146.cell 1).trans rfl
      have z1 := B146.froz 1
      have k2 := (B146.cell 2).trans rfl
      have z2 := B146.froz 2
      have k3 := (B146.cell 3).trans rfl
      have z3 := B146.froz 3
      have k4 := (B146.cell 4).trans rfl
      have z4 := B146.froz 4
      refine M_store 7 (st5 V6 b14 (.int .i64 K) (.int .i64 N) (.string S) (.slice pe2 Ke ce2) (.slice pr2 Kr cr2)) rfl rfl (by kernel_rfl) (by rfl) (listed' := bts 8 255) (by kernel_rfl) (by unfold st5; go_simp) (by kernel_rfl) ?_
      refine M_done (by kernel_rfl) ?_ _
      clear k0 z0 k1 z1 k2 z2 k3 z3 k4 z4 B146 hS6
      go_wp2_with fail
      go_meet
      exact ⟨b13,b14,ma2,ea2,ta2,mc2,ec2,tn2,tc2,pe2,pr2,ce2,cr2,rfl,rfl,HRR⟩
    ·skip
     have hbU : Below U26.heap.size U26 (U26.alloc (Obj.cells #[.string ⟨#[]⟩,.slice none 0 0,.slice none 0 0,.slice none 0 0] 26)) := (Below.refl _ _).alloc (Nat.le_refl _) _
     obtain ⟨b13,hbk⟩ : ∃ z,U26.heap.size = z := ⟨_,rfl⟩
     have B13 : Blk (U26.alloc (Obj.cells #[.string ⟨#[]⟩,.slice none 0 0,.slice none 0 0,.slice none 0 0] 26)) b13 #[.string ⟨#[]⟩,.slice none 0 0,.slice none 0 0,.slice none 0 0] 26 := by rw [← hbk]; exact Blk.new U26 _ _
     have G13 : w4.heap.size ≤ b13 := by rw [← hbk]; exact hS.size
     have hS0 := hS
     have hS : Below w4.heap.size w4 (U26.alloc (Obj.cells #[.string ⟨#[]⟩,.slice none 0 0,.slice none 0 0,.slice none 0 0] 26)) := hS0.trans (hbU.mono hS0.size)
     replace B14 := B14.below hbU
     clear hS0 hbU
     simp only [zsA,zsZ,zsS]
     simp only [hbk]
     clear hbk
     generalize (U26.alloc (Obj.cells #[.string ⟨#[]⟩,.slice none 0 0,.slice none 0 0,.slice none 0 0] 26)) = U32 at *
     refine M_call 1 36 10 #[.agg #[.string sn,.slice ma mn mc,.slice ea en ec,.slice ta tn tc]] rfl rfl (by kernel_rfl) (by rfl) (listed' := bts 8 55) (by kernel_rfl) (fun W => by go_simp) ?_
     obtain ⟨D1,hD1⟩ : ∃ z,U32.heap.size = z := ⟨_,rfl⟩
     have E41 : b13 < D1 := by have := B13.lt; omega
     have E51 : b14 < D1 := by have := B14.lt; omega
     refine (HCS.out _ hS).mono ?_
     rintro ee U33 ⟨vs,rfl,C1,hbU⟩
     obtain ⟨ma2,mc2,ea2,ec2,ta2,tn2,tc2,hvs⟩ := C1.toIn.formA
     rw [HSN.out.1,HSN.out.2.1,HSN.out.2.2] at hvs
     subst hvs
     rw [hD1] at C1
     have hS0 := hS
     have hS : Below w4.heap.size w4 U33 := hS0.trans (hbU.mono hS0.size)
     replace B13 := B13.below hbU
     replace B14 := B14.below hbU
     have F1 : Kp (fun q => q < D1) U33 U33 := Kp.refl _ _
     clear hS0 hbU hD1
     refine ⟨_,rfl,hS,?_⟩
     simp only [zsA,zsZ,zsS]
     refine M_call 3 38 11 #[.agg #[.int .i64 K,.int .i64 N,.string S,.slice pe Ke ce,.slice pr Kr cr]] rfl rfl (by kernel_rfl) (by rfl) (listed' := bts 8 63) (by kernel_rfl) (fun W => by go_simp) ?_
     obtain ⟨D3,hD3⟩ : ∃ z,U33.heap.size = z := ⟨_,rfl⟩
     have E43 : b13 < D3 := by have := B13.lt; omega
     have E53 : b14 < D3 := by have := B14.lt; omega
     refine Calls.mono (HCP.out _ hS) ?_
     rintro ee U34 ⟨va,bsu,rfl,C3,hbU⟩
     obtain ⟨mu,pe2,ce2,pr2,cr2, -,hvt, -⟩ := C3.trW.open
     rw [HK.out.1,HK.out.2.1,HK.out.2.2.1,HK.out.2.2.2.1,HK.out.2.2.2.2] at hvt
     subst hvt
     rw [hD3] at C3
     have hS0 := hS
     have hS : Below w4.heap.size w4 U34 := hS0.trans (hbU.mono hS0.size)
     replace F1 := F1.trans (Kp.ofBelow hbU)
     replace B13 := B13.below hbU
     replace B14 := B14.below hbU
     have F3 : Kp (fun q => q < D3) U34 U34 := Kp.refl _ _
     clear hS0 hbU hD3
     refine ⟨_,rfl,hS,?_⟩
     simp only [zsA,zsZ,zsS]
     have k0 := (B13.cell 0).trans rfl
     have z0 := B13.froz 0
     have k1 := (B13.cell 1).trans rfl
     have z1 := B13.froz 1
     have k2 := (B13.cell 2).trans rfl
     have z2 := B13.froz 2
     have k3 := (B13.cell 3).trans rfl
     have z3 := B13.froz 3
     obtain ⟨hS6,B146,HRR⟩ := leaf_all B13 B14 C1 F1 (fun _ => E41) (fun _ => E51) C3 F3 (fun _ => E43) (fun _ => E53) hS G13 G14
     refine M_storeT 6 (st4 U34 b13 (.string sn) (.slice ma2 mn mc2) (.slice ea2 en ec2) (.slice ta2 tn2 tc2)) rfl rfl (by kernel_rfl) (by rfl) (listed' := bts 8 127) (by kernel_rfl) (by unfold st4; go_simp) hS6 ?_
     clear k0 z0 k1 z1 k2 z2 k3 z3 hS B13 B14 F1 F3
     generalize (st4 U34 b13 (.string sn) (.slice ma2 mn mc2) (.slice ea2 en ec2) (.slice ta2 tn2 tc2)) = V6 at *
     have k0 := (B146.cell 0).trans rfl
     have z0 := B146.froz 0
     have k1 := (B146.cell 1).trans rfl
     have z1 := B146.froz 1
     have k2 := (B146.cell 2).trans rfl
     have z2 := B146.froz 2
     have k3 := (B146.cell 3).trans rfl
     have z3 := B146.froz 3
     have k4 := (B146.cell 4).trans rfl
     have z4 := B146.froz 4
     refine M_store 7 (st5 V6 b14 (.int .i64 K) (.int .i64 N) (.string S) (.slice pe2 Ke ce2) (.slice pr2 Kr cr2)) rfl rfl (by kernel_rfl) (by rfl) (listed' := bts 8 255) (by kernel_rfl) (by unfold st5; go_simp) (by kernel_rfl) ?_
     refine M_done (by kernel_rfl) ?_ _
     clear k0 z0 k1 z1 k2 z2 k3 z3 k4 z4 B146 hS6
     go_wp2_with fail
     go_meet
     exact ⟨b13,b14,ma2,ea2,ta2,mc2,ec2,tn2,tc2,pe2,pr2,ce2,cr2,rfl,rfl,HRR⟩
  case rest =>
   obtain ⟨b13,b14,ma2,ea2,ta2,mc2,ec2,tn2,tc2,pe2,pr2,ce2,cr2,rfl,rfl,HRR⟩ := hcut
   have hcw : Below w4.heap.size w4 wc := HRR.out.2.2.2.2
   have hbwc : Below w.heap.size w wc := hbw4.trans (hcw.mono hbw4.size)
   have HBK : Hid (∀ W,Below wc.heap.size wc W → Blk W b13 #[.string sn,.slice ma2 mn mc2,.slice ea2 en ec2,.slice ta2 tn2 tc2] 26 ∧ Blk W b14 #[.int .i64 K,.int .i64 N,.string S,.slice pe2 Ke ce2,.slice pr2 Kr cr2] 30 ∧ Blk W b0 #[.string sn,.slice ma mn mc,.slice ea en ec,.slice ta tn tc] 26 ∧ Blk W (b0 + 1) #[.int .i64 K,.int .i64 N,.string S,.slice pe Ke ce,.slice pr Kr cr] 30 ∧ Blk W (b0 + 1 + 1) #[.int .i64 yk,.string yn] 32) := fun W hW => ⟨HRR.out.1.below hW,HRR.out.2.1.below hW,BS4.below (hcw.trans (hW.mono hcw.size)),BT4.below (hcw.trans (hW.mono hcw.size)),BY4.below (hcw.trans (hW.mono hcw.size))⟩
   have HSI : Hid (∀ W,Below wc.heap.size wc W → ScIn W (.agg #[.string sn,.slice ma2 mn mc2,.slice ea2 en ec2,.slice ta2 tn2 tc2]) s ∧ TrW 14 W (.agg #[.int .i64 K,.int .i64 N,.string S,.slice pe2 Ke ce2,.slice pr2 Kr cr2]) t ∧ ScIn W (.agg #[.string sn,.slice ma mn mc,.slice ea en ec,.slice ta tn tc]) s ∧ TrIn 14 W (.agg #[.int .i64 K,.int .i64 N,.string S,.slice pe Ke ce,.slice pr Kr cr]) t) := fun W hW => ⟨HRR.out.2.2.1.below hW,HRR.out.2.2.2.1.cel (Cel.ofBelow hW),HSC.out.below (hbwc.trans (hW.mono hbwc.size)),HIN.out.below (hcw.trans (hW.mono hcw.size))⟩
   obtain ⟨XV,hXV⟩ : ∃ z,validA 14 s nm t = z := ⟨_,rfl⟩
   obtain ⟨NB,hNB⟩ : ∃ z,nmrB yk num = z := ⟨_,rfl⟩
   obtain ⟨ZB,hZB⟩ : ∃ z,zroB t = z := ⟨_,rfl⟩
   have HV1 : Hid (∀ W,Below wc.heap.size wc W → Calls Tryz.prog 12 #[.agg #[.string sn,.slice ma2 mn mc2,.slice ea2 en ec2,.slice ta2 tn2 tc2],.string nm,.agg #[.int .i64 K,.int .i64 N,.string S,.slice pe2 Ke ce2,.slice pr2 Kr cr2]] W fun e w' => e = .returned (.int .i64 XV) ∧ Below W.heap.size W w') := fun W hW => by
    have h6 := fits_any (nm := nm) (HSI.out W hW).1 HSW.out HFS.out.few (HSI.out W hW).2.1 (by decide) (by have := HSM.out.2; omega) HSM.out.1
    rw [hXV] at h6
    exact h6
   have HV2 : Hid (∀ W,Below wc.heap.size wc W → Calls Tryz.prog 13 #[.agg #[.string sn,.slice ma mn mc,.slice ea en ec,.slice ta tn tc],.string nm,.agg #[.int .i64 K,.int .i64 N,.string S,.slice pe Ke ce,.slice pr Kr cr]] W fun e w' => e = .returned (.int .i64 XV) ∧ Below W.heap.size W w') := fun W hW => by
    have h6 := rvalidT_any sn ma ea ta mn mc en ec tn tc 14 t K N S pe pr Ke ce Kr cr nm W (HSI.out W hW).2.2.1 HFS.out (HSI.out W hW).2.2.2 HSM.out.1 (by decide)
    rw [hXV] at h6
    exact h6
   have HN1 : Hid (∀ W,Calls Tryz.prog 14 #[.agg #[.int .i64 yk,.string yn],.int .i64 num] W fun e w' => e = .returned (.bool NB) ∧ Below W.heap.size W w') := fun W => by
    have h6 := number_any yk num yn W
    rw [hNB] at h6
    exact h6
   have HN2 : Hid (∀ W,Calls Tryz.prog 15 #[.agg #[.int .i64 yk,.string yn],.int .i64 num] W fun e w' => e = .returned (.bool NB) ∧ Below W.heap.size W w') := fun W => by
    have h6 := rnumber_any yk num yn W
    rw [hNB] at h6
    exact h6
   have HZ1 : Hid (∀ W,Calls Tryz.prog 16 #[.agg #[.int .i64 K,.int .i64 N,.string S,.slice pe2 Ke ce2,.slice pr2 Kr cr2]] W fun e w' => e = .returned (.bool ZB) ∧ Below W.heap.size W w') := fun W => by
    obtain ⟨e1,e2,e3,e4,e5⟩ := HK.out
    have h6 := zero_any t pe2 pr2 Ke ce2 Kr cr2 W e1.symm e2.symm
    rw [hZB,e3,e4,e5] at h6
    exact h6
   have HZ2 : Hid (∀ W,Calls Tryz.prog 17 #[.agg #[.int .i64 K,.int .i64 N,.string S,.slice pe Ke ce,.slice pr Kr cr]] W fun e w' => e = .returned (.bool ZB) ∧ Below W.heap.size W w') := fun W => by
    obtain ⟨e1,e2,e3,e4,e5⟩ := HK.out
    have h6 := rzero_any t pe pr Ke ce Kr cr W e1.symm e2.symm
    rw [hZB,e3,e4,e5] at h6
    exact h6
   have dX : (XV != XV) = false := by simp
   have dN : (NB != NB) = false := by simp
   have dZ : (ZB != ZB) = false := by simp
   clear hXV hNB hZB HRR hcw BS4 BT4 BY4 HCP HCS
   go_upto_region 4 with fail
   obtain ⟨B13,B14,BS5,BT5,BY5⟩ := HBK.out _ (Below.refl _ _)
   have hS : Below wc.heap.size wc wc.drew := (Below.refl _ _).drew
   refine wp_region_held_drew (S := fun w' => Below wc.heap.size wc w') (by kernel_rfl) hS (fun hS => ?_)
   refine rg_take 0 39 (.agg #[.string sn,.slice ma2 mn mc2,.slice ea2 en ec2,.slice ta2 tn2 tc2]) _ rfl rfl (by kernel_rfl) (by kernel_rfl) (by kernel_rfl) (fun _ _ _ h => h) (by rfl) (fun w' hw' => ?_) hS (listed' := bts 33 1) (by kernel_rfl) rfl ?_
   ·have f0 := ((B13.below hw').cell 0).trans rfl; have f1 := ((B13.below hw').cell 1).trans rfl; have f2 := ((B13.below hw').cell 2).trans rfl; have f3 := ((B13.below hw').cell 3).trans rfl; go_simp
   simp only [zsA,zsZ,zsS]
   refine rg_take 1 40 (.string nm) _ rfl rfl (by kernel_rfl) (by kernel_rfl) (by kernel_rfl) (fun _ _ _ h => h) (by rfl) (fun w' hw' => ?_) hS (listed' := bts 33 3) (by kernel_rfl) rfl ?_
   ·go_simp
   simp only [zsA,zsZ,zsS]
   refine rg_take 2 41 (.agg #[.int .i64 K,.int .i64 N,.string S,.slice pe2 Ke ce2,.slice pr2 Kr cr2]) _ rfl rfl (by kernel_rfl) (by kernel_rfl) (by kernel_rfl) (fun _ _ _ h => h) (by rfl) (fun w' hw' => ?_) hS (listed' := bts 33 7) (by kernel_rfl) rfl ?_
   ·have f0 := ((B14.below hw').cell 0).trans rfl; have f1 := ((B14.below hw').cell 1).trans rfl; have f2 := ((B14.below hw').cell 2).trans rfl; have f3 := ((B14.below hw').cell 3).trans rfl; have f4 := ((B14.below hw').cell 4).trans rfl; go_simp
   simp only [zsA,zsZ,zsS]
   refine rg_take 4 43 (.agg #[.string sn,.slice ma mn mc,.slice ea en ec,.slice ta tn tc]) _ rfl rfl (by kernel_rfl) (by kernel_rfl) (by kernel_rfl) (fun _ _ _ h => h) (by rfl) (fun w' hw' => ?_) hS (listed' := bts 33 23) (by kernel_rfl) rfl ?_
   ·have f0 := ((BS5.below hw').cell 0).trans rfl; have f1 := ((BS5.below hw').cell 1).trans rfl; have f2 := ((BS5.below hw').cell 2).trans rfl; have f3 := ((BS5.below hw').cell 3).trans rfl; go_simp
   simp only [zsA,zsZ,zsS]
   refine rg_take 5 44 (.string nm) _ rfl rfl (by kernel_rfl) (by kernel_rfl) (by kernel_rfl) (fun _ _ _ h => h) (by rfl) (fun w' hw' => ?_) hS (listed' := bts 33 55) (by kernel_rfl) rfl ?_
   ·go_simp
   simp only [zsA,zsZ,zsS]
   refine rg_take 6 45 (.agg #[.int .i64 K,.int .i64 N,.string S,.slice pe Ke ce,.slice pr Kr cr]) _ rfl rfl (by kernel_rfl) (by kernel_rfl) (by kernel_rfl) (fun _ _ _ h => h) (by rfl) (fun w' hw' => ?_) hS (listed' := bts 33 119) (by kernel_rfl) rfl ?_
   ·have f0 := ((BT5.below hw').cell 0).trans rfl; have f1 := ((BT5.below hw').cell 1).trans rfl; have f2 := ((BT5.below hw').cell 2).trans rfl; have f3 := ((BT5.below hw').cell 3).trans rfl; have f4 := ((BT5.below hw').cell 4).trans rfl; go_simp
   simp only [zsA,zsZ,zsS]
   refine rg_call 3 42 12 #[.agg #[.string sn,.slice ma2 mn mc2,.slice ea2 en ec2,.slice ta2 tn2 tc2],.string nm,.agg #[.int .i64 K,.int .i64 N,.string S,.slice pe2 Ke ce2,.slice pr2 Kr cr2]] rfl rfl (by kernel_rfl) (by rfl) (listed' := bts 33 127) (by kernel_rfl) (fun W => by go_simp) ?_
   refine (HV1.out _ hS).mono ?_
   rintro ee X1 ⟨rfl,hbX⟩
   have hS0 := hS
   have hS : Below wc.heap.size wc X1 := hS0.trans (hbX.mono hS0.size)
   clear hS0 hbX
   refine ⟨_,rfl,hS,?_⟩
   simp only [zsA,zsZ,zsS]
   refine rg_call 7 46 13 #[.agg #[.string sn,.slice ma mn mc,.slice ea en ec,.slice ta tn tc],.string nm,.agg #[.int .i64 K,.int .i64 N,.string S,.slice pe Ke ce,.slice pr Kr cr]] rfl rfl (by kernel_rfl) (by rfl) (listed' := bts 33 255) (by kernel_rfl) (fun W => by go_simp) ?_
   refine (HV2.out _ hS).mono ?_
   rintro ee X2 ⟨rfl,hbX⟩
   have hS0 := hS
   have hS : Below wc.heap.size wc X2 := hS0.trans (hbX.mono hS0.size)
   clear hS0 hbX
   refine ⟨_,rfl,hS,?_⟩
   simp only [zsA,zsZ,zsS]
   refine rg_take 8 47 (.bool false) _ rfl rfl (by kernel_rfl) (by kernel_rfl) (by kernel_rfl) (fun _ _ _ h => h) (by rfl) (fun w' hw' => ?_) hS (listed' := bts 33 511) (by kernel_rfl) rfl ?_
   ·go_simp
   simp only [zsA,zsZ,zsS]
   refine rg_take 9 48 (.bool false) _ rfl rfl (by kernel_rfl) (by kernel_rfl) (by kernel_rfl) (fun _ _ _ h => h) (by rfl) (fun w' hw' => ?_) hS (listed' := bts 33 1023) (by kernel_rfl) rfl ?_
   ·go_simp
   simp only [zsA,zsZ,zsS]
   refine rg_take 10 49 (.agg #[.int .i64 yk,.string yn]) _ rfl rfl (by kernel_rfl) (by kernel_rfl) (by kernel_rfl) (fun _ _ _ h => h) (by rfl) (fun w' hw' => ?_) hS (listed' := bts 33 2047) (by kernel_rfl) rfl ?_
   ·have f0 := ((BY5.below hw').cell 0).trans rfl; have f1 := ((BY5.below hw').cell 1).trans rfl; go_simp
   simp only [zsA,zsZ,zsS]
   refine rg_take 11 50 (.int .i64 num) _ rfl rfl (by kernel_rfl) (by kernel_rfl) (by kernel_rfl) (fun _ _ _ h => h) (by rfl) (fun w' hw' => ?_) hS (listed' := bts 33 4095) (by kernel_rfl) rfl ?_
   ·go_simp
   simp only [zsA,zsZ,zsS]
   refine rg_take 13 52 (.agg #[.int .i64 yk,.string yn]) _ rfl rfl (by kernel_rfl) (by kernel_rfl) (by kernel_rfl) (fun _ _ _ h => h) (by rfl) (fun w' hw' => ?_) hS (listed' := bts 33 12287) (by kernel_rfl) rfl ?_
   ·have f0 := ((BY5.below hw').cell 0).trans rfl; have f1 := ((BY5.below hw').cell 1).trans rfl; go_simp
   simp only [zsA,zsZ,zsS]
   refine rg_take 14 53 (.int .i64 num) _ rfl rfl (by kernel_rfl) (by kernel_rfl) (by kernel_rfl) (fun _ _ _ h => h) (by rfl) (fun w' hw' => ?_) hS (listed' := bts 33 28671) (by kernel_rfl) rfl ?_
   ·go_simp
   simp only [zsA,zsZ,zsS]
   refine rg_call 12 51 14 #[.agg #[.int .i64 yk,.string yn],.int .i64 num] rfl rfl (by kernel_rfl) (by rfl) (listed' := bts 33 32767) (by kernel_rfl) (fun W => by go_simp) ?_
   refine (HN1.out _).mono ?_
   rintro ee X3 ⟨rfl,hbX⟩
   have hS0 := hS
   have hS : Below wc.heap.size wc X3 := hS0.trans (hbX.mono hS0.size)
   clear hS0 hbX
   refine ⟨_,rfl,hS,?_⟩
   simp only [zsA,zsZ,zsS]
   refine rg_call 15 54 15 #[.agg #[.int .i64 yk,.string yn],.int .i64 num] rfl rfl (by kernel_rfl) (by rfl) (listed' := bts 33 65535) (by kernel_rfl) (fun W => by go_simp) ?_
   refine (HN2.out _).mono ?_
   rintro ee X4 ⟨rfl,hbX⟩
   have hS0 := hS
   have hS : Below wc.heap.size wc X4 := hS0.trans (hbX.mono hS0.size)
   clear hS0 hbX
   refine ⟨_,rfl,hS,?_⟩
   simp only [zsA,zsZ,zsS]
   refine rg_take 16 55 (.bool false) _ rfl rfl (by kernel_rfl) (by kernel_rfl) (by kernel_rfl) (fun _ _ _ h => h) (by rfl) (fun w' hw' => ?_) hS (listed' := bts 33 131071) (by kernel_rfl) rfl ?_
   ·go_simp
   simp only [zsA,zsZ,zsS]
   refine rg_take 17 56 (.bool false) _ rfl rfl (by kernel_rfl) (by kernel_rfl) (by kernel_rfl) (fun _ _ _ h => h) (by rfl) (fun w' hw' => ?_) hS (listed' := bts 33 262143) (by kernel_rfl) rfl ?_
   ·go_simp
   simp only [zsA,zsZ,zsS]
   refine rg_take 18 57 (.bool false) _ rfl rfl (by kernel_rfl) (by kernel_rfl) (by kernel_rfl) (fun _ _ _ h => h) (by rfl) (fun w' hw' => ?_) hS (listed' := bts 33 524287) (by kernel_rfl) rfl ?_
   ·go_simp
   simp only [zsA,zsZ,zsS]
   refine rg_take 19 58 (.agg #[.int .i64 K,.int .i64 N,.string S,.slice pe2 Ke ce2,.slice pr2 Kr cr2]) _ rfl rfl (by kernel_rfl) (by kernel_rfl) (by kernel_rfl) (fun _ _ _ h => h) (by rfl) (fun w' hw' => ?_) hS (listed' := bts 33 1048575) (by kernel_rfl) rfl ?_
   ·have f0 := ((B14.below hw').cell 0).trans rfl; have f1 := ((B14.below hw').cell 1).trans rfl; have f2 := ((B14.below hw').cell 2).trans rfl; have f3 := ((B14.below hw').cell 3).trans rfl; have f4 := ((B14.below hw').cell 4).trans rfl; go_simp
   simp only [zsA,zsZ,zsS]
   refine rg_take 21 60 (.agg #[.int .i64 K,.int .i64 N,.string S,.slice pe Ke ce,.slice pr Kr cr]) _ rfl rfl (by kernel_rfl) (by kernel_rfl) (by kernel_rfl) (fun _ _ _ h => h) (by rfl) (fun w' hw' => ?_) hS (listed' := bts 33 3145727) (by kernel_rfl) rfl ?_
   ·have f0 := ((BT5.below hw').cell 0).trans rfl; have f1 := ((BT5.below hw').cell 1).trans rfl; have f2 := ((BT5.below hw').cell 2).trans rfl; have f3 := ((BT5.below hw').cell 3).trans rfl; have f4 := ((BT5.below hw').cell 4).trans rfl; go_simp
   simp only [zsA,zsZ,zsS]
   refine rg_call 20 59 16 #[.agg #[.int .i64 K,.int .i64 N,.string S,.slice pe2 Ke ce2,.slice pr2 Kr cr2]] rfl rfl (by kernel_rfl) (by rfl) (listed' := bts 33 4194303) (by kernel_rfl) (fun W => by go_simp) ?_
   refine (HZ1.out _).mono ?_
   rintro ee X5 ⟨rfl,hbX⟩
   have hS0 := hS
   have hS : Below wc.heap.size wc X5 := hS0.trans (hbX.mono hS0.size)
   clear hS0 hbX
   refine ⟨_,rfl,hS,?_⟩
   simp only [zsA,zsZ,zsS]
   refine rg_call 22 61 17 #[.agg #[.int .i64 K,.int .i64 N,.string S,.slice pe Ke ce,.slice pr Kr cr]] rfl rfl (by kernel_rfl) (by rfl) (listed' := bts 33 8388607) (by kernel_rfl) (fun W => by go_simp) ?_
   refine (HZ2.out _).mono ?_
   rintro ee X6 ⟨rfl,hbX⟩
   have hS0 := hS
   have hS : Below wc.heap.size wc X6 := hS0.trans (hbX.mono hS0.size)
   clear hS0 hbX
   refine ⟨_,rfl,hS,?_⟩
   simp only [zsA,zsZ,zsS]
   refine rg_take 23 62 (.bool false) _ rfl rfl (by kernel_rfl) (by kernel_rfl) (by kernel_rfl) (fun _ _ _ h => h) (by rfl) (fun w' hw' => ?_) hS (listed' := bts 33 16777215) (by kernel_rfl) rfl ?_
   ·go_simp
   simp only [zsA,zsZ,zsS]
   refine rg_take 24 63 (.bool false) _ rfl rfl (by kernel_rfl) (by kernel_rfl) (by kernel_rfl) (fun _ _ _ h => h) (by rfl) (fun w' hw' => ?_) hS (listed' := bts 33 33554431) (by kernel_rfl) rfl ?_
   ·go_simp
   simp only [zsA,zsZ,zsS]
   refine rg_take 25 64 (.bool false) _ rfl rfl (by kernel_rfl) (by kernel_rfl) (by kernel_rfl) (fun _ _ _ h => h) (by rfl) (fun w' hw' => ?_) hS (listed' := bts 33 67108863) (by kernel_rfl) rfl ?_
   ·go_simp
   simp only [zsA,zsZ,zsS]
   refine rg_take 26 65 (.agg #[.int .i64 K,.int .i64 N,.string S,.slice pe2 Ke ce2,.slice pr2 Kr cr2]) _ rfl rfl (by kernel_rfl) (by kernel_rfl) (by kernel_rfl) (fun _ _ _ h => h) (by rfl) (fun w' hw' => ?_) hS (listed' := bts 33 134217727) (by kernel_rfl) rfl ?_
   ·have f0 := ((B14.below hw').cell 0).trans rfl; have f1 := ((B14.below hw').cell 1).trans rfl; have f2 := ((B14.below hw').cell 2).trans rfl; have f3 := ((B14.below hw').cell 3).trans rfl; have f4 := ((B14.below hw').cell 4).trans rfl; go_simp
   simp only [zsA,zsZ,zsS]
   refine rg_take 28 67 (.agg #[.int .i64 K,.int .i64 N,.string S,.slice pe Ke ce,.slice pr Kr cr]) _ rfl rfl (by kernel_rfl) (by kernel_rfl) (by kernel_rfl) (fun _ _ _ h => h) (by rfl) (fun w' hw' => ?_) hS (listed' := bts 33 402653183) (by kernel_rfl) rfl ?_
   ·have f0 := ((BT5.below hw').cell 0).trans rfl; have f1 := ((BT5.below hw').cell 1).trans rfl; have f2 := ((BT5.below hw').cell 2).trans rfl; have f3 := ((BT5.below hw').cell 3).trans rfl; have f4 := ((BT5.below hw').cell 4).trans rfl; go_simp
   simp only [zsA,zsZ,zsS]
   refine rg_call 27 66 19 #[.agg #[.int .i64 K,.int .i64 N,.string S,.slice pe2 Ke ce2,.slice pr2 Kr cr2]] rfl rfl (by kernel_rfl) (by rfl) (listed' := bts 33 536870911) (by kernel_rfl) (fun W => by go_simp) ?_
   refine Calls.mono (bare_any (HSI.out _ hS).2.1 HSM.out.1 (by have := HSM.out.2; omega)) ?_
   rintro ee X7 ⟨vb,rfl,hvb,hbX⟩
   have HVB7 : Hid (TrW 14 X7 vb (cutT true 14 t)) := hvb
   clear hvb
   have hS0 := hS
   have hS : Below wc.heap.size wc X7 := hS0.trans (hbX.mono hS0.size)
   clear hS0 hbX
   refine ⟨_,rfl,hS,?_⟩
   simp only [zsA,zsZ,zsS]
   refine rg_call 29 68 20 #[.agg #[.int .i64 K,.int .i64 N,.string S,.slice pe Ke ce,.slice pr Kr cr]] rfl rfl (by kernel_rfl) (by rfl) (listed' := bts 33 1073741823) (by kernel_rfl) (fun W => by go_simp) ?_
   refine Calls.mono (rbare_any 14 t _ _ (HSI.out _ hS).2.2.2 HSM.out.1) ?_
   rintro ee X8 ⟨vq,bsq,rfl,hvq,hbX⟩
   have HVQ8 : Hid (TrIn 14 X8 vq (cutT true 14 t) ∧ TrIn 14 X8 vb (cutT true 14 t)) := ⟨hvq.tr,HVB7.out.trInA.below hbX⟩
   clear hvq
   have hS0 := hS
   have hS : Below wc.heap.size wc X8 := hS0.trans (hbX.mono hS0.size)
   clear hS0 hbX
   refine ⟨_,rfl,hS,?_⟩
   simp only [zsA,zsZ,zsS]
   refine rg_call 30 69 18 #[vb,vq] rfl rfl (by kernel_rfl) (by rfl) (listed' := bts 33 2147483647) (by kernel_rfl) (fun W => by go_simp) ?_
   refine Calls.mono (rsame_any 14 14 _ _ _ _ X8 HVQ8.out.2 HVQ8.out.1) ?_
   rintro ee X9 ⟨⟨RS,rfl,hRS⟩,hbX⟩
   obtain rfl : RS = true := hRS.2 rfl
   clear hRS
   have hS0 := hS
   have hS : Below wc.heap.size wc X9 := hS0.trans (hbX.mono hS0.size)
   clear hS0 hbX
   refine ⟨_,rfl,hS,?_⟩
   simp only [zsA,zsZ,zsS]
   refine rg_take 31 70 (.bool false) _ rfl rfl (by kernel_rfl) (by kernel_rfl) (by kernel_rfl) (fun _ _ _ h => h) (by rfl) (fun w' hw' => ?_) hS (listed' := bts 33 4294967295) (by kernel_rfl) rfl ?_
   ·go_simp
   simp only [zsA,zsZ,zsS]
   refine rg_take 32 71 (.bool false) _ rfl rfl (by kernel_rfl) (by kernel_rfl) (by kernel_rfl) (fun _ _ _ h => h) (by rfl) (fun w' hw' => ?_) hS (listed' := bts 33 8589934591) (by kernel_rfl) rfl ?_
   ·go_simp
   simp only [zsA,zsZ,zsS]
   refine wpAnyH_done (by kernel_rfl) ?_ _
   have hbw9 : Below w.heap.size w X9 := hbwc.trans (hS.mono hbwc.size)
   have HB9 : Hid (Below wc.heap.size wc X9) := hS
   obtain ⟨C13,C14,CS9,CT9,CY9⟩ := HBK.out _ hS
   have HRK : Hid (Calls Tryz.prog 21 #[.agg #[.string sn,.slice ma mn mc,.slice ea en ec,.slice ta tn tc]] X9 fun e w' => e = .returned (.int .i64 (checkA s)) ∧ Below X9.heap.size X9 w') := rcheck_any (HSI.out _ hS).2.2.1 HFS.out
   clear hS B13 B14 BS5 BT5 BY5 HV1 HV2 HN1 HN2 HZ1 HZ2 dX dN dZ HVB7 HVQ8
   obtain ⟨CA,hCA⟩ : ∃ z,checkA s = z := ⟨_,rfl⟩
   have HCA : Hid (checkA s = CA) := hCA
   rw [hCA] at HRK
   clear hCA
   have sa0 := (CS9.cell 0).trans rfl
   have sa1 := (CS9.cell 1).trans rfl
   have sa2 := (CS9.cell 2).trans rfl
   have sa3 := (CS9.cell 3).trans rfl
   go_wp2_with fail
   refine HRK.out.mono ?_
   rintro ee Y1 ⟨rfl,hbY⟩
   have hbwY1 : Below w.heap.size w Y1 := hbw9.trans (hbY.mono hbw9.size)
   have HB1 : Hid (Below wc.heap.size wc Y1) := HB9.out.trans (hbY.mono HB9.out.size)
   have CT1 := CT9.below hbY
   clear sa0 sa1 sa2 sa3 hbY hbw9 C13 C14 CS9 CT9 CY9 HRK
   by_cases hC0 : CA = 0
   rotate_left
   ·have dC : (CA != 0) = true := by simpa using hC0
    clear hC0 CT1
    go_wp2_with fail
    refine (awake_any _).mono ?_
    rintro e wz ⟨rfl,hbz⟩
    have hbwz : Below w.heap.size w wz := hbwY1.trans (hbz.mono hbwY1.size)
    clear hbz
    go_wp2_with fail
    go_ret
    exact ⟨rfl,hbwz⟩
   subst hC0
   have HOS : Hid (OkS s) := (checkA_ok s).1 HCA.out
   obtain ⟨CB,hCB⟩ : ∃ z,chkN 14 t = z := ⟨_,rfl⟩
   have HTK : Hid (Calls Tryz.prog 22 #[.agg #[.int .i64 K,.int .i64 N,.string S,.slice pe Ke ce,.slice pr Kr cr]] Y1 fun e w' => e = .returned (.bool CB) ∧ Below Y1.heap.size Y1 w') := (by
    have h6 := rCheck_any 14 t _ Y1 (HSI.out _ HB1.out).2.2.2 (by decide)
    rw [hCB] at h6
    exact h6 : Calls Tryz.prog 22 #[.agg #[.int .i64 K,.int .i64 N,.string S,.slice pe Ke ce,.slice pr Kr cr]] Y1 fun e w' => e = .returned (.bool CB) ∧ Below Y1.heap.size Y1 w')
   clear hCB
   have tb0 := (CT1.cell 0).trans rfl
   have tb1 := (CT1.cell 1).trans rfl
   have tb2 := (CT1.cell 2).trans rfl
   have tb3 := (CT1.cell 3).trans rfl
   have tb4 := (CT1.cell 4).trans rfl
   go_wp2_with fail
   refine HTK.out.mono ?_
   rintro ee Y2 ⟨rfl,hbY⟩
   have hbwY2 : Below w.heap.size w Y2 := hbwY1.trans (hbY.mono hbwY1.size)
   have HB2 : Hid (Below wc.heap.size wc Y2) := HB1.out.trans (hbY.mono HB1.out.size)
   clear tb0 tb1 tb2 tb3 tb4 hbY hbwY1 CT1 HTK HB1
   cases CB with
   | false =>
    skip
    go_wp2_with fail
    refine (awake_any _).mono ?_
    rintro e wz ⟨rfl,hbz⟩
    have hbwz : Below w.heap.size w wz := hbwY2.trans (hbz.mono hbwY2.size)
    clear hbz
    go_wp2_with fail
    go_ret
    exact ⟨rfl,hbwz⟩
   | true =>
    obtain ⟨C13,C14,CS2,CT2,CY2⟩ := HBK.out _ HB2.out
    obtain ⟨GS,hGS⟩ : ∃ z,(getA s nm t tag).isSome = z := ⟨_,rfl⟩
    obtain ⟨GL,hGL⟩ : ∃ z,((getA s nm t tag).getD []) = z := ⟨_,rfl⟩
    obtain ⟨ql,hql⟩ : ∃ z,GL.length = z := ⟨_,rfl⟩
    have HQL : Hid (GL.length = ql) := hql
    have HG1 : Hid (Calls Tryz.prog 23 #[.agg #[.string sn,.slice ma2 mn mc2,.slice ea2 en ec2,.slice ta2 tn2 tc2],.string nm,.agg #[.int .i64 K,.int .i64 N,.string S,.slice pe2 Ke ce2,.slice pr2 Kr cr2],.int .i64 tag] Y2 fun e w' => ∃ r,e = .returned (.tuple #[r,.bool GS]) ∧ TrsR 13 w' r GL ∧ Below Y2.heap.size Y2 w') := (by
     have h6 := get_step 12 (nm := nm) (tag := tag) (HSI.out _ HB2.out).1 HFS.out.few.flds (HSI.out _ HB2.out).2.1 (fun e u W' he h3 h4 => copies_any h4 (HSM.out.1.2.2.2.2 e he).2 (HSM.out.1.2.2.2.2 e he).1 (by
      have h5 := sum_memA he (cntN 13)
      have h6 : 1 + ((subs t.es).map (cntN 13)).sum ≤ 200 := HSM.out.2
      show (e.2.map (cntN 13)).sum ≤ 2000
      omega))
     unfold GetP at h6
     rw [hGS,hGL] at h6
     exact h6 : Calls Tryz.prog 23 #[.agg #[.string sn,.slice ma2 mn mc2,.slice ea2 en ec2,.slice ta2 tn2 tc2],.string nm,.agg #[.int .i64 K,.int .i64 N,.string S,.slice pe2 Ke ce2,.slice pr2 Kr cr2],.int .i64 tag] Y2 fun e w' => ∃ r,e = .returned (.tuple #[r,.bool GS]) ∧ TrsR 13 w' r GL ∧ Below Y2.heap.size Y2 w')
    have HG2 : Hid (∀ W,Below wc.heap.size wc W → Calls Tryz.prog 24 #[.agg #[.string sn,.slice ma mn mc,.slice ea en ec,.slice ta tn tc],.string nm,.agg #[.int .i64 K,.int .i64 N,.string S,.slice pe Ke ce,.slice pr Kr cr],.int .i64 tag] W fun e w' => ∃ r,e = .returned (.tuple #[r,.bool GS]) ∧ TrsIn 13 w' r GL ∧ Below W.heap.size W w') := fun W hW => by
     have h6 := rget_any sn ma ea ta mn mc en ec tn tc 12 t K N S pe pr Ke ce Kr cr nm tag W (HSI.out W hW).2.2.1 HOS.out (HSI.out W hW).2.2.2
     rw [hGS,hGL] at h6
     exact h6
    clear hGS hGL hql
    have sc0 := (C13.cell 0).trans rfl
    have sc1 := (C13.cell 1).trans rfl
    have sc2 := (C13.cell 2).trans rfl
    have sc3 := (C13.cell 3).trans rfl
    have tc0 := (C14.cell 0).trans rfl
    have tc1 := (C14.cell 1).trans rfl
    have tc2 := (C14.cell 2).trans rfl
    have tc3 := (C14.cell 3).trans rfl
    have tc4 := (C14.cell 4).trans rfl
    go_wp2_with fail
    refine Calls.mono HG1.out ?_
    rintro ee Y3 ⟨vg,rfl,hvg,hbY⟩
    obtain ⟨qa,qc,hqv,hq1,hq2, -⟩ := RowP.open hvg
    rw [HQL.out] at hqv hq1
    subst hqv
    unfold maxLen at hq2
    have HVG3 : Hid (TrsR 13 Y3 (.slice qa ql qc) GL) := hvg
    have hbwY3 : Below w.heap.size w Y3 := hbwY2.trans (hbY.mono hbwY2.size)
    have HB3 : Hid (Below wc.heap.size wc Y3) := HB2.out.trans (hbY.mono HB2.out.size)
    obtain ⟨-, -,CS3,CT3, -⟩ := HBK.out _ HB3.out
    clear sc0 sc1 sc2 sc3 tc0 tc1 tc2 tc3 tc4 hvg hbY hbwY2 HB2 HG1 C13 C14 CS2 CT2 CY2
    have sd0 := (CS3.cell 0).trans rfl
    have sd1 := (CS3.cell 1).trans rfl
    have sd2 := (CS3.cell 2).trans rfl
    have sd3 := (CS3.cell 3).trans rfl
    have td0 := (CT3.cell 0).trans rfl
    have td1 := (CT3.cell 1).trans rfl
    have td2 := (CT3.cell 2).trans rfl
    have td3 := (CT3.cell 3).trans rfl
    have td4 := (CT3.cell 4).trans rfl
    go_wp2_with fail
    refine Calls.mono (HG2.out _ HB3.out) ?_
    rintro ee Y4 ⟨vu,rfl,hvu,hbY⟩
    obtain ⟨ua,uc,huv,hu1,hu2, -⟩ := RowP.open hvu
    rw [HQL.out] at huv hu1
    subst huv
    unfold maxLen at hu2
    have HVU4 : Hid (TrsIn 13 Y4 (.slice ua ql uc) GL) := hvu
    have HVG4 : Hid (TrsR 13 Y4 (.slice qa ql qc) GL) := HVG3.out.celT (Cel.ofBelow hbY)
    have hbwY4 : Below w.heap.size w Y4 := hbwY3.trans (hbY.mono hbwY3.size)
    have HB4 : Hid (Below wc.heap.size wc Y4) := HB3.out.trans (hbY.mono HB3.out.size)
    have dG : (GS != GS) = false := by simp
    have dq : ((ql : Int) != (ql : Int)) = false := by simp
    clear sd0 sd1 sd2 sd3 td0 td1 td2 td3 td4 hvu hbY hbwY3 HB3 HG2 CS3 CT3 HVG3
    go_wp2_with fail
    clear dG dq
    go_loopw [19] (fun iv wr => ∃ i : Nat,iv = .int .i64 (i : Int) ∧ i ≤ ql ∧ Below Y4.heap.size Y4 wr) (fun iv _ => ql - (intOf iv).toNat)
    case atStart => exact ⟨0,rfl,by omega,Below.refl _ _⟩
    case round =>
     obtain ⟨i,rfl,hi,hbr⟩ := hrel
     by_cases hlt : i < ql
     ·obtain ⟨x,hx⟩ : ∃ z,GL[i]? = some z := ⟨_,List.getElem?_eq_getElem (by rw [HQL.out]; exact hlt)⟩
      obtain ⟨gq,oq,b1,l1,d1,b2,l2,d2,rfl,p0,p1,p2,p3,p4,hxw⟩ := trsR_get (HVG4.out.celT (Cel.ofBelow hbr)) hx
      obtain ⟨gu,ou,hua,cc⟩ := RowP.get (HVU4.out.belowT hbr) hx
      subst hua
      obtain ⟨b3,l3,d3,b5,l5,d5,r0,r1,r2,r3,r4,hxi⟩ := trs_get cc
      obtain ⟨XK,hXK⟩ : ∃ z,x.kind = z := ⟨_,rfl⟩
      obtain ⟨XN,hXN⟩ : ∃ z,x.n = z := ⟨_,rfl⟩
      obtain ⟨XS,hXS⟩ : ∃ z,x.s = z := ⟨_,rfl⟩
      rw [hXK,hXN,hXS] at hxw hxi
      rw [hXK] at p0 r0
      rw [hXN] at p1 r1
      rw [hXS] at p2 r2
      have HCE : Hid (∀ W,Below wr.heap.size wr W → (W.cell? ⟨gq,oq + i * 5,none⟩ = some (.int .i64 XK) ∧ W.cell? ⟨gq,oq + i * 5 + 1,none⟩ = some (.int .i64 XN) ∧ W.cell? ⟨gq,oq + i * 5 + 2,none⟩ = some (.string XS) ∧ W.cell? ⟨gq,oq + i * 5 + 3,none⟩ = some (.slice b1 l1 d1) ∧ W.cell? ⟨gq,oq + i * 5 + 4,none⟩ = some (.slice b2 l2 d2)) ∧ (W.cell? ⟨gu,ou + i * 5,none⟩ = some (.int .i64 XK) ∧ W.cell? ⟨gu,ou + i * 5 + 1,none⟩ = some (.int .i64 XN) ∧ W.cell? ⟨gu,ou + i * 5 + 2,none⟩ = some (.string XS) ∧ W.cell? ⟨gu,ou + i * 5 + 3,none⟩ = some (.slice b3 l3 d3) ∧ W.cell? ⟨gu,ou + i * 5 + 4,none⟩ = some (.slice b5 l5 d5))) := fun W hW => by
       have hc := Cel.ofBelow hW
       exact ⟨⟨hc.cell p0,hc.cell p1,hc.cell p2,hc.cell p3,hc.cell p4⟩,hc.cell r0,hc.cell r1,hc.cell r2,hc.cell r3,hc.cell r4⟩
      have HSA : Hid (∀ W,Below wr.heap.size wr W → Calls Tryz.prog 18 #[.agg #[.int .i64 XK,.int .i64 XN,.string XS,.slice b1 l1 d1,.slice b2 l2 d2],.agg #[.int .i64 XK,.int .i64 XN,.string XS,.slice b3 l3 d3,.slice b5 l5 d5]] W fun e' w' => e' = .returned (.bool true) ∧ Below W.heap.size W w') := fun W hW => (rsame_any 13 13 x x _ _ W (hxw.trInA.below hW) (hxi.below hW)).mono fun e' w' ⟨⟨RR,h1,h2⟩,h3⟩ => ⟨by rw [h1,h2.2 rfl],h3⟩
      clear hx cc hxw hxi p0 p1 p2 p3 p4 r0 r1 r2 r3 r4 hXK hXN hXS
      go_upto_region 15 with fail
      have hS : Below wr.heap.size wr wr.drew := (Below.refl _ _).drew
      refine wp_region_held_drew (S := fun w' => Below wr.heap.size wr w') (by kernel_rfl) hS (fun hS => ?_)
      refine rg_take 0 113 (.slice (some ⟨gq,oq,none⟩) ql qc) _ rfl rfl (by kernel_rfl) (by kernel_rfl) (by kernel_rfl) (fun _ _ _ h => h) (by rfl) (fun w' hw' => ?_) hS (listed' := bts 10 1) (by kernel_rfl) rfl ?_
      ·go_simp
      simp only [zsA,zsZ,zsS]
      refine rg_take 1 114 (.int .i64 (i : Int)) _ rfl rfl (by kernel_rfl) (by kernel_rfl) (by kernel_rfl) (fun _ _ _ h => h) (by rfl) (fun w' hw' => ?_) hS (listed' := bts 10 3) (by kernel_rfl) rfl ?_
      ·go_simp
      simp only [zsA,zsZ,zsS]
      refine rg_take 2 115 (.pointer (some ⟨gq,oq + i * 5,none⟩)) _ rfl rfl (by kernel_rfl) (by kernel_rfl) (by kernel_rfl) (fun _ _ _ h => h) (by rfl) (fun w' hw' => ?_) hS (listed' := bts 10 7) (by kernel_rfl) rfl ?_
      ·go_simp
      simp only [zsA,zsZ,zsS]
      refine rg_take 3 116 (.agg #[.int .i64 XK,.int .i64 XN,.string XS,.slice b1 l1 d1,.slice b2 l2 d2]) _ rfl rfl (by kernel_rfl) (by kernel_rfl) (by kernel_rfl) (fun _ _ _ h => h) (by rfl) (fun w' hw' => ?_) hS (listed' := bts 10 15) (by kernel_rfl) rfl ?_
      ·obtain ⟨⟨f0,f1,f2,f3,f4⟩, -⟩ := HCE.out _ hw'; go_simp
      simp only [zsA,zsZ,zsS]
      refine rg_take 4 117 (.slice (some ⟨gu,ou,none⟩) ql uc) _ rfl rfl (by kernel_rfl) (by kernel_rfl) (by kernel_rfl) (fun _ _ _ h => h) (by rfl) (fun w' hw' => ?_) hS (listed' := bts 10 31) (by kernel_rfl) rfl ?_
      ·go_simp
      simp only [zsA,zsZ,zsS]
      refine rg_take 5 118 (.int .i64 (i : Int)) _ rfl rfl (by kernel_rfl) (by kernel_rfl) (by kernel_rfl) (fun _ _ _ h => h) (by rfl) (fun w' hw' => ?_) hS (listed' := bts 10 63) (by kernel_rfl) rfl ?_
      ·go_simp
      simp only [zsA,zsZ,zsS]
      refine rg_take 6 119 (.pointer (some ⟨gu,ou + i * 5,none⟩)) _ rfl rfl (by kernel_rfl) (by kernel_rfl) (by kernel_rfl) (fun _ _ _ h => h) (by rfl) (fun w' hw' => ?_) hS (listed' := bts 10 127) (by kernel_rfl) rfl ?_
      ·go_simp
      simp only [zsA,zsZ,zsS]
      refine rg_take 7 120 (.agg #[.int .i64 XK,.int .i64 XN,.string XS,.slice b3 l3 d3,.slice b5 l5 d5]) _ rfl rfl (by kernel_rfl) (by kernel_rfl) (by kernel_rfl) (fun _ _ _ h => h) (by rfl) (fun w' hw' => ?_) hS (listed' := bts 10 255) (by kernel_rfl) rfl ?_
      ·obtain ⟨-,f0,f1,f2,f3,f4⟩ := HCE.out _ hw'; go_simp
      simp only [zsA,zsZ,zsS]
      refine rg_call 8 121 18 #[.agg #[.int .i64 XK,.int .i64 XN,.string XS,.slice b1 l1 d1,.slice b2 l2 d2],.agg #[.int .i64 XK,.int .i64 XN,.string XS,.slice b3 l3 d3,.slice b5 l5 d5]] rfl rfl (by kernel_rfl) (by rfl) (listed' := bts 10 511) (by kernel_rfl) (fun W => by go_simp) ?_
      refine (HSA.out _ hS).mono ?_
      rintro ee W14 ⟨rfl,hbX⟩
      have hS0 := hS
      have hS : Below wr.heap.size wr W14 := hS0.trans (hbX.mono hS0.size)
      clear hS0 hbX
      refine ⟨_,rfl,hS,?_⟩
      simp only [zsA,zsZ,zsS]
      refine rg_take 9 122 (.bool false) _ rfl rfl (by kernel_rfl) (by kernel_rfl) (by kernel_rfl) (fun _ _ _ h => h) (by rfl) (fun w' hw' => ?_) hS (listed' := bts 10 1023) (by kernel_rfl) rfl ?_
      ·go_simp
      simp only [zsA,zsZ,zsS]
      refine wpAnyH_done (by kernel_rfl) ?_ _
      have hbo : Below Y4.heap.size Y4 W14 := hbr.trans (hS.mono hbr.size)
      clear hS HCE HSA
      go_wp2_with fail
      go_roundw
      case rel => exact ⟨i + 1,by go_num,by omega,hbo⟩
      case measure => simp [intOf]; omega
     ·have dlt : decide ((i : Int) < (ql : Int)) = false := by simp; omega
      have HBr : Hid (Below wc.heap.size wc wr) := HB4.out.trans (hbr.mono HB4.out.size)
      have hbwr : Below w.heap.size w wr := hbwY4.trans (hbr.mono hbwY4.size)
      obtain ⟨-,C14, -,CT5, -⟩ := HBK.out _ HBr.out
      have HSA : Hid (Calls Tryz.prog 18 #[.agg #[.int .i64 K,.int .i64 N,.string S,.slice pe2 Ke ce2,.slice pr2 Kr cr2],.agg #[.int .i64 K,.int .i64 N,.string S,.slice pe Ke ce,.slice pr Kr cr]] wr fun e' w' => e' = .returned (.bool true) ∧ Below wr.heap.size wr w') := (rsame_any 14 14 t t _ _ wr (HSI.out _ HBr.out).2.1.trInA (HSI.out _ HBr.out).2.2.2).mono fun e' w' ⟨⟨RR,h1,h2⟩,h3⟩ => ⟨by rw [h1,h2.2 rfl],h3⟩
      have te0 := (C14.cell 0).trans rfl
      have te1 := (C14.cell 1).trans rfl
      have te2 := (C14.cell 2).trans rfl
      have te3 := (C14.cell 3).trans rfl
      have te4 := (C14.cell 4).trans rfl
      have tf0 := (CT5.cell 0).trans rfl
      have tf1 := (CT5.cell 1).trans rfl
      have tf2 := (CT5.cell 2).trans rfl
      have tf3 := (CT5.cell 3).trans rfl
      have tf4 := (CT5.cell 4).trans rfl
      go_wp2_with fail
      refine HSA.out.mono ?_
      rintro ee Y5 ⟨rfl,hbY⟩
      have hbw5 : Below w.heap.size w Y5 := hbwr.trans (hbY.mono hbwr.size)
      clear hbY te0 te1 te2 te3 te4 tf0 tf1 tf2 tf3 tf4 dlt
      go_wp2_with fail
      refine (awake_any _).mono ?_
      rintro e wz ⟨rfl,hbz⟩
      have hbwz : Below w.heap.size w wz := hbw5.trans (hbz.mono hbw5.size)
      clear hbz
      go_wp2_with fail
      go_ret
      exact ⟨rfl,hbwz⟩
end Go.Proofs.YtfnjbbaphmmjlaaGreat

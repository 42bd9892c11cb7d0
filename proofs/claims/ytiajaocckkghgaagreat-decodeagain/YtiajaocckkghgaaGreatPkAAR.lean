/- Part 18 of what the proof stands on. -/
import Derived.Test.YtiajaocckkghgaaGreatPkAAQ
namespace Go.Proofs.YtiajaocckkghgaaGreat
set_option maxHeartbeats 8000000
set_option linter.unusedVariables false
set_option linter.unusedSimpArgs false
set_option maxRecDepth 20000
open Go.ChangeShapes Go.WideShapes Go.ChangeAt Go.RowKit
theorem TrW.v2 {n : Nat} {w : World} {v : Value} {t : Tr} (h : TrW n w v t) : TrV2 n w v t := by
 obtain ⟨r,h1,h2⟩ := h;exact ⟨r,h1,h2.trQ⟩
theorem fits_any {s : ScS} {vs v : Value} {n : Nat} {t : Tr} {nm : ByteArray} {w : World} (hs : ScIn w vs s) (hw : ScW s) (hf : FewL s) (ht : TrW n w v t) (hn : n ≤ 60) (hc : cntN n t ≤ 5000) (hsm : SmN n t) :
  Calls Tryz.prog 24 #[vs,.string nm,v] w fun e w' => e = .returned (.int .i64 (validA n s nm t)) ∧ Below w.heap.size w w' := by
 have hmm := @run_makeMap Tryz.prog;obtain ⟨X,hX⟩ : ∃ X,validA n s nm t = X := ⟨_,rfl⟩;have HV : Hid (validA n s nm t = X) := hX;rw [hX];obtain ⟨m,a1,c1,a2,c2, -,rfl, -⟩ := ht.open;have hs' := hs;obtain ⟨vm,ve,vt,rfl,hms,hen,hmt⟩ := hs;obtain ⟨ma,mc,rfl, -⟩ := hms.open;obtain ⟨ea,ec,rfl, -⟩ := hen.open;obtain ⟨ta,tn,tc,rfl⟩ := row_slice hmt;have HFL : Hid (∀ m ∈ s.msgs,m.fields.length ≤ 20 ∧ m.reserved.length ≤ 40) := hf.flds;generalize s.msgs.length = mn at *;generalize s.enums.length = en at *;generalize t.es.length = n1 at *;generalize t.rest.length = n2 at *;obtain ⟨K,hK⟩ : ∃ z,t.kind = z := ⟨_,rfl⟩;obtain ⟨N,hN⟩ : ∃ z,t.n = z := ⟨_,rfl⟩;obtain ⟨S,hS⟩ : ∃ z,t.s = z := ⟨_,rfl⟩;obtain ⟨sn,hsn⟩ : ∃ z,s.name = z := ⟨_,rfl⟩;have HT3 : Hid (t.kind = K) := hK;rw [hK,hN,hS] at ht ⊢;rw [hsn] at hs' ⊢;have HCK : Hid (∀ W,Below w.heap.size w W → Calls Tryz.prog 30 #[.agg #[.string sn,.slice ma mn mc,.slice ea en ec,.slice ta tn tc]] W fun e w' => e = .returned (.int .i64 (checkA s)) ∧ Below W.heap.size W w') := fun W hW => check_any (hs'.below hW) hw hf
 have HMG : Hid (∀ W,Below w.heap.size w W → Calls Tryz.prog 42 #[.agg #[.string sn,.slice ma mn mc,.slice ea en ec,.slice ta tn tc],.string nm] W fun e w' => ∃ vf vr,e = .returned (.tuple #[.agg #[.string ((msgOf s nm).getD zMs).name,vf,vr],.bool (msgOf s nm).isSome]) ∧ (∃ a n c,vf = .slice a n c) ∧ (∃ a n c,vr = .slice a n c) ∧ Below W.heap.size W w') := fun W hW => by
  refine (cmessage_any (hms.below hW) HFL.out).mono ?_;rintro e w' ⟨vf,vr,rfl,h1,h2,h3⟩;obtain ⟨a,c,rfl⟩ := own_form h1;obtain ⟨a',c',rfl⟩ := own_form h2;exact ⟨_,_,rfl,⟨_,_,_,rfl⟩,⟨_,_,_,rfl⟩,h3⟩
 have HVC : Hid (∀ W,Below w.heap.size w W → Calls Tryz.prog 43 #[.agg #[.int .i64 K,.int .i64 N,.string S,.slice a1 n1 c1,.slice a2 n2 c2]] W fun e w' => e = .returned (.bool (chkN n t)) ∧ Below W.heap.size W w') := fun W hW => vcheck_any n t _ W ((ht.cel (Cel.ofBelow hW)).v2) hn hc hsm
 have HME : Hid (∀ W b,Below w.heap.size w W → KnS s W b → Calls Tryz.prog 44 #[.agg #[.string sn,.slice ma mn mc,.slice ea en ec,.slice ta tn tc,.map (some b)],.string nm,.agg #[.int .i64 K,.int .i64 N,.string S,.slice a1 n1 c1,.slice a2 n2 c2]] W (MesP s (msgV n s nm t) b W)) := fun W b hW hk => message_any s sn ma ea ta mn mc en ec tn tc b HFL.out n t nm _ W (ht.cel (Cel.ofBelow hW)) hk (hs'.below hW)
 have BS : Blk ((w.alloc (Obj.cells #[.string sn,.slice ma mn mc,.slice ea en ec,.slice ta tn tc] 26)).alloc (Obj.cells #[.int .i64 K,.int .i64 N,.string S,.slice a1 n1 c1,.slice a2 n2 c2] 33)) w.heap.size #[.string sn,.slice ma mn mc,.slice ea en ec,.slice ta tn tc] 26 := (Blk.new w _ _).below ((Below.refl _ _).alloc (Nat.le_refl _) _)
 have BT : Blk ((w.alloc (Obj.cells #[.string sn,.slice ma mn mc,.slice ea en ec,.slice ta tn tc] 26)).alloc (Obj.cells #[.int .i64 K,.int .i64 N,.string S,.slice a1 n1 c1,.slice a2 n2 c2] 33)) (w.heap.size + 1) #[.int .i64 K,.int .i64 N,.string S,.slice a1 n1 c1,.slice a2 n2 c2] 33 := by
  have := Blk.new (w.alloc (Obj.cells #[.string sn,.slice ma mn mc,.slice ea en ec,.slice ta tn tc] 26)) #[.int .i64 K,.int .i64 N,.string S,.slice a1 n1 c1,.slice a2 n2 c2] 33
  rwa [show (w.alloc (Obj.cells #[.string sn,.slice ma mn mc,.slice ea en ec,.slice ta tn tc] 26)).heap.size = w.heap.size + 1 from by simp] at this
 have hbw : Below w.heap.size w ((w.alloc (Obj.cells #[.string sn,.slice ma mn mc,.slice ea en ec,.slice ta tn tc] 26)).alloc (Obj.cells #[.int .i64 K,.int .i64 N,.string S,.slice a1 n1 c1,.slice a2 n2 c2] 33)) := ((Below.refl _ _).alloc (Nat.le_refl _) _).alloc (by simp) _;clear hX hK hN hS hsn hs' hms hen hmt ht hw hf hn hc hsm
 go_enter Tryz.func24,Tryz.ntmps24
 go_wp2_with fail;refine (HCK.out _ hbw).mono ?_;rintro ee w1 ⟨rfl,hb1⟩;have hbw1 : Below w.heap.size w w1 := hbw.trans (hb1.mono hbw.size);have BS1 := BS.below hb1;have BT1 := BT.below hb1;clear hb1 hbw BS BT HCK;obtain ⟨A,hA⟩ : ∃ z,checkA s = z := ⟨_,rfl⟩;have HA : Hid (checkA s = A) := hA;rw [hA];clear hA
 by_cases hA0 : A = 0
 rotate_left
 ·have d : (A != 0) = true := by simpa using hA0
  have HX1 : Hid (1 = X) := (by rw [← HV.out,validA,HA.out,if_pos hA0] : 1 = X);clear hA0;go_wp2_with fail;go_ret;exact ⟨congrArg (fun z => Ending.returned (Value.int .i64 z)) HX1.out,hbw1⟩
 ·subst hA0;have f0 := (BS1.cell 0).trans rfl;have f1 := (BS1.cell 1).trans rfl;have f2 := (BS1.cell 2).trans rfl;have f3 := (BS1.cell 3).trans rfl;go_wp2_with fail;refine (HMG.out _ hbw1).mono ?_;rintro ee w2 ⟨vf,vr,rfl,⟨fa,fl,fc,rfl⟩,⟨ra,rl,rc,rfl⟩,hb2⟩;obtain ⟨mnm,hmnm⟩ : ∃ z,((msgOf s nm).getD zMs).name = z := ⟨_,rfl⟩;obtain ⟨ok,hok⟩ : ∃ z,(msgOf s nm).isSome = z := ⟨_,rfl⟩;have HOK : Hid ((msgOf s nm).isSome = ok) := hok;rw [hmnm,hok];have al3 : Below w2.heap.size w2 (w2.alloc (Obj.cells #[.string mnm,.slice fa fl fc,.slice ra rl rc] 50)) := (Below.refl _ _).alloc (Nat.le_refl _) _;have hbw2 : Below w.heap.size w w2 := hbw1.trans (hb2.mono hbw1.size);have hbw3 : Below w.heap.size w (w2.alloc (Obj.cells #[.string mnm,.slice fa fl fc,.slice ra rl rc] 50)) := hbw2.trans (al3.mono hbw2.size);have BS3 := (BS1.below hb2).below al3;have BT3 := (BT1.below hb2).below al3;have HVC3 : Hid (Calls Tryz.prog 43 #[.agg #[.int .i64 K,.int .i64 N,.string S,.slice a1 n1 c1,.slice a2 n2 c2]] (w2.alloc (Obj.cells #[.string mnm,.slice fa fl fc,.slice ra rl rc] 50)) fun e w' => e = .returned (.bool (chkN n t)) ∧ Below (w2.alloc (Obj.cells #[.string mnm,.slice fa fl fc,.slice ra rl rc] 50)).heap.size (w2.alloc (Obj.cells #[.string mnm,.slice fa fl fc,.slice ra rl rc] 50)) w') := HVC.out _ hbw3;clear f0 f1 f2 f3 hmnm hok hb2 hbw1 hbw2 al3 BS1 BT1
  cases ok with
  | false =>
   have HX1 : Hid (14 = X) := (by rw [← HV.out,validA,HA.out,if_neg (by simp),if_pos HOK.out] : 14 = X);go_wp2_with fail;go_ret;exact ⟨congrArg (fun z => Ending.returned (Value.int .i64 z)) HX1.out,hbw3⟩
  | true =>
   have t0 := (BT3.cell 0).trans rfl;have t1 := (BT3.cell 1).trans rfl;have t2 := (BT3.cell 2).trans rfl;have t3 := (BT3.cell 3).trans rfl;have t4 := (BT3.cell 4).trans rfl;go_wp2_with fail;refine HVC3.out.mono ?_;rintro ee w4 ⟨rfl,hb4⟩;have hbw4 : Below w.heap.size w w4 := hbw3.trans (hb4.mono hbw3.size);have BS4 := BS3.below hb4;have BT4 := BT3.below hb4;clear t0 t1 t2 t3 t4 hb4 hbw3 BS3 BT3 HVC3;have t0 := (BT4.cell 0).trans rfl;obtain ⟨C,hC⟩ : ∃ z,chkN n t = z := ⟨_,rfl⟩;have HC : Hid (chkN n t = C) := hC;rw [hC];clear hC
   cases C with
   | false =>
    have HX1 : Hid (1 = X) := (by rw [← HV.out,validA,HA.out,if_neg (by simp),if_neg (by rw [HOK.out]; simp),if_pos (.inl HC.out)] : 1 = X);go_wp2_with fail;go_ret;exact ⟨congrArg (fun z => Ending.returned (Value.int .i64 z)) HX1.out,hbw4⟩
   | true =>
    by_cases hK3 : K = 3
    rotate_left
    ·have d : (K != 3) = true := by simpa using hK3
     have HX1 : Hid (1 = X) := (by rw [← HV.out,validA,HA.out,if_neg (by simp),if_neg (by rw [HOK.out]; simp),if_pos (.inr (by rw [HT3.out]; exact hK3))] : 1 = X);clear hK3;go_wp2_with fail;go_ret;exact ⟨congrArg (fun z => Ending.returned (Value.int .i64 z)) HX1.out,hbw4⟩
    ·have d : (K != 3) = false := by simpa using hK3
     have HX1 : Hid (msgV n s nm t = X) := (by rw [← HV.out,validA,HA.out,if_neg (by simp),if_neg (by rw [HOK.out]; simp),if_neg (by rw [HC.out,HT3.out]; simp [hK3])] : msgV n s nm t = X);have alm : Below w4.heap.size w4 (w4.alloc (.map #[] 0)) := (Below.refl _ _).alloc (Nat.le_refl _) _;have hbw5 : Below w.heap.size w (w4.alloc (.map #[] 0)) := hbw4.trans (alm.mono hbw4.size)
     have HM5 : Hid (Calls Tryz.prog 44 #[.agg #[.string sn,.slice ma mn mc,.slice ea en ec,.slice ta tn tc,.map (some w4.heap.size)],.string nm,.agg #[.int .i64 K,.int .i64 N,.string S,.slice a1 n1 c1,.slice a2 n2 c2]] (w4.alloc (.map #[] 0)) (MesP s X w4.heap.size (w4.alloc (.map #[] 0)))) := (by
      have h1 := HME.out (w4.alloc (.map #[] 0)) w4.heap.size hbw5 (KnS.made s w4);rw [HX1.out] at h1
      exact h1 : Calls Tryz.prog _ _ _ _)
     have BT5 := BT4.below alm;have f0 := (BS4.cell 0).trans rfl;have f1 := (BS4.cell 1).trans rfl;have f2 := (BS4.cell 2).trans rfl;have f3 := (BS4.cell 3).trans rfl;have u0 := (BT5.cell 0).trans rfl;have u1 := (BT5.cell 1).trans rfl;have u2 := (BT5.cell 2).trans rfl;have u3 := (BT5.cell 3).trans rfl;have u4 := (BT5.cell 4).trans rfl;have HLE : Hid (w.heap.size ≤ w4.heap.size) := hbw4.size;clear hK3 HX1 HME HMG HVC BS4 BT4 BT5 alm hbw4;go_wp2_with fail;refine Calls.mono HM5.out ?_;rintro ee w6 ⟨rfl,hk6, -⟩;have hbe : Below w.heap.size w w6 := hbw5.trans (hk6.toBelow hbw5.size (fun q e => by rw [e]; exact HLE.out));clear hk6 hbw5 f0 f1 f2 f3 u0 u1 u2 u3 u4 HM5;go_wp2_with fail;go_ret;exact ⟨rfl,hbe⟩
theorem bytes_any (a : Option Addr) (ns : List Nat) (cap N : Nat) (w : World) (hN : ns.length = N) (hl : N ≤ 140737488355328) (ha : a = none → ns = [] ∧ cap = 0) (hh : Holds w a ns) :
  Calls Tryz.prog 13 #[.slice a N cap] w fun e w' => ∃ r,e = .returned r ∧ w'.ownsRow w.heap.size 5 1 r N (byteCells ns) ∧ Below w.heap.size w w' := by
 have HH : Hid (Holds w a ns) := hh;have HA : Hid (a = none → ns = [] ∧ cap = 0) := ha;have HN : Hid (ns.length = N) := hN;clear hh ha hN
 go_enter Tryz.func13,Tryz.ntmps13
 go_wp2_with (first
  | (at_builtin; refine wpList_join rfl _ _ rfl w.heap.size (.slice none 0 0) 0 [] rfl (World.ownsRow_nil _ _ _ _) a ns _ _ rfl HN.out.symm HA.out HH.out ?c1 ?c2 ?_)
  | fail)
 case c1 => have := HN.out; simp; omega
 case c2 => exact Nat.le_refl _
 intro r w1 ho hg;have hb : Below w.heap.size w w1 := (Below.refl _ _).grown hg (Nat.le_refl _) (fun k hk => by cases hk)
 have HO : Hid (w1.ownsRow w.heap.size 5 1 r N (byteCells ns)) := by
  show World.ownsRow _ _ _ _ _ _ _
  try rw [List.nil_append] at ho
  rw [HN.out] at ho;exact ho
 clear hg ho;go_wp2_with fail;go_ret;exact ⟨_,rfl,HO.out,hb⟩
end Go.Proofs.YtiajaocckkghgaaGreat

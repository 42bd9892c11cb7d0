/- Part 15 of what the proof stands on. -/
import Derived.Test.YtfnjbbaphmmjlaaGreatPkAN
namespace Go.Proofs.YtfnjbbaphmmjlaaGreat
set_option linter.unusedVariables false
set_option linter.unusedSimpArgs false
open Go.ChangeShapes Go.WideShapes Go.ChangeAt Go.RowKit
set_option maxRecDepth 20000
theorem TrIn.partsV {n : Nat} {w : World} {t : Tr} {K N : Int} {S : ByteArray} {a1 a2 : Option Addr} {n1 c1 n2 c2 : Nat} (h : TrIn n w (.agg #[.int .i64 K,.int .i64 N,.string S,.slice a1 n1 c1,.slice a2 n2 c2]) t) : t.kind = K ∧ t.n = N ∧ t.s = S ∧ t.es.length = n1 ∧ t.rest.length = n2 := by
 obtain ⟨m,ve,vr, -,e, -, -, -, -,ra,ea⟩ := h.open
 obtain ⟨pe,ce,rfl, -⟩ := ea.open
 obtain ⟨pr,cr,rfl, -⟩ := rest_holds ra
 simp only [Value.agg.injEq,Array.mk.injEq,List.cons.injEq,Value.int.injEq,Value.string.injEq,Value.slice.injEq,and_true,true_and] at e
 obtain ⟨e1,e2,e3,⟨-,e4, -⟩, -,e5, -⟩ := e
 exact ⟨e1.symm,e2.symm,e3.symm,e4.symm,e5.symm⟩
theorem msgV_first {n : Nat} {s : ScS} {nm : ByteArray} {t : Tr} {a : Int} (h : errF (t.es.map (entV (msgV n s) ((msgOf s nm).getD zMs).fields)) = a) (ha : a ≠ 0) : msgV (n + 1) s nm t = a := by
 rw [msgV,h,if_pos ha]
theorem msgV_rest {n : Nat} {s : ScS} {nm : ByteArray} {t : Tr} {b : Bool} (h : errF (t.es.map (entV (msgV n s) ((msgOf s nm).getD zMs).fields)) = 0) (hb : (t.rest.any fun f => (fldOf ((msgOf s nm).getD zMs).fields f.tag).isSome) = b) : msgV (n + 1) s nm t = if b = true then 7 else 0 := by
 rw [msgV,h,if_neg (by simp),hb]
theorem entV_some {M : ByteArray → Tr → Int} {fs : List FlS} {e : Int × List Tr} {f : FlS} (h : fldOf fs e.1 = some f) (hl : ¬ (f.label ≠ 3 ∧ 1 < e.2.length)) : entV M fs e = errF (e.2.map (oneV M f)) := by
 unfold entV
 rw [h]
 simp only
 rw [if_neg hl]
theorem entV_big {M : ByteArray → Tr → Int} {fs : List FlS} {e : Int × List Tr} {f : FlS} (h : fldOf fs e.1 = some f) (hl : f.label ≠ 3 ∧ 1 < e.2.length) : entV M fs e = 4 := by
 unfold entV
 rw [h]
 simp only
 rw [if_pos hl]
theorem entV_tag {M : ByteArray → Tr → Int} {fs : List FlS} {e : Int × List Tr} (h : fldOf fs e.1 = none) : entV M fs e = 7 := by
 unfold entV
 rw [h]
theorem any_take {α : Type} {l : List α} {p : α → Bool} {i : Nat} {x : α} (hx : l[i]? = some x) (h : (l.take i).any p = false) : (l.take (i + 1)).any p = p x := by
 obtain ⟨hl,rfl⟩ := List.getElem?_eq_some_iff.1 hx
 rw [List.take_succ_eq_append_getElem hl,List.any_append,h]
 simp
theorem any_hit {α : Type} {l : List α} {p : α → Bool} {i : Nat} {x : α} (hx : l[i]? = some x) (h : p x = true) : l.any p = true := List.any_eq_true.2 ⟨x,List.mem_of_getElem? hx,h⟩
theorem below_set5V {B : Nat} {a w : World} (h : Below B a w) {g : Nat} (hg : B ≤ g) (x0 x1 x2 x3 x4 : Value) : Below B a (((((w.setCell ⟨g,0,none⟩ x0).setCell ⟨g,1,none⟩ x1).setCell ⟨g,2,none⟩ x2).setCell ⟨g,3,none⟩ x3).setCell ⟨g,4,none⟩ x4) :=
 Below.setCell (p := ⟨g,4,none⟩) (Below.setCell (p := ⟨g,3,none⟩) (Below.setCell (p := ⟨g,2,none⟩) (Below.setCell (p := ⟨g,1,none⟩) (Below.setCell (p := ⟨g,0,none⟩) h hg _) hg _) hg _) hg _) hg _
set_option maxHeartbeats 8000000 in
theorem rmessage_step (n : Nat) {s : ScS} (sn : ByteArray) (ma ea ta : Option Addr) (mn mc en ec tn tc : Nat) (hkd : ∀ m ∈ s.msgs,∀ f ∈ m.fields,1 ≤ f.kind ∧ f.kind ≤ 7) (w0 : World) (hms : MsIn w0 (.slice ma mn mc) s.msgs)
  (IH : ∀ (x : Tr) (K N : Int) (S : ByteArray) (a1 a2 : Option Addr) (n1 c1 n2 c2 : Nat) (nm qn : ByteArray) (fa ra : Option Addr) (fn fc rn rc : Nat) (W : World),Below w0.heap.size w0 W → TrIn n w0 (.agg #[.int .i64 K,.int .i64 N,.string S,.slice a1 n1 c1,.slice a2 n2 c2]) x → SmN n x → RowG w0 (.slice fa fn fc) 5 (flRows ((msgOf s nm).getD zMs).fields) → Calls Tryz.prog 38 #[.agg #[.string sn,.slice ma mn mc,.slice ea en ec,.slice ta tn tc],.agg #[.string qn,.slice fa fn fc,.slice ra rn rc],.agg #[.int .i64 K,.int .i64 N,.string S,.slice a1 n1 c1,.slice a2 n2 c2]] W fun e w' => e = .returned (.int .i64 (msgV n s nm x)) ∧ Below W.heap.size W w')
  (t : Tr) (K N : Int) (S : ByteArray) (a1 a2 : Option Addr) (n1 c1 n2 c2 : Nat) (nm qn : ByteArray) (fa ra : Option Addr) (fn fc rn rc : Nat) (w : World) (hw0 : Below w0.heap.size w0 w) (ht : TrIn (n + 1) w0 (.agg #[.int .i64 K,.int .i64 N,.string S,.slice a1 n1 c1,.slice a2 n2 c2]) t) (hsm : SmN (n + 1) t) (hf : RowG w0 (.slice fa fn fc) 5 (flRows ((msgOf s nm).getD zMs).fields)) :
  Calls Tryz.prog 38 #[.agg #[.string sn,.slice ma mn mc,.slice ea en ec,.slice ta tn tc],.agg #[.string qn,.slice fa fn fc,.slice ra rn rc],.agg #[.int .i64 K,.int .i64 N,.string S,.slice a1 n1 c1,.slice a2 n2 c2]] w fun e w' => e = .returned (.int .i64 (msgV (n + 1) s nm t)) ∧ Below w.heap.size w w' := by
 have hpt := ht.partsV
 obtain ⟨n',ve,vr,e0,e1, -, -, -, -,hra,hea⟩ := ht.open
 obtain rfl : n' = n := by omega
 obtain ⟨pe,ce,rfl,u1,u2, -⟩ := hea.open
 obtain ⟨pr,cr,rfl,x1,x2, -⟩ := rest_holds hra
 simp only [Value.agg.injEq,Array.mk.injEq,List.cons.injEq,Value.int.injEq,Value.string.injEq,Value.slice.injEq,and_true,true_and] at e1
 obtain ⟨-, -, -,⟨rfl,hn1,rfl⟩,rfl,hn2,rfl⟩ := e1
 rw [← hn1] at u1 hea
 rw [← hn2] at x1 hra
 unfold maxLen at u2 x2
 have HEA : Hid (EnsIn n' w0 (.slice a1 n1 c1) t.es) := hea
 have HRA : Hid (RowG w0 (.slice a2 n2 c2) 4 (fdRows t.rest)) := hra
 have HN : Hid (t.es.length = n1 ∧ t.rest.length = n2) := ⟨hn1.symm,hn2.symm⟩
 have HIH : Hid (∀ (x : Tr) (K N : Int) (S : ByteArray) (a1 a2 : Option Addr) (n1 c1 n2 c2 : Nat) (nm qn : ByteArray) (fa ra : Option Addr) (fn fc rn rc : Nat) (W : World),Below w0.heap.size w0 W → TrIn n' w0 (.agg #[.int .i64 K,.int .i64 N,.string S,.slice a1 n1 c1,.slice a2 n2 c2]) x → SmN n' x → RowG w0 (.slice fa fn fc) 5 (flRows ((msgOf s nm).getD zMs).fields) → Calls Tryz.prog 38 #[.agg #[.string sn,.slice ma mn mc,.slice ea en ec,.slice ta tn tc],.agg #[.string qn,.slice fa fn fc,.slice ra rn rc],.agg #[.int .i64 K,.int .i64 N,.string S,.slice a1 n1 c1,.slice a2 n2 c2]] W fun e w' => e = .returned (.int .i64 (msgV n' s nm x)) ∧ Below W.heap.size W w') := IH
 have HMS : Hid (MsIn w0 (.slice ma mn mc) s.msgs) := hms
 have HW0 : Hid (Below w0.heap.size w0 w) := hw0
 have HSB : Hid (∀ e ∈ t.es,e.2.length ≤ 70 ∧ ∀ x ∈ e.2,SmN n' x) := hsm.2.2.2.2
 have HFR : Hid (RowG w0 (.slice fa fn fc) 5 (flRows ((msgOf s nm).getD zMs).fields)) := hf
 have HKD : Hid (∀ f ∈ ((msgOf s nm).getD zMs).fields,1 ≤ f.kind ∧ f.kind ≤ 7) := (by
  intro f hff
  cases hmo : msgOf s nm with
  | none => rw [hmo] at hff; cases hff
  | some m =>
   rw [hmo] at hff
   exact hkd m (List.mem_of_find?_eq_some hmo) f hff : ∀ f ∈ ((msgOf s nm).getD zMs).fields,1 ≤ f.kind ∧ f.kind ≤ 7)
 have al1 : Below w.heap.size w (w.alloc (Obj.cells #[.string sn,.slice ma mn mc,.slice ea en ec,.slice ta tn tc] 26)) := (Below.refl _ _).alloc (Nat.le_refl _) _
 have hZb : Below w.heap.size w (((w.alloc (Obj.cells #[.string sn,.slice ma mn mc,.slice ea en ec,.slice ta tn tc] 26)).alloc (Obj.cells #[.string qn,.slice fa fn fc,.slice ra rn rc] 50)).alloc (Obj.cells #[.int .i64 K,.int .i64 N,.string S,.slice a1 n1 c1,.slice a2 n2 c2] 30)) := (al1.alloc (by simp) _).alloc (by simp; omega) _
 have BS : Blk (((w.alloc (Obj.cells #[.string sn,.slice ma mn mc,.slice ea en ec,.slice ta tn tc] 26)).alloc (Obj.cells #[.string qn,.slice fa fn fc,.slice ra rn rc] 50)).alloc (Obj.cells #[.int .i64 K,.int .i64 N,.string S,.slice a1 n1 c1,.slice a2 n2 c2] 30)) w.heap.size #[.string sn,.slice ma mn mc,.slice ea en ec,.slice ta tn tc] 26 := ((Blk.new w _ _).below ((Below.refl _ _).alloc (Nat.le_refl _) _)).below ((Below.refl _ _).alloc (Nat.le_refl _) _)
 have BM : Blk (((w.alloc (Obj.cells #[.string sn,.slice ma mn mc,.slice ea en ec,.slice ta tn tc] 26)).alloc (Obj.cells #[.string qn,.slice fa fn fc,.slice ra rn rc] 50)).alloc (Obj.cells #[.int .i64 K,.int .i64 N,.string S,.slice a1 n1 c1,.slice a2 n2 c2] 30)) (w.heap.size + 1) #[.string qn,.slice fa fn fc,.slice ra rn rc] 50 := by
  have := Blk.new (w.alloc (Obj.cells #[.string sn,.slice ma mn mc,.slice ea en ec,.slice ta tn tc] 26)) #[.string qn,.slice fa fn fc,.slice ra rn rc] 50
  rw [show (w.alloc (Obj.cells #[.string sn,.slice ma mn mc,.slice ea en ec,.slice ta tn tc] 26)).heap.size = w.heap.size + 1 from by simp] at this
  exact this.below ((Below.refl _ _).alloc (Nat.le_refl _) _)
 have BT : Blk (((w.alloc (Obj.cells #[.string sn,.slice ma mn mc,.slice ea en ec,.slice ta tn tc] 26)).alloc (Obj.cells #[.string qn,.slice fa fn fc,.slice ra rn rc] 50)).alloc (Obj.cells #[.int .i64 K,.int .i64 N,.string S,.slice a1 n1 c1,.slice a2 n2 c2] 30)) (w.heap.size + 1 + 1) #[.int .i64 K,.int .i64 N,.string S,.slice a1 n1 c1,.slice a2 n2 c2] 30 := by
  have := Blk.new ((w.alloc (Obj.cells #[.string sn,.slice ma mn mc,.slice ea en ec,.slice ta tn tc] 26)).alloc (Obj.cells #[.string qn,.slice fa fn fc,.slice ra rn rc] 50)) #[.int .i64 K,.int .i64 N,.string S,.slice a1 n1 c1,.slice a2 n2 c2] 30
  rwa [show ((w.alloc (Obj.cells #[.string sn,.slice ma mn mc,.slice ea en ec,.slice ta tn tc] 26)).alloc (Obj.cells #[.string qn,.slice fa fn fc,.slice ra rn rc] 50)).heap.size = w.heap.size + 1 + 1 from by simp] at this
 have hbz0 : Below w0.heap.size w0 (((w.alloc (Obj.cells #[.string sn,.slice ma mn mc,.slice ea en ec,.slice ta tn tc] 26)).alloc (Obj.cells #[.string qn,.slice fa fn fc,.slice ra rn rc] 50)).alloc (Obj.cells #[.int .i64 K,.int .i64 N,.string S,.slice a1 n1 c1,.slice a2 n2 c2] 30)) := hw0.trans (hZb.mono hw0.size)
 clear IH hms hkd hsm hf ht hpt hea hra e0 hn1 hn2 hw0 al1
 go_enter Tryz.func38,Tryz.ntmps38
 go_wp2_with fail
 generalize (((w.alloc (Obj.cells #[.string sn,.slice ma mn mc,.slice ea en ec,.slice ta tn tc] 26)).alloc (Obj.cells #[.string qn,.slice fa fn fc,.slice ra rn rc] 50)).alloc (Obj.cells #[.int .i64 K,.int .i64 N,.string S,.slice a1 n1 c1,.slice a2 n2 c2] 30)) = Z at *
 obtain ⟨q,hq⟩ : ∃ z,w.heap.size = z := ⟨_,rfl⟩
 have HQ : Hid (w.heap.size = q) := hq
 rw [hq] at BS BM BT
 simp only [hq]
 clear hq
 have HBK : Hid (∀ W,Below Z.heap.size Z W → Blk W q #[.string sn,.slice ma mn mc,.slice ea en ec,.slice ta tn tc] 26 ∧ Blk W (q + 1) #[.string qn,.slice fa fn fc,.slice ra rn rc] 50 ∧ Blk W (q + 1 + 1) #[.int .i64 K,.int .i64 N,.string S,.slice a1 n1 c1,.slice a2 n2 c2] 30) := fun W hW => ⟨BS.below hW,BM.below hW,BT.below hW⟩
 clear BS BM BT
 go_loopw [7] (fun iv wr => ∃ i : Nat,iv = .int .i64 (i : Int) ∧ i ≤ n1 ∧ Hid (errF ((t.es.take i).map (entV (msgV n' s) ((msgOf s nm).getD zMs).fields)) = 0) ∧ Below Z.heap.size Z wr) (fun iv _ => n1 - (intOf iv).toNat)
 case atStart => exact ⟨0,rfl,by omega,(by simp [errF] : errF ((t.es.take 0).map (entV (msgV n' s) ((msgOf s nm).getD zMs).fields)) = 0),Below.refl _ _⟩
 case round =>
  obtain ⟨i,rfl,hi,HER,hbr⟩ := hrel
  obtain ⟨BS,BM,BT⟩ := HBK.out _ hbr
  have t3 := (BT.cell 3).trans rfl
  by_cases hlt : i < n1
  ·obtain ⟨e,hx⟩ : ∃ r,t.es[i]? = some r := ⟨_,List.getElem?_eq_getElem (by rw [HN.out.1]; exact hlt)⟩
   have hbw0 : Below w0.heap.size w0 wr := hbz0.trans (hbr.mono hbz0.size)
   have hbwr : Below w.heap.size w wr := hZb.trans (hbr.mono hZb.size)
   obtain ⟨ge,off,rfl,cc⟩ := (HEA.out.belowE hbw0).get hx
   obtain ⟨vt,p0,p1,p2, -⟩ := ens_at cc
   obtain ⟨ge',off',hge,cc0⟩ := HEA.out.get hx
   simp only [Option.some.injEq,Addr.mk.injEq,and_true] at hge
   obtain ⟨rfl,rfl⟩ := hge
   obtain ⟨vt0,q0,q1, -,q3⟩ := ens_at cc0
   have hvt : vt = vt0 := by
    have := (hbw0.cell (World.block_lt_of_cell? _ _ q1)).trans q1
    rw [p1] at this
    simpa using this
   subst hvt
   obtain ⟨pt,ct,hvt,v1,v2, -⟩ := q3.open
   obtain ⟨Kt,hKt⟩ : ∃ z,e.2.length = z := ⟨_,rfl⟩
   rw [hKt] at hvt v1
   subst hvt
   have HTS : Hid (TrsIn n' w0 (.slice pt Kt ct) e.2) := q3
   have HX : Hid (t.es[i]? = some e ∧ e.2.length = Kt) := ⟨hx,hKt⟩
   have hkt : Kt ≤ 70 := by rw [← hKt]; exact (HSB.out e (List.mem_of_getElem? hx)).1
   obtain ⟨xt,hxt⟩ : ∃ z,e.1 = z := ⟨_,rfl⟩
   have HXT : Hid (e.1 = xt) := hxt
   rw [hxt] at p0
   unfold maxLen at v2
   have al8 : Below wr.heap.size wr (wr.alloc (Obj.cells #[.int .i64 xt,.slice pt Kt ct] 58)) := (Below.refl _ _).alloc (Nat.le_refl _) _
   have hb8 : Below Z.heap.size Z (wr.alloc (Obj.cells #[.int .i64 xt,.slice pt Kt ct] 58)) := hbr.trans (al8.mono hbr.size)
   have BE8 : Blk (wr.alloc (Obj.cells #[.int .i64 xt,.slice pt Kt ct] 58)) wr.heap.size #[.int .i64 xt,.slice pt Kt ct] 58 := Blk.new wr _ _
   have BM8 := BM.below al8
   have m0 := (BM8.cell 0).trans rfl
   have m1 := (BM8.cell 1).trans rfl
   have m2 := (BM8.cell 2).trans rfl
   have HFC : Hid (Calls Tryz.prog 27 #[.agg #[.string qn,.slice fa fn fc,.slice ra rn rc],.int .i64 xt] (wr.alloc (Obj.cells #[.int .i64 xt,.slice pt Kt ct] 58)) fun e' w' => e' = .returned (.tuple #[flV ((fldOf ((msgOf s nm).getD zMs).fields xt).getD zeroF),.bool (fldOf ((msgOf s nm).getD zMs).fields xt).isSome]) ∧ Below (wr.alloc (Obj.cells #[.int .i64 xt,.slice pt Kt ct] 58)).heap.size (wr.alloc (Obj.cells #[.int .i64 xt,.slice pt Kt ct] 58)) w') := r7field_any (HFR.out.below (hbz0.trans (hb8.mono hbz0.size)))
   clear hx cc cc0 p2 q0 q1 q3 hKt hxt hbw0 hbwr al8 hbr BS BM BT BM8
   go_wp2_with fail
   refine HFC.out.mono ?_
   generalize (wr.alloc (Obj.cells #[.int .i64 xt,.slice pt Kt ct] 58)) = W8 at *
   obtain ⟨b8,hb8e⟩ : ∃ z,wr.heap.size = z := ⟨_,rfl⟩
   rw [hb8e] at BE8
   simp only [hb8e]
   clear hb8e
   rintro ee w9 ⟨rfl,hb9⟩
   have hb79 : Below Z.heap.size Z w9 := hb8.trans (hb9.mono hb8.size)
   have hbw9 : Below w.heap.size w w9 := hZb.trans (hb79.mono hZb.size)
   have BE9 := BE8.below hb9
   clear m0 m1 m2 t3 p0 p1 HFC hb9 hb8 BE8
   cases hfo : fldOf ((msgOf s nm).getD zMs).fields xt with
   | none =>
    simp only [Option.isSome_none,Option.getD_none]
    have HV : Hid (msgV (n' + 1) s nm t = 7) := msgV_first (by
     have h1 : entV (msgV n' s) ((msgOf s nm).getD zMs).fields e = 7 := entV_tag (by rw [HXT.out]; exact hfo)
     rw [errF_hit HX.out.1 HER.out (by rw [h1]; decide),h1]) (by decide)
    have hbwf : Below w.heap.size w (w9.alloc (Obj.cells #[.string ⟨#[]⟩,.int .i64 0,.int .i64 0,.int .i64 0,.string ⟨#[]⟩] 54)) := hbw9.alloc hbw9.size _
    clear hfo HER BE9
    simp only [flV,zeroF]
    go_wp2_with fail
    go_ret
    exact ⟨congrArg (fun z : Int => Ending.returned (Value.int .i64 z)) HV.out.symm,hbwf⟩
   | some f =>
    simp only [Option.isSome_some,Option.getD_some]
    obtain ⟨y1,y2,y3,y4,y5⟩ := f
    simp only [flV]
    have HFO : Hid (fldOf ((msgOf s nm).getD zMs).fields e.1 = some (⟨y1,y2,y3,y4,y5⟩ : FlS)) := (by rw [HXT.out]; exact hfo : fldOf ((msgOf s nm).getD zMs).fields e.1 = some (⟨y1,y2,y3,y4,y5⟩ : FlS))
    have HK4 : Hid (1 ≤ y4 ∧ y4 ≤ 7) := HKD.out _ (List.mem_of_find?_eq_some hfo)
    have al10 : Below w9.heap.size w9 (w9.alloc (Obj.cells #[.string y1,.int .i64 y2,.int .i64 y3,.int .i64 y4,.string y5] 54)) := (Below.refl _ _).alloc (Nat.le_refl _) _
    have hb10 : Below Z.heap.size Z (w9.alloc (Obj.cells #[.string y1,.int .i64 y2,.int .i64 y3,.int .i64 y4,.string y5] 54)) := hb79.trans (al10.mono hb79.size)
    have hbw10 : Below w.heap.size w (w9.alloc (Obj.cells #[.string y1,.int .i64 y2,.int .i64 y3,.int .i64 y4,.string y5] 54)) := hbw9.trans (al10.mono hbw9.size)
    have BF10 : Blk (w9.alloc (Obj.cells #[.string y1,.int .i64 y2,.int .i64 y3,.int .i64 y4,.string y5] 54)) w9.heap.size #[.string y1,.int .i64 y2,.int .i64 y3,.int .i64 y4,.string y5] 54 := Blk.new w9 _ _
    have BE10 := BE9.below al10
    have g2 := (BF10.cell 2).trans rfl
    have e1 := (BE10.cell 1).trans rfl
    have h78 : b8 < w9.heap.size := BE9.lt
    clear hfo al10 hb79 hbw9 BE9
    by_cases hl3 : y3 = 3
    ·have dl : (y3 != 3) = false := by simp [hl3]
     have HL3 : Hid (y3 = 3) := hl3
     clear hl3
     go_wp2_with fail
     clear g2 e1 dl
     generalize (w9.alloc (Obj.cells #[.string y1,.int .i64 y2,.int .i64 y3,.int .i64 y4,.string y5] 54)) = W10 at *
     obtain ⟨b9,hb9e⟩ : ∃ z,w9.heap.size = z := ⟨_,rfl⟩
     rw [hb9e] at BF10
     simp only [hb9e]
     clear hb9e h78
     have HBE : Hid (∀ W,Below W10.heap.size W10 W → Blk W b9 #[.string y1,.int .i64 y2,.int .i64 y3,.int .i64 y4,.string y5] 54 ∧ Blk W b8 #[.int .i64 xt,.slice pt Kt ct] 58 ∧ Blk W q #[.string sn,.slice ma mn mc,.slice ea en ec,.slice ta tn tc] 26) := fun W hW => ⟨BF10.below hW,BE10.below hW,(HBK.out W (hb10.trans (hW.mono hb10.size))).1⟩
     clear BF10 BE10
     go_loopw [11] (fun kv wz => ∃ k : Nat,kv = .int .i64 (k : Int) ∧ k ≤ Kt ∧ Hid (errF ((e.2.take k).map (oneV (msgV n' s) (⟨y1,y2,y3,y4,y5⟩ : FlS))) = 0) ∧ Below W10.heap.size W10 wz) (fun kv _ => Kt - (intOf kv).toNat)
     case atStart => exact ⟨0,rfl,by omega,(by simp [errF] : errF ((e.2.take 0).map (oneV (msgV n' s) (⟨y1,y2,y3,y4,y5⟩ : FlS))) = 0),Below.refl _ _⟩
     case round =>
      obtain ⟨k,rfl,hk,HEK,hbk⟩ := hrel
      obtain ⟨BF,BE,BS⟩ := HBE.out _ hbk
      have e1 := (BE.cell 1).trans rfl
      by_cases hkl : k < Kt
      ·obtain ⟨x,hx⟩ : ∃ r,e.2[k]? = some r := ⟨_,List.getElem?_eq_getElem (by rw [HX.out.2]; exact hkl)⟩
       obtain ⟨g3,off3,rfl,k1⟩ := HTS.out.get hx
       obtain ⟨z1,l1,d1,z2,l2,d2,r0,r1,r2,r3,r4,r5⟩ := trs_get k1
       have hxp := r5.partsV
       have hxs : x.s.size ≤ 5000 := by
        have h1 := (HSB.out e (List.mem_of_getElem? HX.out.1)).2 x (List.mem_of_getElem? hx)
        cases n' with
        | zero => exact h1.elim
        | succ n' => exact h1.1
       have HSX : Hid (SmN n' x) := (HSB.out e (List.mem_of_getElem? HX.out.1)).2 x (List.mem_of_getElem? hx)
       obtain ⟨XK,hXK⟩ : ∃ z,x.kind = z := ⟨_,rfl⟩
       obtain ⟨XN,hXN⟩ : ∃ z,x.n = z := ⟨_,rfl⟩
       obtain ⟨XS,hXS⟩ : ∃ z,x.s = z := ⟨_,rfl⟩
       rw [hXK] at r0 r5
       rw [hXN] at r1 r5
       rw [hXS] at r2 r5
       have hbwk : Below w0.heap.size w0 wr := hbz0.trans ((hb10.trans (hbk.mono hb10.size)).mono hbz0.size)
       have HCE : Hid (∀ W,Below wr.heap.size wr W → W.cell? ⟨g3,off3 + k * 5,none⟩ = some (.int .i64 XK) ∧ W.cell? ⟨g3,off3 + k * 5 + 1,none⟩ = some (.int .i64 XN) ∧ W.cell? ⟨g3,off3 + k * 5 + 2,none⟩ = some (.string XS) ∧ W.cell? ⟨g3,off3 + k * 5 + 3,none⟩ = some (.slice z1 l1 d1) ∧ W.cell? ⟨g3,off3 + k * 5 + 4,none⟩ = some (.slice z2 l2 d2)) := fun W hW => by
        have hb : Below w0.heap.size w0 W := hbwk.trans (hW.mono hbwk.size)
        exact ⟨(hb.cell (World.block_lt_of_cell? _ _ r0)).trans r0,(hb.cell (World.block_lt_of_cell? _ _ r1)).trans r1,(hb.cell (World.block_lt_of_cell? _ _ r2)).trans r2,(hb.cell (World.block_lt_of_cell? _ _ r3)).trans r3,(hb.cell (World.block_lt_of_cell? _ _ r4)).trans r4⟩
       obtain ⟨R,hR⟩ : ∃ z,oneV (msgV n' s) (⟨y1,y2,y3,y4,y5⟩ : FlS) x = z := ⟨_,rfl⟩
       have HR : Hid (oneV (msgV n' s) (⟨y1,y2,y3,y4,y5⟩ : FlS) x = R) := hR
       have HOC : Hid (∀ W,Below w0.heap.size w0 W → Calls Tryz.prog 68 #[.agg #[.string sn,.slice ma mn mc,.slice ea en ec,.slice ta tn tc],.agg #[.string y1,.int .i64 y2,.int .i64 y3,.int .i64 y4,.string y5],.agg #[.int .i64 XK,.int .i64 XN,.string XS,.slice z1 l1 d1,.slice z2 l2 d2]] W fun e' w' => e' = .returned (.int .i64 R) ∧ Below W.heap.size W w') := fun W hW => by
        have h1 := rone_step n' (s := s) sn ma ea ta mn mc en ec tn tc x XK XN XS z1 z2 l1 d1 l2 d2 y1 y2 y3 y4 y5 w0 W hW HMS.out ⟨hXK,hXN,hXS,hxp.2.2.2.1,hxp.2.2.2.2⟩ (by rw [← hXS]; exact hxs) HK4.out (fun _ W' qn' vf vr hW' h5 h6 => by
         obtain ⟨fa',fn',fc',rfl⟩ := row_sliceV h5
         obtain ⟨ra',rn',rc',rfl⟩ := row_sliceV h6
         exact HIH.out x XK XN XS z1 z2 l1 d1 l2 d2 y5 qn' fa' ra' fn' fc' rn' rc' W' hW' r5 HSX.out h5)
        rw [hR] at h1
        exact h1
       have HXK : Hid (e.2[k]? = some x) := hx
       clear k1 r0 r1 r2 r3 r4 r5 hxp hxs hXK hXN hXS hR hx
       go_upto_region 13 with fail
       clear e1
       have hS : Below wr.heap.size wr wr.drew := (Below.refl _ _).drew
       by_cases hR0 : R = 0
       rotate_left
       ·have dR : (R != 0) = true := by simpa using hR0
        have HV : Hid (msgV (n' + 1) s nm t = R) := msgV_first (by
         have h1 : entV (msgV n' s) ((msgOf s nm).getD zMs).fields e = R := by
          rw [entV_some HFO.out (by rw [HX.out.2]; exact fun h => h.1 HL3.out),errF_hit HXK.out HEK.out (by rw [HR.out]; exact hR0),HR.out]
         rw [errF_hit HX.out.1 HER.out (by rw [h1]; exact hR0),h1]) hR0
        clear hR0
        refine wp_region_held_drew (S := fun w' => Below wr.heap.size wr w') (by kernel_rfl) hS (fun hS => ?_)
        refine rg_take 0 53 (.agg #[.string sn,.slice ma mn mc,.slice ea en ec,.slice ta tn tc]) _ rfl rfl (by kernel_rfl) (by kernel_rfl) (by kernel_rfl) (fun _ _ _ h => h) (by rfl) (fun w' hw' => ?_) hS (listed' := bts 9 1) (by kernel_rfl) rfl ?_
        ·have f0 := ((BS.below hw').cell 0).trans rfl; have f1 := ((BS.below hw').cell 1).trans rfl; have f2 := ((BS.below hw').cell 2).trans rfl; have f3 := ((BS.below hw').cell 3).trans rfl; go_simp
        simp only [zsA,zsZ,zsS]
        refine rg_take 1 54 (.agg #[.string y1,.int .i64 y2,.int .i64 y3,.int .i64 y4,.string y5]) _ rfl rfl (by kernel_rfl) (by kernel_rfl) (by kernel_rfl) (fun _ _ _ h => h) (by rfl) (fun w' hw' => ?_) hS (listed' := bts 9 3) (by kernel_rfl) rfl ?_
        ·have f0 := ((BF.below hw').cell 0).trans rfl; have f1 := ((BF.below hw').cell 1).trans rfl; have f2 := ((BF.below hw').cell 2).trans rfl; have f3 := ((BF.below hw').cell 3).trans rfl; have f4 := ((BF.below hw').cell 4).trans rfl; go_simp
        simp only [zsA,zsZ,zsS]
        refine rg_take 2 55 (.pointer (some ⟨b8,1,none⟩)) _ rfl rfl (by kernel_rfl) (by kernel_rfl) (by kernel_rfl) (fun _ _ _ h => h) (by rfl) (fun w' hw' => ?_) hS (listed' := bts 9 7) (by kernel_rfl) rfl ?_
        ·go_simp
        simp only [zsA,zsZ,zsS]
        refine rg_take 3 56 (.slice (some ⟨g3,off3,none⟩) Kt ct) _ rfl rfl (by kernel_rfl) (by kernel_rfl) (by kernel_rfl) (fun _ _ _ h => h) (by rfl) (fun w' hw' => ?_) hS (listed' := bts 9 15) (by kernel_rfl) rfl ?_
        ·have f1 := ((BE.below hw').cell 1).trans rfl; go_simp
        simp only [zsA,zsZ,zsS]
        refine rg_take 4 57 (.int .i64 (k : Int)) _ rfl rfl (by kernel_rfl) (by kernel_rfl) (by kernel_rfl) (fun _ _ _ h => h) (by rfl) (fun w' hw' => ?_) hS (listed' := bts 9 31) (by kernel_rfl) rfl ?_
        ·go_simp
        simp only [zsA,zsZ,zsS]
        refine rg_take 5 58 (.pointer (some ⟨g3,off3 + k * 5,none⟩)) _ rfl rfl (by kernel_rfl) (by kernel_rfl) (by kernel_rfl) (fun _ _ _ h => h) (by rfl) (fun w' hw' => ?_) hS (listed' := bts 9 63) (by kernel_rfl) rfl ?_
        ·go_simp
        simp only [zsA,zsZ,zsS]
        refine rg_take 6 59 (.agg #[.int .i64 XK,.int .i64 XN,.string XS,.slice z1 l1 d1,.slice z2 l2 d2]) _ rfl rfl (by kernel_rfl) (by kernel_rfl) (by kernel_rfl) (fun _ _ _ h => h) (by rfl) (fun w' hw' => ?_) hS (listed' := bts 9 127) (by kernel_rfl) rfl ?_
        ·obtain ⟨f0,f1,f2,f3,f4⟩ := HCE.out _ hw'; go_simp
        simp only [zsA,zsZ,zsS]
        refine rg_call 7 60 68 #[.agg #[.string sn,.slice ma mn mc,.slice ea en ec,.slice ta tn tc],.agg #[.string y1,.int .i64 y2,.int .i64 y3,.int .i64 y4,.string y5],.agg #[.int .i64 XK,.int .i64 XN,.string XS,.slice z1 l1 d1,.slice z2 l2 d2]] rfl rfl (by kernel_rfl) (by rfl) (listed' := bts 9 255) (by kernel_rfl) (fun W => by go_simp) ?_
        refine (HOC.out _ (hbwk.trans (hS.mono hbwk.size))).mono ?_
        rintro ee W14 ⟨rfl,hbW14⟩
        have hS0 := hS
        have hS : Below wr.heap.size wr W14 := hS0.trans (hbW14.mono hS0.size)
        clear hS0 hbW14
        refine ⟨_,rfl,hS,?_⟩
        simp only [zsA,zsZ,zsS]
        refine rg_take 8 12 (.int .i64 R) _ rfl rfl (by kernel_rfl) (by kernel_rfl) (by kernel_rfl) (fun _ _ _ h => h) (by rfl) (fun w' hw' => ?_) hS (listed' := bts 9 511) (by kernel_rfl) rfl ?_
        ·go_simp
        simp only [zsA,zsZ,zsS]
        refine wpAnyH_done (by kernel_rfl) ?_ _
        have hbW : Below W10.heap.size W10 W14 := hbk.trans (hS.mono hbk.size)
        clear hS BS BF BE HCE HOC
        have hbwe : Below w.heap.size w W14 := hbw10.trans (hbW.mono hbw10.size)
        go_wp2_with fail
        go_ret
        exact ⟨congrArg (fun z : Int => Ending.returned (Value.int .i64 z)) HV.out.symm,hbwe⟩
       ·subst hR0
        have HEK2 : Hid (errF ((e.2.take (k + 1)).map (oneV (msgV n' s) (⟨y1,y2,y3,y4,y5⟩ : FlS))) = 0) := errF_on HXK.out HEK.out HR.out
        refine wp_region_held_drew (S := fun w' => Below wr.heap.size wr w') (by kernel_rfl) hS (fun hS => ?_)
        refine rg_take 0 53 (.agg #[.string sn,.slice ma mn mc,.slice ea en ec,.slice ta tn tc]) _ rfl rfl (by kernel_rfl) (by kernel_rfl) (by kernel_rfl) (fun _ _ _ h => h) (by rfl) (fun w' hw' => ?_) hS (listed' := bts 9 1) (by kernel_rfl) rfl ?_
        ·have f0 := ((BS.below hw').cell 0).trans rfl; have f1 := ((BS.below hw').cell 1).trans rfl; have f2 := ((BS.below hw').cell 2).trans rfl; have f3 := ((BS.below hw').cell 3).trans rfl; go_simp
        simp only [zsA,zsZ,zsS]
        refine rg_take 1 54 (.agg #[.string y1,.int .i64 y2,.int .i64 y3,.int .i64 y4,.string y5]) _ rfl rfl (by kernel_rfl) (by kernel_rfl) (by kernel_rfl) (fun _ _ _ h => h) (by rfl) (fun w' hw' => ?_) hS (listed' := bts 9 3) (by kernel_rfl) rfl ?_
        ·have f0 := ((BF.below hw').cell 0).trans rfl; have f1 := ((BF.below hw').cell 1).trans rfl; have f2 := ((BF.below hw').cell 2).trans rfl; have f3 := ((BF.below hw').cell 3).trans rfl; have f4 := ((BF.below hw').cell 4).trans rfl; go_simp
        simp only [zsA,zsZ,zsS]
        refine rg_take 2 55 (.pointer (some ⟨b8,1,none⟩)) _ rfl rfl (by kernel_rfl) (by kernel_rfl) (by kernel_rfl) (fun _ _ _ h => h) (by rfl) (fun w' hw' => ?_) hS (listed' := bts 9 7) (by kernel_rfl) rfl ?_
        ·go_simp
        simp only [zsA,zsZ,zsS]
        refine rg_take 3 56 (.slice (some ⟨g3,off3,none⟩) Kt ct) _ rfl rfl (by kernel_rfl) (by kernel_rfl) (by kernel_rfl) (fun _ _ _ h => h) (by rfl) (fun w' hw' => ?_) hS (listed' := bts 9 15) (by kernel_rfl) rfl ?_
        ·have f1 := ((BE.below hw').cell 1).trans rfl; go_simp
        simp only [zsA,zsZ,zsS]
        refine rg_take 4 57 (.int .i64 (k : Int)) _ rfl rfl (by kernel_rfl) (by kernel_rfl) (by kernel_rfl) (fun _ _ _ h => h) (by rfl) (fun w' hw' => ?_) hS (listed' := bts 9 31) (by kernel_rfl) rfl ?_
        ·go_simp
        simp only [zsA,zsZ,zsS]
        refine rg_take 5 58 (.pointer (some ⟨g3,off3 + k * 5,none⟩)) _ rfl rfl (by kernel_rfl) (by kernel_rfl) (by kernel_rfl) (fun _ _ _ h => h) (by rfl) (fun w' hw' => ?_) hS (listed' := bts 9 63) (by kernel_rfl) rfl ?_
        ·go_simp
        simp only [zsA,zsZ,zsS]
        refine rg_take 6 59 (.agg #[.int .i64 XK,.int .i64 XN,.string XS,.slice z1 l1 d1,.slice z2 l2 d2]) _ rfl rfl (by kernel_rfl) (by kernel_rfl) (by kernel_rfl) (fun _ _ _ h => h) (by rfl) (fun w' hw' => ?_) hS (listed' := bts 9 127) (by kernel_rfl) rfl ?_
        ·obtain ⟨f0,f1,f2,f3,f4⟩ := HCE.out _ hw'; go_simp
        simp only [zsA,zsZ,zsS]
        refine rg_call 7 60 68 #[.agg #[.string sn,.slice ma mn mc,.slice ea en ec,.slice ta tn tc],.agg #[.string y1,.int .i64 y2,.int .i64 y3,.int .i64 y4,.string y5],.agg #[.int .i64 XK,.int .i64 XN,.string XS,.slice z1 l1 d1,.slice z2 l2 d2]] rfl rfl (by kernel_rfl) (by rfl) (listed' := bts 9 255) (by kernel_rfl) (fun W => by go_simp) ?_
        refine (HOC.out _ (hbwk.trans (hS.mono hbwk.size))).mono ?_
        rintro ee W14 ⟨rfl,hbW14⟩
        have hS0 := hS
        have hS : Below wr.heap.size wr W14 := hS0.trans (hbW14.mono hS0.size)
        clear hS0 hbW14
        refine ⟨_,rfl,hS,?_⟩
        simp only [zsA,zsZ,zsS]
        refine rg_take 8 12 (.int .i64 0) _ rfl rfl (by kernel_rfl) (by kernel_rfl) (by kernel_rfl) (fun _ _ _ h => h) (by rfl) (fun w' hw' => ?_) hS (listed' := bts 9 511) (by kernel_rfl) rfl ?_
        ·go_simp
        simp only [zsA,zsZ,zsS]
        refine wpAnyH_done (by kernel_rfl) ?_ _
        have hbW : Below W10.heap.size W10 W14 := hbk.trans (hS.mono hbk.size)
        clear hS BS BF BE HCE HOC
        go_wp2_with fail
        go_roundw
        case rel => exact ⟨k + 1,by go_num,by omega,HEK2,hbW⟩
        case measure => simp [intOf]; omega
      ·have dk : decide ((k : Int) < (Kt : Int)) = false := by simp; omega
       have HER2 : Hid (errF ((t.es.take (i + 1)).map (entV (msgV n' s) ((msgOf s nm).getD zMs).fields)) = 0) := (by
        refine errF_on HX.out.1 HER.out ?_
        rw [entV_some HFO.out (by rw [HX.out.2]; exact fun h => h.1 HL3.out)]
        have h1 := HEK.out
        rw [List.take_of_length_le (by rw [HX.out.2]; omega)] at h1
        exact h1 : errF ((t.es.take (i + 1)).map (entV (msgV n' s) ((msgOf s nm).getD zMs).fields)) = 0)
       have hbo : Below Z.heap.size Z wr := hb10.trans (hbk.mono hb10.size)
       clear HEK BF BE BS
       go_wp2_with fail
       go_roundw
       case rel => exact ⟨i + 1,by go_num,by omega,HER2,hbo⟩
       case measure => simp [intOf]; omega
    ·have dl : (y3 != 3) = true := by simpa using hl3
     by_cases hK1 : 1 < Kt
     ·have dk1 : decide (1 < (Kt : Int)) = true := by simp; omega
      have HV : Hid (msgV (n' + 1) s nm t = 4) := msgV_first (by
       have h1 : entV (msgV n' s) ((msgOf s nm).getD zMs).fields e = 4 := entV_big HFO.out ⟨hl3,by rw [HX.out.2]; exact hK1⟩
       rw [errF_hit HX.out.1 HER.out (by rw [h1]; decide),h1]) (by decide)
      clear hl3 HER
      go_wp2_with fail
      go_ret
      exact ⟨congrArg (fun z : Int => Ending.returned (Value.int .i64 z)) HV.out.symm,hbw10⟩
     ·have dk1 : decide (1 < (Kt : Int)) = false := by simp; omega
      clear hl3
      go_wp2_with fail
      clear g2 e1 dl dk1
      generalize (w9.alloc (Obj.cells #[.string y1,.int .i64 y2,.int .i64 y3,.int .i64 y4,.string y5] 54)) = W10 at *
      obtain ⟨b9,hb9e⟩ : ∃ z,w9.heap.size = z := ⟨_,rfl⟩
      rw [hb9e] at BF10
      simp only [hb9e]
      clear hb9e h78
      have HBE : Hid (∀ W,Below W10.heap.size W10 W → Blk W b9 #[.string y1,.int .i64 y2,.int .i64 y3,.int .i64 y4,.string y5] 54 ∧ Blk W b8 #[.int .i64 xt,.slice pt Kt ct] 58 ∧ Blk W q #[.string sn,.slice ma mn mc,.slice ea en ec,.slice ta tn tc] 26) := fun W hW => ⟨BF10.below hW,BE10.below hW,(HBK.out W (hb10.trans (hW.mono hb10.size))).1⟩
      clear BF10 BE10
      go_loopw [11] (fun kv wz => ∃ k : Nat,kv = .int .i64 (k : Int) ∧ k ≤ Kt ∧ Hid (errF ((e.2.take k).map (oneV (msgV n' s) (⟨y1,y2,y3,y4,y5⟩ : FlS))) = 0) ∧ Below W10.heap.size W10 wz) (fun kv _ => Kt - (intOf kv).toNat)
      case atStart => exact ⟨0,rfl,by omega,(by simp [errF] : errF ((e.2.take 0).map (oneV (msgV n' s) (⟨y1,y2,y3,y4,y5⟩ : FlS))) = 0),Below.refl _ _⟩
      case round =>
       obtain ⟨k,rfl,hk,HEK,hbk⟩ := hrel
       obtain ⟨BF,BE,BS⟩ := HBE.out _ hbk
       have e1 := (BE.cell 1).trans rfl
       by_cases hkl : k < Kt
       ·obtain ⟨x,hx⟩ : ∃ r,e.2[k]? = some r := ⟨_,List.getElem?_eq_getElem (by rw [HX.out.2]; exact hkl)⟩
        obtain ⟨g3,off3,rfl,k1⟩ := HTS.out.get hx
        obtain ⟨z1,l1,d1,z2,l2,d2,r0,r1,r2,r3,r4,r5⟩ := trs_get k1
        have hxp := r5.partsV
        have hxs : x.s.size ≤ 5000 := by
         have h1 := (HSB.out e (List.mem_of_getElem? HX.out.1)).2 x (List.mem_of_getElem? hx)
         cases n' with
         | zero => exact h1.elim
         | succ n' => exact h1.1
        have HSX : Hid (SmN n' x) := (HSB.out e (List.mem_of_getElem? HX.out.1)).2 x (List.mem_of_getElem? hx)
        obtain ⟨XK,hXK⟩ : ∃ z,x.kind = z := ⟨_,rfl⟩
        obtain ⟨XN,hXN⟩ : ∃ z,x.n = z := ⟨_,rfl⟩
        obtain ⟨XS,hXS⟩ : ∃ z,x.s = z := ⟨_,rfl⟩
        rw [hXK] at r0 r5
        rw [hXN] at r1 r5
        rw [hXS] at r2 r5
        have hbwk : Below w0.heap.size w0 wr := hbz0.trans ((hb10.trans (hbk.mono hb10.size)).mono hbz0.size)
        have HCE : Hid (∀ W,Below wr.heap.size wr W → W.cell? ⟨g3,off3 + k * 5,none⟩ = some (.int .i64 XK) ∧ W.cell? ⟨g3,off3 + k * 5 + 1,none⟩ = some (.int .i64 XN) ∧ W.cell? ⟨g3,off3 + k * 5 + 2,none⟩ = some (.string XS) ∧ W.cell? ⟨g3,off3 + k * 5 + 3,none⟩ = some (.slice z1 l1 d1) ∧ W.cell? ⟨g3,off3 + k * 5 + 4,none⟩ = some (.slice z2 l2 d2)) := fun W hW => by
         have hb : Below w0.heap.size w0 W := hbwk.trans (hW.mono hbwk.size)
         exact ⟨(hb.cell (World.block_lt_of_cell? _ _ r0)).trans r0,(hb.cell (World.block_lt_of_cell? _ _ r1)).trans r1,(hb.cell (World.block_lt_of_cell? _ _ r2)).trans r2,(hb.cell (World.block_lt_of_cell? _ _ r3)).trans r3,(hb.cell (World.block_lt_of_cell? _ _ r4)).trans r4⟩
        obtain ⟨R,hR⟩ : ∃ z,oneV (msgV n' s) (⟨y1,y2,y3,y4,y5⟩ : FlS) x = z := ⟨_,rfl⟩
        have HR : Hid (oneV (msgV n' s) (⟨y1,y2,y3,y4,y5⟩ : FlS) x = R) := hR
        have HOC : Hid (∀ W,Below w0.heap.size w0 W → Calls Tryz.prog 68 #[.agg #[.string sn,.slice ma mn mc,.slice ea en ec,.slice ta tn tc],.agg #[.string y1,.int .i64 y2,.int .i64 y3,.int .i64 y4,.string y5],.agg #[.int .i64 XK,.int .i64 XN,.string XS,.slice z1 l1 d1,.slice z2 l2 d2]] W fun e' w' => e' = .returned (.int .i64 R) ∧ Below W.heap.size W w') := fun W hW => by
         have h1 := rone_step n' (s := s) sn ma ea ta mn mc en ec tn tc x XK XN XS z1 z2 l1 d1 l2 d2 y1 y2 y3 y4 y5 w0 W hW HMS.out ⟨hXK,hXN,hXS,hxp.2.2.2.1,hxp.2.2.2.2⟩ (by rw [← hXS]; exact hxs) HK4.out (fun _ W' qn' vf vr hW' h5 h6 => by
          obtain ⟨fa',fn',fc',rfl⟩ := row_sliceV h5
          obtain ⟨ra',rn',rc',rfl⟩ := row_sliceV h6
          exact HIH.out x XK XN XS z1 z2 l1 d1 l2 d2 y5 qn' fa' ra' fn' fc' rn' rc' W' hW' r5 HSX.out h5)
         rw [hR] at h1
         exact h1
        have HXK : Hid (e.2[k]? = some x) := hx
        clear k1 r0 r1 r2 r3 r4 r5 hxp hxs hXK hXN hXS hR hx
        go_upto_region 13 with fail
        clear e1
        have hS : Below wr.heap.size wr wr.drew := (Below.refl _ _).drew
        by_cases hR0 : R = 0
        rotate_left
        ·have dR : (R != 0) = true := by simpa using hR0
         have HV : Hid (msgV (n' + 1) s nm t = R) := msgV_first (by
          have h1 : entV (msgV n' s) ((msgOf s nm).getD zMs).fields e = R := by
           rw [entV_some HFO.out (by rw [HX.out.2]; exact fun h => hK1 h.2),errF_hit HXK.out HEK.out (by rw [HR.out]; exact hR0),HR.out]
          rw [errF_hit HX.out.1 HER.out (by rw [h1]; exact hR0),h1]) hR0
         clear hR0
         refine wp_region_held_drew (S := fun w' => Below wr.heap.size wr w') (by kernel_rfl) hS (fun hS => ?_)
         refine rg_take 0 53 (.agg #[.string sn,.slice ma mn mc,.slice ea en ec,.slice ta tn tc]) _ rfl rfl (by kernel_rfl) (by kernel_rfl) (by kernel_rfl) (fun _ _ _ h => h) (by rfl) (fun w' hw' => ?_) hS (listed' := bts 9 1) (by kernel_rfl) rfl ?_
         ·have f0 := ((BS.below hw').cell 0).trans rfl; have f1 := ((BS.below hw').cell 1).trans rfl; have f2 := ((BS.below hw').cell 2).trans rfl; have f3 := ((BS.below hw').cell 3).trans rfl; go_simp
         simp only [zsA,zsZ,zsS]
         refine rg_take 1 54 (.agg #[.string y1,.int .i64 y2,.int .i64 y3,.int .i64 y4,.string y5]) _ rfl rfl (by kernel_rfl) (by kernel_rfl) (by kernel_rfl) (fun _ _ _ h => h) (by rfl) (fun w' hw' => ?_) hS (listed' := bts 9 3) (by kernel_rfl) rfl ?_
         ·have f0 := ((BF.below hw').cell 0).trans rfl; have f1 := ((BF.below hw').cell 1).trans rfl; have f2 := ((BF.below hw').cell 2).trans rfl; have f3 := ((BF.below hw').cell 3).trans rfl; have f4 := ((BF.below hw').cell 4).trans rfl; go_simp
         simp only [zsA,zsZ,zsS]
         refine rg_take 2 55 (.pointer (some ⟨b8,1,none⟩)) _ rfl rfl (by kernel_rfl) (by kernel_rfl) (by kernel_rfl) (fun _ _ _ h => h) (by rfl) (fun w' hw' => ?_) hS (listed' := bts 9 7) (by kernel_rfl) rfl ?_
         ·go_simp
         simp only [zsA,zsZ,zsS]
         refine rg_take 3 56 (.slice (some ⟨g3,off3,none⟩) Kt ct) _ rfl rfl (by kernel_rfl) (by kernel_rfl) (by kernel_rfl) (fun _ _ _ h => h) (by rfl) (fun w' hw' => ?_) hS (listed' := bts 9 15) (by kernel_rfl) rfl ?_
         ·have f1 := ((BE.below hw').cell 1).trans rfl; go_simp
         simp only [zsA,zsZ,zsS]
         refine rg_take 4 57 (.int .i64 (k : Int)) _ rfl rfl (by kernel_rfl) (by kernel_rfl) (by kernel_rfl) (fun _ _ _ h => h) (by rfl) (fun w' hw' => ?_) hS (listed' := bts 9 31) (by kernel_rfl) rfl ?_
         ·go_simp
         simp only [zsA,zsZ,zsS]
         refine rg_take 5 58 (.pointer (some ⟨g3,off3 + k * 5,none⟩)) _ rfl rfl (by kernel_rfl) (by kernel_rfl) (by kernel_rfl) (fun _ _ _ h => h) (by rfl) (fun w' hw' => ?_) hS (listed' := bts 9 63) (by kernel_rfl) rfl ?_
         ·go_simp
         simp only [zsA,zsZ,zsS]
         refine rg_take 6 59 (.agg #[.int .i64 XK,.int .i64 XN,.string XS,.slice z1 l1 d1,.slice z2 l2 d2]) _ rfl rfl (by kernel_rfl) (by kernel_rfl) (by kernel_rfl) (fun _ _ _ h => h) (by rfl) (fun w' hw' => ?_) hS (listed' := bts 9 127) (by kernel_rfl) rfl ?_
         ·obtain ⟨f0,f1,f2,f3,f4⟩ := HCE.out _ hw'; go_simp
         simp only [zsA,zsZ,zsS]
         refine rg_call 7 60 68 #[.agg #[.string sn,.slice ma mn mc,.slice ea en ec,.slice ta tn tc],.agg #[.string y1,.int .i64 y2,.int .i64 y3,.int .i64 y4,.string y5],.agg #[.int .i64 XK,.int .i64 XN,.string XS,.slice z1 l1 d1,.slice z2 l2 d2]] rfl rfl (by kernel_rfl) (by rfl) (listed' := bts 9 255) (by kernel_rfl) (fun W => by go_simp) ?_
         refine (HOC.out _ (hbwk.trans (hS.mono hbwk.size))).mono ?_
         rintro ee W14 ⟨rfl,hbW14⟩
         have hS0 := hS
         have hS : Below wr.heap.size wr W14 := hS0.trans (hbW14.mono hS0.size)
         clear hS0 hbW14
         refine ⟨_,rfl,hS,?_⟩
         simp only [zsA,zsZ,zsS]
         refine rg_take 8 12 (.int .i64 R) _ rfl rfl (by kernel_rfl) (by kernel_rfl) (by kernel_rfl) (fun _ _ _ h => h) (by rfl) (fun w' hw' => ?_) hS (listed' := bts 9 511) (by kernel_rfl) rfl ?_
         ·go_simp
         simp only [zsA,zsZ,zsS]
         refine wpAnyH_done (by kernel_rfl) ?_ _
         have hbW : Below W10.heap.size W10 W14 := hbk.trans (hS.mono hbk.size)
         clear hS BS BF BE HCE HOC
         have hbwe : Below w.heap.size w W14 := hbw10.trans (hbW.mono hbw10.size)
         go_wp2_with fail
         go_ret
         exact ⟨congrArg (fun z : Int => Ending.returned (Value.int .i64 z)) HV.out.symm,hbwe⟩
        ·subst hR0
         have HEK2 : Hid (errF ((e.2.take (k + 1)).map (oneV (msgV n' s) (⟨y1,y2,y3,y4,y5⟩ : FlS))) = 0) := errF_on HXK.out HEK.out HR.out
         refine wp_region_held_drew (S := fun w' => Below wr.heap.size wr w') (by kernel_rfl) hS (fun hS => ?_)
         refine rg_take 0 53 (.agg #[.string sn,.slice ma mn mc,.slice ea en ec,.slice ta tn tc]) _ rfl rfl (by kernel_rfl) (by kernel_rfl) (by kernel_rfl) (fun _ _ _ h => h) (by rfl) (fun w' hw' => ?_) hS (listed' := bts 9 1) (by kernel_rfl) rfl ?_
         ·have f0 := ((BS.below hw').cell 0).trans rfl; have f1 := ((BS.below hw').cell 1).trans rfl; have f2 := ((BS.below hw').cell 2).trans rfl; have f3 := ((BS.below hw').cell 3).trans rfl; go_simp
         simp only [zsA,zsZ,zsS]
         refine rg_take 1 54 (.agg #[.string y1,.int .i64 y2,.int .i64 y3,.int .i64 y4,.string y5]) _ rfl rfl (by kernel_rfl) (by kernel_rfl) (by kernel_rfl) (fun _ _ _ h => h) (by rfl) (fun w' hw' => ?_) hS (listed' := bts 9 3) (by kernel_rfl) rfl ?_
         ·have f0 := ((BF.below hw').cell 0).trans rfl; have f1 := ((BF.below hw').cell 1).trans rfl; have f2 := ((BF.below hw').cell 2).trans rfl; have f3 := ((BF.below hw').cell 3).trans rfl; have f4 := ((BF.below hw').cell 4).trans rfl; go_simp
         simp only [zsA,zsZ,zsS]
         refine rg_take 2 55 (.pointer (some ⟨b8,1,none⟩)) _ rfl rfl (by kernel_rfl) (by kernel_rfl) (by kernel_rfl) (fun _ _ _ h => h) (by rfl) (fun w' hw' => ?_) hS (listed' := bts 9 7) (by kernel_rfl) rfl ?_
         ·go_simp
         simp only [zsA,zsZ,zsS]
         refine rg_take 3 56 (.slice (some ⟨g3,off3,none⟩) Kt ct) _ rfl rfl (by kernel_rfl) (by kernel_rfl) (by kernel_rfl) (fun _ _ _ h => h) (by rfl) (fun w' hw' => ?_) hS (listed' := bts 9 15) (by kernel_rfl) rfl ?_
         ·have f1 := ((BE.below hw').cell 1).trans rfl; go_simp
         simp only [zsA,zsZ,zsS]
         refine rg_take 4 57 (.int .i64 (k : Int)) _ rfl rfl (by kernel_rfl) (by kernel_rfl) (by kernel_rfl) (fun _ _ _ h => h) (by rfl) (fun w' hw' => ?_) hS (listed' := bts 9 31) (by kernel_rfl) rfl ?_
         ·go_simp
         simp only [zsA,zsZ,zsS]
         refine rg_take 5 58 (.pointer (some ⟨g3,off3 + k * 5,none⟩)) _ rfl rfl (by kernel_rfl) (by kernel_rfl) (by kernel_rfl) (fun _ _ _ h => h) (by rfl) (fun w' hw' => ?_) hS (listed' := bts 9 63) (by kernel_rfl) rfl ?_
         ·go_simp
         simp only [zsA,zsZ,zsS]
         refine rg_take 6 59 (.agg #[.int .i64 XK,.int .i64 XN,.string XS,.slice z1 l1 d1,.slice z2 l2 d2]) _ rfl rfl (by kernel_rfl) (by kernel_rfl) (by kernel_rfl) (fun _ _ _ h => h) (by rfl) (fun w' hw' => ?_) hS (listed' := bts 9 127) (by kernel_rfl) rfl ?_
         ·obtain ⟨f0,f1,f2,f3,f4⟩ := HCE.out _ hw'; go_simp
         simp only [zsA,zsZ,zsS]
         refine rg_call 7 60 68 #[.agg #[.string sn,.slice ma mn mc,.slice ea en ec,.slice ta tn tc],.agg #[.string y1,.int .i64 y2,.int .i64 y3,.int .i64 y4,.string y5],.agg #[.int .i64 XK,.int .i64 XN,.string XS,.slice z1 l1 d1,.slice z2 l2 d2]] rfl rfl (by kernel_rfl) (by rfl) (listed' := bts 9 255) (by kernel_rfl) (fun W => by go_simp) ?_
         refine (HOC.out _ (hbwk.trans (hS.mono hbwk.size))).mono ?_
         rintro ee W14 ⟨rfl,hbW14⟩
         have hS0 := hS
         have hS : Below wr.heap.size wr W14 := hS0.trans (hbW14.mono hS0.size)
         clear hS0 hbW14
         refine ⟨_,rfl,hS,?_⟩
         simp only [zsA,zsZ,zsS]
         refine rg_take 8 12 (.int .i64 0) _ rfl rfl (by kernel_rfl) (by kernel_rfl) (by kernel_rfl) (fun _ _ _ h => h) (by rfl) (fun w' hw' => ?_) hS (listed' := bts 9 511) (by kernel_rfl) rfl ?_
         ·go_simp
         simp only [zsA,zsZ,zsS]
         refine wpAnyH_done (by kernel_rfl) ?_ _
         have hbW : Below W10.heap.size W10 W14 := hbk.trans (hS.mono hbk.size)
         clear hS BS BF BE HCE HOC
         go_wp2_with fail
         go_roundw
         case rel => exact ⟨k + 1,by go_num,by omega,HEK2,hbW⟩
         case measure => simp [intOf]; omega
       ·have dk : decide ((k : Int) < (Kt : Int)) = false := by simp; omega
        have HER2 : Hid (errF ((t.es.take (i + 1)).map (entV (msgV n' s) ((msgOf s nm).getD zMs).fields)) = 0) := (by
         refine errF_on HX.out.1 HER.out ?_
         rw [entV_some HFO.out (by rw [HX.out.2]; exact fun h => hK1 h.2)]
         have h1 := HEK.out
         rw [List.take_of_length_le (by rw [HX.out.2]; omega)] at h1
         exact h1 : errF ((t.es.take (i + 1)).map (entV (msgV n' s) ((msgOf s nm).getD zMs).fields)) = 0)
        have hbo : Below Z.heap.size Z wr := hb10.trans (hbk.mono hb10.size)
        clear HEK BF BE BS
        go_wp2_with fail
        go_roundw
        case rel => exact ⟨i + 1,by go_num,by omega,HER2,hbo⟩
        case measure => simp [intOf]; omega
  ·have di : decide ((i : Int) < (n1 : Int)) = false := by simp; omega
   have HE0 : Hid (errF (t.es.map (entV (msgV n' s) ((msgOf s nm).getD zMs).fields)) = 0) := (by
    have h1 := HER.out
    rw [List.take_of_length_le (by rw [HN.out.1]; omega)] at h1
    exact h1 : errF (t.es.map (entV (msgV n' s) ((msgOf s nm).getD zMs).fields)) = 0)
   clear HER BS BM BT
   go_wp2_with fail
   clear t3 di
   obtain ⟨W1,hW1⟩ : ∃ z,wr = z := ⟨_,rfl⟩
   rw [hW1] at hbr
   simp only [hW1]
   clear hW1
   go_loopw [13] (fun rv wr => ∃ r : Nat,rv = .int .i64 (r : Int) ∧ r ≤ n2 ∧ Hid ((t.rest.take r).any (fun f => (fldOf ((msgOf s nm).getD zMs).fields f.tag).isSome) = false) ∧ Below Z.heap.size Z wr) (fun rv _ => n2 - (intOf rv).toNat)
   case atStart => exact ⟨0,rfl,by omega,(by simp : (t.rest.take 0).any (fun f => (fldOf ((msgOf s nm).getD zMs).fields f.tag).isSome) = false),hbr⟩
   case round =>
    clear hbr
    obtain ⟨r,rfl,hr,HAN,hbr⟩ := hrel
    obtain ⟨BS,BM,BT⟩ := HBK.out _ hbr
    have t4 := (BT.cell 4).trans rfl
    by_cases hrl : r < n2
    ·obtain ⟨x,hx⟩ : ∃ z,t.rest[r]? = some z := ⟨_,List.getElem?_eq_getElem (by rw [HN.out.2]; exact hrl)⟩
     have hbw0 : Below w0.heap.size w0 wr := hbz0.trans (hbr.mono hbz0.size)
     obtain ⟨ga,cx,hga, -, -,hz9,hrow⟩ := HRA.out.open
     simp only [Value.slice.injEq] at hga
     obtain ⟨rfl, -, -⟩ := hga
     obtain ⟨g4,o4,hg4⟩ := hz9 (fun h => by have := congrArg List.length h; simp [fdRows] at this; rw [this] at hx; simp at hx)
     subst hg4
     have hc9 := hrow g4 o4 rfl r x.cells (by simp only [fdRows,List.getElem?_map,hx]; rfl)
     obtain ⟨XT,hXT⟩ : ∃ z,x.tag = z := ⟨_,rfl⟩
     have r0 : w0.cell? ⟨g4,o4 + r * 4,none⟩ = some (.int .i64 XT) := by rw [← hXT]; exact hc9 0 _ rfl
     have HCE : Hid (∀ W,Below wr.heap.size wr W → W.cell? ⟨g4,o4 + r * 4,none⟩ = some (.int .i64 XT)) := fun W hW => by
      have hb : Below w0.heap.size w0 W := hbw0.trans (hW.mono hbw0.size)
      exact (hb.cell (World.block_lt_of_cell? _ _ r0)).trans r0
     obtain ⟨FB,hFB⟩ : ∃ z,(fldOf ((msgOf s nm).getD zMs).fields XT).isSome = z := ⟨_,rfl⟩
     obtain ⟨Y,hY⟩ : ∃ z,(fldOf ((msgOf s nm).getD zMs).fields XT).getD zeroF = z := ⟨_,rfl⟩
     have HFC : Hid (∀ W,Below w0.heap.size w0 W → Calls Tryz.prog 27 #[.agg #[.string qn,.slice fa fn fc,.slice ra rn rc],.int .i64 XT] W fun e' w' => e' = .returned (.tuple #[flV Y,.bool FB]) ∧ Below W.heap.size W w') := fun W hW => by
      have h1 := r7field_any (w := W) (snm := qn) (nm := XT) (am := ra) (M := rn) (cm := rc) (HFR.out.below hW)
      have h2 : (((msgOf s nm).getD zMs).fields.find? fun m => decide (m.tag = XT)) = fldOf ((msgOf s nm).getD zMs).fields XT := rfl
      rw [h2,hFB,hY] at h1
      exact h1
     have HXX : Hid (t.rest[r]? = some x ∧ (fldOf ((msgOf s nm).getD zMs).fields x.tag).isSome = FB) := ⟨hx,by rw [hXT]; exact hFB⟩
     clear hx hrow hc9 r0 hXT hFB hY hz9
     obtain ⟨y1,y2,y3,y4,y5⟩ := Y
     simp only [flV] at HFC
     go_upto_region 19 with fail
     clear t4
     refine M_region (T := fun W => Below wr.heap.size wr W) (m := 13) (by kernel_rfl) ?_
     have hS : Below wr.heap.size wr wr.drew := (Below.refl _ _).drew
     refine M_take 0 72 (.agg #[.string qn,.slice fa fn fc,.slice ra rn rc]) _ rfl rfl (by kernel_rfl) (by kernel_rfl) (by kernel_rfl) (by kernel_rfl) (by kernel_rfl) (fun _ _ _ h => h) (by rfl) (fun w' hw' => ?_) hS (listed' := bts 14 1) (by kernel_rfl) rfl ?_
     ·have f0 := ((BM.below hw').cell 0).trans rfl; have f1 := ((BM.below hw').cell 1).trans rfl; have f2 := ((BM.below hw').cell 2).trans rfl; go_simp
     simp only [zsA,zsZ,zsS]
     refine M_take 1 73 (.pointer (some ⟨q + 1 + 1,4,none⟩)) _ rfl rfl (by kernel_rfl) (by kernel_rfl) (by kernel_rfl) (by kernel_rfl) (by kernel_rfl) (fun _ _ _ h => h) (by rfl) (fun w' hw' => ?_) hS (listed' := bts 14 3) (by kernel_rfl) rfl ?_
     ·go_simp
     simp only [zsA,zsZ,zsS]
     refine M_take 2 74 (.slice (some ⟨g4,o4,none⟩) n2 c2) _ rfl rfl (by kernel_rfl) (by kernel_rfl) (by kernel_rfl) (by kernel_rfl) (by kernel_rfl) (fun _ _ _ h => h) (by rfl) (fun w' hw' => ?_) hS (listed' := bts 14 7) (by kernel_rfl) rfl ?_
     ·have f4 := ((BT.below hw').cell 4).trans rfl; go_simp
     simp only [zsA,zsZ,zsS]
     refine M_take 3 75 (.int .i64 (r : Int)) _ rfl rfl (by kernel_rfl) (by kernel_rfl) (by kernel_rfl) (by kernel_rfl) (by kernel_rfl) (fun _ _ _ h => h) (by rfl) (fun w' hw' => ?_) hS (listed' := bts 14 15) (by kernel_rfl) rfl ?_
     ·go_simp
     simp only [zsA,zsZ,zsS]
     refine M_take 4 76 (.pointer (some ⟨g4,o4 + r * 4,none⟩)) _ rfl rfl (by kernel_rfl) (by kernel_rfl) (by kernel_rfl) (by kernel_rfl) (by kernel_rfl) (fun _ _ _ h => h) (by rfl) (fun w' hw' => ?_) hS (listed' := bts 14 31) (by kernel_rfl) rfl ?_
     ·go_simp
     simp only [zsA,zsZ,zsS]
     refine M_take 5 77 (.pointer (some ⟨g4,o4 + r * 4,none⟩)) _ rfl rfl (by kernel_rfl) (by kernel_rfl) (by kernel_rfl) (by kernel_rfl) (by kernel_rfl) (fun _ _ _ h => h) (by rfl) (fun w' hw' => ?_) hS (listed' := bts 14 63) (by kernel_rfl) rfl ?_
     ·go_simp
     simp only [zsA,zsZ,zsS]
     refine M_take 6 78 (.int .i64 XT) _ rfl rfl (by kernel_rfl) (by kernel_rfl) (by kernel_rfl) (by kernel_rfl) (by kernel_rfl) (fun _ _ _ h => h) (by rfl) (fun w' hw' => ?_) hS (listed' := bts 14 127) (by kernel_rfl) rfl ?_
     ·have f0 := HCE.out _ hw'; go_simp
     simp only [zsA,zsZ,zsS]
     have hdz : wr.drew.heap.size = wr.heap.size := rfl
     refine M_fork 7 11 79 14 27 #[.agg #[.string qn,.slice fa fn fc,.slice ra rn rc],.int .i64 XT] (.pointer (some ⟨wr.heap.size,0,none⟩)) (wr.drew.alloc (Obj.cells #[.string ⟨#[]⟩,.int .i64 0,.int .i64 0,.int .i64 0,.string ⟨#[]⟩] 54)) rfl rfl rfl rfl (by kernel_rfl) (by rfl) (by rfl) (by go_simp) (by go_simp) ?_ (hS.alloc (Nat.le_refl _) _) ?_
     ·refine (HFC.out _ (hbw0.trans (hS.mono hbw0.size))).mono ?_
      rintro ee W5 ⟨rfl,hbW5⟩
      have hS0 := hS
      have hS : Below wr.heap.size wr W5 := hS0.trans (hbW5.mono hS0.size)
      clear hS0 hbW5
      refine ⟨_,rfl,hS,?_⟩
      simp only [zsA,zsZ,zsS]
      refine M_take 8 71 (.tuple #[.agg #[.string y1,.int .i64 y2,.int .i64 y3,.int .i64 y4,.string y5],.bool FB]) _ rfl rfl (by kernel_rfl) (by kernel_rfl) (by kernel_rfl) (by kernel_rfl) (by kernel_rfl) (fun _ _ _ h => h) (by rfl) (fun w' hw' => ?_) hS (listed' := bts 14 511) (by kernel_rfl) rfl ?_
      ·go_simp
      simp only [zsA,zsZ,zsS]
      refine M_take 9 80 (.agg #[.string y1,.int .i64 y2,.int .i64 y3,.int .i64 y4,.string y5]) _ rfl rfl (by kernel_rfl) (by kernel_rfl) (by kernel_rfl) (by kernel_rfl) (by kernel_rfl) (fun _ _ _ h => h) (by rfl) (fun w' hw' => ?_) hS (listed' := bts 14 1023) (by kernel_rfl) rfl ?_
      ·go_simp
      simp only [zsA,zsZ,zsS]
      refine M_take 10 81 (.bool FB) _ rfl rfl (by kernel_rfl) (by kernel_rfl) (by kernel_rfl) (by kernel_rfl) (by kernel_rfl) (fun _ _ _ h => h) (by rfl) (fun w' hw' => ?_) hS (listed' := bts 14 2047) (by kernel_rfl) rfl ?_
      ·go_simp
      simp only [zsA,zsZ,zsS]
      refine M_run 11 14 (.pointer (some ⟨W5.heap.size,0,none⟩)) (W5.alloc (Obj.cells #[.string ⟨#[]⟩,.int .i64 0,.int .i64 0,.int .i64 0,.string ⟨#[]⟩] 54)) rfl rfl (by kernel_rfl) (by rfl) (listed' := bts 14 4095) (by kernel_rfl) (by go_simp) (hS.trans (((Below.refl _ _).alloc (Nat.le_refl _) _).mono hS.size)) ?_
      simp only [zsA,zsZ,zsS]
      have hb6 : Below wr.heap.size wr (W5.alloc (Obj.cells #[.string y1,.int .i64 y2,.int .i64 y3,.int .i64 y4,.string y5] 54)) := hS.trans (((Below.refl _ _).alloc (Nat.le_refl _) _).mono hS.size)
      refine M_storeT 12 (W5.alloc (Obj.cells #[.string y1,.int .i64 y2,.int .i64 y3,.int .i64 y4,.string y5] 54)) rfl rfl (by kernel_rfl) (by rfl) (listed' := bts 14 8191) (by kernel_rfl) (by go_simp) hb6 ?_
      refine M_runA 13 15 (.bool FB) (W5.alloc (Obj.cells #[.string y1,.int .i64 y2,.int .i64 y3,.int .i64 y4,.string y5] 54)) rfl rfl (by kernel_rfl) (by rfl) (listed' := bts 14 16383) (by kernel_rfl) (by go_simp) (by kernel_rfl) ?_
      simp only [zsA,zsZ,zsS]
      refine M_done (by kernel_rfl) ?_ _
      clear hS BS BM BT HFC HCE hdz
      generalize (W5.alloc (Obj.cells #[.string y1,.int .i64 y2,.int .i64 y3,.int .i64 y4,.string y5] 54)) = W6 at *
      cases FB with
      | true =>
       have HV : Hid (msgV (n' + 1) s nm t = 7) := (by rw [msgV_rest HE0.out (any_hit HXX.out.1 HXX.out.2)]; rfl : msgV (n' + 1) s nm t = 7)
       have hbwe : Below w.heap.size w W6 := hZb.trans ((hbr.trans (hb6.mono hbr.size)).mono hZb.size)
       clear HAN
       go_wp2_with fail
       go_ret
       exact ⟨congrArg (fun z : Int => Ending.returned (Value.int .i64 z)) HV.out.symm,hbwe⟩
      | false =>
       have HAN2 : Hid ((t.rest.take (r + 1)).any (fun f => (fldOf ((msgOf s nm).getD zMs).fields f.tag).isSome) = false) := (by rw [any_take HXX.out.1 HAN.out]; exact HXX.out.2 : (t.rest.take (r + 1)).any (fun f => (fldOf ((msgOf s nm).getD zMs).fields f.tag).isSome) = false)
       have hbo : Below Z.heap.size Z W6 := hbr.trans (hb6.mono hbr.size)
       clear HAN
       go_wp2_with fail
       go_roundw
       case rel => exact ⟨r + 1,by go_num,by omega,HAN2,hbo⟩
       case measure => simp [intOf]; omega
     ·have hSa : Below wr.heap.size wr (wr.drew.alloc (Obj.cells #[.string ⟨#[]⟩,.int .i64 0,.int .i64 0,.int .i64 0,.string ⟨#[]⟩] 54)) := hS.alloc (Nat.le_refl _) _
      have B4 : Blk (wr.drew.alloc (Obj.cells #[.string ⟨#[]⟩,.int .i64 0,.int .i64 0,.int .i64 0,.string ⟨#[]⟩] 54)) wr.heap.size #[.string ⟨#[]⟩,.int .i64 0,.int .i64 0,.int .i64 0,.string ⟨#[]⟩] 54 := Blk.new wr.drew _ _
      clear hS
      simp only [zsA,zsZ,zsS]
      generalize (wr.drew.alloc (Obj.cells #[.string ⟨#[]⟩,.int .i64 0,.int .i64 0,.int .i64 0,.string ⟨#[]⟩] 54)) = W4 at *
      have hwz : wr.heap.size < W4.heap.size := B4.lt
      refine M_call 7 79 27 #[.agg #[.string qn,.slice fa fn fc,.slice ra rn rc],.int .i64 XT] rfl rfl (by kernel_rfl) (by rfl) (listed' := bts 14 2303) (by kernel_rfl) (fun W => by go_simp) ?_
      refine (HFC.out _ (hbw0.trans (hSa.mono hbw0.size))).mono ?_
      rintro ee W5 ⟨rfl,hbW5⟩
      have hS : Below wr.heap.size wr W5 := hSa.trans (hbW5.mono hSa.size)
      have B5 := B4.below hbW5
      clear hSa hbW5 B4
      refine ⟨_,rfl,hS,?_⟩
      simp only [zsA,zsZ,zsS]
      refine M_take 8 71 (.tuple #[.agg #[.string y1,.int .i64 y2,.int .i64 y3,.int .i64 y4,.string y5],.bool FB]) _ rfl rfl (by kernel_rfl) (by kernel_rfl) (by kernel_rfl) (by kernel_rfl) (by kernel_rfl) (fun _ _ _ h => h) (by rfl) (fun w' hw' => ?_) hS (listed' := bts 14 2559) (by kernel_rfl) rfl ?_
      ·go_simp
      simp only [zsA,zsZ,zsS]
      refine M_take 9 80 (.agg #[.string y1,.int .i64 y2,.int .i64 y3,.int .i64 y4,.string y5]) _ rfl rfl (by kernel_rfl) (by kernel_rfl) (by kernel_rfl) (by kernel_rfl) (by kernel_rfl) (fun _ _ _ h => h) (by rfl) (fun w' hw' => ?_) hS (listed' := bts 14 3071) (by kernel_rfl) rfl ?_
      ·go_simp
      simp only [zsA,zsZ,zsS]
      refine M_take 10 81 (.bool FB) _ rfl rfl (by kernel_rfl) (by kernel_rfl) (by kernel_rfl) (by kernel_rfl) (by kernel_rfl) (fun _ _ _ h => h) (by rfl) (fun w' hw' => ?_) hS (listed' := bts 14 4095) (by kernel_rfl) rfl ?_
      ·go_simp
      simp only [zsA,zsZ,zsS]
      have hb6 : Below wr.heap.size wr (((((W5.setCell ⟨wr.heap.size,0,none⟩ (.string y1)).setCell ⟨wr.heap.size,1,none⟩ (.int .i64 y2)).setCell ⟨wr.heap.size,2,none⟩ (.int .i64 y3)).setCell ⟨wr.heap.size,3,none⟩ (.int .i64 y4)).setCell ⟨wr.heap.size,4,none⟩ (.string y5)) := below_set5V hS (Nat.le_refl _) _ _ _ _ _
      have k0 := (B5.cell 0).trans rfl
      have k1 := (B5.cell 1).trans rfl
      have k2 := (B5.cell 2).trans rfl
      have k3 := (B5.cell 3).trans rfl
      have k4 := (B5.cell 4).trans rfl
      have z0 := B5.froz 0
      have z1 := B5.froz 1
      have z2 := B5.froz 2
      have z3 := B5.froz 3
      have z4 := B5.froz 4
      refine M_storeT 12 (((((W5.setCell ⟨wr.heap.size,0,none⟩ (.string y1)).setCell ⟨wr.heap.size,1,none⟩ (.int .i64 y2)).setCell ⟨wr.heap.size,2,none⟩ (.int .i64 y3)).setCell ⟨wr.heap.size,3,none⟩ (.int .i64 y4)).setCell ⟨wr.heap.size,4,none⟩ (.string y5)) rfl rfl (by kernel_rfl) (by rfl) (listed' := bts 14 8191) (by kernel_rfl) (by go_simp) hb6 ?_
      refine M_runA 13 15 (.bool FB) (((((W5.setCell ⟨wr.heap.size,0,none⟩ (.string y1)).setCell ⟨wr.heap.size,1,none⟩ (.int .i64 y2)).setCell ⟨wr.heap.size,2,none⟩ (.int .i64 y3)).setCell ⟨wr.heap.size,3,none⟩ (.int .i64 y4)).setCell ⟨wr.heap.size,4,none⟩ (.string y5)) rfl rfl (by kernel_rfl) (by rfl) (listed' := bts 14 16383) (by kernel_rfl) (by go_simp) (by kernel_rfl) ?_
      simp only [zsA,zsZ,zsS]
      refine M_done (by kernel_rfl) ?_ _
      clear hS BS BM BT HFC HCE hdz k0 k1 k2 k3 k4 z0 z1 z2 z3 z4 B5
      generalize (((((W5.setCell ⟨wr.heap.size,0,none⟩ (.string y1)).setCell ⟨wr.heap.size,1,none⟩ (.int .i64 y2)).setCell ⟨wr.heap.size,2,none⟩ (.int .i64 y3)).setCell ⟨wr.heap.size,3,none⟩ (.int .i64 y4)).setCell ⟨wr.heap.size,4,none⟩ (.string y5)) = W6 at *
      cases FB with
      | true =>
       have HV : Hid (msgV (n' + 1) s nm t = 7) := (by rw [msgV_rest HE0.out (any_hit HXX.out.1 HXX.out.2)]; rfl : msgV (n' + 1) s nm t = 7)
       have hbwe : Below w.heap.size w W6 := hZb.trans ((hbr.trans (hb6.mono hbr.size)).mono hZb.size)
       clear HAN
       go_wp2_with fail
       go_ret
       exact ⟨congrArg (fun z : Int => Ending.returned (Value.int .i64 z)) HV.out.symm,hbwe⟩
      | false =>
       have HAN2 : Hid ((t.rest.take (r + 1)).any (fun f => (fldOf ((msgOf s nm).getD zMs).fields f.tag).isSome) = false) := (by rw [any_take HXX.out.1 HAN.out]; exact HXX.out.2 : (t.rest.take (r + 1)).any (fun f => (fldOf ((msgOf s nm).getD zMs).fields f.tag).isSome) = false)
       have hbo : Below Z.heap.size Z W6 := hbr.trans (hb6.mono hbr.size)
       clear HAN
       go_wp2_with fail
       go_roundw
       case rel => exact ⟨r + 1,by go_num,by omega,HAN2,hbo⟩
       case measure => simp [intOf]; omega
    ·have dr : decide ((r : Int) < (n2 : Int)) = false := by simp; omega
     have HV : Hid (msgV (n' + 1) s nm t = 0) := (by
      have h1 := HAN.out
      rw [List.take_of_length_le (by rw [HN.out.2]; omega)] at h1
      rw [msgV_rest HE0.out h1]
      rfl : msgV (n' + 1) s nm t = 0)
     have hbwe : Below w.heap.size w wr := hZb.trans (hbr.mono hZb.size)
     clear HAN BS BM BT
     go_wp2_with fail
     go_ret
     exact ⟨congrArg (fun z : Int => Ending.returned (Value.int .i64 z)) HV.out.symm,hbwe⟩
theorem rmessage_any {s : ScS} (sn : ByteArray) (ma ea ta : Option Addr) (mn mc en ec tn tc : Nat) (hkd : ∀ m ∈ s.msgs,∀ f ∈ m.fields,1 ≤ f.kind ∧ f.kind ≤ 7) (w0 : World) (hms : MsIn w0 (.slice ma mn mc) s.msgs) : ∀ (n : Nat) (t : Tr) (K N : Int) (S : ByteArray) (a1 a2 : Option Addr) (n1 c1 n2 c2 : Nat) (nm qn : ByteArray) (fa ra : Option Addr) (fn fc rn rc : Nat) (w : World),Below w0.heap.size w0 w → TrIn n w0 (.agg #[.int .i64 K,.int .i64 N,.string S,.slice a1 n1 c1,.slice a2 n2 c2]) t → SmN n t → RowG w0 (.slice fa fn fc) 5 (flRows ((msgOf s nm).getD zMs).fields) →
  Calls Tryz.prog 38 #[.agg #[.string sn,.slice ma mn mc,.slice ea en ec,.slice ta tn tc],.agg #[.string qn,.slice fa fn fc,.slice ra rn rc],.agg #[.int .i64 K,.int .i64 N,.string S,.slice a1 n1 c1,.slice a2 n2 c2]] w fun e w' => e = .returned (.int .i64 (msgV n s nm t)) ∧ Below w.heap.size w w'
 | 0,_,_,_,_,_,_,_,_,_,_,_,_,_,_,_,_,_,_,_,_,h,_,_ => by obtain ⟨_,_,h⟩ := h; exact h.elim
 | n + 1,t,K,N,S,a1,a2,n1,c1,n2,c2,nm,qn,fa,ra,fn,fc,rn,rc,w,h1,h2,h3,h4 => rmessage_step n sn ma ea ta mn mc en ec tn tc hkd w0 hms (fun x K N S a1 a2 n1 c1 n2 c2 nm qn fa ra fn fc rn rc W q1 q2 q3 q4 => rmessage_any sn ma ea ta mn mc en ec tn tc hkd w0 hms n x K N S a1 a2 n1 c1 n2 c2 nm qn fa ra fn fc rn rc W q1 q2 q3 q4) t K N S a1 a2 n1 c1 n2 c2 nm qn fa ra fn fc rn rc w h1 h2 h3 h4
set_option maxHeartbeats 1000000 in
theorem rcheckV_any (t k n : Int) (b : ByteArray) (w : World) :
  Calls Tryz.prog 105 #[.agg #[.int .i64 t,.int .i64 k,.int .i64 n,.string b]] w fun e w' => e = .returned (.bool (okV t k n b)) ∧ Below w.heap.size w w' := by
 by_cases h1 : 1 ≤ t
 ·by_cases h2 : t ≤ 500
  ·by_cases hk : k = 0
   ·subst hk
    go_enter Tryz.func105,Tryz.ntmps105
    go_wp2_with fail
    all_goals
     go_ret
     exact ⟨ret_boolF (by simp [okV,h1,h2]),(Below.refl _ _).alloc (Nat.le_refl _) _⟩
   ·by_cases hk1 : k = 1
    ·subst hk1
     by_cases hn : n = 0
     ·subst hn
      go_enter Tryz.func105,Tryz.ntmps105
      go_wp2_with fail
      all_goals
       go_ret
       exact ⟨ret_boolF (by simp [okV,h1,h2]),(Below.refl _ _).alloc (Nat.le_refl _) _⟩
     ·go_enter Tryz.func105,Tryz.ntmps105
      go_wp2_with fail
      all_goals
       go_ret
       exact ⟨ret_boolF (by simp [okV,hn]),(Below.refl _ _).alloc (Nat.le_refl _) _⟩
    ·have e0 : (k == 0) = false := by simp [hk]
     have e1 : (k == 1) = false := by simp [hk1]
     go_enter Tryz.func105,Tryz.ntmps105
     go_wp2_with fail
     all_goals
      go_ret
      exact ⟨ret_boolF (by simp [okV,hk,hk1]),(Below.refl _ _).alloc (Nat.le_refl _) _⟩
  ·have hok : okV t k n b = false := by simp [okV]; omega
   rw [hok]
   clear hok
   have hd : decide (t < 1) = false := by simp; omega
   have hd5 : decide (500 < t) = true := by simp; omega
   go_enter Tryz.func105,Tryz.ntmps105
   go_wp2_with fail
   all_goals
    go_ret
    exact ⟨rfl,(Below.refl _ _).alloc (Nat.le_refl _) _⟩
 ·have hok : okV t k n b = false := by simp [okV]; omega
  rw [hok]
  clear hok
  have hd : decide (t < 1) = true := by simp; omega
  go_enter Tryz.func105,Tryz.ntmps105
  go_wp2_with fail
  all_goals
   go_ret
   exact ⟨rfl,(Below.refl _ _).alloc (Nat.le_refl _) _⟩
set_option maxHeartbeats 1000000 in
theorem rrising_any (a : Option Addr) (rs : List Fd) (N cap : Nat) (w : World) (hN : rs.length = N) (hadr : rs = [] ∨ ∃ g off,a = some ⟨g,off,none⟩) (hc : N ≤ cap) (hm : cap ≤ maxLen) (hh : HoldsR w a rs) :
  Calls Tryz.prog 106 #[.slice a N cap] w fun e w' => e = .returned (.bool (risesB rs)) ∧ Below w.heap.size w w' := by
 have HN : Hid (rs.length = N) := hN
 have HA : Hid (rs = [] ∨ ∃ g off,a = some ⟨g,off,none⟩) := hadr
 have HH : Hid (HoldsR w a rs) := hh
 obtain ⟨R,hR⟩ : ∃ R,risesB rs = R := ⟨_,rfl⟩
 rw [hR]
 have HR : Hid (risesB rs = R) := hR
 unfold maxLen at hm
 clear hN hadr hh hR
 go_enter Tryz.func106,Tryz.ntmps106
 go_wp2_with fail
 go_loopw [3] (fun iv wr => ∃ i : Nat,iv = .int .i64 ((i : Int) + 1) ∧ i ≤ N ∧ Hid (∀ j x y,j < i → rs[j]? = some x → rs[j + 1]? = some y → x.tag ≤ y.tag) ∧ Below w.heap.size w wr) (fun iv _ => N + 1 - (intOf iv).toNat)
 case atStart => exact ⟨0,rfl,by omega,(fun j x y hj => absurd hj (by omega) : ∀ j x y,j < 0 → rs[j]? = some x → rs[j + 1]? = some y → x.tag ≤ y.tag),Below.refl _ _⟩
 case round =>
  obtain ⟨i,rfl,hi,HT,hbel⟩ := hrel
  by_cases hlt : i + 1 < N
  ·have hr : rs[i]? = some (rs[i]'(by rw [HN.out]; omega)) := List.getElem?_eq_getElem _
   generalize rs[i]'(by rw [HN.out]; omega) = r at hr
   have hs : rs[i + 1]? = some (rs[i + 1]'(by rw [HN.out]; exact hlt)) := List.getElem?_eq_getElem _
   generalize rs[i + 1]'(by rw [HN.out]; exact hlt) = s at hs
   rcases HA.out with h0 | ⟨g,off,rfl⟩
   ·exact absurd hlt (by have := HN.out; rw [h0] at this; simp at this; omega)
   obtain ⟨p0, -, -, -⟩ := (HH.out.below hbel).at hr
   obtain ⟨q0, -, -, -⟩ := (HH.out.below hbel).at hs
   have HK : Hid (rs[i]? = some r) := hr
   have HK2 : Hid (rs[i + 1]? = some s) := hs
   obtain ⟨x,hx⟩ : ∃ q,r.tag = q := ⟨_,rfl⟩
   obtain ⟨y,hy⟩ : ∃ q,s.tag = q := ⟨_,rfl⟩
   rw [hx] at p0
   rw [hy] at q0
   have HX : Hid (r.tag = x) := hx
   have HY : Hid (s.tag = y) := hy
   have hlti : (i : Int) + 1 < (N : Int) := by omega
   clear hr hs hx hy
   by_cases hle : y < x
   ·have hd : decide (y < x) = true := by simp [hle]
    obtain rfl : R = false := by rw [← HR.out]; exact rises_break i r s HK.out HK2.out (by rw [HX.out,HY.out]; exact hle)
    clear HT HK HK2 HX HY HR
    go_wp2_with fail
    go_quiet (fail)
    have hbn := below_drewN nq hbel
    clear p0 q0 hbel
    go_wp2_with fail
    go_ret
    exact ⟨rfl,hbn⟩
   ·have hd : decide (y < x) = false := by simp; omega
    have HT2 : Hid (∀ j u v,j < i + 1 → rs[j]? = some u → rs[j + 1]? = some v → u.tag ≤ v.tag) := fun j u v hj hu hv => by
     by_cases hji : j = i
     ·subst hji
      rw [HK.out] at hu
      rw [HK2.out] at hv
      obtain rfl : r = u := by simpa using hu
      obtain rfl : s = v := by simpa using hv
      rw [HX.out,HY.out]; omega
     ·exact HT.out j u v (by omega) hu hv
    clear HT HK HK2 HX HY
    go_wp2_with fail
    go_quiet (fail)
    have hbn := below_drewN nq hbel
    clear p0 q0 hbel
    go_wp2_with fail
    go_roundw
    case rel => exact ⟨i + 1,by go_num,by omega,HT2,hbn⟩
    case measure => simp [intOf]; omega
  ·obtain rfl : R = true := by
    rw [← HR.out]
    refine rises_steps fun j x y hx hy => HT.out j x y ?_ hx hy
    have := (List.getElem?_eq_some_iff.1 hy).1
    rw [HN.out] at this
    omega
   have hnl : ¬ (i : Int) + 1 < (N : Int) := by omega
   clear HT HR
   go_wp2_with fail
   go_ret
   exact ⟨rfl,hbel⟩
theorem kept_cellV {w : World} {a : Addr} {u : Value} (h : w.cell? a = some u) (x : Kept w.heap.size w) : x.w.cell? a = some u := by
 rw [x.below.cell (World.block_lt_of_cell? _ _ h)]; exact h
theorem has_step {es : List (Int × List Tr)} {i : Nat} {e : Int × List Tr} {tag : Int} (h : es[i]? = some e) : hasB (es.take (i + 1)) tag = (hasB (es.take i) tag || e.1 == tag) := by
 have : es.take (i + 1) = es.take i ++ [e] := by rw [List.take_add_one,h]; rfl
 rw [this]; simp [hasB]
theorem has_yes {es : List (Int × List Tr)} {i : Nat} {e : Int × List Tr} (h : es[i]? = some e) : hasB es e.1 = true := by
 simp only [hasB,List.any_eq_true,beq_iff_eq]
 exact ⟨e,List.mem_of_getElem? h,rfl⟩
set_option maxHeartbeats 2000000 in
theorem rhas_any (n : Nat) (t : Tr) (v : Value) (tag : Int) (w : World) (ht : TrIn (n + 1) w v t) :
  Calls Tryz.prog 28 #[v,.int .i64 tag] w fun e w' => e = .returned (.bool (hasB t.es tag)) ∧ Below w.heap.size w w' := by
 obtain ⟨n',ve,vr,e0,rfl,ka,na,sa,fa,ra,ea⟩ := ht.open
 obtain rfl : n' = n := by omega
 clear e0 ht
 obtain ⟨pe,ce,rfl,u1,u2, -⟩ := ea.open
 obtain ⟨pr,cr,rfl,x1,x2, -⟩ := rest_holds ra
 unfold maxLen at u2 x2
 obtain ⟨Ke,hKe⟩ : ∃ K,t.es.length = K := ⟨_,rfl⟩
 rw [hKe] at u1 ⊢
 have EA : Hid (EnsIn n' w (.slice pe Ke ce) t.es) := (by rw [← hKe]; exact ea : EnsIn n' w (.slice pe Ke ce) t.es)
 have HKe : Hid (t.es.length = Ke) := hKe
 clear hKe ea ra fa ka na sa
 obtain ⟨A,hA⟩ : ∃ A,hasB t.es tag = A := ⟨_,rfl⟩
 rw [hA]
 have HA : Hid (hasB t.es tag = A) := hA
 clear hA
 generalize t.rest.length = Kr at *
 generalize t.kind = K at *
 generalize t.n = N at *
 generalize t.s = S at *
 have B0 : Blk (w.alloc (Obj.cells #[.int .i64 K,.int .i64 N,.string S,.slice pe Ke ce,.slice pr Kr cr] 30)) w.heap.size #[.int .i64 K,.int .i64 N,.string S,.slice pe Ke ce,.slice pr Kr cr] 30 := Blk.new w _ _
 have hb0 : Below w.heap.size w (w.alloc (Obj.cells #[.int .i64 K,.int .i64 N,.string S,.slice pe Ke ce,.slice pr Kr cr] 30)) := (Below.refl _ _).alloc (Nat.le_refl _) _
 go_enter Tryz.func28,Tryz.ntmps28
 go_wp2_with fail
 generalize (w.alloc (Obj.cells #[.int .i64 K,.int .i64 N,.string S,.slice pe Ke ce,.slice pr Kr cr] 30)) = WA at *
 obtain ⟨b0,hb0'⟩ : ∃ b,w.heap.size = b := ⟨_,rfl⟩
 rw [hb0'] at B0
 rw [hb0']
 have HBZ : Hid (w.heap.size = b0) := hb0'
 clear hb0'
 go_loopw [5] (fun iv wr => ∃ i : Nat,iv = .int .i64 (i : Int) ∧ i ≤ Ke ∧ Hid (hasB (t.es.take i) tag = false) ∧ WA = wr) (fun iv _ => Ke - (intOf iv).toNat)
 case atStart => exact ⟨0,rfl,by omega,(by simp [hasB] : hasB (t.es.take 0) tag = false),rfl⟩
 case round =>
  obtain ⟨i,rfl,hi,HM,rfl⟩ := hrel
  have a3 := (B0.cell 3).trans rfl
  by_cases hlt : i < Ke
  ·obtain ⟨x,hx⟩ : ∃ r,t.es[i]? = some r := ⟨_,List.getElem?_eq_getElem (by rw [HKe.out]; exact hlt)⟩
   obtain ⟨ge,off,rfl,cc⟩ := (EA.out.belowE hb0).get hx
   obtain ⟨vt,p0,p1,p2,p3⟩ := ens_at cc
   by_cases hxt : x.1 = tag
   ·have HH : Hid (true = A) := (hxt ▸ has_yes hx).symm.trans HA.out
    have hq : (x.1 == tag) = true := by simpa using hxt
    clear cc p1 p2 p3 hx hxt HM
    go_wp2_with fail
    go_ret
    exact ⟨congrArg (fun b => Ending.returned (Value.bool b)) HH.out,hb0⟩
   ·have hq : (x.1 == tag) = false := by simpa using hxt
    have HM2 : Hid (hasB (t.es.take (i + 1)) tag = false) := (by rw [has_step hx,HM.out,hq]; rfl : hasB (t.es.take (i + 1)) tag = false)
    clear cc p1 p2 p3 hx hxt HM
    go_wp2_with fail
    clear a3 p0 hq
    go_roundw
    case rel => exact ⟨i + 1,by go_num,by omega,HM2,trivial⟩
    case measure => simp [intOf]; omega
  ·have HH : Hid (false = A) := by
    have h1 := HM.out
    rw [List.take_of_length_le (by rw [HKe.out]; omega),HA.out] at h1
    exact h1.symm
   clear HM
   go_wp2_with fail
   go_ret
   exact ⟨congrArg (fun b => Ending.returned (Value.bool b)) HH.out,hb0⟩
theorem rowG_holdsW {w : World} {a : Option Addr} {N cap : Nat} {l : List Fd} (h : RowG w (.slice a N cap) 4 (fdRows l)) : HoldsR w a l := by
 obtain ⟨a',cap',e,_,_,_,h4⟩ := h.form
 simp only [Value.slice.injEq] at e
 obtain ⟨rfl,_,_⟩ := e
 intro b hb j u hu
 rw [rawCells_flat] at hu
 obtain ⟨i,c,k,h1,h2,rfl⟩ := flat_inv (fdRows l) (fdr_len l) j u hu
 obtain ⟨g,off,e,hc⟩ := h4 (by intro e; rw [e] at h1; simp at h1)
 rw [hb] at e
 cases e
 have := hc i c u k h1 h2
 rw [Nat.add_assoc] at this
 rw [Addr.add_lit]
 exact this
theorem rowG_holdsV {w : World} {a : Option Addr} {N cap : Nat} {l : List Fd} (h : RowG w (.slice a N cap) 4 (fdRows l)) : ∀ g off,a = some ⟨g,off,none⟩ → ∀ (i : Nat) (f : Fd),l[i]? = some f → w.cell? ⟨g,off + i * 4,none⟩ = some (.int .i64 f.tag) ∧ w.cell? ⟨g,off + i * 4 + 1,none⟩ = some (.int .i64 f.wire) ∧ w.cell? ⟨g,off + i * 4 + 2,none⟩ = some (.int .i64 f.n) ∧ w.cell? ⟨g,off + i * 4 + 3,none⟩ = some (.string f.b) := by
 obtain ⟨a',cap',e1,_,_,_,_,h6⟩ := rest_holds h
 simp only [Value.slice.injEq] at e1
 obtain ⟨rfl,_,_⟩ := e1
 exact h6
theorem rest_no {rest : List Fd} {es : List (Int × List Tr)} {i : Nat} {f : Fd} (h : rest[i]? = some f) (hf : (okF f && !hasB es f.tag) = false) : restB rest es = false := by
 have : (rest.all fun f => okF f && !hasB es f.tag) = false := List.all_eq_false.2 ⟨f,List.mem_of_getElem? h,by rw [hf]; simp⟩
 rw [restB,this]; rfl
theorem rest_yes {rest : List Fd} {es : List (Int × List Tr)} (h : ∀ (i : Nat) (f : Fd),i < rest.length → rest[i]? = some f → (okF f && !hasB es f.tag) = true) : restB rest es = risesB rest := by
 have : (rest.all fun f => okF f && !hasB es f.tag) = true := List.all_eq_true.2 fun f hf => by
  obtain ⟨i,hi,e⟩ := List.getElem_of_mem hf
  exact h i f hi (by rw [List.getElem?_eq_getElem hi,e])
 rw [restB,this]; rfl
set_option maxHeartbeats 4000000 in
theorem rrest_any (n : Nat) (t : Tr) (v : Value) (w : World) (ht : TrIn (n + 1) w v t) :
  Calls Tryz.prog 79 #[v] w fun e w' => e = .returned (.bool (restB t.rest t.es)) ∧ Below w.heap.size w w' := by
 have HHS : Hid (∀ (tag : Int) W,Below w.heap.size w W → Calls Tryz.prog 28 #[v,.int .i64 tag] W fun e w' => e = .returned (.bool (hasB t.es tag)) ∧ Below W.heap.size W w') := fun tag W hW => rhas_any n t v tag W (ht.below hW)
 obtain ⟨n',ve,vr,e0,rfl,ka,na,sa,fa,ra,ea⟩ := ht.open
 obtain rfl : n' = n := by omega
 clear e0 ht
 obtain ⟨pe,ce,rfl,u1,u2, -⟩ := ea.open
 obtain ⟨pr,cr,rfl,x1,x2,x3, -⟩ := rest_holds ra
 obtain ⟨Kr,hKr⟩ : ∃ K,t.rest.length = K := ⟨_,rfl⟩
 rw [hKr] at x1 HHS ⊢
 have RA : Hid (RowG w (.slice pr Kr cr) 4 (fdRows t.rest)) := (by rw [← hKr]; exact ra : RowG w (.slice pr Kr cr) 4 (fdRows t.rest))
 have HKr : Hid (t.rest.length = Kr) := hKr
 have HRR : Hid (∀ W,Below w.heap.size w W → Calls Tryz.prog 106 #[.slice pr Kr cr] W fun e w' => e = .returned (.bool (risesB t.rest)) ∧ Below W.heap.size W w') := fun W hW => rrising_any pr t.rest Kr cr W hKr x3 x1 x2 (rowG_holdsW (RA.out.below hW))
 have HX3 : Hid (t.rest = [] ∨ ∃ g off,pr = some ⟨g,off,none⟩) := x3
 unfold maxLen at u2 x2
 clear hKr ea ra fa ka na sa x3
 obtain ⟨A,hA⟩ : ∃ A,restB t.rest t.es = A := ⟨_,rfl⟩
 rw [hA]
 have HA : Hid (restB t.rest t.es = A) := hA
 clear hA
 generalize t.es.length = Ke at *
 generalize t.kind = K at *
 generalize t.n = N at *
 generalize t.s = S at *
 have B0 : Blk (w.alloc (Obj.cells #[.int .i64 K,.int .i64 N,.string S,.slice pe Ke ce,.slice pr Kr cr] 30)) w.heap.size #[.int .i64 K,.int .i64 N,.string S,.slice pe Ke ce,.slice pr Kr cr] 30 := Blk.new w _ _
 have hb0 : Below w.heap.size w (w.alloc (Obj.cells #[.int .i64 K,.int .i64 N,.string S,.slice pe Ke ce,.slice pr Kr cr] 30)) := (Below.refl _ _).alloc (Nat.le_refl _) _
 go_enter Tryz.func79,Tryz.ntmps79
 go_wp2_with fail
 generalize (w.alloc (Obj.cells #[.int .i64 K,.int .i64 N,.string S,.slice pe Ke ce,.slice pr Kr cr] 30)) = WA at *
 obtain ⟨b0,hb0'⟩ : ∃ b,w.heap.size = b := ⟨_,rfl⟩
 rw [hb0'] at B0
 rw [hb0']
 have HBZ : Hid (w.heap.size = b0) := hb0'
 clear hb0'
 go_loopw [3] (fun iv wr => ∃ i : Nat,iv = .int .i64 (i : Int) ∧ i ≤ Kr ∧ Hid (∀ (j : Nat) (f : Fd),j < i → t.rest[j]? = some f → (okF f && !hasB t.es f.tag) = true) ∧ Hid (Blk wr b0 #[.int .i64 K,.int .i64 N,.string S,.slice pe Ke ce,.slice pr Kr cr] 30) ∧ Below w.heap.size w wr) (fun iv _ => Kr - (intOf iv).toNat)
 case atStart => exact ⟨0,rfl,by omega,(fun j f hj => absurd hj (by omega) : ∀ (j : Nat) (f : Fd),j < 0 → t.rest[j]? = some f → (okF f && !hasB t.es f.tag) = true),B0,hb0⟩
 case round =>
  clear B0 hb0
  obtain ⟨i,rfl,hi,HM,HB,hbel⟩ := hrel
  have a4 := (HB.out.cell 4).trans rfl
  by_cases hlt : i < Kr
  ·obtain ⟨x,hx⟩ : ∃ r,t.rest[i]? = some r := ⟨_,List.getElem?_eq_getElem (by rw [HKr.out]; exact hlt)⟩
   obtain ⟨g,off,rfl⟩ : ∃ g off,pr = some ⟨g,off,none⟩ := by
    rcases HX3.out with h | h
    ·rw [h] at hx; simp at hx
    ·exact h
   obtain ⟨p0,p1,p2,p3⟩ := rowG_holdsV (RA.out.below hbel) g off rfl i x hx
   have a0 := (HB.out.cell 0).trans rfl
   have a1 := (HB.out.cell 1).trans rfl
   have a2 := (HB.out.cell 2).trans rfl
   have a3 := (HB.out.cell 3).trans rfl
   have HX : Hid (t.rest[i]? = some x) := hx
   have k0 := kept_cellV a0
   have k1 := kept_cellV a1
   have k2 := kept_cellV a2
   have k3 := kept_cellV a3
   have k4 := kept_cellV a4
   have k5 := kept_cellV p0
   have k6 := kept_cellV p1
   have k7 := kept_cellV p2
   have k8 := kept_cellV p3
   clear hx a0 a1 a2 a3 p0 p1 p2 p3
   cases hok : okF x with
   | false =>
    have HC : Hid (∀ W1,Below wr.heap.size wr W1 → Calls Tryz.prog 105 #[.agg #[.int .i64 x.tag,.int .i64 x.wire,.int .i64 x.n,.string x.b]] W1 fun e w' => e = .returned (.bool false) ∧ Below wr.heap.size wr w') := fun W1 hW1 => by
     refine (rcheckV_any x.tag x.wire x.n x.b W1).mono ?_
     rintro e W' ⟨rfl,hb⟩
     exact ⟨by rw [show okV x.tag x.wire x.n x.b = okF x from rfl,hok],hW1.trans (hb.mono hW1.size)⟩
    have HH : Hid (false = A) := (rest_no HX.out (by rw [hok]; rfl)).symm.trans HA.out
    clear hok HM
    go_wp2_with fail
    clear a4
    haveI := nonempty_qb (Below.refl wr.heap.size wr)
    refine wp_region_qb (Below.refl wr.heap.size wr) (by kernel_rfl) (by kernel_rfl) ?_
    repeat (go_big_quiet_step (first | (go_at_call 105; exact qb_call HC.out)))
    refine wpQuiet_nil ?_
    rintro W1 ⟨⟨_,hW1⟩,rfl⟩
    have hb1 := hbel.trans (hW1.mono hbel.size)
    clear k0 k1 k2 k3 k4 k5 k6 k7 k8 hW1 hbel
    go_wp2_with fail
    go_ret
    exact ⟨congrArg (fun b => Ending.returned (Value.bool b)) HH.out,hb1⟩
   | true =>
    cases hhs : hasB t.es x.tag with
    | true =>
     have HC : Hid (∀ W1,Below wr.heap.size wr W1 → Calls Tryz.prog 105 #[.agg #[.int .i64 x.tag,.int .i64 x.wire,.int .i64 x.n,.string x.b]] W1 fun e w' => e = .returned (.bool true) ∧ Below wr.heap.size wr w') := fun W1 hW1 => by
      refine (rcheckV_any x.tag x.wire x.n x.b W1).mono ?_
      rintro e W' ⟨rfl,hb⟩
      exact ⟨by rw [show okV x.tag x.wire x.n x.b = okF x from rfl,hok],hW1.trans (hb.mono hW1.size)⟩
     have HD : Hid (∀ W1,Below wr.heap.size wr W1 → Calls Tryz.prog 28 #[.agg #[.int .i64 K,.int .i64 N,.string S,.slice pe Ke ce,.slice (some ⟨g,off,none⟩) Kr cr],.int .i64 x.tag] W1 fun e w' => e = .returned (.bool true) ∧ Below wr.heap.size wr w') := fun W1 hW1 => by
      refine (HHS.out x.tag W1 (hbel.trans (hW1.mono hbel.size))).mono ?_
      rintro e W' ⟨rfl,hb⟩
      exact ⟨by rw [hhs],hW1.trans (hb.mono hW1.size)⟩
     have HH : Hid (false = A) := (rest_no HX.out (by rw [hok,hhs]; rfl)).symm.trans HA.out
     clear hok hhs HM
     go_wp2_with fail
     clear a4
     haveI := nonempty_qb (Below.refl wr.heap.size wr)
     refine wp_region_qb (Below.refl wr.heap.size wr) (by kernel_rfl) (by kernel_rfl) ?_
     repeat (go_big_quiet_step (first | (go_at_call 105; exact qb_call HC.out) | (go_at_call 28; exact qb_call HD.out)))
     refine wpQuiet_nil ?_
     rintro W1 ⟨⟨_,hW1⟩,rfl⟩
     have hb1 := hbel.trans (hW1.mono hbel.size)
     clear k0 k1 k2 k3 k4 k5 k6 k7 k8 hW1 hbel
     go_wp2_with fail
     go_ret
     exact ⟨congrArg (fun b => Ending.returned (Value.bool b)) HH.out,hb1⟩
    | false =>
     have HC : Hid (∀ W1,Below wr.heap.size wr W1 → Calls Tryz.prog 105 #[.agg #[.int .i64 x.tag,.int .i64 x.wire,.int .i64 x.n,.string x.b]] W1 fun e w' => e = .returned (.bool true) ∧ Below wr.heap.size wr w') := fun W1 hW1 => by
      refine (rcheckV_any x.tag x.wire x.n x.b W1).mono ?_
      rintro e W' ⟨rfl,hb⟩
      exact ⟨by rw [show okV x.tag x.wire x.n x.b = okF x from rfl,hok],hW1.trans (hb.mono hW1.size)⟩
     have HD : Hid (∀ W1,Below wr.heap.size wr W1 → Calls Tryz.prog 28 #[.agg #[.int .i64 K,.int .i64 N,.string S,.slice pe Ke ce,.slice (some ⟨g,off,none⟩) Kr cr],.int .i64 x.tag] W1 fun e w' => e = .returned (.bool false) ∧ Below wr.heap.size wr w') := fun W1 hW1 => by
      refine (HHS.out x.tag W1 (hbel.trans (hW1.mono hbel.size))).mono ?_
      rintro e W' ⟨rfl,hb⟩
      exact ⟨by rw [hhs],hW1.trans (hb.mono hW1.size)⟩
     have HM2 : Hid (∀ (j : Nat) (f : Fd),j < i + 1 → t.rest[j]? = some f → (okF f && !hasB t.es f.tag) = true) := fun j f hj hf => by
      rcases Nat.lt_or_eq_of_le (Nat.le_of_lt_succ hj) with h | h
      ·exact HM.out j f h hf
      ·subst h
       have hxf : x = f := Option.some.inj (HX.out.symm.trans hf)
       subst hxf
       rw [hok,hhs]; rfl
     clear hok hhs HM
     go_wp2_with fail
     clear a4
     haveI := nonempty_qb (Below.refl wr.heap.size wr)
     refine wp_region_qb (Below.refl wr.heap.size wr) (by kernel_rfl) (by kernel_rfl) ?_
     repeat (go_big_quiet_step (first | (go_at_call 105; exact qb_call HC.out) | (go_at_call 28; exact qb_call HD.out)))
     refine wpQuiet_nil ?_
     rintro W1 ⟨⟨_,hW1⟩,rfl⟩
     have hb1 := hbel.trans (hW1.mono hbel.size)
     have HB2 : Hid (Blk W1 b0 #[.int .i64 K,.int .i64 N,.string S,.slice pe Ke ce,.slice (some ⟨g,off,none⟩) Kr cr] 30) := HB.out.below hW1
     clear k0 k1 k2 k3 k4 k5 k6 k7 k8 hW1 hbel HB
     go_wp2_with fail
     go_roundw
     case rel => exact ⟨i + 1,by go_num,by omega,HM2,HB2,hb1⟩
     case measure => simp [intOf]; omega
  ·have HH : Hid (risesB t.rest = A) := (rest_yes fun j f hj hf => HM.out j f (by rw [HKr.out] at hj; omega) hf).symm.trans HA.out
   clear HM HA
   go_wp2_with fail
   refine (HRR.out _ hbel).mono ?_
   rintro e w1 ⟨rfl,hb⟩
   rw [HH.out]
   have hb1 := hbel.trans (hb.mono hbel.size)
   clear hb hbel a4
   go_wp2_with fail
   go_ret
   exact ⟨rfl,hb1⟩
end Go.Proofs.YtfnjbbaphmmjlaaGreat

/- Part 8 of what the proof stands on. -/
import Derived.Test.YtfnjbbaphmmjlaaGreatPkAG
namespace Go.Proofs.YtfnjbbaphmmjlaaGreat
set_option linter.unusedVariables false
set_option linter.unusedSimpArgs false
open Go.ChangeShapes Go.WideShapes Go.ChangeAt Go.RowKit
set_option maxRecDepth 20000
def fieldA (s : ScS) (nm : ByteArray) (tag : Int) : Option FlS := (msgOf s nm).bind fun m => fldOf m.fields tag
theorem fieldA_none {s : ScS} {nm : ByteArray} {tag : Int} (h : (msgOf s nm).isSome = false) : fieldA s nm tag = none := by
 cases hq : msgOf s nm with
 | none => rw [fieldA,hq]; rfl
 | some m => rw [hq] at h; cases h
theorem fieldA_some {s : ScS} {nm : ByteArray} {tag : Int} (h : (msgOf s nm).isSome = true) : fieldA s nm tag = fldOf ((msgOf s nm).getD zMs).fields tag := by
 cases hq : msgOf s nm with
 | none => rw [hq] at h; cases h
 | some m => rw [fieldA,hq]; rfl
set_option maxHeartbeats 4000000 in
theorem fieldOf_any {s : ScS} {vs : Value} {nm : ByteArray} {tag : Int} {w : World} (hs : ScIn w vs s) (hl : ∀ m ∈ s.msgs,m.fields.length ≤ 20 ∧ m.reserved.length ≤ 40) :
  Calls Tryz.prog 46 #[vs,.string nm,.int .i64 tag] w fun e w' => e = .returned (.tuple #[flV ((fieldA s nm tag).getD zeroF),.bool (fieldA s nm tag).isSome]) ∧ Below w.heap.size w w' := by
 obtain ⟨vm,ve,vt,rfl,hms,hen,hmt⟩ := hs
 obtain ⟨ma,mc,rfl, -⟩ := hms.open
 obtain ⟨ea,ec,rfl, -⟩ := hen.open
 obtain ⟨ta,tn,tc,rfl⟩ := row_slice hmt
 generalize s.msgs.length = mn at *
 generalize s.enums.length = en at *
 obtain ⟨sn,hsn⟩ : ∃ z,s.name = z := ⟨_,rfl⟩
 rw [hsn]
 have BR : Blk ((w.alloc (Obj.cells #[.string sn,.slice ma mn mc,.slice ea en ec,.slice ta tn tc] 26)).alloc (Obj.cells #[.string ⟨#[]⟩,.int .i64 0,.int .i64 0,.int .i64 0,.string ⟨#[]⟩] 54)) (w.heap.size + 1) #[.string ⟨#[]⟩,.int .i64 0,.int .i64 0,.int .i64 0,.string ⟨#[]⟩] 54 := by
  have := Blk.new (w.alloc (Obj.cells #[.string sn,.slice ma mn mc,.slice ea en ec,.slice ta tn tc] 26)) #[.string ⟨#[]⟩,.int .i64 0,.int .i64 0,.int .i64 0,.string ⟨#[]⟩] 54
  rwa [show (w.alloc (Obj.cells #[.string sn,.slice ma mn mc,.slice ea en ec,.slice ta tn tc] 26)).heap.size = w.heap.size + 1 from by simp] at this
 have hbw : Below w.heap.size w ((w.alloc (Obj.cells #[.string sn,.slice ma mn mc,.slice ea en ec,.slice ta tn tc] 26)).alloc (Obj.cells #[.string ⟨#[]⟩,.int .i64 0,.int .i64 0,.int .i64 0,.string ⟨#[]⟩] 54)) := ((Below.refl _ _).alloc (Nat.le_refl _) _).alloc (by simp) _
 have HMG : Hid (Calls Tryz.prog 34 #[.agg #[.string sn,.slice ma mn mc,.slice ea en ec,.slice ta tn tc],.string nm] ((w.alloc (Obj.cells #[.string sn,.slice ma mn mc,.slice ea en ec,.slice ta tn tc] 26)).alloc (Obj.cells #[.string ⟨#[]⟩,.int .i64 0,.int .i64 0,.int .i64 0,.string ⟨#[]⟩] 54)) fun e w' => ∃ vf vr,e = .returned (.tuple #[.agg #[.string ((msgOf s nm).getD zMs).name,vf,vr],.bool (msgOf s nm).isSome]) ∧ w'.ownsRow ((w.alloc (Obj.cells #[.string sn,.slice ma mn mc,.slice ea en ec,.slice ta tn tc] 26)).alloc (Obj.cells #[.string ⟨#[]⟩,.int .i64 0,.int .i64 0,.int .i64 0,.string ⟨#[]⟩] 54)).heap.size 54 5 vf ((msgOf s nm).getD zMs).fields.length (flRows ((msgOf s nm).getD zMs).fields).flatten ∧ w'.ownsRow ((w.alloc (Obj.cells #[.string sn,.slice ma mn mc,.slice ea en ec,.slice ta tn tc] 26)).alloc (Obj.cells #[.string ⟨#[]⟩,.int .i64 0,.int .i64 0,.int .i64 0,.string ⟨#[]⟩] 54)).heap.size 3 1 vr ((msgOf s nm).getD zMs).reserved.length (inRows ((msgOf s nm).getD zMs).reserved).flatten ∧ Below ((w.alloc (Obj.cells #[.string sn,.slice ma mn mc,.slice ea en ec,.slice ta tn tc] 26)).alloc (Obj.cells #[.string ⟨#[]⟩,.int .i64 0,.int .i64 0,.int .i64 0,.string ⟨#[]⟩] 54)).heap.size ((w.alloc (Obj.cells #[.string sn,.slice ma mn mc,.slice ea en ec,.slice ta tn tc] 26)).alloc (Obj.cells #[.string ⟨#[]⟩,.int .i64 0,.int .i64 0,.int .i64 0,.string ⟨#[]⟩] 54)) w') := cmessage_any (hms.below hbw) hl
 clear hms hen hmt hsn
 obtain ⟨ok,hok⟩ : ∃ z,(msgOf s nm).isSome = z := ⟨_,rfl⟩
 have HOK : Hid ((msgOf s nm).isSome = ok) := hok
 obtain ⟨fs,hfs⟩ : ∃ z,((msgOf s nm).getD zMs).fields = z := ⟨_,rfl⟩
 have HFS : Hid (((msgOf s nm).getD zMs).fields = fs) := hfs
 obtain ⟨mnm,hmnm⟩ : ∃ z,((msgOf s nm).getD zMs).name = z := ⟨_,rfl⟩
 rw [hok,hfs,hmnm] at HMG
 obtain ⟨F,hF⟩ : ∃ z,fieldA s nm tag = z := ⟨_,rfl⟩
 have HF : Hid (fieldA s nm tag = F) := hF
 rw [hF]
 clear hok hfs hmnm hF
 cases ok with
 | false =>
  obtain rfl : F = none := by rw [← HF.out,fieldA_none HOK.out]
  simp only [flV,zeroF,Option.getD_none,Option.isSome_none]
  go_enter Tryz.func46,Tryz.ntmps46
  go_wp2_with fail
  refine HMG.out.mono ?_
  rintro ee w2 ⟨vf,vr,rfl,hof,hor,hb2⟩
  obtain ⟨fa,fc,hvf⟩ := own_form hof
  obtain ⟨ra,rc,hvr⟩ := own_form hor
  subst hvf hvr
  generalize ((msgOf s nm).getD zMs).reserved.length = rl at *
  generalize fs.length = fl at *
  have al3 : Below w2.heap.size w2 (w2.alloc (Obj.cells #[.string mnm,.slice fa fl fc,.slice ra rl rc] 50)) := (Below.refl _ _).alloc (Nat.le_refl _) _
  have hbw2 : Below w.heap.size w w2 := hbw.trans (hb2.mono hbw.size)
  have hbw3 : Below w.heap.size w (w2.alloc (Obj.cells #[.string mnm,.slice fa fl fc,.slice ra rl rc] 50)) := hbw2.trans (al3.mono hbw2.size)
  have BR3 := (BR.below hb2).below al3
  have r0 := (BR3.cell 0).trans rfl
  have z0 := BR3.froz 0
  have r1 := (BR3.cell 1).trans rfl
  have z1 := BR3.froz 1
  have r2 := (BR3.cell 2).trans rfl
  have z2 := BR3.froz 2
  have r3 := (BR3.cell 3).trans rfl
  have z3 := BR3.froz 3
  have r4 := (BR3.cell 4).trans rfl
  have z4 := BR3.froz 4
  clear hof hor hb2 hbw hbw2 al3 BR BR3 HMG
  go_wp2_with fail
  refine bodyPost_ret (results_two rfl _ _ _ ⟨w.heap.size + 1,0,none⟩ (.agg #[.string ⟨#[]⟩,.int .i64 0,.int .i64 0,.int .i64 0,.string ⟨#[]⟩]) (by go_simp) (by go_simp)) rfl ⟨rfl,?_⟩
  repeat' first | exact hbw3 | refine Below.setCell ?_ (by simp) _
 | true =>
  go_enter Tryz.func46,Tryz.ntmps46
  go_wp2_with fail
  refine HMG.out.mono ?_
  rintro ee w2 ⟨vf,vr,rfl,hof,hor,hb2⟩
  have hrf : RowG w2 vf 5 (flRows fs) := (RowG.own (flr_len5 fs) (by decide) hof).1
  obtain ⟨fa,fc,hvf⟩ := own_form hof
  obtain ⟨ra,rc,hvr⟩ := own_form hor
  subst hvf hvr
  obtain ⟨rl,hrl⟩ : ∃ z,((msgOf s nm).getD zMs).reserved.length = z := ⟨_,rfl⟩
  rw [hrl]
  have al3 : Below w2.heap.size w2 (w2.alloc (Obj.cells #[.string mnm,.slice fa fs.length fc,.slice ra rl rc] 50)) := (Below.refl _ _).alloc (Nat.le_refl _) _
  have hbw2 : Below w.heap.size w w2 := hbw.trans (hb2.mono hbw.size)
  have hbw3 : Below w.heap.size w (w2.alloc (Obj.cells #[.string mnm,.slice fa fs.length fc,.slice ra rl rc] 50)) := hbw2.trans (al3.mono hbw2.size)
  have BR3 := (BR.below hb2).below al3
  have HFC : Hid (Calls Tryz.prog 80 #[.agg #[.string mnm,.slice fa fs.length fc,.slice ra rl rc],.int .i64 tag] (w2.alloc (Obj.cells #[.string mnm,.slice fa fs.length fc,.slice ra rl rc] 50)) fun e' w' => e' = .returned (.tuple #[flV (F.getD zeroF),.bool F.isSome]) ∧ Below (w2.alloc (Obj.cells #[.string mnm,.slice fa fs.length fc,.slice ra rl rc] 50)).heap.size (w2.alloc (Obj.cells #[.string mnm,.slice fa fs.length fc,.slice ra rl rc] 50)) w') := (by
   have h1 := cfield_any (snm := mnm) (nm := tag) (am := ra) (M := rl) (cm := rc) (hrf.below al3)
   have h2 : (fs.find? fun m => decide (m.tag = tag)) = F := by rw [← HF.out,fieldA_some HOK.out,HFS.out]; rfl
   rw [h2] at h1
   exact h1 : Calls Tryz.prog _ _ _ _)
  clear hof hor hb2 hbw hbw2 al3 BR HMG hrf hrl
  generalize fs.length = fl at *
  go_wp2_with fail
  refine HFC.out.mono ?_
  rintro ee w4 ⟨rfl,hb4⟩
  have hbw4 : Below w.heap.size w w4 := hbw3.trans (hb4.mono hbw3.size)
  have BR4 := BR3.below hb4
  have r0 := (BR4.cell 0).trans rfl
  have z0 := BR4.froz 0
  have r1 := (BR4.cell 1).trans rfl
  have z1 := BR4.froz 1
  have r2 := (BR4.cell 2).trans rfl
  have z2 := BR4.froz 2
  have r3 := (BR4.cell 3).trans rfl
  have z3 := BR4.froz 3
  have r4 := (BR4.cell 4).trans rfl
  have z4 := BR4.froz 4
  clear hb4 hbw3 BR3 BR4 HFC
  obtain ⟨Y,hY⟩ : ∃ z,F.getD zeroF = z := ⟨_,rfl⟩
  have HY : Hid (F.getD zeroF = Y) := hY
  rw [hY]
  clear hY
  obtain ⟨y1,y2,y3,y4,y5⟩ := Y
  simp only [flV]
  go_wp2_with fail
  refine bodyPost_ret (results_two rfl _ _ _ ⟨w.heap.size + 1,0,none⟩ (.agg #[.string y1,.int .i64 y2,.int .i64 y3,.int .i64 y4,.string y5]) (by go_simp) (by go_simp)) rfl ⟨ret_two (by rw [HY.out]; rfl) rfl,?_⟩
  repeat' first | exact hbw4 | refine Below.setCell ?_ (by simp) _
def zeroL (f : FlS) : List Tr := if f.label = 1 ∧ kindT f.kind ≠ 0 then [⟨kindT f.kind,0,⟨#[]⟩,[],[]⟩] else []
theorem kindT_64 (k : Int) : Is64 (kindT k) := by
 unfold kindT
 split
 ·exact ⟨by decide,by decide⟩
 ·split
  ·exact ⟨by decide,by decide⟩
  ·split
   ·exact ⟨by decide,by decide⟩
   ·exact ⟨by decide,by decide⟩
set_option maxHeartbeats 2000000 in
theorem without_any (f : FlS) (n : Nat) (w : World) : Calls Tryz.prog 48 #[flV f] w fun e w' => ∃ r,e = .returned r ∧ TrsR (n + 1) w' r (zeroL f) ∧ Below w.heap.size w w' := by
 obtain ⟨y1,y2,y3,y4,y5⟩ := f
 obtain ⟨kt,hkt⟩ : ∃ z,kindT y4 = z := ⟨_,rfl⟩
 have HKT : Hid (kindT y4 = kt) := hkt
 have al : Below w.heap.size w (w.alloc (Obj.cells #[.string y1,.int .i64 y2,.int .i64 y3,.int .i64 y4,.string y5] 54)) := (Below.refl _ _).alloc (Nat.le_refl _) _
 have BL : Blk (w.alloc (Obj.cells #[.string y1,.int .i64 y2,.int .i64 y3,.int .i64 y4,.string y5] 54)) w.heap.size #[.string y1,.int .i64 y2,.int .i64 y3,.int .i64 y4,.string y5] 54 := Blk.new w _ _
 have HK : Hid (Calls Tryz.prog 81 #[.agg #[.int .i64 y4,.string y5]] (w.alloc (Obj.cells #[.string y1,.int .i64 y2,.int .i64 y3,.int .i64 y4,.string y5] 54)) fun e w' => e = .returned (.int .i64 kt) ∧ Below (w.alloc (Obj.cells #[.string y1,.int .i64 y2,.int .i64 y3,.int .i64 y4,.string y5] 54)).heap.size (w.alloc (Obj.cells #[.string y1,.int .i64 y2,.int .i64 y3,.int .i64 y4,.string y5] 54)) w') := (by have h1 := kindOf_any y4 y5 (w.alloc (Obj.cells #[.string y1,.int .i64 y2,.int .i64 y3,.int .i64 y4,.string y5] 54)); rw [hkt] at h1; exact h1 : Calls Tryz.prog _ _ _ _)
 simp only [flV]
 clear hkt
 go_enter Tryz.func48,Tryz.ntmps48
 go_wp2_with fail
 refine HK.out.mono ?_
 rintro ee w1 ⟨rfl,hb1⟩
 have hbw : Below w.heap.size w w1 := al.trans (hb1.mono al.size)
 have BL1 := BL.below hb1
 have l2 := (BL1.cell 2).trans rfl
 clear hb1 al BL BL1 HK
 have ZN : Hid (¬ (y3 = 1 ∧ kt ≠ 0) → zeroL ⟨y1,y2,y3,y4,y5⟩ = []) := fun h => by rw [zeroL,if_neg]; rw [HKT.out]; exact h
 by_cases h1 : y3 = 1
 ·have d1 : (y3 == 1) = true := by simpa using h1
  by_cases h2 : kt = 0
  ·have d2 : (kt != 0) = false := by simpa using h2
   have HZ : Hid (zeroL ⟨y1,y2,y3,y4,y5⟩ = []) := ZN.out (by simp [h2])
   clear h1 h2 ZN
   go_wp2_with fail
   go_ret
   exact ⟨_,rfl,by rw [HZ.out]; exact RowP.nil _ _ _,hbw⟩
  ·have d2 : (kt != 0) = true := by simpa using h2
   have HZ : Hid (zeroL ⟨y1,y2,y3,y4,y5⟩ = [⟨kt,0,⟨#[]⟩,[],[]⟩]) := (by rw [zeroL,if_pos (by simp only; rw [HKT.out]; exact ⟨h1,h2⟩)]; simp only; rw [HKT.out] : zeroL ⟨y1,y2,y3,y4,y5⟩ = [⟨kt,0,⟨#[]⟩,[],[]⟩])
   have BZ : Blk (w1.alloc (Obj.cells #[.int .i64 kt,.int .i64 0,.string ⟨#[]⟩,.slice none 0 0,.slice none 0 0] 30)) w1.heap.size #[.int .i64 kt,.int .i64 0,.string ⟨#[]⟩,.slice none 0 0,.slice none 0 0] 30 := Blk.new w1 _ _
   have HRW : Hid (TrsR (n + 1) (w1.alloc (Obj.cells #[.int .i64 kt,.int .i64 0,.string ⟨#[]⟩,.slice none 0 0,.slice none 0 0] 30)) (.slice (some ⟨w1.heap.size,0,none⟩) 1 1) [⟨kt,0,⟨#[]⟩,[],[]⟩]) := (by
    refine ⟨[[.int .i64 kt,.int .i64 0,.string ⟨#[]⟩,.slice none 0 0,.slice none 0 0]],RowG.blk BZ rfl (fun r hr => by simp at hr; subst hr; rfl) rfl (by decide),rfl,fun i x hx => ?_⟩
    match i,hx with
    | 0,hx =>
     simp at hx
     subst hx
     exact ⟨_,rfl,.slice none 0 0,.slice none 0 0,rfl,by have := kindT_64 y4; rw [HKT.out] at this; exact this,⟨by show (-9223372036854775808 : Int) ≤ 0; decide,by show (0 : Int) ≤ 9223372036854775807; decide⟩,Nat.zero_le _,(fun f hf => by simp at hf),RowG.nil _ _,RowP.nil _ _ _,(fun g off n cap e => by cases e),fun g off n cap e => by cases e⟩
    | i + 1,hx => simp at hx : TrsR (n + 1) _ _ _)
   have hbe : Below w.heap.size w (w1.alloc (Obj.cells #[.int .i64 kt,.int .i64 0,.string ⟨#[]⟩,.slice none 0 0,.slice none 0 0] 30)) := hbw.alloc hbw.size _
   clear h1 h2 ZN BZ
   go_wp2_with fail
   go_ret
   exact ⟨_,rfl,by rw [HZ.out]; exact HRW.out,hbe⟩
 ·have d1 : (y3 == 1) = false := by simpa using h1
  have HZ : Hid (zeroL ⟨y1,y2,y3,y4,y5⟩ = []) := ZN.out (by simp [h1])
  clear h1 ZN
  go_wp2_with fail
  go_ret
  exact ⟨_,rfl,by rw [HZ.out]; exact RowP.nil _ _ _,hbw⟩
def undL (es : List (Int × List Tr)) (tag : Int) : Option (List Tr) := (es.find? fun e => e.1 == tag).map (·.2)
def getA (s : ScS) (nm : ByteArray) (t : Tr) (tag : Int) : Option (List Tr) :=
 match fieldA s nm tag with
 | none => none
 | some f => if t.kind ≠ 3 then none else some ((undL t.es tag).getD (zeroL f))
theorem undL_step {es : List (Int × List Tr)} {i : Nat} {x : Int × List Tr} {tag : Int} (h : es[i]? = some x) (hn : ∀ e ∈ es.take i,e.1 ≠ tag) (hx : x.1 = tag) : undL es tag = some x.2 := by
 obtain ⟨hl,rfl⟩ := List.getElem?_eq_some_iff.1 h
 have h1 : es = es.take i ++ (es[i] :: es.drop (i + 1)) := by rw [← List.drop_eq_getElem_cons hl,List.take_append_drop]
 have h2 : (es.take i).find? (fun e => e.1 == tag) = none := by
  rw [List.find?_eq_none]
  intro e he
  simpa using hn e he
 have h3 : es.find? (fun e => e.1 == tag) = some es[i] := by
  conv => lhs; rw [h1]
  rw [List.find?_append,h2,Option.none_or,List.find?_cons_of_pos (by simpa using hx)]
 rw [undL,h3]
 rfl
theorem undL_no {es : List (Int × List Tr)} {tag : Int} (hn : ∀ e ∈ es,e.1 ≠ tag) : undL es tag = none := by
 have h2 : es.find? (fun e => e.1 == tag) = none := by
  rw [List.find?_eq_none]
  intro e he
  simpa using hn e he
 rw [undL,h2]
 rfl
def GetP (n : Nat) (s : ScS) (nm : ByteArray) (t : Tr) (tag : Int) (w : World) (e : Ending) (w' : World) : Prop := ∃ r,e = .returned (.tuple #[r,.bool (getA s nm t tag).isSome]) ∧ TrsR (n + 1) w' r ((getA s nm t tag).getD []) ∧ Below w.heap.size w w'
set_option maxHeartbeats 4000000 in
theorem get_step (n : Nat) {s : ScS} {vs v : Value} {t : Tr} {nm : ByteArray} {tag : Int} {w : World} (hs : ScIn w vs s) (hl : ∀ m ∈ s.msgs,m.fields.length ≤ 20 ∧ m.reserved.length ≤ 40) (ht : TrW (n + 2) w v t)
  (HC : ∀ (e : Int × List Tr) (u : Value) (W : World),e ∈ t.es → e.1 = tag → TrsR (n + 1) W u e.2 → Calls Tryz.prog 47 #[u] W fun e' w' => ∃ r,e' = .returned r ∧ TrsR (n + 1) w' r e.2 ∧ Below W.heap.size W w') :
  Calls Tryz.prog 23 #[vs,.string nm,v,.int .i64 tag] w (GetP n s nm t tag w) := by
 obtain ⟨m,a1,c1,a2,c2,hmn,rfl, -, -, -,u1,u2, -, -, -, -, -,he, -⟩ := ht.open
 obtain rfl : m = n + 1 := by omega
 have hs' := hs
 obtain ⟨vm,ve,vt,rfl,hms,hen,hmt⟩ := hs
 obtain ⟨ma,mc,rfl, -⟩ := hms.open
 obtain ⟨ea,ec,rfl, -⟩ := hen.open
 obtain ⟨ta,tn,tc,rfl⟩ := row_slice hmt
 generalize s.msgs.length = mn at *
 generalize s.enums.length = en at *
 obtain ⟨n1,hn1⟩ : ∃ z,t.es.length = z := ⟨_,rfl⟩
 rw [hn1] at u1 he ⊢
 have HN1 : Hid (t.es.length = n1) := hn1
 generalize t.rest.length = n2 at *
 obtain ⟨K,hK⟩ : ∃ z,t.kind = z := ⟨_,rfl⟩
 have HK : Hid (t.kind = K) := hK
 generalize t.n = N at *
 generalize t.s = S at *
 obtain ⟨sn,hsn⟩ : ∃ z,s.name = z := ⟨_,rfl⟩
 rw [hK]
 rw [hsn] at hs' ⊢
 unfold maxLen at u2
 have BS : Blk ((w.alloc (Obj.cells #[.string sn,.slice ma mn mc,.slice ea en ec,.slice ta tn tc] 26)).alloc (Obj.cells #[.int .i64 K,.int .i64 N,.string S,.slice a1 n1 c1,.slice a2 n2 c2] 30)) w.heap.size #[.string sn,.slice ma mn mc,.slice ea en ec,.slice ta tn tc] 26 := (Blk.new w _ _).below ((Below.refl _ _).alloc (Nat.le_refl _) _)
 have BT : Blk ((w.alloc (Obj.cells #[.string sn,.slice ma mn mc,.slice ea en ec,.slice ta tn tc] 26)).alloc (Obj.cells #[.int .i64 K,.int .i64 N,.string S,.slice a1 n1 c1,.slice a2 n2 c2] 30)) (w.heap.size + 1) #[.int .i64 K,.int .i64 N,.string S,.slice a1 n1 c1,.slice a2 n2 c2] 30 := by
  have := Blk.new (w.alloc (Obj.cells #[.string sn,.slice ma mn mc,.slice ea en ec,.slice ta tn tc] 26)) #[.int .i64 K,.int .i64 N,.string S,.slice a1 n1 c1,.slice a2 n2 c2] 30
  rwa [show (w.alloc (Obj.cells #[.string sn,.slice ma mn mc,.slice ea en ec,.slice ta tn tc] 26)).heap.size = w.heap.size + 1 from by simp] at this
 have hbw : Below w.heap.size w ((w.alloc (Obj.cells #[.string sn,.slice ma mn mc,.slice ea en ec,.slice ta tn tc] 26)).alloc (Obj.cells #[.int .i64 K,.int .i64 N,.string S,.slice a1 n1 c1,.slice a2 n2 c2] 30)) := ((Below.refl _ _).alloc (Nat.le_refl _) _).alloc (by simp) _
 have HFO : Hid (Calls Tryz.prog 46 #[.agg #[.string sn,.slice ma mn mc,.slice ea en ec,.slice ta tn tc],.string nm,.int .i64 tag] ((w.alloc (Obj.cells #[.string sn,.slice ma mn mc,.slice ea en ec,.slice ta tn tc] 26)).alloc (Obj.cells #[.int .i64 K,.int .i64 N,.string S,.slice a1 n1 c1,.slice a2 n2 c2] 30)) fun e w' => e = .returned (.tuple #[flV ((fieldA s nm tag).getD zeroF),.bool (fieldA s nm tag).isSome]) ∧ Below ((w.alloc (Obj.cells #[.string sn,.slice ma mn mc,.slice ea en ec,.slice ta tn tc] 26)).alloc (Obj.cells #[.int .i64 K,.int .i64 N,.string S,.slice a1 n1 c1,.slice a2 n2 c2] 30)).heap.size ((w.alloc (Obj.cells #[.string sn,.slice ma mn mc,.slice ea en ec,.slice ta tn tc] 26)).alloc (Obj.cells #[.int .i64 K,.int .i64 N,.string S,.slice a1 n1 c1,.slice a2 n2 c2] 30)) w') := fieldOf_any (hs'.below hbw) hl
 have HE : Hid (EnsR (n + 1) w (.slice a1 n1 c1) t.es) := he
 have HCO : Hid (∀ (e : Int × List Tr) (u : Value) (W : World),e ∈ t.es → e.1 = tag → TrsR (n + 1) W u e.2 → Calls Tryz.prog 47 #[u] W fun e' w' => ∃ r,e' = .returned r ∧ TrsR (n + 1) w' r e.2 ∧ Below W.heap.size W w') := HC
 obtain ⟨F,hF⟩ : ∃ z,fieldA s nm tag = z := ⟨_,rfl⟩
 have HF : Hid (fieldA s nm tag = F) := hF
 rw [hF] at HFO
 obtain ⟨Y,hY⟩ : ∃ z,F.getD zeroF = z := ⟨_,rfl⟩
 have HY : Hid (F.getD zeroF = Y) := hY
 rw [hY] at HFO
 obtain ⟨y1,y2,y3,y4,y5⟩ := Y
 simp only [flV] at HFO
 clear hF hY hK hsn hs' hms hen hmt ht he hn1 HC hmn
 go_enter Tryz.func23,Tryz.ntmps23
 go_wp2_with fail
 refine HFO.out.mono ?_
 rintro ee w1 ⟨rfl,hb1⟩
 have hbw1 : Below w.heap.size w w1 := hbw.trans (hb1.mono hbw.size)
 have al2 : Below w1.heap.size w1 (w1.alloc (Obj.cells #[.string y1,.int .i64 y2,.int .i64 y3,.int .i64 y4,.string y5] 54)) := (Below.refl _ _).alloc (Nat.le_refl _) _
 have hbw2 : Below w.heap.size w (w1.alloc (Obj.cells #[.string y1,.int .i64 y2,.int .i64 y3,.int .i64 y4,.string y5] 54)) := hbw1.trans (al2.mono hbw1.size)
 have BT2 := (BT.below hb1).below al2
 have BL2 : Blk (w1.alloc (Obj.cells #[.string y1,.int .i64 y2,.int .i64 y3,.int .i64 y4,.string y5] 54)) w1.heap.size #[.string y1,.int .i64 y2,.int .i64 y3,.int .i64 y4,.string y5] 54 := Blk.new w1 _ _
 have HE2 : Hid (EnsR (n + 1) (w1.alloc (Obj.cells #[.string y1,.int .i64 y2,.int .i64 y3,.int .i64 y4,.string y5] 54)) (.slice a1 n1 c1) t.es) := HE.out.celE (Cel.ofBelow hbw2)
 have t0 := (BT2.cell 0).trans rfl
 have t3 := (BT2.cell 3).trans rfl
 clear hb1 hbw hbw1 al2 BS BT HFO HE
 cases F with
 | none =>
  have HG : Hid (getA s nm t tag = none) := (by rw [getA,HF.out] : getA s nm t tag = none)
  simp only [Option.isSome_none]
  go_wp2_with fail
  go_ret2
  exact ⟨_,by rw [HG.out]; rfl,by rw [HG.out]; exact RowP.nil _ _ _,hbw2⟩
 | some f =>
  obtain rfl : f = ⟨y1,y2,y3,y4,y5⟩ := by have := HY.out; simpa using this
  simp only [Option.isSome_some]
  by_cases hK3 : K = 3
  rotate_left
  ·have d : (K != 3) = true := by simpa using hK3
   have HG : Hid (getA s nm t tag = none) := (by rw [getA,HF.out]; simp only; rw [if_pos (by rw [HK.out]; exact hK3)] : getA s nm t tag = none)
   clear hK3
   go_wp2_with fail
   go_ret2
   exact ⟨_,by rw [HG.out]; rfl,by rw [HG.out]; exact RowP.nil _ _ _,hbw2⟩
  ·have d : (K != 3) = false := by simpa using hK3
   have HG : Hid (getA s nm t tag = some ((undL t.es tag).getD (zeroL ⟨y1,y2,y3,y4,y5⟩))) := (by rw [getA,HF.out]; simp only; rw [if_neg (by rw [HK.out]; simpa using hK3)] : getA s nm t tag = some _)
   clear hK3
   go_wp2_with fail
   clear t0 t3 d
   generalize (w1.alloc (Obj.cells #[.string y1,.int .i64 y2,.int .i64 y3,.int .i64 y4,.string y5] 54)) = W2 at *
   obtain ⟨bL,hbL⟩ : ∃ z,w1.heap.size = z := ⟨_,rfl⟩
   rw [hbL] at BL2
   simp only [hbL]
   clear hbL BT2
   go_loopw [31] (fun iv wr => ∃ i : Nat,iv = .int .i64 (i : Int) ∧ i ≤ n1 ∧ Hid (∀ e ∈ t.es.take i,e.1 ≠ tag) ∧ Below W2.heap.size W2 wr) (fun iv _ => n1 - (intOf iv).toNat)
   case atStart => exact ⟨0,rfl,by omega,(by simp : ∀ e ∈ t.es.take 0,e.1 ≠ tag),Below.refl _ _⟩
   case round =>
    obtain ⟨i,rfl,hi,HI,hbel⟩ := hrel
    by_cases hlt : i < n1
    ·obtain ⟨x,hx⟩ : ∃ r,t.es[i]? = some r := ⟨_,List.getElem?_eq_getElem (by rw [HN1.out]; exact hlt)⟩
     obtain ⟨gx,ox,xa,xc,rfl,y0,y1', -,hxt,hxc,hxm⟩ := ensR_get (HE2.out.celE (Cel.ofBelow hbel)) hx
     have al : Below wr.heap.size wr (wr.alloc (Obj.cells #[.int .i64 x.1,.slice xa x.2.length xc] 58)) := (Below.refl _ _).alloc (Nat.le_refl _) _
     have hb5 : Below W2.heap.size W2 (wr.alloc (Obj.cells #[.int .i64 x.1,.slice xa x.2.length xc] 58)) := hbel.trans (al.mono hbel.size)
     by_cases hxt' : x.1 = tag
     ·have HCC : Hid (Calls Tryz.prog 47 #[.slice xa x.2.length xc] (wr.alloc (Obj.cells #[.int .i64 x.1,.slice xa x.2.length xc] 58)) fun e' w' => ∃ r,e' = .returned r ∧ TrsR (n + 1) w' r x.2 ∧ Below (wr.alloc (Obj.cells #[.int .i64 x.1,.slice xa x.2.length xc] 58)).heap.size (wr.alloc (Obj.cells #[.int .i64 x.1,.slice xa x.2.length xc] 58)) w') := HCO.out x _ _ (List.mem_of_getElem? hx) hxt' (hxt.celT (Cel.ofBelow al))
      have HG2 : Hid (getA s nm t tag = some x.2) := (by rw [HG.out,undL_step hx HI.out hxt']; rfl : getA s nm t tag = some x.2)
      have hq : (x.1 == tag) = true := by simpa using hxt'
      obtain ⟨Xl,hXl⟩ : ∃ z,x.2.length = z := ⟨_,rfl⟩
      obtain ⟨xt,hxt1⟩ : ∃ z,x.1 = z := ⟨_,rfl⟩
      rw [hXl,hxt1] at HCC al hb5
      rw [hxt1] at y0 hq
      rw [hXl] at y1'
      clear hx hxt hxt' HI HG hXl hxt1 hxc hxm
      go_wp2_with fail
      refine HCC.out.mono ?_
      rintro ee w6 ⟨r,rfl,hr6,hb6⟩
      have HR6 : Hid (TrsR (n + 1) w6 r x.2) := hr6
      have hbe : Below w.heap.size w w6 := hbw2.trans ((hb5.trans (hb6.mono hb5.size)).mono hbw2.size)
      obtain ⟨qa,qc,hqr, -⟩ := RowP.open hr6
      subst hqr
      clear hr6 hb6 hb5 HCC y0 y1' al hbel hq
      generalize x.2.length = Ql at *
      go_wp2_with fail
      go_ret2
      exact ⟨_,by rw [HG2.out]; rfl,by rw [HG2.out]; exact HR6.out,hbe⟩
     ·have hq : (x.1 == tag) = false := by simpa using hxt'
      have HI2 : Hid (∀ e ∈ t.es.take (i + 1),e.1 ≠ tag) := (by
       obtain ⟨hl',e'⟩ := List.getElem?_eq_some_iff.1 hx
       rw [List.take_succ_eq_append_getElem hl',e']
       intro e he
       rcases List.mem_append.1 he with he | he
       ·exact HI.out e he
       ·obtain rfl : e = x := by simpa using he
        exact hxt' : ∀ e ∈ t.es.take (i + 1),e.1 ≠ tag)
      generalize x.2.length = Xl at *
      generalize x.1 = xt at *
      clear hx hxt hxt' HI
      go_wp2_with fail
      clear y0 y1' al hbel hq
      go_roundw
      case rel => exact ⟨i + 1,by go_num,by omega,HI2,hb5⟩
      case measure => simp [intOf]; omega
    ·have HG2 : Hid (getA s nm t tag = some (zeroL ⟨y1,y2,y3,y4,y5⟩)) := (by
      have h1 := HI.out
      rw [List.take_of_length_le (by rw [HN1.out]; omega)] at h1
      rw [HG.out,undL_no h1]; rfl : getA s nm t tag = some _)
     have BLr := BL2.below hbel
     have l0 := (BLr.cell 0).trans rfl
     have l1 := (BLr.cell 1).trans rfl
     have l2 := (BLr.cell 2).trans rfl
     have l3 := (BLr.cell 3).trans rfl
     have l4 := (BLr.cell 4).trans rfl
     have HWE : Hid (Calls Tryz.prog 48 #[.agg #[.string y1,.int .i64 y2,.int .i64 y3,.int .i64 y4,.string y5]] wr fun e w' => ∃ r,e = .returned r ∧ TrsR (n + 1) w' r (zeroL ⟨y1,y2,y3,y4,y5⟩) ∧ Below wr.heap.size wr w') := without_any ⟨y1,y2,y3,y4,y5⟩ n wr
     clear HI HG BLr
     go_wp2_with fail
     refine HWE.out.mono ?_
     rintro ee w6 ⟨r,rfl,hr6,hb6⟩
     have HR6 : Hid (TrsR (n + 1) w6 r (zeroL ⟨y1,y2,y3,y4,y5⟩)) := hr6
     have hbe : Below w.heap.size w w6 := hbw2.trans ((hbel.trans (hb6.mono hbel.size)).mono hbw2.size)
     obtain ⟨qa,qc,hqr, -⟩ := RowP.open hr6
     subst hqr
     clear hr6 hb6 HWE hbel l0 l1 l2 l3 l4
     generalize (zeroL ⟨y1,y2,y3,y4,y5⟩).length = Ql at *
     go_wp2_with fail
     go_ret2
     exact ⟨_,by rw [HG2.out]; rfl,by rw [HG2.out]; exact HR6.out,hbe⟩
end Go.Proofs.YtfnjbbaphmmjlaaGreat

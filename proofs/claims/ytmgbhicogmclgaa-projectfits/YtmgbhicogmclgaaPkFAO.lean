/- Part 15 of what the proof stands on. -/
import Derived.Test.YtmgbhicogmclgaaPkFAN
namespace Go.Proofs.Ytmgbhicogmclgaa
set_option maxHeartbeats 8000000
set_option linter.unusedVariables false
set_option linter.unusedSimpArgs false
set_option maxRecDepth 20000
open Go.ChangeShapes Go.WideShapes Go.ChangeAt Go.RowKit
theorem TrW.v2 {n : Nat} {w : World} {v : Value} {t : Tr} (h : TrW n w v t) : TrV2 n w v t := by
 obtain ⟨r,h1,h2⟩ := h;exact ⟨r,h1,h2.trQ⟩
theorem fits_any {s : ScS} {vs v : Value} {n : Nat} {t : Tr} {nm : ByteArray} {w : World} (hs : ScIn w vs s) (hw : ScW s) (hf : FewL s) (ht : TrW n w v t) (hn : n ≤ 60) (hc : cntN n t ≤ 5000) (hsm : SmN n t) :
  Calls Try.prog 14 #[vs,.string nm,v] w fun e w' => e = .returned (.int .i64 (validA n s nm t)) ∧ Below w.heap.size w w' := by
 have hmm := @run_makeMap Try.prog;obtain ⟨X,hX⟩ : ∃ X,validA n s nm t = X := ⟨_,rfl⟩;have HV : Hid (validA n s nm t = X) := hX;rw [hX];obtain ⟨m,a1,c1,a2,c2, -,rfl, -⟩ := ht.open;have hs' := hs;obtain ⟨vm,ve,vt,rfl,hms,hen,hmt⟩ := hs;obtain ⟨ma,mc,rfl, -⟩ := hms.open;obtain ⟨ea,ec,rfl, -⟩ := hen.open;obtain ⟨ta,tn,tc,rfl⟩ := row_slice hmt;have HFL : Hid (∀ m ∈ s.msgs,m.fields.length ≤ 20 ∧ m.reserved.length ≤ 40) := hf.flds;generalize s.msgs.length = mn at *;generalize s.enums.length = en at *;generalize t.es.length = n1 at *;generalize t.rest.length = n2 at *;obtain ⟨K,hK⟩ : ∃ z,t.kind = z := ⟨_,rfl⟩;obtain ⟨N,hN⟩ : ∃ z,t.n = z := ⟨_,rfl⟩;obtain ⟨S,hS⟩ : ∃ z,t.s = z := ⟨_,rfl⟩;obtain ⟨sn,hsn⟩ : ∃ z,s.name = z := ⟨_,rfl⟩;have HT3 : Hid (t.kind = K) := hK;rw [hK,hN,hS] at ht ⊢;rw [hsn] at hs' ⊢;have HCK : Hid (∀ W,Below w.heap.size w W → Calls Try.prog 21 #[.agg #[.string sn,.slice ma mn mc,.slice ea en ec,.slice ta tn tc]] W fun e w' => e = .returned (.int .i64 (checkA s)) ∧ Below W.heap.size W w') := fun W hW => check_any (hs'.below hW) hw hf
 have HMG : Hid (∀ W,Below w.heap.size w W → Calls Try.prog 22 #[.agg #[.string sn,.slice ma mn mc,.slice ea en ec,.slice ta tn tc],.string nm] W fun e w' => ∃ vf vr,e = .returned (.tuple #[.agg #[.string ((msgOf s nm).getD zMs).name,vf,vr],.bool (msgOf s nm).isSome]) ∧ (∃ a n c,vf = .slice a n c) ∧ (∃ a n c,vr = .slice a n c) ∧ Below W.heap.size W w') := fun W hW => by
  refine (cmessage_any (hms.below hW) HFL.out).mono ?_;rintro e w' ⟨vf,vr,rfl,h1,h2,h3⟩;obtain ⟨a,c,rfl⟩ := own_form h1;obtain ⟨a',c',rfl⟩ := own_form h2;exact ⟨_,_,rfl,⟨_,_,_,rfl⟩,⟨_,_,_,rfl⟩,h3⟩
 have HVC : Hid (∀ W,Below w.heap.size w W → Calls Try.prog 23 #[.agg #[.int .i64 K,.int .i64 N,.string S,.slice a1 n1 c1,.slice a2 n2 c2]] W fun e w' => e = .returned (.bool (chkN n t)) ∧ Below W.heap.size W w') := fun W hW => vcheck_any n t _ W ((ht.cel (Cel.ofBelow hW)).v2) hn hc hsm
 have HME : Hid (∀ W b,Below w.heap.size w W → KnS s W b → Calls Try.prog 27 #[.agg #[.string sn,.slice ma mn mc,.slice ea en ec,.slice ta tn tc,.map (some b)],.string nm,.agg #[.int .i64 K,.int .i64 N,.string S,.slice a1 n1 c1,.slice a2 n2 c2]] W (MesP s (msgV n s nm t) b W)) := fun W b hW hk => message_any s sn ma ea ta mn mc en ec tn tc b HFL.out n t nm _ W (ht.cel (Cel.ofBelow hW)) hk (hs'.below hW)
 have BS : Blk ((w.alloc (Obj.cells #[.string sn,.slice ma mn mc,.slice ea en ec,.slice ta tn tc] 26)).alloc (Obj.cells #[.int .i64 K,.int .i64 N,.string S,.slice a1 n1 c1,.slice a2 n2 c2] 30)) w.heap.size #[.string sn,.slice ma mn mc,.slice ea en ec,.slice ta tn tc] 26 := (Blk.new w _ _).below ((Below.refl _ _).alloc (Nat.le_refl _) _)
 have BT : Blk ((w.alloc (Obj.cells #[.string sn,.slice ma mn mc,.slice ea en ec,.slice ta tn tc] 26)).alloc (Obj.cells #[.int .i64 K,.int .i64 N,.string S,.slice a1 n1 c1,.slice a2 n2 c2] 30)) (w.heap.size + 1) #[.int .i64 K,.int .i64 N,.string S,.slice a1 n1 c1,.slice a2 n2 c2] 30 := by
  have := Blk.new (w.alloc (Obj.cells #[.string sn,.slice ma mn mc,.slice ea en ec,.slice ta tn tc] 26)) #[.int .i64 K,.int .i64 N,.string S,.slice a1 n1 c1,.slice a2 n2 c2] 30
  rwa [show (w.alloc (Obj.cells #[.string sn,.slice ma mn mc,.slice ea en ec,.slice ta tn tc] 26)).heap.size = w.heap.size + 1 from by simp] at this
 have hbw : Below w.heap.size w ((w.alloc (Obj.cells #[.string sn,.slice ma mn mc,.slice ea en ec,.slice ta tn tc] 26)).alloc (Obj.cells #[.int .i64 K,.int .i64 N,.string S,.slice a1 n1 c1,.slice a2 n2 c2] 30)) := ((Below.refl _ _).alloc (Nat.le_refl _) _).alloc (by simp) _;clear hX hK hN hS hsn hs' hms hen hmt ht hw hf hn hc hsm
 go_enter Try.func14,Try.ntmps14
 go_wp2_with fail;refine (HCK.out _ hbw).mono ?_;rintro ee w1 ⟨rfl,hb1⟩;have hbw1 : Below w.heap.size w w1 := hbw.trans (hb1.mono hbw.size);have BS1 := BS.below hb1;have BT1 := BT.below hb1;clear hb1 hbw BS BT HCK;obtain ⟨A,hA⟩ : ∃ z,checkA s = z := ⟨_,rfl⟩;have HA : Hid (checkA s = A) := hA;rw [hA];clear hA
 by_cases hA0 : A = 0
 rotate_left
 ·have d : (A != 0) = true := by simpa using hA0
  have HX1 : Hid (1 = X) := (by rw [← HV.out,validA,HA.out,if_pos hA0] : 1 = X);clear hA0;go_wp2_with fail;go_ret;exact ⟨congrArg (fun z => Ending.returned (Value.int .i64 z)) HX1.out,hbw1⟩
 ·subst hA0;have f0 := (BS1.cell 0).trans rfl;have f1 := (BS1.cell 1).trans rfl;have f2 := (BS1.cell 2).trans rfl;have f3 := (BS1.cell 3).trans rfl;go_wp2_with fail;refine (HMG.out _ hbw1).mono ?_;rintro ee w2 ⟨vf,vr,rfl,⟨fa,fl,fc,rfl⟩,⟨ra,rl,rc,rfl⟩,hb2⟩;obtain ⟨mnm,hmnm⟩ : ∃ z,((msgOf s nm).getD zMs).name = z := ⟨_,rfl⟩;obtain ⟨ok,hok⟩ : ∃ z,(msgOf s nm).isSome = z := ⟨_,rfl⟩;have HOK : Hid ((msgOf s nm).isSome = ok) := hok;rw [hmnm,hok];have al3 : Below w2.heap.size w2 (w2.alloc (Obj.cells #[.string mnm,.slice fa fl fc,.slice ra rl rc] 46)) := (Below.refl _ _).alloc (Nat.le_refl _) _;have hbw2 : Below w.heap.size w w2 := hbw1.trans (hb2.mono hbw1.size);have hbw3 : Below w.heap.size w (w2.alloc (Obj.cells #[.string mnm,.slice fa fl fc,.slice ra rl rc] 46)) := hbw2.trans (al3.mono hbw2.size);have BS3 := (BS1.below hb2).below al3;have BT3 := (BT1.below hb2).below al3;have HVC3 : Hid (Calls Try.prog 23 #[.agg #[.int .i64 K,.int .i64 N,.string S,.slice a1 n1 c1,.slice a2 n2 c2]] (w2.alloc (Obj.cells #[.string mnm,.slice fa fl fc,.slice ra rl rc] 46)) fun e w' => e = .returned (.bool (chkN n t)) ∧ Below (w2.alloc (Obj.cells #[.string mnm,.slice fa fl fc,.slice ra rl rc] 46)).heap.size (w2.alloc (Obj.cells #[.string mnm,.slice fa fl fc,.slice ra rl rc] 46)) w') := HVC.out _ hbw3;clear f0 f1 f2 f3 hmnm hok hb2 hbw1 hbw2 al3 BS1 BT1
  cases ok with
  | false =>
   have HX1 : Hid (14 = X) := (by rw [← HV.out,validA,HA.out,if_neg (by simp),if_pos HOK.out] : 14 = X);go_wp2_with fail;go_ret;exact ⟨congrArg (fun z => Ending.returned (Value.int .i64 z)) HX1.out,hbw3⟩
  | true =>
   have t0 := (BT3.cell 0).trans rfl;have t1 := (BT3.cell 1).trans rfl;have t2 := (BT3.cell 2).trans rfl;have t3 := (BT3.cell 3).trans rfl;have t4 := (BT3.cell 4).trans rfl;go_wp2_with fail;refine HVC3.out.mono ?_;rintro ee w4 ⟨rfl,hb4⟩;have hbw4 : Below w.heap.size w w4 := hbw3.trans (hb4.mono hbw3.size);have BS4 := BS3.below hb4;have BT4 := BT3.below hb4;clear t0 t1 t2 t3 t4 hb4 hbw3 BS3 BT3 HVC3;have t0 := (BT4.cell 0).trans rfl;obtain ⟨C,hC⟩ : ∃ z,chkN n t = z := ⟨_,rfl⟩;have HC : Hid (chkN n t = C) := hC;rw [hC];clear hC
   cases C with
   | false =>
    have HX1 : Hid (1 = X) := (by rw [← HV.out,validA,HA.out,if_neg (by simp),if_neg (by rw [HOK.out]; simp),if_pos (.inl HC.out)] : 1 = X);go_wp2_with fail;go_ret;exact ⟨congrArg (fun z => Ending.returned (Value.int .i64 z)) HX1.out,hbw4⟩
   | true =>
    by_cases hK3 : K = 3
    rotate_left
    ·have d : (K != 3) = true := by simpa using hK3
     have HX1 : Hid (1 = X) := (by rw [← HV.out,validA,HA.out,if_neg (by simp),if_neg (by rw [HOK.out]; simp),if_pos (.inr (by rw [HT3.out]; exact hK3))] : 1 = X);clear hK3;go_wp2_with fail;go_ret;exact ⟨congrArg (fun z => Ending.returned (Value.int .i64 z)) HX1.out,hbw4⟩
    ·have d : (K != 3) = false := by simpa using hK3
     have HX1 : Hid (msgV n s nm t = X) := (by rw [← HV.out,validA,HA.out,if_neg (by simp),if_neg (by rw [HOK.out]; simp),if_neg (by rw [HC.out,HT3.out]; simp [hK3])] : msgV n s nm t = X);have alm : Below w4.heap.size w4 (w4.alloc (.map #[] 0)) := (Below.refl _ _).alloc (Nat.le_refl _) _;have hbw5 : Below w.heap.size w (w4.alloc (.map #[] 0)) := hbw4.trans (alm.mono hbw4.size)
     have HM5 : Hid (Calls Try.prog 27 #[.agg #[.string sn,.slice ma mn mc,.slice ea en ec,.slice ta tn tc,.map (some w4.heap.size)],.string nm,.agg #[.int .i64 K,.int .i64 N,.string S,.slice a1 n1 c1,.slice a2 n2 c2]] (w4.alloc (.map #[] 0)) (MesP s X w4.heap.size (w4.alloc (.map #[] 0)))) := (by
      have h1 := HME.out (w4.alloc (.map #[] 0)) w4.heap.size hbw5 (KnS.made s w4);rw [HX1.out] at h1
      exact h1 : Calls Try.prog _ _ _ _)
     have BT5 := BT4.below alm;have f0 := (BS4.cell 0).trans rfl;have f1 := (BS4.cell 1).trans rfl;have f2 := (BS4.cell 2).trans rfl;have f3 := (BS4.cell 3).trans rfl;have u0 := (BT5.cell 0).trans rfl;have u1 := (BT5.cell 1).trans rfl;have u2 := (BT5.cell 2).trans rfl;have u3 := (BT5.cell 3).trans rfl;have u4 := (BT5.cell 4).trans rfl;have HLE : Hid (w.heap.size ≤ w4.heap.size) := hbw4.size;clear hK3 HX1 HME HMG HVC BS4 BT4 BT5 alm hbw4;go_wp2_with fail;refine Calls.mono HM5.out ?_;rintro ee w6 ⟨rfl,hk6, -⟩;have hbe : Below w.heap.size w w6 := hbw5.trans (hk6.toBelow hbw5.size (fun q e => by rw [e]; exact HLE.out));clear hk6 hbw5 f0 f1 f2 f3 u0 u1 u2 u3 u4 HM5;go_wp2_with fail;go_ret;exact ⟨rfl,hbe⟩
def idnV (x : Idn) : Value := .agg (idC x).toArray
theorem idnV_inj {x y : Idn} : idnV x = idnV y ↔ x = y := by
 obtain ⟨k,n,s,⟨p1,c1⟩,⟨p2,c2⟩⟩ := x;obtain ⟨k',n',s',⟨p1',c1'⟩,⟨p2',c2'⟩⟩ := y
 simp [idnV,idC]
 intro _ _ _
 constructor
 ·rintro ⟨h4,h5,h6,h7⟩; exact ⟨⟨h4,by omega⟩,h6,by omega⟩
 ·rintro ⟨⟨h4,h5⟩,h6,h7⟩; exact ⟨h4,by omega,h6,by omega⟩
theorem eql_idn (w : World) (x y : Idn) (hx : IdOk w x) (hy : IdOk w y) : (Op.equal 124 (idnV x) (idnV y)).run Try.prog w = .ok (decide (x.kind = y.kind ∧ x.n = y.n ∧ x.s = y.s ∧ x.e = y.e ∧ x.r = y.r)) w := by
 obtain ⟨k,n,s,⟨p1,c1⟩,⟨p2,c2⟩⟩ := x;obtain ⟨k',n',s',⟨p1',c1'⟩,⟨p2',c2'⟩⟩ := y;have h1 := fun d => eql_ptr w d p1 p1' hx.1 hy.1
 have h2 := fun d => eql_ptrR w d p2 p2' hx.2 hy.2
 by_cases e2 : k = k'
 ·by_cases e3 : n = n'
  ·by_cases e4 : s = s'
   ·by_cases e5 : p1 = p1'
    ·by_cases e6 : c1 = c1'
     ·by_cases e7 : p2 = p2'
      ·by_cases e8 : c2 = c2'
       ·subst e2 e3 e4 e5 e6 e7 e8
        simp [idnV,idC,Op.equal,Op.maxDepth,go_sem,h1,h2]
       ·have e9 : ¬ (c2 : Int) = (c2' : Int) := by omega
        subst e2 e3 e4 e5 e6 e7
        simp [idnV,idC,Op.equal,Op.maxDepth,go_sem,h1,h2,e8,e9]
      ·subst e2 e3 e4 e5 e6
       simp [idnV,idC,Op.equal,Op.maxDepth,go_sem,h1,h2,e7]
     ·have e9 : ¬ (c1 : Int) = (c1' : Int) := by omega
      subst e2 e3 e4 e5
      simp [idnV,idC,Op.equal,Op.maxDepth,go_sem,h1,h2,e6,e9]
    ·subst e2 e3 e4
     simp [idnV,idC,Op.equal,Op.maxDepth,go_sem,h1,h2,e5]
   ·have e9 := toList_ne e4;subst e2 e3
    simp [idnV,idC,Op.equal,Op.maxDepth,go_sem,h1,h2,e4,e9]
  ·subst e2
   simp [idnV,idC,Op.equal,Op.maxDepth,go_sem,h1,h2,e3]
 ·simp [idnV,idC,Op.equal,Op.maxDepth,go_sem,h1,h2,e2]
theorem check_idn (w : World) (b : Bool) (x : Idn) : (Instr.checkKey b 10000 124 (idnV x)).run Try.prog w = .ok () w := by kernel_rfl
theorem same_idn (n : Nat) (x : Idn) : Instr.sameBits (n + 1) (idnV x) (idnV x) = true := by
 simp [idnV,idC,Instr.sameBits]
 have hb : ∀ s : ByteArray,(s == s) = true := fun ⟨d⟩ => by show (d == d) = true; simp
 exact hb _
theorem uMadeT : Try.prog.underlying 84 = some (.map 124 30) := by kernel_rfl
theorem zeroTr (w : World) : (zeroValue 30).run Try.prog w = .ok (.agg #[.int .i64 0,.int .i64 0,.string ⟨#[]⟩,.slice none 0 0,.slice none 0 0]) w := by kernel_rfl
structure Rec where
 n : Nat
 u : Tr
 ve : Value
 vr : Value
 nw : Value
 rs : Value
def Rec.cells (r : Rec) : List Value := [.int .i64 r.u.kind,.int .i64 r.u.n,.string r.u.s,r.ve,r.vr]
def Rec.out (r : Rec) : List Value := [.int .i64 r.u.kind,.int .i64 r.u.n,.string r.u.s,r.nw,r.rs]
def Rec.idn (r : Rec) : Idn := idOf r.u r.ve r.vr
theorem told_idn {w : World} {x : Idn} {M : List Rec} (hx : IdOk w x) (hL : ∀ r ∈ M,IdOk w r.idn) : Told 124 w (idnV x) ((M.map fun r => (idnV r.idn,Value.agg r.out.toArray)).map Prod.fst) := by
 intro q hq;obtain ⟨p,hp,rfl⟩ := List.mem_map.1 hq;obtain ⟨y,hy,rfl⟩ := List.mem_map.1 hp;have h := eql_idn w x y.idn hx (hL y hy)
 constructor
 ·intro e;rw [h,decide_eq_true];rw [idnV_inj.1 e];exact ⟨rfl,rfl,rfl,rfl,rfl⟩
 ·intro e;rw [h,decide_eq_false];rintro ⟨e1,e2,e3,e4,e5⟩;refine e (idnV_inj.2 ?_)
  show x = y.idn
  generalize y.idn = z at *
  cases x; cases z; simp_all
def CelT (w w' : World) : Prop := ∀ (k : Nat) (cs : Array Value) (t : TypeId),(t = 57 ∨ t = 30 ∨ t = 79) → Blk w k cs t → Blk w' k cs t
theorem CelT.refl (w : World) : CelT w w := fun _ _ _ _ h => h
theorem CelT.trans {a b c : World} (h : CelT a b) (k : CelT b c) : CelT a c := fun i cs t ht e => k i cs t ht (h i cs t ht e)
theorem CelT.ofBelow {w w' : World} (h : Below w.heap.size w w') : CelT w w' := fun k cs t _ e => e.below h
theorem CelT.ofKp {S : Nat → Prop} {w w' : World} (h : Kp S w w') (hs : ∀ k cs t,S k → (t = 57 ∨ t = 30 ∨ t = 79) → ¬ Blk w k cs t) : CelT w w' := fun k cs t ht e => e.kp h fun hk => hs k cs t hk ht e
theorem Blk.ne {w : World} {g k : Nat} {cs cs' : Array Value} {t t' : TypeId} (h : Blk w g cs t) (h' : Blk w k cs' t') (ht : t ≠ t') : g ≠ k := by
 rintro rfl;unfold Blk at h h';rw [h] at h'
 simp at h'
 exact ht h'.2
theorem own_kpT {S : Nat → Prop} {w w' : World} {base e s n : Nat} {v : Value} {xs : List Value} (h : w.ownsRow base e s v n xs) (hk : Kp S w w') (hs : ∀ k,v.ownBlock = some k → ¬ S k) : w'.ownsRow base e s v n xs := by
 refine ⟨h.1,h.2.imp id ?_⟩;rintro ⟨g,cap,cur,rfl,h1,h2,h3⟩;exact ⟨g,cap,cur,rfl,h1,(hk.block g (Array.getElem?_eq_some_iff.1 h2).1 (hs g rfl)).trans h2,h3⟩
theorem own_typ {w : World} {base e s n k : Nat} {v : Value} {xs : List Value} (h : w.ownsRow base e s v n xs) (hk : v.ownBlock = some k) : ∃ cs,Blk w k cs e ∧ base ≤ k := by
 rcases h.2 with ⟨rfl,_⟩ | ⟨g,cap,cur,rfl,h1,h2,h3⟩
 ·cases hk
 ·obtain rfl : g = k := by simpa [Value.ownBlock] using hk
  exact ⟨cur,h2,h1⟩
theorem own_ne {w : World} {base e s n g : Nat} {v : Value} {xs : List Value} {cs : Array Value} {t : TypeId} (h : w.ownsRow base e s v n xs) (hB : Blk w g cs t) (ht : e ≠ t) : v.ownBlock ≠ some g := fun hk => by
 obtain ⟨cs',h1,_⟩ := own_typ h hk;exact h1.ne hB ht rfl
theorem own_baseT {w : World} {base base' e s n : Nat} {v : Value} {xs : List Value} (h : w.ownsRow base e s v n xs) (hb : base' ≤ base) : w.ownsRow base' e s v n xs := by
 refine ⟨h.1,h.2.imp id ?_⟩;rintro ⟨g,cap,cur,rfl,h1,h2⟩;exact ⟨g,cap,cur,rfl,by omega,h2⟩
theorem own_celT {w w' : World} {base e s n : Nat} {v : Value} {xs : List Value} (h : w.ownsRow base e s v n xs) (he : e = 57 ∨ e = 30 ∨ e = 79) (hc : CelT w w') : w'.ownsRow base e s v n xs := by
 refine ⟨h.1,h.2.imp id ?_⟩;rintro ⟨g,cap,cur,rfl,h1,h2,h3⟩;exact ⟨g,cap,cur,rfl,h1,hc g cur e he h2,h3⟩
def OutOf (b : Bool) (R : List Rec) (r : List Value) (x : Tr) : Prop :=
 ((topT b x).es = [] ∧ (topT b x).rest = [] ∧ r = [.int .i64 x.kind,.int .i64 x.n,.string x.s,.slice none 0 0,.slice none 0 0] ∧ Is64 x.kind ∧ Is64 x.n ∧ x.s.size ≤ 140737488351232) ∨ ∃ q ∈ R,q.u = topT b x ∧ r = q.out
theorem OutOf.mono {b : Bool} {R R' : List Rec} {r : List Value} {x : Tr} (h : OutOf b R r x) (hs : ∀ q ∈ R,q ∈ R') : OutOf b R' r x := by
 rcases h with h | ⟨q,h1,h2⟩
 ·exact .inl h
 ·exact .inr ⟨q,hs q h1,h2⟩
def TrsM (b : Bool) (W0 w : World) (R : List Rec) (vt : Value) (ts : List Tr) : Prop :=
 ∃ rows : List (List Value),w.ownsRow W0.heap.size 30 5 vt ts.length rows.flatten ∧ rows.length = ts.length ∧ (∀ r ∈ rows,r.length = 5) ∧ ∀ (i : Nat) (x : Tr),ts[i]? = some x → ∃ r,rows[i]? = some r ∧ OutOf b R r x
theorem TrsM.mono {b : Bool} {W0 w : World} {R R' : List Rec} {vt : Value} {ts : List Tr} (h : TrsM b W0 w R vt ts) (hs : ∀ q ∈ R,q ∈ R') : TrsM b W0 w R' vt ts := by
 obtain ⟨rows,h1,h2,h3,h4⟩ := h;refine ⟨rows,h1,h2,h3,fun i x hx => ?_⟩;obtain ⟨r,g1,g2⟩ := h4 i x hx;exact ⟨r,g1,g2.mono hs⟩
theorem TrsM.celT {b : Bool} {W0 w w' : World} {R : List Rec} {vt : Value} {ts : List Tr} (h : TrsM b W0 w R vt ts) (hc : CelT w w') : TrsM b W0 w' R vt ts := by
 obtain ⟨rows,h1,h2⟩ := h;exact ⟨rows,own_celT h1 (.inr (.inl rfl)) hc,h2⟩
theorem TrsM.kp {b : Bool} {W0 w w' : World} {R : List Rec} {vt : Value} {ts : List Tr} {g : Nat} {cs : Array Value} {t : TypeId} (h : TrsM b W0 w R vt ts) (hk : Kp (fun q => q = g) w w') (hB : Blk w g cs t) (ht : 30 ≠ t) : TrsM b W0 w' R vt ts := by
 obtain ⟨rows,h1,h2⟩ := h;exact ⟨rows,own_kpT h1 hk fun k e1 e2 => by subst e2; exact own_ne h1 hB ht e1,h2⟩
def Fil (b : Bool) (W0 w : World) (R : List Rec) (r : Rec) (i : Nat) : Prop :=
 ∃ rows : List (List Value),w.ownsRow W0.heap.size 57 2 r.nw r.u.es.length rows.flatten ∧ rows.length = r.u.es.length ∧ (∀ q ∈ rows,q.length = 2) ∧ ∀ (k : Nat) (e : Int × List Tr),k < i → r.u.es[k]? = some e → ∃ vt,rows[k]? = some [.int .i64 e.1,vt] ∧ TrsM b W0 w R vt e.2
theorem Fil.mono {b : Bool} {W0 w : World} {R R' : List Rec} {r : Rec} {i : Nat} (h : Fil b W0 w R r i) (hs : ∀ q ∈ R,q ∈ R') : Fil b W0 w R' r i := by
 obtain ⟨rows,h1,h2,h3,h4⟩ := h;refine ⟨rows,h1,h2,h3,fun k e hk he => ?_⟩;obtain ⟨vt,g1,g2⟩ := h4 k e hk he;exact ⟨vt,g1,g2.mono hs⟩
theorem Fil.zero {b : Bool} {W0 w : World} {R : List Rec} {r : Rec} {i : Nat} (h : Fil b W0 w R r i) (R' : List Rec) : Fil b W0 w R' r 0 := by
 obtain ⟨rows,h1,h2,h3,h4⟩ := h;exact ⟨rows,h1,h2,h3,fun k e hk _ => by omega⟩
theorem Fil.celT {b : Bool} {W0 w w' : World} {R : List Rec} {r : Rec} {i : Nat} (h : Fil b W0 w R r i) (hc : CelT w w') : Fil b W0 w' R r i := by
 obtain ⟨rows,h1,h2,h3,h4⟩ := h;refine ⟨rows,own_celT h1 (.inl rfl) hc,h2,h3,fun k e hk he => ?_⟩;obtain ⟨vt,g1,g2⟩ := h4 k e hk he;exact ⟨vt,g1,g2.celT hc⟩
theorem Fil.kp {b : Bool} {W0 w w' : World} {R : List Rec} {r : Rec} {i g : Nat} {cs : Array Value} (h : Fil b W0 w R r i) (hk : Kp (fun q => q = g) w w') (hB : Blk w g cs 57) (hne : r.nw.ownBlock ≠ some g) : Fil b W0 w' R r i := by
 obtain ⟨rows,h1,h2,h3,h4⟩ := h;refine ⟨rows,own_kpT h1 hk fun k e1 e2 => by subst e2; exact hne e1,h2,h3,fun k e hk' he => ?_⟩;obtain ⟨vt,g1,g2⟩ := h4 k e hk' he;exact ⟨vt,g1,g2.kp hk hB (by decide)⟩
structure RecOk (b : Bool) (W0 w : World) (r : Rec) : Prop where
 src : TrR r.n W0 r.cells r.u
 rs : w.ownsRow W0.heap.size 79 4 r.rs r.u.rest.length (rawCells r.u.rest)
 room : Fil b W0 w [] r 0
 bare : b = true → r.u.rest = []
 sm : SmN r.n r.u
theorem RecOk.celT {b : Bool} {W0 w w' : World} {r : Rec} (h : RecOk b W0 w r) (hc : CelT w w') : RecOk b W0 w' r := ⟨h.src,own_celT h.rs (.inr (.inr rfl)) hc,h.room.celT hc,h.bare,h.sm⟩
structure CyS (b : Bool) (W0 w : World) (cb mb : Nat) (lv : Value) (R L : List Rec) : Prop where
 blk : Blk w cb #[.bool b,.map (some mb),lv] 87
 cb0 : W0.heap.size ≤ cb
 mb0 : W0.heap.size ≤ mb
 below : Below W0.heap.size W0 w
 made : ∃ M : List Rec,PlMap w mb (M.map fun r => (idnV r.idn,Value.agg r.out.toArray)) ∧ ∀ r ∈ M,r ∈ R
 left : w.ownsRow W0.heap.size 136 2 lv L.length (L.flatMap fun r => [r.ve,r.nw])
 sub : ∀ r ∈ L,r ∈ R ∧ r.u.es ≠ []
 recs : ∀ r ∈ R,RecOk b W0 w r
 apart : ∀ r ∈ R,∀ q ∈ R,∀ k,r.nw.ownBlock = some k → q.nw.ownBlock = some k → r = q
def FrU (lv lv' : Value) (w w' : World) : Prop := ∀ (k : Nat) (cs : Array Value),Blk w k cs 136 → lv.ownBlock ≠ some k → Blk w' k cs 136 ∧ lv'.ownBlock ≠ some k
theorem FrU.trans {l1 l2 l3 : Value} {a b c : World} (h : FrU l1 l2 a b) (k : FrU l2 l3 b c) : FrU l1 l3 a c := fun i cs h1 h2 => k i cs (h i cs h1 h2).1 (h i cs h1 h2).2
theorem FrU.ofBelow (lv : Value) {w w' : World} (h : Below w.heap.size w w') : FrU lv lv w w' := fun k cs h1 h2 => ⟨h1.below h,h2⟩
theorem FrU.ofKp (lv : Value) {w w' : World} {g : Nat} {cs : Array Value} {t : TypeId} (h : Kp (fun q => q = g) w w') (hB : Blk w g cs t) (ht : 136 ≠ t) : FrU lv lv w w' := fun k cs h1 h2 => ⟨h1.kp h (fun e => h1.ne hB ht e),h2⟩
def CelR (w w' : World) : Prop := ∀ (k : Nat) (cs : Array Value),Blk w k cs 30 → Blk w' k cs 30
theorem CelR.refl (w : World) : CelR w w := fun _ _ h => h
theorem CelR.trans {a b c : World} (h : CelR a b) (k : CelR b c) : CelR a c := fun i cs e => k i cs (h i cs e)
theorem CelT.celR {w w' : World} (h : CelT w w') : CelR w w' := fun k cs e => h k cs _ (.inr (.inl rfl)) e
theorem CelR.ofKp {w w' : World} {g : Nat} {cs : Array Value} {t : TypeId} (h : Kp (fun q => q = g) w w') (hB : Blk w g cs t) (ht : 30 ≠ t) : CelR w w' := fun k cs h1 => h1.kp h (fun e => h1.ne hB ht e)
theorem PlMap.neOwn {w : World} {mb : Nat} {L : List (Value × Value)} (h : PlMap w mb L) {base e s n : Nat} {v : Value} {xs : List Value} (ho : w.ownsRow base e s v n xs) : v.ownBlock ≠ some mb := fun hk => by
 obtain ⟨cs,h1,_⟩ := own_typ ho hk;exact h.neB h1 rfl
theorem CyS.keep {b : Bool} {W0 w w' : World} {cb mb : Nat} {lv : Value} {R L : List Rec} {S : Nat → Prop} (h : CyS b W0 w cb mb lv R L) (hk : Kp S w w') (h0 : ∀ k,S k → W0.heap.size ≤ k) (h1 : ¬ S cb) (h2 : ¬ S mb) (h3 : ∀ k,S k → lv.ownBlock ≠ some k) (h4 : ∀ r ∈ R,RecOk b W0 w' r) : CyS b W0 w' cb mb lv R L := by
 obtain ⟨M,m1,m2⟩ := h.made;exact ⟨h.blk.kp hk h1,h.cb0,h.mb0,h.below.trans (hk.toBelow h.below.size h0),⟨M,m1.kp hk h2,m2⟩,own_kpT h.left hk fun k e1 e2 => h3 k e2 e1,h.sub,h4,h.apart⟩
theorem CyS.mk_below {b : Bool} {W0 w w' : World} {cb mb : Nat} {lv : Value} {R L : List Rec} (h : CyS b W0 w cb mb lv R L) (hb : Below w.heap.size w w') : CyS b W0 w' cb mb lv R L :=
 h.keep (S := fun _ => False) (Kp.ofBelow hb) (fun _ e => e.elim) (fun e => e) (fun e => e) (fun _ e => e.elim) fun r hr => (h.recs r hr).celT (CelT.ofBelow hb)
theorem CyS.keepT {b : Bool} {W0 w w' : World} {cb mb : Nat} {lv : Value} {R L : List Rec} {g : Nat} {cs : Array Value} (h : CyS b W0 w cb mb lv R L) (hk : Kp (fun q => q = g) w w') (hB : Blk w g cs 30) (h0 : W0.heap.size ≤ g) : CyS b W0 w' cb mb lv R L := by
 obtain ⟨M,m1,m2⟩ := h.made;refine h.keep hk (fun k e => by rw [e]; exact h0) (fun e => h.blk.ne hB (by decide) e) (fun e => m1.neB hB e.symm) (fun k e => by rw [e]; exact own_ne h.left hB (by decide)) fun r hr => ?_
 have hr' := h.recs r hr;refine ⟨hr'.src,own_kpT hr'.rs hk fun k e1 e2 => by rw [e2] at e1; exact own_ne hr'.rs hB (by decide) e1,?_,hr'.bare,hr'.sm⟩;obtain ⟨rows,q1,q2,q3,q4⟩ := hr'.room;exact ⟨rows,own_kpT q1 hk fun k e1 e2 => by rw [e2] at e1; exact own_ne q1 hB (by decide) e1,q2,q3,fun k e hk _ => by omega⟩
theorem CyS.keepE {b : Bool} {W0 w w' : World} {cb mb : Nat} {lv : Value} {R L : List Rec} {g : Nat} {cs : Array Value} {c : Rec} (h : CyS b W0 w cb mb lv R L) (hk : Kp (fun q => q = g) w w') (hB : Blk w g cs 57) (hc : c ∈ R) (hg : c.nw.ownBlock = some g) {i : Nat} {R' : List Rec} (hf : Fil b W0 w' R' c i) : CyS b W0 w' cb mb lv R L := by
 obtain ⟨M,m1,m2⟩ := h.made
 have h0 : W0.heap.size ≤ g := by
  obtain ⟨rows,q1,_⟩ := (h.recs c hc).room;obtain ⟨_,_,h1⟩ := own_typ q1 hg;exact h1
 refine h.keep hk (fun k e => by rw [e]; exact h0) (fun e => h.blk.ne hB (by decide) e) (fun e => m1.neB hB e.symm) (fun k e => by rw [e]; exact own_ne h.left hB (by decide)) fun r hr => ?_
 have hr' := h.recs r hr;refine ⟨hr'.src,own_kpT hr'.rs hk fun k e1 e2 => by rw [e2] at e1; exact own_ne hr'.rs hB (by decide) e1,?_,hr'.bare,hr'.sm⟩
 by_cases hrg : r.nw.ownBlock = some g
 ·obtain rfl := h.apart r hr c hc g hrg hg;exact hf.zero []
 ·exact (hr'.room).kp hk hB hrg
theorem Rec.trI {W0 : World} {r : Rec} (h : TrR r.n W0 r.cells r.u) : TrI r.n W0 r.idn r.u := ⟨r.ve,r.vr,rfl,h⟩
theorem CyS.update {b : Bool} {W0 w : World} {cb mb : Nat} {lv : Value} {R L : List Rec} (h : CyS b W0 w cb mb lv R L) {r : Rec} (hr : r ∈ R) :
  ∃ w',(Instr.mapUpdate 84 (.map (some mb)) (idnV r.idn) (.agg r.out.toArray)).run Try.prog w = .ok () w' ∧ CyS b W0 w' cb mb lv R L ∧ Kp (fun q => q = mb) w w' ∧ CelT w w' := by
 obtain ⟨M,m1,m2⟩ := h.made;have hc := Cel.ofBelow h.below;have hT := told_idn (M := M) ((Rec.trI (h.recs r hr).src).cel hc).ok fun r hr => ((Rec.trI (h.recs r (m2 r hr)).src).cel hc).ok
 obtain ⟨w',L',e1,e2,e3,_,_,e4,_⟩ := update_map (k := idnV r.idn) uMadeT Try.underlying124 (fun _ _ => rfl) (ks := (idC r.idn).toArray) rfl (same_idn 9999 r.idn) (fun e => check_idn w e r.idn) m1 hT (.agg r.out.toArray)
 have hall : ∀ l : List (Value × Value),(∀ p ∈ l,∃ q ∈ R,p = (idnV q.idn,Value.agg q.out.toArray)) → ∃ M' : List Rec,l = (M'.map fun r => (idnV r.idn,Value.agg r.out.toArray)) ∧ ∀ q ∈ M',q ∈ R := fun l => by
  induction l with
  | nil => exact fun _ => ⟨[],rfl,by simp⟩
  | cons p l ih =>
   intro hl;obtain ⟨M',g1,g2⟩ := ih fun p hp => hl p (List.mem_cons_of_mem _ hp)
   obtain ⟨q,g3,g4⟩ := hl p (List.mem_cons_self ..);refine ⟨q :: M',by rw [List.map_cons,← g1,← g4],fun z hz => ?_⟩
   rcases List.mem_cons.1 hz with rfl | hz
   ·exact g3
   ·exact g2 z hz
 obtain ⟨M',g1,g2⟩ := hall L' fun p hp => by
  rcases e3 p hp with hp | rfl
  ·obtain ⟨q,hq,rfl⟩ := List.mem_map.1 hp;exact ⟨q,m2 q hq,rfl⟩
  ·exact ⟨r,hr,rfl⟩
 have hcel : CelT w w' := CelT.ofKp e4 fun k cs t hk _ hB => m1.neB hB hk
 refine ⟨w',e1,?_,e4,hcel⟩;exact ⟨h.blk.kp e4 (fun e => m1.neB h.blk e),h.cb0,h.mb0,h.below.trans (e4.toBelow h.below.size fun k e => by rw [e]; exact h.mb0),⟨M',g1 ▸ e2,g2⟩,own_kpT h.left e4 fun k k1 k2 => by rw [k2] at k1; exact m1.neOwn h.left k1,h.sub,fun q hq => (h.recs q hq).celT hcel,h.apart⟩
theorem flat_more (L : List Rec) (r : Rec) : ((L ++ [r]).flatMap fun r => [r.ve,r.nw]) = (L.flatMap fun r => [r.ve,r.nw]) ++ [r.ve,r.nw] := by simp
theorem CyS.add {b : Bool} {W0 w w' : World} {cb mb : Nat} {lv lv' : Value} {R L : List Rec} {r : Rec} (h : CyS b W0 w cb mb lv R L) (hk : Kp (fun q => q = cb ∨ lv.ownBlock = some q) w w') (hB : Blk w' cb #[.bool b,.map (some mb),lv'] 87)
  (hl : w'.ownsRow W0.heap.size 136 2 lv' (L.length + 1) ((L.flatMap fun r => [r.ve,r.nw]) ++ [r.ve,r.nw])) (hr : RecOk b W0 w' r) (hne : r.u.es ≠ []) (hnew : ∀ k,r.nw.ownBlock = some k → w.heap.size ≤ k) : CyS b W0 w' cb mb lv' (R ++ [r]) (L ++ [r]) ∧ CelT w w' := by
 obtain ⟨M,m1,m2⟩ := h.made
 have hcel : CelT w w' := CelT.ofKp hk fun k cs t hk' ht hB' => by
  rcases hk' with rfl | e
  ·exact h.blk.ne hB' (by rcases ht with rfl | rfl | rfl <;> decide) rfl
  ·exact own_ne h.left hB' (by rcases ht with rfl | rfl | rfl <;> decide) e
 have hold : ∀ q ∈ R,∀ k,q.nw.ownBlock = some k → k < w.heap.size := fun q hq k e => by
  obtain ⟨rows,q1,_⟩ := (h.recs q hq).room;obtain ⟨cs,g1,_⟩ := own_typ q1 e;exact g1.lt
 refine ⟨⟨hB,h.cb0,h.mb0,h.below.trans (hk.toBelow h.below.size fun k e => ?_),⟨M,m1.kp hk ?_,fun q hq => List.mem_append.2 (.inl (m2 q hq))⟩,?_,?_,?_,?_⟩,hcel⟩
 ·rcases e with rfl | e
  ·exact h.cb0
  ·obtain ⟨_,_,g⟩ := own_typ h.left e;exact g
 ·rintro (e | e)
  ·exact m1.neB h.blk e.symm
  ·exact m1.neOwn h.left e
 ·rw [flat_more,List.length_append]; exact hl
 ·intro q hq
  rcases List.mem_append.1 hq with hq | hq
  ·exact ⟨List.mem_append.2 (.inl (h.sub q hq).1),(h.sub q hq).2⟩
  ·obtain rfl : q = r := by simpa using hq
   exact ⟨List.mem_append.2 (.inr (by simp)),hne⟩
 ·intro q hq
  rcases List.mem_append.1 hq with hq | hq
  ·exact (h.recs q hq).celT hcel
  ·obtain rfl : q = r := by simpa using hq
   exact hr
 ·intro p hp0 q hq0 k e1 e2
  rcases List.mem_append.1 hp0 with hp | hp
  ·rcases List.mem_append.1 hq0 with hq | hq
   ·exact h.apart p hp q hq k e1 e2
   ·have hqr := List.mem_singleton.1 hq;have h1 := hold p hp k e1;rw [hqr] at e2;have h2 := hnew k e2
    omega
  ·have hpr := List.mem_singleton.1 hp
   rcases List.mem_append.1 hq0 with hq | hq
   ·have h1 := hold q hq k e2;rw [hpr] at e1;have h2 := hnew k e1
    omega
   ·rw [hpr,List.mem_singleton.1 hq]
theorem CyS.addR {b : Bool} {W0 w w' : World} {cb mb : Nat} {lv : Value} {R L : List Rec} {r : Rec} (h : CyS b W0 w cb mb lv R L) (hk : Below w.heap.size w w') (hr : RecOk b W0 w' r) (hto : r.nw = .slice none 0 0) : CyS b W0 w' cb mb lv (R ++ [r]) L := by
 have h' := h.mk_below hk;obtain ⟨M,m1,m2⟩ := h'.made;refine ⟨h'.blk,h'.cb0,h'.mb0,h'.below,⟨M,m1,fun q hq => List.mem_append.2 (.inl (m2 q hq))⟩,h'.left,fun q hq => ⟨List.mem_append.2 (.inl (h'.sub q hq).1),(h'.sub q hq).2⟩,fun q hq => ?_,fun p hp0 q hq0 k e1 e2 => ?_⟩
 ·rcases List.mem_append.1 hq with hq | hq
  ·exact h'.recs q hq
  ·rw [List.mem_singleton.1 hq];exact hr
 ·rcases List.mem_append.1 hp0 with hp | hp
  ·rcases List.mem_append.1 hq0 with hq | hq
   ·exact h'.apart p hp q hq k e1 e2
   ·rw [List.mem_singleton.1 hq,hto] at e2
    cases e2
  ·rw [List.mem_singleton.1 hp,hto] at e1
   cases e1
theorem own_shorter {w : World} {base e s n cap : Nat} {a : Option Addr} {xs ys : List Value} (h : w.ownsRow base e s (.slice a (n + 1) cap) (n + 1) (xs ++ ys)) (hx : xs.length = n * s) : w.ownsRow base e s (.slice a n cap) n xs := by
 rcases h.2 with ⟨e1,_⟩ | ⟨g,c,cur,e1,h1,h2,h3,h4,h5,h6⟩
 ·simp at e1
 ·simp only [Value.slice.injEq,true_and] at e1;obtain ⟨rfl,rfl⟩ := e1;refine ⟨hx,.inr ⟨g,cap,cur,rfl,h1,h2,by omega,h4,h5,?_⟩⟩;have h7 := congrArg (List.take (n * s)) h6;rw [List.take_take,Nat.min_eq_left (Nat.mul_le_mul_right _ (by omega)),List.take_left' hx] at h7;exact h7
theorem flatM_len (L : List Rec) : (L.flatMap fun r => [r.ve,r.nw]).length = L.length * 2 := by
 induction L with
 | nil => rfl
 | cons r l ih => simp only [List.flatMap_cons,List.length_append,ih,List.length_cons,List.length_nil]; omega
theorem CyS.pop {b : Bool} {W0 w w' : World} {cb mb cap : Nat} {a : Option Addr} {R L : List Rec} {c : Rec} (h : CyS b W0 w cb mb (.slice a (L.length + 1) cap) R (L ++ [c])) (hk : Kp (fun q => q = cb) w w') (hB : Blk w' cb #[.bool b,.map (some mb),.slice a L.length cap] 87) : CyS b W0 w' cb mb (.slice a L.length cap) R L ∧ CelT w w' := by
 obtain ⟨M,m1,m2⟩ := h.made
 have hcel : CelT w w' := CelT.ofKp hk fun k cs t hk' ht hB' => by
  subst hk';exact h.blk.ne hB' (by rcases ht with rfl | rfl | rfl <;> decide) rfl
 have hl := h.left;rw [flat_more,List.length_append] at hl;have hl2 := own_shorter hl (flatM_len L);refine ⟨⟨hB,h.cb0,h.mb0,h.below.trans (hk.toBelow h.below.size fun k e => by rw [e]; exact h.cb0),⟨M,m1.kp hk (fun e => m1.neB h.blk e.symm),m2⟩,own_kpT hl2 hk fun k e1 e2 => ?_,fun q hq => h.sub q (List.mem_append.2 (.inl hq)),fun q hq => (h.recs q hq).celT hcel,h.apart⟩,hcel⟩;rw [e2] at e1;exact own_ne hl2 h.blk (by decide) e1
theorem fil_read {b : Bool} {W0 w : World} {R : List Rec} (hR : ∀ r ∈ R,RecOk b W0 w r ∧ Fil b W0 w R r r.u.es.length) : ∀ (n : Nat) (r : Rec),r ∈ R → DpN n r.u → TrR n w r.out (cutT b n r.u)
 | 0,_,_,h => h.elim
 | n + 1,r,hr,hd => by
  obtain ⟨hok,rows,f1,f2,f3,f4⟩ := hR r hr;have hsrc := hok.src
  obtain ⟨m,hm⟩ : ∃ m,r.n = m + 1 := by
   cases h : r.n with
   | zero => rw [h] at hsrc; exact hsrc.elim
   | succ m => exact ⟨m,rfl⟩
  rw [hm] at hsrc;obtain ⟨ve,vr,s1,s2,s3,s4,s5,s6,s7,s8,s9⟩ := hsrc
  have hrest : (cutT b (n + 1) r.u).rest = r.u.rest := by
   cases hb : b with
   | false => rfl
   | true => rw [hok.bare hb]; rfl
  refine ⟨r.nw,r.rs,rfl,s2,s3,s4,by rw [hrest]; exact s5,by rw [hrest]; exact own_rest hok.rs,⟨rows,(RowG.own f3 (by decide) f1).1,by rw [f2]; simp [cutT],fun i x hx => ?_⟩,own_pln f1,own_pln hok.rs⟩;simp only [cutT,List.getElem?_map,Option.map_eq_some_iff] at hx;obtain ⟨e,he,rfl⟩ := hx;obtain ⟨vt,g1,rws,g2,g3,g4,g5⟩ := f4 i e (List.getElem?_eq_some_iff.1 he).1 he;have hee := List.mem_of_getElem? he
  have h64 : Is64 e.1 := by
   obtain ⟨q,vt',_,h,_⟩ := s7.all e hee;exact h
  refine ⟨_,g1,vt,rfl,h64,rws,(RowG.own g4 (by decide) g2).1,by rw [g3]; simp,fun j y hy => ?_⟩;simp only [List.getElem?_map,Option.map_eq_some_iff] at hy;obtain ⟨x,hx,rfl⟩ := hy;obtain ⟨c,c1,c2⟩ := g5 j x hx;refine ⟨c,c1,?_⟩;have hdx : DpN n x := hd e hee x (List.mem_of_getElem? hx)
  rcases c2 with ⟨k1,k2,k3,k4,k5,k6⟩ | ⟨q,k1,k2,k3⟩
  ·cases n with
   | zero => exact hdx.elim
   | succ n =>
    rw [topT_es] at k1;rw [topT_rest] at k2;refine ⟨.slice none 0 0,.slice none 0 0,k3,k4,k5,k6,?_,?_,?_,(fun _ _ _ _ e => by cases e),fun _ _ _ _ e => by cases e⟩
    ·show Fd64 (if b then [] else x.rest)
     rw [k2]; intro f hf; cases hf
    ·show RowG w _ 4 (fdRows (if b then [] else x.rest))
     rw [k2]; exact RowG.nil _ _
    ·show RowP _ w 2 _ (x.es.map _)
     rw [k1]; exact RowP.nil _ _ _
  ·have hq := fil_read hR n q k1 (by rw [k2]; exact topT_dp hdx);rw [k3];rw [k2,cutT_top b n x hdx] at hq;exact hq
theorem out_read {b : Bool} {W0 w : World} {R : List Rec} (hR : ∀ r ∈ R,RecOk b W0 w r ∧ Fil b W0 w R r r.u.es.length) {n : Nat} {c : List Value} {x : Tr} (hx : OutOf b R c x) (hd : DpN n x) : TrR n w c (cutT b n x) := by
 rcases hx with ⟨k1,k2,k3,k4,k5,k6⟩ | ⟨q,k1,k2,k3⟩
 ·cases n with
  | zero => exact hd.elim
  | succ n =>
   rw [topT_es] at k1;rw [topT_rest] at k2;refine ⟨.slice none 0 0,.slice none 0 0,k3,k4,k5,k6,?_,?_,?_,(fun _ _ _ _ e => by cases e),fun _ _ _ _ e => by cases e⟩
   ·show Fd64 (if b then [] else x.rest)
    rw [k2]; intro f hf; cases hf
   ·show RowG w _ 4 (fdRows (if b then [] else x.rest))
    rw [k2]; exact RowG.nil _ _
   ·show RowP _ w 2 _ (x.es.map _)
    rw [k1]; exact RowP.nil _ _ _
 ·have hq := fil_read hR n q k1 (by rw [k2]; exact topT_dp hd);rw [k3];rw [k2,cutT_top b n x hd] at hq;exact hq
theorem own_low {w w' : World} {base e s n g : Nat} {v : Value} {xs : List Value} (h : w.ownsRow base e s v n xs) (hk : Kp (fun q => q = g) w w') (hg : g < base) : w'.ownsRow base e s v n xs := own_kpT h hk fun k e1 e2 => by
 obtain ⟨_,_,h1⟩ := own_typ h e1
 omega
theorem TrsM.low {b : Bool} {W0 w w' : World} {R : List Rec} {vt : Value} {ts : List Tr} {g : Nat} (h : TrsM b W0 w R vt ts) (hk : Kp (fun q => q = g) w w') (hg : g < W0.heap.size) : TrsM b W0 w' R vt ts := by
 obtain ⟨rows,h1,h2⟩ := h;exact ⟨rows,own_low h1 hk hg,h2⟩
theorem Fil.low {b : Bool} {W0 w w' : World} {R : List Rec} {r : Rec} {i g : Nat} (h : Fil b W0 w R r i) (hk : Kp (fun q => q = g) w w') (hg : g < W0.heap.size) : Fil b W0 w' R r i := by
 obtain ⟨rows,h1,h2,h3,h4⟩ := h;refine ⟨rows,own_low h1 hk hg,h2,h3,fun k e hk' he => ?_⟩;obtain ⟨vt,g1,g2⟩ := h4 k e hk' he;exact ⟨vt,g1,g2.low hk hg⟩
theorem RecOk.low {b : Bool} {W0 w w' : World} {r : Rec} {g : Nat} (h : RecOk b W0 w r) (hk : Kp (fun q => q = g) w w') (hg : g < W0.heap.size) : RecOk b W0 w' r := ⟨h.src,own_low h.rs hk hg,h.room.low hk hg,h.bare,h.sm⟩
def wgt (L : List Rec) : Nat := (L.map fun r => cntN r.n r.u).sum
theorem wgt_app (a b : List Rec) : wgt (a ++ b) = wgt a + wgt b := by simp [wgt]
theorem own_empty {w : World} {g B : Nat} {e : TypeId} {s : Nat} (h : Blk w g #[] e) (hB : B ≤ g) : w.ownsRow B e s (.slice (some ⟨g,0,none⟩) 0 0) 0 [] :=
 ⟨by simp,.inr ⟨g,0,#[],rfl,hB,h,Nat.le_refl _,by decide,by simp,by simp⟩⟩
theorem clone_any {w : World} {v : Value} {l : List Fd} (hr : RowG w v 4 (fdRows l)) (hl : l.length ≤ 5000) :
  Calls Try.prog 54 #[v] w fun e w' => ∃ r,e = .returned r ∧ w'.ownsRow w.heap.size 79 4 r l.length (rawCells l) ∧ Below w.heap.size w w' := by
 obtain ⟨a,cap,rfl,h1,h2,h3,h4, -⟩ := rest_holds hr
 cases a with
 | none =>
  have hl0 : l = [] := by
   rcases h3 with h | ⟨g,off,e⟩
   ·exact h
   ·cases e
  subst hl0;have := h4 rfl;subst this
  have hq : ∀ W,(binOp .eql 28 (.slice none 0 0) (.slice none 0 0)).run Try.prog W = .ok (.bool true) W := fun W => by kernel_rfl
  simp only [List.length_nil]
  go_enter Try.func54,Try.ntmps54
  go_wp2_with fail;go_ret;exact ⟨_,rfl,World.ownsRow_nil _ _ _ _,Below.refl _ _⟩
 | some a =>
  have hN : (fdRows l).length = l.length := by simp [fdRows]
  have hal : Below w.heap.size w (w.alloc (Obj.cells #[] 79)) := (Below.refl _ _).alloc (Nat.le_refl _) _;obtain ⟨v',W4,r1,r2,r3⟩ := run_joinG (w := w.alloc (Obj.cells #[] 79)) 28 28 79 4 40 _ Try.underlying28 infoRaw rfl (by decide) w.heap.size (.slice (some ⟨w.heap.size,0,none⟩) 0 0) 0 [] (own_empty (Blk.new w _ _) (Nat.le_refl _)) (.slice (some a) l.length cap) (fdRows l) (hr.below hal) (fdr_len l) (fdr_one l) (by omega) (by decide) hal.size;have HRUN : Hid _ := r1;rw [List.nil_append,hN,Nat.zero_add,← rawCells_flat] at r2;have hb4 : Below w.heap.size w W4 := hal.grown r3 hal.size (fun q hq => by simp [Value.ownBlock] at hq; omega);have HO : Hid (W4.ownsRow w.heap.size 79 4 v' l.length (rawCells l)) := r2;obtain ⟨na,nc,hv'⟩ := own_form r2;subst hv';clear r1 r2 r3 hr h3 h4 hN hal;generalize hLn : l.length = Ln at *;have HLn : Hid (l.length = Ln) := hLn;clear hLn
  have hq : ∀ W,(binOp .eql 28 (.slice (some a) Ln cap) (.slice none 0 0)).run Try.prog W = .ok (.bool false) W := fun W => by kernel_rfl
  go_enter Try.func54,Try.ntmps54
  go_wp2_with (first | (at_builtin; refine wpList_ran rfl (append_run rfl rfl rfl HRUN.out) ?_) | fail)
  go_ret;exact ⟨_,rfl,HO.out,hb4⟩
end Go.Proofs.Ytmgbhicogmclgaa

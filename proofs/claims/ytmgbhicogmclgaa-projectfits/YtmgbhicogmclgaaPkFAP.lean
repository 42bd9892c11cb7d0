/- Part 16 of what the proof stands on. -/
import Derived.Test.YtmgbhicogmclgaaPkFAO
namespace Go.Proofs.Ytmgbhicogmclgaa
set_option maxHeartbeats 8000000
set_option linter.unusedVariables false
set_option linter.unusedSimpArgs false
set_option maxRecDepth 20000
open Go.ChangeShapes Go.WideShapes Go.ChangeAt Go.RowKit
theorem infoEnt : (Try.prog.info? 57).map (fun i => (i.zero,i.size,i.bytes)) = some (some (.agg #[.int .i64 0,.slice none 0 0]),2,32) := by kernel_rfl
theorem infoUnf : (Try.prog.info? 136).map (fun i => (i.zero,i.size,i.bytes)) = some (some (.agg #[.slice none 0 0,.slice none 0 0]),2,48) := by kernel_rfl
theorem CyS.lookA {b : Bool} {W0 w : World} {cb mb n : Nat} {lv : Value} {R L : List Rec} (h : CyS b W0 w cb mb lv R L) {x : Idn} {u : Tr} (hu : TrI n W0 x u) :
  (∃ q ∈ R,q.u = u ∧ ∀ W,Below w.heap.size w W → (Instr.lookup 84 (.map (some mb)) (idnV x) true).run Try.prog W = .ok (.tuple #[.agg q.out.toArray,.bool true]) W) ∨
  (∀ W,Below w.heap.size w W → (Instr.lookup 84 (.map (some mb)) (idnV x) true).run Try.prog W = .ok (.tuple #[.agg #[.int .i64 0,.int .i64 0,.string ⟨#[]⟩,.slice none 0 0,.slice none 0 0],.bool false]) W) := by
 obtain ⟨M,m1,m2⟩ := h.made
 have hT : ∀ W,Below w.heap.size w W → Told 124 W (idnV x) ((M.map fun r => (idnV r.idn,Value.agg r.out.toArray)).map Prod.fst) := fun W hW => by
  have hc := Cel.ofBelow (h.below.trans (hW.mono h.below.size));exact told_idn (M := M) (hu.cel hc).ok fun r hr => ((Rec.trI (h.recs r (m2 r hr)).src).cel hc).ok
 have hB : ∀ W,Below w.heap.size w W → W.heap[mb]? = w.heap[mb]? := fun W hW => hW.block mb m1.lt
 rcases look_mapA (k := idnV x) uMadeT zeroTr Try.underlying124 (fun _ _ => rfl) (ks := (idC x).toArray) rfl (fun w e => check_idn w e x) m1 with ⟨v,hv,hr⟩ | hr
 ·obtain ⟨q,hq,e⟩ := List.mem_map.1 hv;simp only [Prod.mk.injEq] at e;obtain ⟨e1,rfl⟩ := e;have hq' := Rec.trI (h.recs q (m2 q hq)).src;rw [idnV_inj.1 e1] at hq';exact .inl ⟨q,m2 q hq,(hu.uniq hq').symm,fun W hW => hr W (hB W hW) (hT W hW)⟩
 ·exact .inr fun W hW => hr W (hB W hW) (hT W hW)
theorem TrW.caps {n : Nat} {w : World} {t : Tr} {K N : Int} {S : ByteArray} {a1 a2 : Option Addr} {n1 c1 n2 c2 : Nat} (h : TrW n w (.agg #[.int .i64 K,.int .i64 N,.string S,.slice a1 n1 c1,.slice a2 n2 c2]) t) :
  n1 ≤ c1 ∧ c1 ≤ maxLen ∧ (n1 = 0 ∨ ∃ g off,a1 = some ⟨g,off,none⟩) ∧ n2 ≤ c2 ∧ c2 ≤ maxLen ∧ (n2 = 0 ∨ ∃ g off,a2 = some ⟨g,off,none⟩) ∧ RowG w (.slice a2 n2 c2) 4 (fdRows t.rest) ∧ Is64 K ∧ Is64 N ∧ S.size ≤ 140737488351232 := by
 obtain ⟨m,a1',c1',a2',c2', -,e,h1,h2,h3,u1,u2,u3,u4,u5,u6,u7, -⟩ := h.open;simp only [Value.agg.injEq,Array.mk.injEq,List.cons.injEq,Value.int.injEq,Value.string.injEq,Value.slice.injEq,and_true,true_and] at e;obtain ⟨rfl,rfl,rfl,⟨rfl,rfl,rfl⟩,rfl,rfl,rfl⟩ := e;exact ⟨u1,u2,u5,u3,u4,u6,u7,h1,h2,h3⟩
theorem TrW.bare {n : Nat} {w : World} {t : Tr} {K N : Int} {S : ByteArray} {a1 a2 : Option Addr} {n1 c1 n2 c2 : Nat} (h : TrW n w (.agg #[.int .i64 K,.int .i64 N,.string S,.slice a1 n1 c1,.slice a2 n2 c2]) t) : TrW n w (.agg #[.int .i64 K,.int .i64 N,.string S,.slice a1 n1 c1,.slice none 0 0]) (topT true t) := by
 obtain ⟨m,a1',c1',a2',c2',rfl,e,h1,h2,h3,u1,u2,u3,u4,u5,u6,u7,u8,u9,u10⟩ := h.open;simp only [Value.agg.injEq,Array.mk.injEq,List.cons.injEq,Value.int.injEq,Value.string.injEq,Value.slice.injEq,and_true,true_and] at e;obtain ⟨rfl,rfl,rfl,⟨rfl,rfl,rfl⟩,rfl,rfl,rfl⟩ := e;exact ⟨_,rfl,_,_,rfl,h1,h2,h3,(fun f hf => by cases hf),RowG.nil _ _,u8,u9,fun _ _ _ _ e => by cases e⟩
theorem TrW.cells {n : Nat} {w : World} {t : Tr} {K N : Int} {S : ByteArray} {ve vr : Value} (h : TrW n w (.agg #[.int .i64 K,.int .i64 N,.string S,ve,vr]) t) : TrR n w [.int .i64 t.kind,.int .i64 t.n,.string t.s,ve,vr] t := by
 obtain ⟨r,e,h⟩ := h
 cases n with
 | zero => exact h.elim
 | succ n =>
  have h' := h;obtain ⟨ve',vr',rfl,_⟩ := h
  simp at e
  obtain ⟨-, -, -,rfl,rfl⟩ := e;exact h'
theorem chunk2 : ∀ (n : Nat) (cs : List Value),cs.length = n * 2 → ∃ rows : List (List Value),rows.flatten = cs ∧ rows.length = n ∧ ∀ r ∈ rows,r.length = 2
 | 0,cs,h => ⟨[],by simp at h; simp [h],rfl,by simp⟩
 | n + 1,cs,h => by
  match cs,h with
  | a :: b :: l,h =>
   obtain ⟨rows,h1,h2,h3⟩ := chunk2 n l (by simp at h; omega);refine ⟨[a,b] :: rows,by simp [h1],by simp [h2],fun r hr => ?_⟩
   rcases List.mem_cons.1 hr with rfl | hr
   ·rfl
   ·exact h3 r hr
  | [],h => simp at h
  | [_],h => simp at h; omega
theorem below_set5 {B : Nat} {a w : World} (h : Below B a w) {g : Nat} (hg : B ≤ g) (x0 x1 x2 x3 x4 : Value) : Below B a (((((w.setCell ⟨g,0,none⟩ x0).setCell ⟨g,1,none⟩ x1).setCell ⟨g,2,none⟩ x2).setCell ⟨g,3,none⟩ x3).setCell ⟨g,4,none⟩ x4) :=
 Below.setCell (p := ⟨g,4,none⟩) (Below.setCell (p := ⟨g,3,none⟩) (Below.setCell (p := ⟨g,2,none⟩) (Below.setCell (p := ⟨g,1,none⟩) (Below.setCell (p := ⟨g,0,none⟩) h hg _) hg _) hg _) hg _) hg _
theorem Kp.set5 (w : World) (g : Nat) (x0 x1 x2 x3 x4 : Value) : Kp (fun q => q = g) w (((((w.setCell ⟨g,0,none⟩ x0).setCell ⟨g,1,none⟩ x1).setCell ⟨g,2,none⟩ x2).setCell ⟨g,3,none⟩ x3).setCell ⟨g,4,none⟩ x4) :=
 ((((((Kp.refl (fun q => q = g) w).setCell (p := ⟨g,0,none⟩) (fun _ => rfl) _).setCell (p := ⟨g,1,none⟩) (fun _ => rfl) _).setCell (p := ⟨g,2,none⟩) (fun _ => rfl) _).setCell (p := ⟨g,3,none⟩) (fun _ => rfl) _).setCell (p := ⟨g,4,none⟩) (fun _ => rfl) _)
def TreP (b : Bool) (W0 : World) (cb mb n : Nat) (x : Tr) (lv : Value) (R L : List Rec) (w : World) (e : Ending) (w' : World) : Prop :=
 ∃ r lv' R' M,e = .returned (.agg r.toArray) ∧ OutOf b R' r x ∧ CyS b W0 w' cb mb lv' R' (L ++ M) ∧ (∀ q ∈ R,q ∈ R') ∧ (∀ q ∈ R',q ∈ R ∨ q ∈ M ∨ q.u.es = []) ∧ wgt M ≤ cntN n x ∧ M.length ≤ 1 ∧ CelT w w' ∧ FrU lv lv' w w'
theorem ctree_any (b : Bool) (W0 : World) (cb mb n : Nat) (x : Tr) (K N : Int) (S : ByteArray) (a1 a2 : Option Addr) (n1 c1 n2 c2 : Nat) (w : World) (lv : Value) (R L : List Rec) (hx : TrW n W0 (.agg #[.int .i64 K,.int .i64 N,.string S,.slice a1 n1 c1,.slice a2 n2 c2]) x) (hsm : SmN n x) (hL : L.length ≤ 5000) (hc : CyS b W0 w cb mb lv R L) :
  Calls Try.prog 28 #[.pointer (some ⟨cb,0,none⟩),.agg #[.int .i64 K,.int .i64 N,.string S,.slice a1 n1 c1,.slice a2 n2 c2]] w (TreP b W0 cb mb n x lv R L w) := by
 obtain ⟨a3,n3,c3,h3t,h3f,hu⟩ : ∃ a3 n3 c3,(b = true → a3 = none ∧ n3 = 0 ∧ c3 = 0) ∧ (b = false → a3 = a2 ∧ n3 = n2 ∧ c3 = c2) ∧ TrW n W0 (.agg #[.int .i64 K,.int .i64 N,.string S,.slice a1 n1 c1,.slice a3 n3 c3]) (topT b x) := by
  cases b with
  | true => exact ⟨none,0,0,fun _ => ⟨rfl,rfl,rfl⟩,(fun h => by cases h),hx.bare⟩
  | false => exact ⟨a2,n2,c2,(fun h => by cases h),fun _ => ⟨rfl,rfl,rfl⟩,hx⟩
 have hsu : SmN n (topT b x) := topT_sm hsm
 have HRB : Hid (b = true → (topT b x).rest = []) := fun h => by rw [h]; rfl
 obtain ⟨u,hu0⟩ : ∃ z,topT b x = z := ⟨_,rfl⟩;have HUX : Hid (topT b x = u) := hu0;rw [hu0] at hu hsu HRB;obtain ⟨k1,k2,k3,k4,k5⟩ := hu.parts;obtain ⟨q1,q2,q3,q4,q5,q6,q7,q8,q9,q10⟩ := hu.caps;have HUU : Hid (u.kind = K ∧ u.n = N ∧ u.s = S ∧ u.es.length = n1 ∧ u.rest.length = n3) := ⟨k1,k2,k3,k4,k5⟩;have HXX : Hid (x.kind = K ∧ x.n = N ∧ x.s = S ∧ Is64 K ∧ Is64 N ∧ S.size ≤ 140737488351232) := ⟨hx.parts.1,hx.parts.2.1,hx.parts.2.2.1,q8,q9,q10⟩;have HCN : Hid (cntN n u = cntN n x) := (by rw [← hu0]; exact topT_cnt _ _ _ : cntN n u = cntN n x)
 have hn1 : n1 ≤ 500 := by
  cases n with
  | zero => exact hsm.elim
  | succ n => rw [← k4]; exact hsu.2.2.1
 have hn2 : n3 ≤ 5000 := by
  cases n with
  | zero => exact hsm.elim
  | succ n => rw [← k5]; exact hsu.2.1
 have HSMU : Hid (SmN n u) := hsu;have HSR : Hid (TrR n W0 [.int .i64 u.kind,.int .i64 u.n,.string u.s,.slice a1 n1 c1,.slice a3 n3 c3] u) := hu.cells;have HRG : Hid (RowG W0 (.slice a3 n3 c3) 4 (fdRows u.rest)) := q7;have HTI : Hid (TrI n W0 ⟨K,N,S,plOf (.slice a1 n1 c1),plOf (.slice a3 n3 c3)⟩ u) := ⟨_,_,by simp only [idOf,k1,k2,k3],hu.cells⟩;obtain ⟨la,lc,hlv⟩ := own_form hc.left;obtain ⟨Ln,hLn⟩ : ∃ z,L.length = z := ⟨_,rfl⟩;have HLN : Hid (L.length = Ln) := hLn;rw [hLn] at hlv hL;subst hlv;have HC : Hid (CyS b W0 w cb mb (.slice la Ln lc) R L) := hc;have hcbs : cb < w.heap.size := hc.blk.lt;unfold maxLen at q2 q5;obtain ⟨Z,hZ⟩ : ∃ Z,Z = ((w.alloc (Obj.cells #[.int .i64 K,.int .i64 N,.string S,.slice a1 n1 c1,.slice a3 n3 c3] 30)).alloc (Obj.cells #[.int .i64 0,.int .i64 0,.string ⟨#[]⟩,.slice none 0 0,.slice none 0 0] 30)).alloc (Obj.cells #[.int .i64 K,.int .i64 N,.string S,.slice none 0 0,.slice none 0 0] 30) := ⟨_,rfl⟩;have al1 : Below w.heap.size w (w.alloc (Obj.cells #[.int .i64 K,.int .i64 N,.string S,.slice a1 n1 c1,.slice a3 n3 c3] 30)) := (Below.refl _ _).alloc (Nat.le_refl _) _
 have BT : Blk Z w.heap.size #[.int .i64 K,.int .i64 N,.string S,.slice a1 n1 c1,.slice a3 n3 c3] 30 := by
  rw [hZ];exact ((Blk.new w _ _).below ((Below.refl _ _).alloc (Nat.le_refl _) _)).below ((Below.refl _ _).alloc (Nat.le_refl _) _)
 have BR : Blk Z (w.heap.size + 1) #[.int .i64 0,.int .i64 0,.string ⟨#[]⟩,.slice none 0 0,.slice none 0 0] 30 := by
  rw [hZ];have := Blk.new (w.alloc (Obj.cells #[.int .i64 K,.int .i64 N,.string S,.slice a1 n1 c1,.slice a3 n3 c3] 30)) #[.int .i64 0,.int .i64 0,.string ⟨#[]⟩,.slice none 0 0,.slice none 0 0] 30;rw [show (w.alloc (Obj.cells #[.int .i64 K,.int .i64 N,.string S,.slice a1 n1 c1,.slice a3 n3 c3] 30)).heap.size = w.heap.size + 1 from by simp] at this;exact this.below ((Below.refl _ _).alloc (Nat.le_refl _) _)
 have BO : Blk Z (w.heap.size + 1 + 1) #[.int .i64 K,.int .i64 N,.string S,.slice none 0 0,.slice none 0 0] 30 := by
  rw [hZ];have := Blk.new ((w.alloc (Obj.cells #[.int .i64 K,.int .i64 N,.string S,.slice a1 n1 c1,.slice a3 n3 c3] 30)).alloc (Obj.cells #[.int .i64 0,.int .i64 0,.string ⟨#[]⟩,.slice none 0 0,.slice none 0 0] 30)) #[.int .i64 K,.int .i64 N,.string S,.slice none 0 0,.slice none 0 0] 30
  rwa [show ((w.alloc (Obj.cells #[.int .i64 K,.int .i64 N,.string S,.slice a1 n1 c1,.slice a3 n3 c3] 30)).alloc (Obj.cells #[.int .i64 0,.int .i64 0,.string ⟨#[]⟩,.slice none 0 0,.slice none 0 0] 30)).heap.size = w.heap.size + 1 + 1 from by simp] at this
 have hZb : Below w.heap.size w Z := by
  rw [hZ];exact ((al1.alloc (by simp) _).alloc (by simp; omega) _)
 have hbq : Below w.heap.size w (((w.alloc (Obj.cells #[.int .i64 K,.int .i64 N,.string S,.slice a1 n1 c1,.slice a2 n2 c2] 30)).alloc (Obj.cells #[.int .i64 0,.int .i64 0,.string ⟨#[]⟩,.slice none 0 0,.slice none 0 0] 30)).alloc (Obj.cells #[.int .i64 K,.int .i64 N,.string S,.slice none 0 0,.slice none 0 0] 30)) := ((((Below.refl _ _).alloc (Nat.le_refl _) _).alloc (by simp) _).alloc (by simp; omega) _);have q0 : (((w.alloc (Obj.cells #[.int .i64 K,.int .i64 N,.string S,.slice a1 n1 c1,.slice a2 n2 c2] 30)).alloc (Obj.cells #[.int .i64 0,.int .i64 0,.string ⟨#[]⟩,.slice none 0 0,.slice none 0 0] 30)).alloc (Obj.cells #[.int .i64 K,.int .i64 N,.string S,.slice none 0 0,.slice none 0 0] 30)).cell? ⟨cb,0,none⟩ = some (.bool b) := (hbq.cell (p := ⟨cb,0,none⟩) hcbs).trans ((hc.blk.cell 0).trans rfl);have HFB : Hid (∀ Wf (r : List Value),Below w.heap.size w Wf → OutOf b R r x → TreP b W0 cb mb n x (.slice la Ln lc) R L w (.returned (.agg r.toArray)) Wf) := fun Wf r hb ho => ⟨r,_,R,[],rfl,ho,by rw [List.append_nil]; exact hc.mk_below hb,fun q hq => hq,fun q hq => .inl hq,by simp [wgt],by simp,CelT.ofBelow hb,FrU.ofBelow _ hb⟩
 obtain ⟨⟨p1,m1⟩,hp1⟩ : ∃ y,plOf (.slice a1 n1 c1) = y := ⟨_,rfl⟩;obtain ⟨⟨p2,m2⟩,hp2⟩ : ∃ y,plOf (.slice a3 n3 c3) = y := ⟨_,rfl⟩
 have HID : Hid (∀ W,Calls Try.prog 49 #[.agg #[.int .i64 K,.int .i64 N,.string S,.slice a1 n1 c1,.slice a3 n3 c3]] W fun e w' => e = .returned (.agg #[.int .i64 K,.int .i64 N,.string S,.pointer p1,.int .i64 (m1 : Int),.pointer p2,.int .i64 (m2 : Int)]) ∧ Below W.heap.size W w') := fun W => by
  have := identity_any K N S a1 a3 n1 c1 n3 c3 W q1 (by unfold maxLen; omega) q3 q4 (by unfold maxLen; omega) q6;rw [hp1,hp2] at this;exact this
 rw [hp1,hp2] at HTI;have HPP : Hid (plOf (.slice a1 n1 c1) = (p1,m1) ∧ plOf (.slice a3 n3 c3) = (p2,m2)) := ⟨hp1,hp2⟩;clear hbq hc hx hu hsu hsm k1 k2 k3 k4 k5 q7 q8 q9 q10 hu0 hLn hp1 hp2 q1 q2 q3 q4 q5 q6
 go_enter Try.func28,Try.ntmps28
 go_upto_if 19 with fail
 go_cut [6] from 19 to 20 (fun _ wx => wx = Z)
 case first =>
  cases b with
  | true =>
   obtain ⟨rfl,rfl,rfl⟩ := h3t rfl;go_wp2_with fail
   go_meet
   exact hZ.symm
  | false =>
   obtain ⟨rfl,rfl,rfl⟩ := h3f rfl;go_wp2_with fail
   go_meet
   exact hZ.symm
 case rest =>
 rw [hcut];clear hcut wc q0 h3t h3f hZ;have ec0 := (BT.cell 0).trans rfl;have ec1 := (BT.cell 1).trans rfl;have ec2 := (BT.cell 2).trans rfl;have ec3 := (BT.cell 3).trans rfl;have ec4 := (BT.cell 4).trans rfl
 go_upto_region 4 with fail
 go_cut [30] from 21 to 30 (fun bv wx => bv = .bool (decide (n1 = 0 ∧ n3 = 0)) ∧ wx = Z)
 case first =>
  by_cases h1 : n1 = 0
  ·have d1 : ((n1 : Int) == 0) = true := by simp; exact h1
   by_cases h2 : n3 = 0
   ·have d2 : ((n3 : Int) == 0) = true := by simp; exact h2
    have HD : Hid (decide (n1 = 0 ∧ n3 = 0) = true) := decide_eq_true ⟨h1,h2⟩;clear h1 h2;go_wp2_with fail
    go_meet
    exact ⟨by rw [HD.out],rfl⟩
   ·have d2 : ((n3 : Int) == 0) = false := by simp; exact h2
    have HD : Hid (decide (n1 = 0 ∧ n3 = 0) = false) := decide_eq_false fun h => h2 h.2
    clear h1 h2;go_wp2_with fail
    go_meet
    exact ⟨by rw [HD.out],rfl⟩
  ·have d1 : ((n1 : Int) == 0) = false := by simp; exact h1
   have HD : Hid (decide (n1 = 0 ∧ n3 = 0) = false) := decide_eq_false fun h => h1 h.1
   clear h1;go_wp2_with fail
   go_meet
   exact ⟨by rw [HD.out],rfl⟩
 case rest =>
 obtain ⟨hcb,hcw⟩ := hcut;rw [hcb,hcw];clear hcb hcw wc
 by_cases hA : n1 = 0 ∧ n3 = 0
 ·have dA : decide (n1 = 0 ∧ n3 = 0) = true := decide_eq_true hA
  have HOO : Hid (OutOf b R [.int .i64 K,.int .i64 N,.string S,.slice none 0 0,.slice none 0 0] x) := (by
   obtain ⟨e1,e2,e3,e4,e5,e6⟩ := HXX.out;refine .inl ⟨?_,?_,by rw [e1,e2,e3],by rw [e1]; exact e4,by rw [e2]; exact e5,by rw [e3]; exact e6⟩
   ·rw [HUX.out]; exact List.eq_nil_of_length_eq_zero (by rw [HUU.out.2.2.2.1]; exact hA.1)
   ·rw [HUX.out]; exact List.eq_nil_of_length_eq_zero (by have h := HUU.out.2.2.2.2; have h2 := hA.2; omega) : OutOf b R [.int .i64 K,.int .i64 N,.string S,.slice none 0 0,.slice none 0 0] x)
  have o0 := (BO.cell 0).trans rfl;have o1 := (BO.cell 1).trans rfl;have o2 := (BO.cell 2).trans rfl;have o3 := (BO.cell 3).trans rfl;have o4 := (BO.cell 4).trans rfl;have r0 := (BR.cell 0).trans rfl;have r1 := (BR.cell 1).trans rfl;have r2 := (BR.cell 2).trans rfl;have r3 := (BR.cell 3).trans rfl;have r4 := (BR.cell 4).trans rfl;have z0 := BR.froz 0;have z1 := BR.froz 1;have z2 := BR.froz 2;have z3 := BR.froz 3;have z4 := BR.froz 4;clear hA;rw [dA];go_wp2_with fail;refine bodyPost_ret (results_cell rfl _ _ _ ⟨w.heap.size + 1,0,none⟩ (.agg #[.int .i64 K,.int .i64 N,.string S,.slice none 0 0,.slice none 0 0]) (by go_simp) (by go_simp)) rfl (HFB.out _ _ ?_ HOO.out);exact below_set5 hZb (by omega) _ _ _ _ _
 have dA : decide (n1 = 0 ∧ n3 = 0) = false := decide_eq_false hA;rw [dA];go_wp2_with fail;clear ec0 ec1 ec2 ec3 ec4 dA;refine (HID.out _).mono ?_;rintro e w1 ⟨rfl,hb1⟩;have hbw1 : Below w.heap.size w w1 := hZb.trans (hb1.mono hZb.size);have hbw1s : w.heap.size ≤ w1.heap.size := hbw1.size;have al2 : Below w1.heap.size w1 (w1.alloc (Obj.cells #[.int .i64 K,.int .i64 N,.string S,.pointer p1,.int .i64 (m1 : Int),.pointer p2,.int .i64 (m2 : Int)] 124)) := (Below.refl _ _).alloc (Nat.le_refl _) _;have BT2 := (BT.below hb1).below al2;have BR2 := (BR.below hb1).below al2;have BO2 := (BO.below hb1).below al2;have BI2 : Blk (w1.alloc (Obj.cells #[.int .i64 K,.int .i64 N,.string S,.pointer p1,.int .i64 (m1 : Int),.pointer p2,.int .i64 (m2 : Int)] 124)) w1.heap.size #[.int .i64 K,.int .i64 N,.string S,.pointer p1,.int .i64 (m1 : Int),.pointer p2,.int .i64 (m2 : Int)] 124 := Blk.new w1 _ _;have hbw2 : Below w.heap.size w (w1.alloc (Obj.cells #[.int .i64 K,.int .i64 N,.string S,.pointer p1,.int .i64 (m1 : Int),.pointer p2,.int .i64 (m2 : Int)] 124)) := hbw1.trans (al2.mono hbw1.size);have HC2 : Hid (CyS b W0 (w1.alloc (Obj.cells #[.int .i64 K,.int .i64 N,.string S,.pointer p1,.int .i64 (m1 : Int),.pointer p2,.int .i64 (m2 : Int)] 124)) cb mb (.slice la Ln lc) R L) := HC.out.mk_below hbw2;clear BT BR BO hb1 hbw1 hZb HID al2 al1
 go_upto_region 7 with fail
 generalize (w1.alloc (Obj.cells #[.int .i64 K,.int .i64 N,.string S,.pointer p1,.int .i64 (m1 : Int),.pointer p2,.int .i64 (m2 : Int)] 124)) = W2 at *;obtain ⟨b6,hb6⟩ : ∃ z,w1.heap.size = z := ⟨_,rfl⟩;have hb6s := hbw1s;rw [hb6] at BI2 hb6s;simp only [hb6];clear hb6 hbw1s;obtain ⟨s,hs⟩ : ∃ s,w.heap.size = s := ⟨_,rfl⟩;have HSZ : Hid (w.heap.size = s) := hs;rw [hs] at BT2 BR2 BO2 hcbs hb6s;simp only [hs];clear hs;have hs2 : s + 1 + 1 < W2.heap.size := BO2.lt
 rcases HC2.out.lookA HTI.out with ⟨q,hq,hqu,hlk⟩ | hlk
 ·obtain ⟨rows,ho1, -⟩ := (HC2.out.recs q hq).room;obtain ⟨ta,tc,hto⟩ := own_form ho1;obtain ⟨ra,rc,hrs⟩ := own_form (HC2.out.recs q hq).rs;obtain ⟨tn,htn⟩ : ∃ z,q.u.es.length = z := ⟨_,rfl⟩;obtain ⟨rn,hrn⟩ : ∃ z,q.u.rest.length = z := ⟨_,rfl⟩;rw [htn] at hto;rw [hrn] at hrs
  have hqo : q.out = [.int .i64 K,.int .i64 N,.string S,.slice ta tn tc,.slice ra rn rc] := by
   obtain ⟨e1,e2,e3, -⟩ := HUU.out;simp only [Rec.out,hqu,e1,e2,e3,hto,hrs]
  have HOO : Hid (OutOf b R [.int .i64 K,.int .i64 N,.string S,.slice ta tn tc,.slice ra rn rc] x) := (.inr ⟨q,hq,by rw [hqu,HUX.out],hqo.symm⟩ : OutOf b R [.int .i64 K,.int .i64 N,.string S,.slice ta tn tc,.slice ra rn rc] x);rw [hqo] at hlk;clear ho1 hto hrs htn hrn hqo hq hqu;have HLK : Hid (∀ W,Below W2.heap.size W2 W → (Instr.lookup 84 (.map (some mb)) (.agg #[.int .i64 K,.int .i64 N,.string S,.pointer p1,.int .i64 (m1 : Int),.pointer p2,.int .i64 (m2 : Int)]) true).run Try.prog W = .ok (.tuple #[.agg #[.int .i64 K,.int .i64 N,.string S,.slice ta tn tc,.slice ra rn rc],.bool true]) W) := hlk;clear hlk;refine M_region (T := fun W => Below W2.heap.size W2 W) (m := 11) (by kernel_rfl) ?_;have hS : Below W2.heap.size W2 W2.drew := (Below.refl _ _).drew;refine M_take 0 35 (.pointer (some ⟨cb,0,none⟩)) _ rfl rfl (by kernel_rfl) (by kernel_rfl) (by kernel_rfl) (by kernel_rfl) (by kernel_rfl) (fun _ _ _ h => h) (by rfl) (fun w' hw' => ?_) hS (listed' := bts 12 1) (by kernel_rfl) rfl ?_
  ·go_simp
  simp only [zsA,zsZ,zsS];refine M_take 1 36 (.pointer (some ⟨cb,0,none⟩)) _ rfl rfl (by kernel_rfl) (by kernel_rfl) (by kernel_rfl) (by kernel_rfl) (by kernel_rfl) (fun _ _ _ h => h) (by rfl) (fun w' hw' => ?_) hS (listed' := bts 12 3) (by kernel_rfl) rfl ?_
  ·go_simp
  simp only [zsA,zsZ,zsS];refine M_take 2 37 (.pointer (some ⟨cb,1,none⟩)) _ rfl rfl (by kernel_rfl) (by kernel_rfl) (by kernel_rfl) (by kernel_rfl) (by kernel_rfl) (fun _ _ _ h => h) (by rfl) (fun w' hw' => ?_) hS (listed' := bts 12 7) (by kernel_rfl) rfl ?_
  ·go_simp
  simp only [zsA,zsZ,zsS];refine M_take 3 38 (.map (some mb)) _ rfl rfl (by kernel_rfl) (by kernel_rfl) (by kernel_rfl) (by kernel_rfl) (by kernel_rfl) (fun _ _ _ h => h) (by rfl) (fun w' hw' => ?_) hS (listed' := bts 12 15) (by kernel_rfl) rfl ?_
  ·have f0 := ((HC2.out.blk.below hw').cell 1).trans rfl; go_simp
  simp only [zsA,zsZ,zsS];refine M_take 4 39 (.agg #[.int .i64 K,.int .i64 N,.string S,.pointer p1,.int .i64 (m1 : Int),.pointer p2,.int .i64 (m2 : Int)]) _ rfl rfl (by kernel_rfl) (by kernel_rfl) (by kernel_rfl) (by kernel_rfl) (by kernel_rfl) (fun _ _ _ h => h) (by rfl) (fun w' hw' => ?_) hS (listed' := bts 12 31) (by kernel_rfl) rfl ?_
  ·have f0 := ((BI2.below hw').cell 0).trans rfl; have f1 := ((BI2.below hw').cell 1).trans rfl; have f2 := ((BI2.below hw').cell 2).trans rfl; have f3 := ((BI2.below hw').cell 3).trans rfl; have f4 := ((BI2.below hw').cell 4).trans rfl; have f5 := ((BI2.below hw').cell 5).trans rfl; have f6 := ((BI2.below hw').cell 6).trans rfl; go_simp
  simp only [zsA,zsZ,zsS];refine M_take 5 40 (.tuple #[.agg #[.int .i64 K,.int .i64 N,.string S,.slice ta tn tc,.slice ra rn rc],.bool true]) _ rfl rfl (by kernel_rfl) (by kernel_rfl) (by kernel_rfl) (by kernel_rfl) (by kernel_rfl) (fun _ _ _ h => h) (by rfl) (fun w' hw' => ?_) hS (listed' := bts 12 63) (by kernel_rfl) rfl ?_
  ·exact lookup_run rfl rfl rfl (HLK.out _ hw')
  simp only [zsA,zsZ,zsS];refine M_take 6 34 (.tuple #[.agg #[.int .i64 K,.int .i64 N,.string S,.slice ta tn tc,.slice ra rn rc],.bool true]) _ rfl rfl (by kernel_rfl) (by kernel_rfl) (by kernel_rfl) (by kernel_rfl) (by kernel_rfl) (fun _ _ _ h => h) (by rfl) (fun w' hw' => ?_) hS (listed' := bts 12 127) (by kernel_rfl) rfl ?_
  ·go_simp
  simp only [zsA,zsZ,zsS];refine M_take 7 41 (.agg #[.int .i64 K,.int .i64 N,.string S,.slice ta tn tc,.slice ra rn rc]) _ rfl rfl (by kernel_rfl) (by kernel_rfl) (by kernel_rfl) (by kernel_rfl) (by kernel_rfl) (fun _ _ _ h => h) (by rfl) (fun w' hw' => ?_) hS (listed' := bts 12 255) (by kernel_rfl) rfl ?_
  ·go_simp
  simp only [zsA,zsZ,zsS];refine M_take 8 42 (.bool true) _ rfl rfl (by kernel_rfl) (by kernel_rfl) (by kernel_rfl) (by kernel_rfl) (by kernel_rfl) (fun _ _ _ h => h) (by rfl) (fun w' hw' => ?_) hS (listed' := bts 12 511) (by kernel_rfl) rfl ?_
  ·go_simp
  simp only [zsA,zsZ,zsS];have hdz : W2.drew.heap.size = W2.heap.size := rfl;refine M_run 9 7 (.pointer (some ⟨W2.heap.size,0,none⟩)) (W2.drew.alloc (Obj.cells #[.int .i64 0,.int .i64 0,.string ⟨#[]⟩,.slice none 0 0,.slice none 0 0] 30)) rfl rfl (by kernel_rfl) (by rfl) (listed' := bts 12 1023) (by kernel_rfl) (by go_simp) (hS.alloc (Nat.le_refl _) _) ?_;simp only [zsA,zsZ,zsS];refine M_storeT 10 (W2.drew.alloc (Obj.cells #[.int .i64 K,.int .i64 N,.string S,.slice ta tn tc,.slice ra rn rc] 30)) rfl rfl (by kernel_rfl) (by rfl) (listed' := bts 12 2047) (by kernel_rfl) (by go_simp) (hS.alloc (Nat.le_refl _) _) ?_;refine M_runA 11 8 (.bool true) (W2.drew.alloc (Obj.cells #[.int .i64 K,.int .i64 N,.string S,.slice ta tn tc,.slice ra rn rc] 30)) rfl rfl (by kernel_rfl) (by rfl) (listed' := bts 12 4095) (by kernel_rfl) (by go_simp) (by kernel_rfl) ?_;simp only [zsA,zsZ,zsS];refine M_done (by kernel_rfl) ?_ _;have al3 : Below W2.heap.size W2 (W2.drew.alloc (Obj.cells #[.int .i64 K,.int .i64 N,.string S,.slice ta tn tc,.slice ra rn rc] 30)) := hS.alloc (Nat.le_refl _) _;have hbw3 : Below w.heap.size w (W2.drew.alloc (Obj.cells #[.int .i64 K,.int .i64 N,.string S,.slice ta tn tc,.slice ra rn rc] 30)) := hbw2.trans (al3.mono hbw2.size);have BR3 := BR2.below al3;have B73 : Blk (W2.drew.alloc (Obj.cells #[.int .i64 K,.int .i64 N,.string S,.slice ta tn tc,.slice ra rn rc] 30)) W2.heap.size #[.int .i64 K,.int .i64 N,.string S,.slice ta tn tc,.slice ra rn rc] 30 := Blk.new W2.drew _ _;clear hS hdz al3;generalize (W2.drew.alloc (Obj.cells #[.int .i64 K,.int .i64 N,.string S,.slice ta tn tc,.slice ra rn rc] 30)) = W3 at *;obtain ⟨b7,hb7⟩ : ∃ z,W2.heap.size = z := ⟨_,rfl⟩;rw [hb7] at B73 hs2;simp only [hb7];clear hb7;have c0 := (B73.cell 0).trans rfl;have c1' := (B73.cell 1).trans rfl;have c2' := (B73.cell 2).trans rfl;have c3 := (B73.cell 3).trans rfl;have c4 := (B73.cell 4).trans rfl;have r0 := (BR3.cell 0).trans rfl;have r1 := (BR3.cell 1).trans rfl;have r2 := (BR3.cell 2).trans rfl;have r3 := (BR3.cell 3).trans rfl;have r4 := (BR3.cell 4).trans rfl;have z0 := BR3.froz 0;have z1 := BR3.froz 1;have z2 := BR3.froz 2;have z3 := BR3.froz 3;have z4 := BR3.froz 4;have hlt := BR3.lt;go_wp2_with fail;refine bodyPost_ret (results_cell rfl _ _ _ ⟨s + 1,0,none⟩ (.agg #[.int .i64 K,.int .i64 N,.string S,.slice ta tn tc,.slice ra rn rc]) (by go_simp) (by go_simp)) rfl (HFB.out _ _ ?_ HOO.out);exact below_set5 hbw3 (by rw [HSZ.out]; omega) _ _ _ _ _
 ·skip
  have HLK : Hid (∀ W,Below W2.heap.size W2 W → (Instr.lookup 84 (.map (some mb)) (.agg #[.int .i64 K,.int .i64 N,.string S,.pointer p1,.int .i64 (m1 : Int),.pointer p2,.int .i64 (m2 : Int)]) true).run Try.prog W = .ok (.tuple #[.agg #[.int .i64 0,.int .i64 0,.string ⟨#[]⟩,.slice none 0 0,.slice none 0 0],.bool false]) W) := hlk;clear hlk;refine M_region (T := fun W => Below W2.heap.size W2 W) (m := 11) (by kernel_rfl) ?_;have hS : Below W2.heap.size W2 W2.drew := (Below.refl _ _).drew;refine M_take 0 35 (.pointer (some ⟨cb,0,none⟩)) _ rfl rfl (by kernel_rfl) (by kernel_rfl) (by kernel_rfl) (by kernel_rfl) (by kernel_rfl) (fun _ _ _ h => h) (by rfl) (fun w' hw' => ?_) hS (listed' := bts 12 1) (by kernel_rfl) rfl ?_
  ·go_simp
  simp only [zsA,zsZ,zsS];refine M_take 1 36 (.pointer (some ⟨cb,0,none⟩)) _ rfl rfl (by kernel_rfl) (by kernel_rfl) (by kernel_rfl) (by kernel_rfl) (by kernel_rfl) (fun _ _ _ h => h) (by rfl) (fun w' hw' => ?_) hS (listed' := bts 12 3) (by kernel_rfl) rfl ?_
  ·go_simp
  simp only [zsA,zsZ,zsS];refine M_take 2 37 (.pointer (some ⟨cb,1,none⟩)) _ rfl rfl (by kernel_rfl) (by kernel_rfl) (by kernel_rfl) (by kernel_rfl) (by kernel_rfl) (fun _ _ _ h => h) (by rfl) (fun w' hw' => ?_) hS (listed' := bts 12 7) (by kernel_rfl) rfl ?_
  ·go_simp
  simp only [zsA,zsZ,zsS];refine M_take 3 38 (.map (some mb)) _ rfl rfl (by kernel_rfl) (by kernel_rfl) (by kernel_rfl) (by kernel_rfl) (by kernel_rfl) (fun _ _ _ h => h) (by rfl) (fun w' hw' => ?_) hS (listed' := bts 12 15) (by kernel_rfl) rfl ?_
  ·have f0 := ((HC2.out.blk.below hw').cell 1).trans rfl; go_simp
  simp only [zsA,zsZ,zsS];refine M_take 4 39 (.agg #[.int .i64 K,.int .i64 N,.string S,.pointer p1,.int .i64 (m1 : Int),.pointer p2,.int .i64 (m2 : Int)]) _ rfl rfl (by kernel_rfl) (by kernel_rfl) (by kernel_rfl) (by kernel_rfl) (by kernel_rfl) (fun _ _ _ h => h) (by rfl) (fun w' hw' => ?_) hS (listed' := bts 12 31) (by kernel_rfl) rfl ?_
  ·have f0 := ((BI2.below hw').cell 0).trans rfl; have f1 := ((BI2.below hw').cell 1).trans rfl; have f2 := ((BI2.below hw').cell 2).trans rfl; have f3 := ((BI2.below hw').cell 3).trans rfl; have f4 := ((BI2.below hw').cell 4).trans rfl; have f5 := ((BI2.below hw').cell 5).trans rfl; have f6 := ((BI2.below hw').cell 6).trans rfl; go_simp
  simp only [zsA,zsZ,zsS];refine M_take 5 40 (.tuple #[.agg #[.int .i64 0,.int .i64 0,.string ⟨#[]⟩,.slice none 0 0,.slice none 0 0],.bool false]) _ rfl rfl (by kernel_rfl) (by kernel_rfl) (by kernel_rfl) (by kernel_rfl) (by kernel_rfl) (fun _ _ _ h => h) (by rfl) (fun w' hw' => ?_) hS (listed' := bts 12 63) (by kernel_rfl) rfl ?_
  ·exact lookup_run rfl rfl rfl (HLK.out _ hw')
  simp only [zsA,zsZ,zsS];refine M_take 6 34 (.tuple #[.agg #[.int .i64 0,.int .i64 0,.string ⟨#[]⟩,.slice none 0 0,.slice none 0 0],.bool false]) _ rfl rfl (by kernel_rfl) (by kernel_rfl) (by kernel_rfl) (by kernel_rfl) (by kernel_rfl) (fun _ _ _ h => h) (by rfl) (fun w' hw' => ?_) hS (listed' := bts 12 127) (by kernel_rfl) rfl ?_
  ·go_simp
  simp only [zsA,zsZ,zsS];refine M_take 7 41 (.agg #[.int .i64 0,.int .i64 0,.string ⟨#[]⟩,.slice none 0 0,.slice none 0 0]) _ rfl rfl (by kernel_rfl) (by kernel_rfl) (by kernel_rfl) (by kernel_rfl) (by kernel_rfl) (fun _ _ _ h => h) (by rfl) (fun w' hw' => ?_) hS (listed' := bts 12 255) (by kernel_rfl) rfl ?_
  ·go_simp
  simp only [zsA,zsZ,zsS];refine M_take 8 42 (.bool false) _ rfl rfl (by kernel_rfl) (by kernel_rfl) (by kernel_rfl) (by kernel_rfl) (by kernel_rfl) (fun _ _ _ h => h) (by rfl) (fun w' hw' => ?_) hS (listed' := bts 12 511) (by kernel_rfl) rfl ?_
  ·go_simp
  simp only [zsA,zsZ,zsS];have hdz : W2.drew.heap.size = W2.heap.size := rfl;refine M_run 9 7 (.pointer (some ⟨W2.heap.size,0,none⟩)) (W2.drew.alloc (Obj.cells #[.int .i64 0,.int .i64 0,.string ⟨#[]⟩,.slice none 0 0,.slice none 0 0] 30)) rfl rfl (by kernel_rfl) (by rfl) (listed' := bts 12 1023) (by kernel_rfl) (by go_simp) (hS.alloc (Nat.le_refl _) _) ?_;simp only [zsA,zsZ,zsS];refine M_storeT 10 (W2.drew.alloc (Obj.cells #[.int .i64 0,.int .i64 0,.string ⟨#[]⟩,.slice none 0 0,.slice none 0 0] 30)) rfl rfl (by kernel_rfl) (by rfl) (listed' := bts 12 2047) (by kernel_rfl) (by go_simp) (hS.alloc (Nat.le_refl _) _) ?_;refine M_runA 11 8 (.bool false) (W2.drew.alloc (Obj.cells #[.int .i64 0,.int .i64 0,.string ⟨#[]⟩,.slice none 0 0,.slice none 0 0] 30)) rfl rfl (by kernel_rfl) (by rfl) (listed' := bts 12 4095) (by kernel_rfl) (by go_simp) (by kernel_rfl) ?_;simp only [zsA,zsZ,zsS];refine M_done (by kernel_rfl) ?_ _;have al3 : Below W2.heap.size W2 (W2.drew.alloc (Obj.cells #[.int .i64 0,.int .i64 0,.string ⟨#[]⟩,.slice none 0 0,.slice none 0 0] 30)) := hS.alloc (Nat.le_refl _) _;have hbw3 : Below w.heap.size w (W2.drew.alloc (Obj.cells #[.int .i64 0,.int .i64 0,.string ⟨#[]⟩,.slice none 0 0,.slice none 0 0] 30)) := hbw2.trans (al3.mono hbw2.size);have BR3 := BR2.below al3;have B73 : Blk (W2.drew.alloc (Obj.cells #[.int .i64 0,.int .i64 0,.string ⟨#[]⟩,.slice none 0 0,.slice none 0 0] 30)) W2.heap.size #[.int .i64 0,.int .i64 0,.string ⟨#[]⟩,.slice none 0 0,.slice none 0 0] 30 := Blk.new W2.drew _ _;have BT3 := BT2.below al3;have BO3 := BO2.below al3;have BI3 := BI2.below al3;clear hS hdz al3 HLK BT2 BR2 BO2 BI2 B73 HC2;generalize (W2.drew.alloc (Obj.cells #[.int .i64 0,.int .i64 0,.string ⟨#[]⟩,.slice none 0 0,.slice none 0 0] 30)) = W3 at *;clear hs2 hbw2;have hs3 : s + 1 + 1 < W3.heap.size := BO3.lt
  by_cases h0 : n1 = 0
  ·have hn0 : n1 < 1 := by omega
   have hn20 : 0 < n3 := by omega
   clear h0 hA
   have d10 : decide (0 < (n1 : Int)) = false := by simp; omega
   have d13 : decide (0 < (n3 : Int)) = true := by simp; omega
   have KP7 : Below w.heap.size w W3 := hbw3;have BT7 := BT3;have BR7 := BR3;have BO7 := BO3;have BI7 := BI3;have e3 := (BT3.cell 3).trans rfl;clear BT3 BR3 BO3 BI3 hbw3;generalize W3 = W7 at *;have HRC : Hid (Calls Try.prog 54 #[.slice a3 n3 c3] W7 fun e w' => ∃ r,e = .returned r ∧ w'.ownsRow W7.heap.size 79 4 r u.rest.length (rawCells u.rest) ∧ Below W7.heap.size W7 w') := clone_any (HRG.out.below (HC.out.below.trans (KP7.mono HC.out.below.size))) (by rw [HUU.out.2.2.2.2]; omega);have e4 := (BT7.cell 4).trans rfl;go_wp2_with fail;refine HRC.out.mono ?_;rintro e W8 ⟨vr,rfl,ho8,hb8⟩;obtain ⟨ra,rc,hvr⟩ := own_form ho8;rw [HUU.out.2.2.2.2] at hvr;subst hvr;have BO8 := BO7.below hb8;have BR8 := (BR7.below hb8).other (a := ⟨s + 1 + 1,4,none⟩) (by simp) (.slice ra n3 rc);have BI8 := (BI7.below hb8).other (a := ⟨s + 1 + 1,4,none⟩) (fun e => BI7.ne BO7 (by decide) e) (.slice ra n3 rc)
   have hkb : ∀ k,k < s → ¬ k = s + 1 + 1 := fun k hk e => by omega
   have KS8 : Kp (fun q => q = s + 1 + 1) W8 (W8.setCell ⟨s + 1 + 1,4,none⟩ (.slice ra n3 rc)) := Kp.setCell (S := fun q => q = s + 1 + 1) (p := ⟨s + 1 + 1,4,none⟩) (Kp.refl _ _) (fun _ => rfl) _;have BO9 : Blk (W8.setCell ⟨s + 1 + 1,4,none⟩ (.slice ra n3 rc)) (s + 1 + 1) #[.int .i64 K,.int .i64 N,.string S,.slice none 0 0,.slice ra n3 rc] 30 := BO8.set 4 _ rfl
   have HRS : Hid ((W8.setCell ⟨s + 1 + 1,4,none⟩ (.slice ra n3 rc)).ownsRow W0.heap.size 79 4 (.slice ra n3 rc) u.rest.length (rawCells u.rest)) := own_kpT (own_baseT ho8 (by have h1 := HC.out.below.size; have h2 := KP7.size; omega)) KS8 fun k e1 e2 => by
    rw [e2] at e1;exact own_ne ho8 BO8 (by decide) e1
   have KP9 : Below w.heap.size w (W8.setCell ⟨s + 1 + 1,4,none⟩ (.slice ra n3 rc)) := Below.setCell (p := ⟨s + 1 + 1,4,none⟩) (KP7.trans (hb8.mono KP7.size)) (by rw [HSZ.out]; simp; omega) _;have o4 := (BO8.cell 4).trans rfl;have o4z := BO8.froz 4;have o4l := BO8.lt;clear BT7 BO7 BR7 BI7 ho8 hb8 HRC e4 KP7
   go_upto_region 15 with fail
   clear o4 o4z o4l KS8 BO8 d13;generalize (W8.setCell ⟨s + 1 + 1,4,none⟩ (.slice ra n3 rc)) = W9 at *;have hune : u.es = [] := List.eq_nil_of_length_eq_zero (by rw [HUU.out.2.2.2.1]; omega)
   have hroom : Fil b W0 W9 [] (⟨n,u,.slice a1 n1 c1,.slice a3 n3 c3,.slice none 0 0,.slice ra n3 rc⟩ : Rec) 0 := ⟨[],by
    show W9.ownsRow W0.heap.size 57 2 (.slice none 0 0) u.es.length _
    rw [hune]
    exact World.ownsRow_nil _ _ _ _,by show 0 = u.es.length; rw [hune]; rfl,(fun q hq => by cases hq),fun k e hk _ => by omega⟩
   have hrec : RecOk b W0 W9 (⟨n,u,.slice a1 n1 c1,.slice a3 n3 c3,.slice none 0 0,.slice ra n3 rc⟩ : Rec) := ⟨HSR.out,HRS.out,hroom,HRB.out,HSMU.out⟩;have hC9 := HC.out.addR (r := (⟨n,u,.slice a1 n1 c1,.slice a3 n3 c3,.slice none 0 0,.slice ra n3 rc⟩ : Rec)) KP9 hrec rfl;have hcel9 : CelT w W9 := CelT.ofBelow KP9;have HUNE : Hid (u.es = []) := hune;have HFU9 : Hid (FrU (.slice la Ln lc) (.slice la Ln lc) w W9) := FrU.ofBelow _ KP9;clear hroom hrec hune KP9 HRS;have dr9 : Below W9.heap.size W9 W9.drew := (Below.refl _ _).drew;obtain ⟨W10,g1,g2,g3,g4⟩ := (hC9.mk_below dr9).update (r := (⟨n,u,.slice a1 n1 c1,.slice a3 n3 c3,.slice none 0 0,.slice ra n3 rc⟩ : Rec)) (List.mem_append.2 (.inr (by simp)))
   have hidn : idnV ((⟨n,u,.slice a1 n1 c1,.slice a3 n3 c3,.slice none 0 0,.slice ra n3 rc⟩ : Rec)).idn = .agg #[.int .i64 K,.int .i64 N,.string S,.pointer p1,.int .i64 (m1 : Int),.pointer p2,.int .i64 (m2 : Int)] := by
    obtain ⟨e1,e2,e3, -⟩ := HUU.out;obtain ⟨e5,e6⟩ := HPP.out;simp only [Rec.idn,idOf,idnV,idC,e1,e2,e3,e5,e6]
   have hout : ((⟨n,u,.slice a1 n1 c1,.slice a3 n3 c3,.slice none 0 0,.slice ra n3 rc⟩ : Rec)).out = [.int .i64 K,.int .i64 N,.string S,.slice none 0 0,.slice ra n3 rc] := by
    obtain ⟨e1,e2,e3, -⟩ := HUU.out;simp only [Rec.out,e1,e2,e3]
   rw [hidn,hout] at g1;have HUP : Hid ((Instr.mapUpdate 84 (.map (some mb)) (.agg #[.int .i64 K,.int .i64 N,.string S,.pointer p1,.int .i64 (m1 : Int),.pointer p2,.int .i64 (m2 : Int)]) (.agg #[.int .i64 K,.int .i64 N,.string S,.slice none 0 0,.slice ra n3 rc])).run Try.prog W9.drew = .ok () W10) := g1;obtain ⟨MM,mm1, -⟩ := (hC9.mk_below dr9).made;have BO10 := (BO9.below dr9).kp g3 (mm1.neB (BO9.below dr9));have BR10 := (BR8.below dr9).kp g3 (mm1.neB (BR8.below dr9));have HC10 : Hid (CyS b W0 W10 cb mb (.slice la Ln lc) (R ++ [(⟨n,u,.slice a1 n1 c1,.slice a3 n3 c3,.slice none 0 0,.slice ra n3 rc⟩ : Rec)]) (L ++ []) ∧ CelT w W10) := ⟨by rw [List.append_nil]; exact g2,hcel9.trans ((CelT.ofBelow dr9).trans g4)⟩;have HFU10 : Hid (FrU (.slice la Ln lc) (.slice la Ln lc) w W10) := (fun k cs h1 h2 => ⟨((HFU9.out k cs h1 h2).1.below dr9).kp g3 (mm1.neB ((HFU9.out k cs h1 h2).1.below dr9)),(HFU9.out k cs h1 h2).2⟩ : FrU (.slice la Ln lc) (.slice la Ln lc) w W10);have HOU : Hid (OutOf b (R ++ [(⟨n,u,.slice a1 n1 c1,.slice a3 n3 c3,.slice none 0 0,.slice ra n3 rc⟩ : Rec)]) [.int .i64 K,.int .i64 N,.string S,.slice none 0 0,.slice ra n3 rc] x) := (.inr ⟨_,List.mem_append.2 (.inr (List.mem_singleton.2 rfl)),HUX.out.symm,hout.symm⟩ : OutOf b (R ++ [(⟨n,u,.slice a1 n1 c1,.slice a3 n3 c3,.slice none 0 0,.slice ra n3 rc⟩ : Rec)]) [.int .i64 K,.int .i64 N,.string S,.slice none 0 0,.slice ra n3 rc] x);have HT9 : Hid (W9.drew.cell? ⟨cb,1,none⟩ = some (.map (some mb)) ∧ (∀ k,W9.drew.cell? ⟨b6,k,none⟩ = #[.int .i64 K,.int .i64 N,.string S,.pointer p1,.int .i64 (m1 : Int),.pointer p2,.int .i64 (m2 : Int)][k]?) ∧ (∀ k,W9.drew.cell? ⟨s + 1 + 1,k,none⟩ = #[.int .i64 K,.int .i64 N,.string S,.slice none 0 0,.slice ra n3 rc][k]?)) := ⟨(hC9.blk.cell 1).trans rfl,fun k => BI8.cell k,fun k => BO9.cell k⟩;clear g1 g2 g3 g4 hidn hout mm1 MM hC9 hcel9 dr9;refine M_region (T := fun W => W.cell? ⟨cb,1,none⟩ = some (.map (some mb)) ∧ (∀ k,W.cell? ⟨b6,k,none⟩ = #[.int .i64 K,.int .i64 N,.string S,.pointer p1,.int .i64 (m1 : Int),.pointer p2,.int .i64 (m2 : Int)][k]?) ∧ (∀ k,W.cell? ⟨s + 1 + 1,k,none⟩ = #[.int .i64 K,.int .i64 N,.string S,.slice none 0 0,.slice ra n3 rc][k]?)) (m := 6) (by kernel_rfl) ?_;have hS := HT9.out;refine M_take 0 76 (.pointer (some ⟨cb,0,none⟩)) _ rfl rfl (by kernel_rfl) (by kernel_rfl) (by kernel_rfl) (by kernel_rfl) (by kernel_rfl) (fun _ _ _ h => h) (by rfl) (fun w' hw' => ?_) hS (listed' := bts 7 1) (by kernel_rfl) rfl ?_
   ·go_simp
   simp only [zsA,zsZ,zsS];refine M_take 1 77 (.pointer (some ⟨cb,0,none⟩)) _ rfl rfl (by kernel_rfl) (by kernel_rfl) (by kernel_rfl) (by kernel_rfl) (by kernel_rfl) (fun _ _ _ h => h) (by rfl) (fun w' hw' => ?_) hS (listed' := bts 7 3) (by kernel_rfl) rfl ?_
   ·go_simp
   simp only [zsA,zsZ,zsS];refine M_take 2 78 (.pointer (some ⟨cb,1,none⟩)) _ rfl rfl (by kernel_rfl) (by kernel_rfl) (by kernel_rfl) (by kernel_rfl) (by kernel_rfl) (fun _ _ _ h => h) (by rfl) (fun w' hw' => ?_) hS (listed' := bts 7 7) (by kernel_rfl) rfl ?_
   ·go_simp
   simp only [zsA,zsZ,zsS];refine M_take 3 79 (.map (some mb)) _ rfl rfl (by kernel_rfl) (by kernel_rfl) (by kernel_rfl) (by kernel_rfl) (by kernel_rfl) (fun _ _ _ h => h) (by rfl) (fun w' hw' => ?_) hS (listed' := bts 7 15) (by kernel_rfl) rfl ?_
   ·obtain ⟨f, -, -⟩ := hw'; go_simp
   simp only [zsA,zsZ,zsS];refine M_take 4 80 (.agg #[.int .i64 K,.int .i64 N,.string S,.pointer p1,.int .i64 (m1 : Int),.pointer p2,.int .i64 (m2 : Int)]) _ rfl rfl (by kernel_rfl) (by kernel_rfl) (by kernel_rfl) (by kernel_rfl) (by kernel_rfl) (fun _ _ _ h => h) (by rfl) (fun w' hw' => ?_) hS (listed' := bts 7 31) (by kernel_rfl) rfl ?_
   ·obtain ⟨-,f, -⟩ := hw'; have f0 := (f 0).trans rfl; have f1 := (f 1).trans rfl; have f2 := (f 2).trans rfl; have f3 := (f 3).trans rfl; have f4 := (f 4).trans rfl; have f5 := (f 5).trans rfl; have f6 := (f 6).trans rfl; clear f; go_simp
   simp only [zsA,zsZ,zsS];refine M_take 5 81 (.agg #[.int .i64 K,.int .i64 N,.string S,.slice none 0 0,.slice ra n3 rc]) _ rfl rfl (by kernel_rfl) (by kernel_rfl) (by kernel_rfl) (by kernel_rfl) (by kernel_rfl) (fun _ _ _ h => h) (by rfl) (fun w' hw' => ?_) hS (listed' := bts 7 63) (by kernel_rfl) rfl ?_
   ·obtain ⟨-, -,f⟩ := hw'; have f0 := (f 0).trans rfl; have f1 := (f 1).trans rfl; have f2 := (f 2).trans rfl; have f3 := (f 3).trans rfl; have f4 := (f 4).trans rfl; clear f; go_simp
   simp only [zsA,zsZ,zsS];refine M_store 6 W10 rfl rfl (by kernel_rfl) (by rfl) (listed' := bts 7 127) (by kernel_rfl) (update_run rfl rfl rfl rfl HUP.out) (by kernel_rfl) ?_;refine M_done (by kernel_rfl) ?_ _;have c0 := (BO10.cell 0).trans rfl;have c1' := (BO10.cell 1).trans rfl;have c2' := (BO10.cell 2).trans rfl;have c3 := (BO10.cell 3).trans rfl;have c4 := (BO10.cell 4).trans rfl;have r0 := (BR10.cell 0).trans rfl;have r1 := (BR10.cell 1).trans rfl;have r2 := (BR10.cell 2).trans rfl;have r3 := (BR10.cell 3).trans rfl;have r4 := (BR10.cell 4).trans rfl;have z0 := BR10.froz 0;have z1 := BR10.froz 1;have z2 := BR10.froz 2;have z3 := BR10.froz 3;have z4 := BR10.froz 4;have hlt := BR10.lt
   have HFI : Hid (TreP b W0 cb mb n x (.slice la Ln lc) R L w (.returned (.agg #[.int .i64 K,.int .i64 N,.string S,.slice none 0 0,.slice ra n3 rc])) (((((W10.setCell ⟨s + 1,0,none⟩ (.int .i64 K)).setCell ⟨s + 1,1,none⟩ (.int .i64 N)).setCell ⟨s + 1,2,none⟩ (.string S)).setCell ⟨s + 1,3,none⟩ (.slice none 0 0)).setCell ⟨s + 1,4,none⟩ (.slice ra n3 rc))) := (by
    have kp := Kp.set5 W10 (s + 1) (.int .i64 K) (.int .i64 N) (.string S) (.slice none 0 0) (.slice ra n3 rc)
    have hs0 : W0.heap.size ≤ s + 1 := by have h1 := HC.out.below.size; have h2 := HSZ.out; omega
    refine ⟨_,_,_,_,rfl,HOU.out,HC10.out.1.keepT kp BR10 hs0,fun q hq => List.mem_append.2 (.inl hq),fun q hq => ?_,?_,by simp,?_,fun k cs h1 h2 => ⟨(HFU10.out k cs h1 h2).1.kp kp (fun e => by have := h1.lt; rw [HSZ.out] at this; omega),(HFU10.out k cs h1 h2).2⟩⟩
    ·rcases List.mem_append.1 hq with hq | hq
     ·exact .inl hq
     ·rw [List.mem_singleton.1 hq]; exact .inr (.inr HUNE.out)
    ·simp [wgt]
    ·intro k cs ty hty hB
     exact (HC10.out.2 k cs ty hty hB).kp kp (fun e => by have := hB.lt; rw [HSZ.out] at this; omega) : TreP b W0 cb mb n x (.slice la Ln lc) R L w (.returned (.agg #[.int .i64 K,.int .i64 N,.string S,.slice none 0 0,.slice ra n3 rc])) (((((W10.setCell ⟨s + 1,0,none⟩ (.int .i64 K)).setCell ⟨s + 1,1,none⟩ (.int .i64 N)).setCell ⟨s + 1,2,none⟩ (.string S)).setCell ⟨s + 1,3,none⟩ (.slice none 0 0)).setCell ⟨s + 1,4,none⟩ (.slice ra n3 rc)))
   clear hS HT9 BO9 BR8 BI8 BO10 BR10 HUP HOU HC10;go_wp2_with fail;refine bodyPost_ret (results_cell rfl _ _ _ ⟨s + 1,0,none⟩ (.agg #[.int .i64 K,.int .i64 N,.string S,.slice none 0 0,.slice ra n3 rc]) (by go_simp) (by go_simp)) rfl HFI.out
  ·have hn0 : 0 < n1 := by omega
   clear h0 hA
   by_cases h2 : n3 = 0
   ·have hn20 : n3 < 1 := by omega
    clear h2
    have d10 : decide (0 < (n1 : Int)) = true := by simp; omega
    have d13 : decide (0 < (n3 : Int)) = false := by simp; omega
    obtain ⟨i0,hi0,hz0,hz1,hz2⟩ := info_parts infoEnt;obtain ⟨MC,hMC⟩ : ∃ z,madeCells (Value.agg #[.int .i64 0,.slice none 0 0]).cells (n1 * 2) = z := ⟨_,rfl⟩
    have hMs : MC.size = n1 * 2 := by rw [← hMC,size_madeCells]
    have hmk : ∀ W : World,(Instr.makeSlice 27 (.int .i64 (n1 : Int)) (.int .i64 (n1 : Int))).run Try.prog W = .ok (.slice (some ⟨W.heap.size,0,none⟩) n1 n1) (W.alloc (.cells MC 57)) := fun W => by
     have := run_makeSlice (P := Try.prog) W 27 57 i0 _ Try.underlying27 hi0 hz0 .i64 .i64 n1 n1 (by omega) (by omega) (by rw [hz1]; simp; omega) (by rw [hz2]; omega) (by omega);rw [hz1] at this;simp only [Int.toNat_natCast] at this;rw [hMC] at this;exact this
    clear hi0 hz0 hz1 hz2 hMC i0;have e3 := (BT3.cell 3).trans rfl;have e4 := (BT3.cell 4).trans rfl;have f3 := (BO3.cell 3).trans rfl;have f3z := BO3.froz 3
    go_upto_region 12 with fail
    clear hmk e3 e4 f3 f3z d10;obtain ⟨g8,hg8⟩ : ∃ z,W3.heap.size = z := ⟨_,rfl⟩;have W4a : ∀ W : World,Below W.heap.size W (W.alloc (.cells MC 57)) := fun W => (Below.refl _ _).alloc (Nat.le_refl _) _
    have BG5 : Blk ((W3.setCell ⟨s + 1 + 1,3,none⟩ (.slice (some ⟨g8,0,none⟩) n1 n1)).alloc (.cells MC 57)) g8 MC 57 := by
     have := Blk.new (W3.setCell ⟨s + 1 + 1,3,none⟩ (.slice (some ⟨g8,0,none⟩) n1 n1)) MC 57
     rwa [show (W3.setCell ⟨s + 1 + 1,3,none⟩ (.slice (some ⟨g8,0,none⟩) n1 n1)).heap.size = g8 from by simp; exact hg8] at this
    rw [hg8] at hs3;simp only [hg8];have HG8 : Hid (W3.heap.size = g8) := hg8;clear hg8;have BT4 := (BT3.other (a := ⟨s + 1 + 1,3,none⟩) (by simp; omega) (.slice (some ⟨g8,0,none⟩) n1 n1)).below (W4a _);have BR4 := (BR3.other (a := ⟨s + 1 + 1,3,none⟩) (by simp) (.slice (some ⟨g8,0,none⟩) n1 n1)).below (W4a _);have BI4 := (BI3.other (a := ⟨s + 1 + 1,3,none⟩) (BI3.ne BO3 (by decide)) (.slice (some ⟨g8,0,none⟩) n1 n1)).below (W4a _);have BO4 : Blk ((W3.setCell ⟨s + 1 + 1,3,none⟩ (.slice (some ⟨g8,0,none⟩) n1 n1)).alloc (.cells MC 57)) (s + 1 + 1) #[.int .i64 K,.int .i64 N,.string S,.slice (some ⟨g8,0,none⟩) n1 n1,.slice none 0 0] 30 := (BO3.set 3 _ rfl).below (W4a _)
    have hbw4 : Below w.heap.size w ((W3.setCell ⟨s + 1 + 1,3,none⟩ (.slice (some ⟨g8,0,none⟩) n1 n1)).alloc (.cells MC 57)) := by
     have h1 : Below w.heap.size w (W3.setCell ⟨s + 1 + 1,3,none⟩ (.slice (some ⟨g8,0,none⟩) n1 n1)) := Below.setCell (p := ⟨s + 1 + 1,3,none⟩) hbw3 (by rw [HSZ.out]; simp; omega) _;exact h1.trans ((W4a _).mono h1.size)
    clear BT3 BR3 BI3 BO3 W4a;generalize ((W3.setCell ⟨s + 1 + 1,3,none⟩ (.slice (some ⟨g8,0,none⟩) n1 n1)).alloc (.cells MC 57)) = W4 at *;have HCB4 : Hid (Blk W4 cb #[.bool b,.map (some mb),.slice la Ln lc] 87) := HC.out.blk.below hbw4;have hb84 : g8 < W4.heap.size := BG5.lt;obtain ⟨j0,hj0,hy0,hy1,hy2⟩ := info_parts infoUnf;have BU5 : Blk (W4.drew.alloc (.cells #[.slice a1 n1 c1,.slice (some ⟨g8,0,none⟩) n1 n1] 136)) W4.heap.size #[.slice a1 n1 c1,.slice (some ⟨g8,0,none⟩) n1 n1] 136 := Blk.new W4.drew _ _;have al5 : Below W4.heap.size W4 (W4.drew.alloc (.cells #[.slice a1 n1 c1,.slice (some ⟨g8,0,none⟩) n1 n1] 136)) := (Below.refl _ _).drew.alloc (Nat.le_refl _) _
    have hown5 : (W4.drew.alloc (.cells #[.slice a1 n1 c1,.slice (some ⟨g8,0,none⟩) n1 n1] 136)).ownsRow W0.heap.size 136 2 (.slice la Ln lc) Ln (L.flatMap fun r => [r.ve,r.nw]) := by
     have h1 := (HC.out.mk_below (hbw4.trans (al5.mono hbw4.size))).left;rw [HLN.out] at h1;exact h1
    obtain ⟨v6,W6,r1,r2,r3, -,r5⟩ := run_append_own_at (P := Try.prog) (W4.drew.alloc (.cells #[.slice a1 n1 c1,.slice (some ⟨g8,0,none⟩) n1 n1] 136)) W0.heap.size 85 85 136 j0 _ 2 48 Try.underlying85 hj0 hy0 hy1 hy2 rfl (by decide) (.slice la Ln lc) Ln _ hown5 ⟨W4.heap.size,0,none⟩ 1 1 [.slice a1 n1 c1,.slice (some ⟨g8,0,none⟩) n1 n1] rfl (fun j v hv => by
     have := BU5.cell j;rw [Addr.add_lit,Nat.zero_add,this]
     simpa using hv) (by simp [Value.oneCell']) (by unfold maxLen; omega) (by omega) (by have := HC.out.below.size; have := hbw4.size; have := al5.size; omega)
    obtain ⟨va,vc,hv6⟩ := own_form r2;subst hv6;have HRUN : Hid ((Builtin.append_ #[85,85] 85 #[.slice la Ln lc,.slice (some ⟨W4.heap.size,0,none⟩) 1 1]).run Try.prog (W4.drew.alloc (.cells #[.slice a1 n1 c1,.slice (some ⟨g8,0,none⟩) n1 n1] 136)) = .ok (.slice va (Ln + 1) vc) W6) := r1
    have hlb : ∀ k,Value.ownBlock (.slice la Ln lc) = some k → k < w.heap.size := fun k hk => by
     obtain ⟨cs,h1, -⟩ := own_typ HC.out.left hk;exact h1.lt
    have KP6 : Kp (fun q => q = cb ∨ Value.ownBlock (.slice la Ln lc) = some q) w W6 := Kp.grown (Kp.ofBelow (hbw4.trans (al5.mono hbw4.size))) r3 (fun k hk _ => .inr hk);have KQ6 : Kp (fun q => Value.ownBlock (.slice la Ln lc) = some q) (W4.drew.alloc (.cells #[.slice a1 n1 c1,.slice (some ⟨g8,0,none⟩) n1 n1] 136)) W6 := Kp.grown (Kp.refl _ _) r3 (fun k hk _ => hk)
    have hne : ∀ k,s ≤ k → ¬ Value.ownBlock (.slice la Ln lc) = some k := fun k hk e => by have := hlb k e; rw [HSZ.out] at this; omega
    have BT6 := (BT4.below al5).kp KQ6 (hne _ (by omega));have BR6 := (BR4.below al5).kp KQ6 (hne _ (by omega));have BO6 := (BO4.below al5).kp KQ6 (hne _ (by omega));have BI6 := (BI4.below al5).kp KQ6 (hne _ hb6s);have BG6 := (BG5.below al5).kp KQ6 (hne _ (by omega));have BC6 := (HCB4.out.below al5).kp KQ6 (own_ne HC.out.left HC.out.blk (by decide));have HO6 : Hid (W6.ownsRow W0.heap.size 136 2 (.slice va (Ln + 1) vc) (Ln + 1) ((L.flatMap fun r => [r.ve,r.nw]) ++ [.slice a1 n1 c1,.slice (some ⟨g8,0,none⟩) n1 n1])) := r2;have BC4 := HCB4.out
    have HF6 : Hid (∀ k,k < s → Value.ownBlock (.slice la Ln lc) ≠ some k → Value.ownBlock (.slice va (Ln + 1) vc) ≠ some k) := fun k hk h1 h2 => by
     rcases r5 with e | e
     ·rw [e] at h2; exact h1 h2
     ·rw [e] at h2
      have h3 : (W4.drew.alloc (.cells #[.slice a1 n1 c1,.slice (some ⟨g8,0,none⟩) n1 n1] 136)).heap.size = k := by simpa using h2
      have h4 := al5.size;have h5 := hbw4.size;rw [HSZ.out] at h5
      omega
    clear r1 r2 r3 r5 hown5 hj0 hy0 hy1 hy2 hlb;refine M_region (T := fun W => W.cell? ⟨cb,2,none⟩ = some (.slice la Ln lc) ∧ W.cell? ⟨s,3,none⟩ = some (.slice a1 n1 c1) ∧ W.cell? ⟨s + 1 + 1,3,none⟩ = some (.slice (some ⟨g8,0,none⟩) n1 n1)) (m := 12) (by kernel_rfl) ?_;have hS : W4.drew.cell? ⟨cb,2,none⟩ = some (.slice la Ln lc) ∧ W4.drew.cell? ⟨s,3,none⟩ = some (.slice a1 n1 c1) ∧ W4.drew.cell? ⟨s + 1 + 1,3,none⟩ = some (.slice (some ⟨g8,0,none⟩) n1 n1) := ⟨(BC4.cell 2).trans rfl,(BT4.cell 3).trans rfl,(BO4.cell 3).trans rfl⟩;refine M_take 0 54 (.pointer (some ⟨cb,0,none⟩)) _ rfl rfl (by kernel_rfl) (by kernel_rfl) (by kernel_rfl) (by kernel_rfl) (by kernel_rfl) (fun _ _ _ h => h) (by rfl) (fun w' hw' => ?_) hS (listed' := bts 15 1) (by kernel_rfl) rfl ?_
    ·go_simp
    simp only [zsA,zsZ,zsS];refine M_take 1 55 (.pointer (some ⟨cb,0,none⟩)) _ rfl rfl (by kernel_rfl) (by kernel_rfl) (by kernel_rfl) (by kernel_rfl) (by kernel_rfl) (fun _ _ _ h => h) (by rfl) (fun w' hw' => ?_) hS (listed' := bts 15 3) (by kernel_rfl) rfl ?_
    ·go_simp
    simp only [zsA,zsZ,zsS];refine M_take 2 56 (.pointer (some ⟨cb,0,none⟩)) _ rfl rfl (by kernel_rfl) (by kernel_rfl) (by kernel_rfl) (by kernel_rfl) (by kernel_rfl) (fun _ _ _ h => h) (by rfl) (fun w' hw' => ?_) hS (listed' := bts 15 7) (by kernel_rfl) rfl ?_
    ·go_simp
    simp only [zsA,zsZ,zsS];refine M_take 3 57 (.pointer (some ⟨cb,2,none⟩)) _ rfl rfl (by kernel_rfl) (by kernel_rfl) (by kernel_rfl) (by kernel_rfl) (by kernel_rfl) (fun _ _ _ h => h) (by rfl) (fun w' hw' => ?_) hS (listed' := bts 15 15) (by kernel_rfl) rfl ?_
    ·go_simp
    simp only [zsA,zsZ,zsS];refine M_take 4 58 (.slice la Ln lc) _ rfl rfl (by kernel_rfl) (by kernel_rfl) (by kernel_rfl) (by kernel_rfl) (by kernel_rfl) (fun _ _ _ h => h) (by rfl) (fun w' hw' => ?_) hS (listed' := bts 15 31) (by kernel_rfl) rfl ?_
    ·obtain ⟨f0,f1,f2⟩ := hw'; go_simp
    simp only [zsA,zsZ,zsS];refine M_take 5 59 (.pointer (some ⟨s,3,none⟩)) _ rfl rfl (by kernel_rfl) (by kernel_rfl) (by kernel_rfl) (by kernel_rfl) (by kernel_rfl) (fun _ _ _ h => h) (by rfl) (fun w' hw' => ?_) hS (listed' := bts 15 63) (by kernel_rfl) rfl ?_
    ·go_simp
    simp only [zsA,zsZ,zsS];refine M_take 6 60 (.slice a1 n1 c1) _ rfl rfl (by kernel_rfl) (by kernel_rfl) (by kernel_rfl) (by kernel_rfl) (by kernel_rfl) (fun _ _ _ h => h) (by rfl) (fun w' hw' => ?_) hS (listed' := bts 15 127) (by kernel_rfl) rfl ?_
    ·obtain ⟨f0,f1,f2⟩ := hw'; go_simp
    simp only [zsA,zsZ,zsS];refine M_take 7 61 (.pointer (some ⟨s + 1 + 1,3,none⟩)) _ rfl rfl (by kernel_rfl) (by kernel_rfl) (by kernel_rfl) (by kernel_rfl) (by kernel_rfl) (fun _ _ _ h => h) (by rfl) (fun w' hw' => ?_) hS (listed' := bts 15 255) (by kernel_rfl) rfl ?_
    ·go_simp
    simp only [zsA,zsZ,zsS];refine M_take 8 62 (.slice (some ⟨g8,0,none⟩) n1 n1) _ rfl rfl (by kernel_rfl) (by kernel_rfl) (by kernel_rfl) (by kernel_rfl) (by kernel_rfl) (fun _ _ _ h => h) (by rfl) (fun w' hw' => ?_) hS (listed' := bts 15 511) (by kernel_rfl) rfl ?_
    ·obtain ⟨f0,f1,f2⟩ := hw'; go_simp
    simp only [zsA,zsZ,zsS];refine M_take 9 63 (.agg #[.slice a1 n1 c1,.slice (some ⟨g8,0,none⟩) n1 n1]) _ rfl rfl (by kernel_rfl) (by kernel_rfl) (by kernel_rfl) (by kernel_rfl) (by kernel_rfl) (fun _ _ _ h => h) (by rfl) (fun w' hw' => ?_) hS (listed' := bts 15 1023) (by kernel_rfl) rfl ?_
    ·go_simp
    simp only [zsA,zsZ,zsS];have hdz : W4.drew.heap.size = W4.heap.size := rfl;refine M_run 10 64 (.slice (some ⟨W4.heap.size,0,none⟩) 1 1) (W4.drew.alloc (.cells #[.slice a1 n1 c1,.slice (some ⟨g8,0,none⟩) n1 n1] 136)) rfl rfl (by kernel_rfl) (by rfl) (listed' := bts 15 2047) (by kernel_rfl) (by go_simp) ⟨((BC4.below al5).cell 2).trans rfl,((BT4.below al5).cell 3).trans rfl,((BO4.below al5).cell 3).trans rfl⟩ ?_;simp only [zsA,zsZ,zsS];refine M_run 11 65 (.slice va (Ln + 1) vc) W6 rfl rfl (by kernel_rfl) (by rfl) (listed' := bts 15 4095) (by kernel_rfl) (append_run rfl rfl rfl HRUN.out) ⟨(BC6.cell 2).trans rfl,(BT6.cell 3).trans rfl,(BO6.cell 3).trans rfl⟩ ?_;simp only [zsA,zsZ,zsS];have hS : W6.cell? ⟨cb,2,none⟩ = some (.slice la Ln lc) ∧ W6.cell? ⟨s,3,none⟩ = some (.slice a1 n1 c1) ∧ W6.cell? ⟨s + 1 + 1,3,none⟩ = some (.slice (some ⟨g8,0,none⟩) n1 n1) := ⟨(BC6.cell 2).trans rfl,(BT6.cell 3).trans rfl,(BO6.cell 3).trans rfl⟩;refine M_run 12 66 (.pointer (some ⟨cb,0,none⟩)) (W6) rfl rfl (by kernel_rfl) (by rfl) (listed' := bts 15 8191) (by kernel_rfl) (by go_simp) hS ?_;simp only [zsA,zsZ,zsS];refine M_run 13 67 (.pointer (some ⟨cb,2,none⟩)) (W6) rfl rfl (by kernel_rfl) (by rfl) (listed' := bts 15 16383) (by kernel_rfl) (by go_simp) hS ?_;simp only [zsA,zsZ,zsS];have u2 := BC6.cell 2;have u2z := BC6.froz 2;have u2l := BC6.lt;refine M_store 14 (W6.setCell ⟨cb,2,none⟩ (.slice va (Ln + 1) vc)) rfl rfl (by kernel_rfl) (by rfl) (listed' := bts 15 32767) (by kernel_rfl) (by replace u2 := u2.trans rfl; go_simp) (by kernel_rfl) ?_;refine M_done (by kernel_rfl) ?_ _
    have hcne : ∀ k,s ≤ k → k ≠ cb := fun k hk e => by omega
    have BT7 := BT6.other (a := ⟨cb,2,none⟩) (hcne _ (by omega)) (.slice va (Ln + 1) vc);have BR7 := BR6.other (a := ⟨cb,2,none⟩) (hcne _ (by omega)) (.slice va (Ln + 1) vc);have BO7 := BO6.other (a := ⟨cb,2,none⟩) (hcne _ (by omega)) (.slice va (Ln + 1) vc);have BI7 := BI6.other (a := ⟨cb,2,none⟩) (hcne _ hb6s) (.slice va (Ln + 1) vc);have BG7 := BG6.other (a := ⟨cb,2,none⟩) (hcne _ (by omega)) (.slice va (Ln + 1) vc);have BC7 : Blk (W6.setCell ⟨cb,2,none⟩ (.slice va (Ln + 1) vc)) cb #[.bool b,.map (some mb),.slice va (Ln + 1) vc] 87 := BC6.set 2 _ rfl;have KP7 : Kp (fun q => q = cb ∨ Value.ownBlock (.slice la Ln lc) = some q) w (W6.setCell ⟨cb,2,none⟩ (.slice va (Ln + 1) vc)) := KP6.setCell (p := ⟨cb,2,none⟩) (fun _ => .inl rfl) _
    have HO7 : Hid ((W6.setCell ⟨cb,2,none⟩ (.slice va (Ln + 1) vc)).ownsRow W0.heap.size 136 2 (.slice va (Ln + 1) vc) (Ln + 1) ((L.flatMap fun r => [r.ve,r.nw]) ++ [.slice a1 n1 c1,.slice (some ⟨g8,0,none⟩) n1 n1])) := own_kpT HO6.out (Kp.setCell (S := fun q => q = cb) (p := ⟨cb,2,none⟩) (Kp.refl _ _) (fun _ => rfl) _) fun k e1 e2 => by
     rw [e2] at e1;exact own_ne HO6.out BC6 (by decide) e1
    clear BT6 BR6 BO6 BI6 BG6 BC6 KP6 HO6 BT4 BR4 BO4 BI4 BG5 BC4 HCB4 BU5 al5 KQ6 hS hdz u2 u2z u2l HRUN hb84 hbw4;generalize (W6.setCell ⟨cb,2,none⟩ (.slice va (Ln + 1) vc)) = W7 at *;have KP9 := KP7;have BO9 := BO7;have BR8 := BR7;have BI8 := BI7
    have HRS : Hid (W7.ownsRow W0.heap.size 79 4 (.slice none 0 0) u.rest.length (rawCells u.rest)) := (by
     have h1 : u.rest = [] := List.eq_nil_of_length_eq_zero (by rw [HUU.out.2.2.2.2]; omega);rw [h1]
     exact World.ownsRow_nil _ _ _ _ : W7.ownsRow W0.heap.size 79 4 (.slice none 0 0) u.rest.length (rawCells u.rest))
    have BG8 := BG7;have BC8 := BC7;have HO9 := HO7;have e4 := (BT7.cell 4).trans rfl
    go_upto_region 15 with fail
    clear BT7 BO7 BR7 BI7 KP7 e4 BG7 BC7 HO7 d13;generalize W7 = W9 at *;obtain ⟨rows,hr1,hr2,hr3⟩ := chunk2 n1 MC.toList (by rw [Array.length_toList]; exact hMs)
    have hroom : Fil b W0 W9 [] (⟨n,u,.slice a1 n1 c1,.slice a3 n3 c3,.slice (some ⟨g8,0,none⟩) n1 n1,.slice none 0 0⟩ : Rec) 0 := ⟨rows,by
     show W9.ownsRow W0.heap.size 57 2 (.slice (some ⟨g8,0,none⟩) n1 n1) u.es.length rows.flatten
     rw [HUU.out.2.2.2.1,hr1]
     exact ⟨by rw [Array.length_toList]; exact hMs,.inr ⟨g8,n1,MC,rfl,by have h1 := HC.out.below.size; have h2 := HSZ.out; omega,BG8,Nat.le_refl _,by unfold maxLen; omega,hMs,List.take_of_length_le (by rw [Array.length_toList,hMs]; omega)⟩⟩,by rw [hr2]; exact HUU.out.2.2.2.1.symm,hr3,fun k e hk _ => by omega⟩
    have hrec : RecOk b W0 W9 (⟨n,u,.slice a1 n1 c1,.slice a3 n3 c3,.slice (some ⟨g8,0,none⟩) n1 n1,.slice none 0 0⟩ : Rec) := ⟨HSR.out,HRS.out,hroom,HRB.out,HSMU.out⟩
    have hune : u.es ≠ [] := fun e => by have := HUU.out.2.2.2.1; rw [e] at this; simp at this; omega
    obtain ⟨hC9,hcel9⟩ := HC.out.add (r := (⟨n,u,.slice a1 n1 c1,.slice a3 n3 c3,.slice (some ⟨g8,0,none⟩) n1 n1,.slice none 0 0⟩ : Rec)) KP9 BC8 (by rw [HLN.out]; exact HO9.out) hrec hune (fun k hk => by
     obtain rfl : g8 = k := by simpa [Value.ownBlock] using hk
     rw [HSZ.out]; omega)
    have HFU9 : Hid (FrU (.slice la Ln lc) (.slice va (Ln + 1) vc) w W9) := (fun k cs h1 h2 => ⟨h1.kp KP9 (fun h => by
     rcases h with rfl | h
     ·exact h1.ne HC.out.blk (by decide) rfl
     ·exact h2 h),HF6.out k (by rw [← HSZ.out]; exact h1.lt) h2⟩ : FrU (.slice la Ln lc) (.slice va (Ln + 1) vc) w W9)
    clear hr1 hr2 hr3 hroom hrec hune BG8 BC8 HO9 KP9 HRS hMs HF6;have dr9 : Below W9.heap.size W9 W9.drew := (Below.refl _ _).drew;obtain ⟨W10,g1,g2,g3,g4⟩ := (hC9.mk_below dr9).update (r := (⟨n,u,.slice a1 n1 c1,.slice a3 n3 c3,.slice (some ⟨g8,0,none⟩) n1 n1,.slice none 0 0⟩ : Rec)) (List.mem_append.2 (.inr (by simp)))
    have hidn : idnV ((⟨n,u,.slice a1 n1 c1,.slice a3 n3 c3,.slice (some ⟨g8,0,none⟩) n1 n1,.slice none 0 0⟩ : Rec)).idn = .agg #[.int .i64 K,.int .i64 N,.string S,.pointer p1,.int .i64 (m1 : Int),.pointer p2,.int .i64 (m2 : Int)] := by
     obtain ⟨e1,e2,e3, -⟩ := HUU.out;obtain ⟨e5,e6⟩ := HPP.out;simp only [Rec.idn,idOf,idnV,idC,e1,e2,e3,e5,e6]
    have hout : ((⟨n,u,.slice a1 n1 c1,.slice a3 n3 c3,.slice (some ⟨g8,0,none⟩) n1 n1,.slice none 0 0⟩ : Rec)).out = [.int .i64 K,.int .i64 N,.string S,.slice (some ⟨g8,0,none⟩) n1 n1,.slice none 0 0] := by
     obtain ⟨e1,e2,e3, -⟩ := HUU.out;simp only [Rec.out,e1,e2,e3]
    rw [hidn,hout] at g1;have HUP : Hid ((Instr.mapUpdate 84 (.map (some mb)) (.agg #[.int .i64 K,.int .i64 N,.string S,.pointer p1,.int .i64 (m1 : Int),.pointer p2,.int .i64 (m2 : Int)]) (.agg #[.int .i64 K,.int .i64 N,.string S,.slice (some ⟨g8,0,none⟩) n1 n1,.slice none 0 0])).run Try.prog W9.drew = .ok () W10) := g1;obtain ⟨MM,mm1, -⟩ := (hC9.mk_below dr9).made;have BO10 := (BO9.below dr9).kp g3 (mm1.neB (BO9.below dr9));have BR10 := (BR8.below dr9).kp g3 (mm1.neB (BR8.below dr9));have HC10 : Hid (CyS b W0 W10 cb mb (.slice va (Ln + 1) vc) (R ++ [(⟨n,u,.slice a1 n1 c1,.slice a3 n3 c3,.slice (some ⟨g8,0,none⟩) n1 n1,.slice none 0 0⟩ : Rec)]) (L ++ [(⟨n,u,.slice a1 n1 c1,.slice a3 n3 c3,.slice (some ⟨g8,0,none⟩) n1 n1,.slice none 0 0⟩ : Rec)]) ∧ CelT w W10) := ⟨g2,hcel9.trans ((CelT.ofBelow dr9).trans g4)⟩;have HFU10 : Hid (FrU (.slice la Ln lc) (.slice va (Ln + 1) vc) w W10) := (fun k cs h1 h2 => ⟨((HFU9.out k cs h1 h2).1.below dr9).kp g3 (mm1.neB ((HFU9.out k cs h1 h2).1.below dr9)),(HFU9.out k cs h1 h2).2⟩ : FrU (.slice la Ln lc) (.slice va (Ln + 1) vc) w W10);have HOU : Hid (OutOf b (R ++ [(⟨n,u,.slice a1 n1 c1,.slice a3 n3 c3,.slice (some ⟨g8,0,none⟩) n1 n1,.slice none 0 0⟩ : Rec)]) [.int .i64 K,.int .i64 N,.string S,.slice (some ⟨g8,0,none⟩) n1 n1,.slice none 0 0] x) := (.inr ⟨_,List.mem_append.2 (.inr (List.mem_singleton.2 rfl)),HUX.out.symm,hout.symm⟩ : OutOf b (R ++ [(⟨n,u,.slice a1 n1 c1,.slice a3 n3 c3,.slice (some ⟨g8,0,none⟩) n1 n1,.slice none 0 0⟩ : Rec)]) [.int .i64 K,.int .i64 N,.string S,.slice (some ⟨g8,0,none⟩) n1 n1,.slice none 0 0] x);have HT9 : Hid (W9.drew.cell? ⟨cb,1,none⟩ = some (.map (some mb)) ∧ (∀ k,W9.drew.cell? ⟨b6,k,none⟩ = #[.int .i64 K,.int .i64 N,.string S,.pointer p1,.int .i64 (m1 : Int),.pointer p2,.int .i64 (m2 : Int)][k]?) ∧ (∀ k,W9.drew.cell? ⟨s + 1 + 1,k,none⟩ = #[.int .i64 K,.int .i64 N,.string S,.slice (some ⟨g8,0,none⟩) n1 n1,.slice none 0 0][k]?)) := ⟨(hC9.blk.cell 1).trans rfl,fun k => BI8.cell k,fun k => BO9.cell k⟩;clear g1 g2 g3 g4 hidn hout mm1 MM hC9 hcel9 dr9;refine M_region (T := fun W => W.cell? ⟨cb,1,none⟩ = some (.map (some mb)) ∧ (∀ k,W.cell? ⟨b6,k,none⟩ = #[.int .i64 K,.int .i64 N,.string S,.pointer p1,.int .i64 (m1 : Int),.pointer p2,.int .i64 (m2 : Int)][k]?) ∧ (∀ k,W.cell? ⟨s + 1 + 1,k,none⟩ = #[.int .i64 K,.int .i64 N,.string S,.slice (some ⟨g8,0,none⟩) n1 n1,.slice none 0 0][k]?)) (m := 6) (by kernel_rfl) ?_;have hS := HT9.out;refine M_take 0 76 (.pointer (some ⟨cb,0,none⟩)) _ rfl rfl (by kernel_rfl) (by kernel_rfl) (by kernel_rfl) (by kernel_rfl) (by kernel_rfl) (fun _ _ _ h => h) (by rfl) (fun w' hw' => ?_) hS (listed' := bts 7 1) (by kernel_rfl) rfl ?_
    ·go_simp
    simp only [zsA,zsZ,zsS];refine M_take 1 77 (.pointer (some ⟨cb,0,none⟩)) _ rfl rfl (by kernel_rfl) (by kernel_rfl) (by kernel_rfl) (by kernel_rfl) (by kernel_rfl) (fun _ _ _ h => h) (by rfl) (fun w' hw' => ?_) hS (listed' := bts 7 3) (by kernel_rfl) rfl ?_
    ·go_simp
    simp only [zsA,zsZ,zsS];refine M_take 2 78 (.pointer (some ⟨cb,1,none⟩)) _ rfl rfl (by kernel_rfl) (by kernel_rfl) (by kernel_rfl) (by kernel_rfl) (by kernel_rfl) (fun _ _ _ h => h) (by rfl) (fun w' hw' => ?_) hS (listed' := bts 7 7) (by kernel_rfl) rfl ?_
    ·go_simp
    simp only [zsA,zsZ,zsS];refine M_take 3 79 (.map (some mb)) _ rfl rfl (by kernel_rfl) (by kernel_rfl) (by kernel_rfl) (by kernel_rfl) (by kernel_rfl) (fun _ _ _ h => h) (by rfl) (fun w' hw' => ?_) hS (listed' := bts 7 15) (by kernel_rfl) rfl ?_
    ·obtain ⟨f, -, -⟩ := hw'; go_simp
    simp only [zsA,zsZ,zsS];refine M_take 4 80 (.agg #[.int .i64 K,.int .i64 N,.string S,.pointer p1,.int .i64 (m1 : Int),.pointer p2,.int .i64 (m2 : Int)]) _ rfl rfl (by kernel_rfl) (by kernel_rfl) (by kernel_rfl) (by kernel_rfl) (by kernel_rfl) (fun _ _ _ h => h) (by rfl) (fun w' hw' => ?_) hS (listed' := bts 7 31) (by kernel_rfl) rfl ?_
    ·obtain ⟨-,f, -⟩ := hw'; have f0 := (f 0).trans rfl; have f1 := (f 1).trans rfl; have f2 := (f 2).trans rfl; have f3 := (f 3).trans rfl; have f4 := (f 4).trans rfl; have f5 := (f 5).trans rfl; have f6 := (f 6).trans rfl; clear f; go_simp
    simp only [zsA,zsZ,zsS];refine M_take 5 81 (.agg #[.int .i64 K,.int .i64 N,.string S,.slice (some ⟨g8,0,none⟩) n1 n1,.slice none 0 0]) _ rfl rfl (by kernel_rfl) (by kernel_rfl) (by kernel_rfl) (by kernel_rfl) (by kernel_rfl) (fun _ _ _ h => h) (by rfl) (fun w' hw' => ?_) hS (listed' := bts 7 63) (by kernel_rfl) rfl ?_
    ·obtain ⟨-, -,f⟩ := hw'; have f0 := (f 0).trans rfl; have f1 := (f 1).trans rfl; have f2 := (f 2).trans rfl; have f3 := (f 3).trans rfl; have f4 := (f 4).trans rfl; clear f; go_simp
    simp only [zsA,zsZ,zsS];refine M_store 6 W10 rfl rfl (by kernel_rfl) (by rfl) (listed' := bts 7 127) (by kernel_rfl) (update_run rfl rfl rfl rfl HUP.out) (by kernel_rfl) ?_;refine M_done (by kernel_rfl) ?_ _;have c0 := (BO10.cell 0).trans rfl;have c1' := (BO10.cell 1).trans rfl;have c2' := (BO10.cell 2).trans rfl;have c3 := (BO10.cell 3).trans rfl;have c4 := (BO10.cell 4).trans rfl;have r0 := (BR10.cell 0).trans rfl;have r1 := (BR10.cell 1).trans rfl;have r2 := (BR10.cell 2).trans rfl;have r3 := (BR10.cell 3).trans rfl;have r4 := (BR10.cell 4).trans rfl;have z0 := BR10.froz 0;have z1 := BR10.froz 1;have z2 := BR10.froz 2;have z3 := BR10.froz 3;have z4 := BR10.froz 4;have hlt := BR10.lt
    have HFI : Hid (TreP b W0 cb mb n x (.slice la Ln lc) R L w (.returned (.agg #[.int .i64 K,.int .i64 N,.string S,.slice (some ⟨g8,0,none⟩) n1 n1,.slice none 0 0])) (((((W10.setCell ⟨s + 1,0,none⟩ (.int .i64 K)).setCell ⟨s + 1,1,none⟩ (.int .i64 N)).setCell ⟨s + 1,2,none⟩ (.string S)).setCell ⟨s + 1,3,none⟩ (.slice (some ⟨g8,0,none⟩) n1 n1)).setCell ⟨s + 1,4,none⟩ (.slice none 0 0))) := (by
     have kp := Kp.set5 W10 (s + 1) (.int .i64 K) (.int .i64 N) (.string S) (.slice (some ⟨g8,0,none⟩) n1 n1) (.slice none 0 0)
     have hs0 : W0.heap.size ≤ s + 1 := by have h1 := HC.out.below.size; have h2 := HSZ.out; omega
     refine ⟨_,_,_,_,rfl,HOU.out,HC10.out.1.keepT kp BR10 hs0,fun q hq => List.mem_append.2 (.inl hq),fun q hq => ?_,?_,by simp,?_,fun k cs h1 h2 => ⟨(HFU10.out k cs h1 h2).1.kp kp (fun e => by have := h1.lt; rw [HSZ.out] at this; omega),(HFU10.out k cs h1 h2).2⟩⟩
     ·rcases List.mem_append.1 hq with hq | hq
      ·exact .inl hq
      ·exact .inr (.inl hq)
     ·simp only [wgt,List.map_cons,List.map_nil,List.sum_cons,List.sum_nil]; have := HCN.out; omega
     ·intro k cs ty hty hB
      exact (HC10.out.2 k cs ty hty hB).kp kp (fun e => by have := hB.lt; rw [HSZ.out] at this; omega) : TreP b W0 cb mb n x (.slice la Ln lc) R L w (.returned (.agg #[.int .i64 K,.int .i64 N,.string S,.slice (some ⟨g8,0,none⟩) n1 n1,.slice none 0 0])) (((((W10.setCell ⟨s + 1,0,none⟩ (.int .i64 K)).setCell ⟨s + 1,1,none⟩ (.int .i64 N)).setCell ⟨s + 1,2,none⟩ (.string S)).setCell ⟨s + 1,3,none⟩ (.slice (some ⟨g8,0,none⟩) n1 n1)).setCell ⟨s + 1,4,none⟩ (.slice none 0 0)))
    clear hS HT9 BO9 BR8 BI8 BO10 BR10 HUP HOU HC10;go_wp2_with fail;refine bodyPost_ret (results_cell rfl _ _ _ ⟨s + 1,0,none⟩ (.agg #[.int .i64 K,.int .i64 N,.string S,.slice (some ⟨g8,0,none⟩) n1 n1,.slice none 0 0]) (by go_simp) (by go_simp)) rfl HFI.out
   ·have hn20 : 0 < n3 := by omega
    clear h2
    have d10 : decide (0 < (n1 : Int)) = true := by simp; omega
    have d13 : decide (0 < (n3 : Int)) = true := by simp; omega
    obtain ⟨i0,hi0,hz0,hz1,hz2⟩ := info_parts infoEnt;obtain ⟨MC,hMC⟩ : ∃ z,madeCells (Value.agg #[.int .i64 0,.slice none 0 0]).cells (n1 * 2) = z := ⟨_,rfl⟩
    have hMs : MC.size = n1 * 2 := by rw [← hMC,size_madeCells]
    have hmk : ∀ W : World,(Instr.makeSlice 27 (.int .i64 (n1 : Int)) (.int .i64 (n1 : Int))).run Try.prog W = .ok (.slice (some ⟨W.heap.size,0,none⟩) n1 n1) (W.alloc (.cells MC 57)) := fun W => by
     have := run_makeSlice (P := Try.prog) W 27 57 i0 _ Try.underlying27 hi0 hz0 .i64 .i64 n1 n1 (by omega) (by omega) (by rw [hz1]; simp; omega) (by rw [hz2]; omega) (by omega);rw [hz1] at this;simp only [Int.toNat_natCast] at this;rw [hMC] at this;exact this
    clear hi0 hz0 hz1 hz2 hMC i0;have e3 := (BT3.cell 3).trans rfl;have e4 := (BT3.cell 4).trans rfl;have f3 := (BO3.cell 3).trans rfl;have f3z := BO3.froz 3
    go_upto_region 12 with fail
    clear hmk e3 e4 f3 f3z d10;obtain ⟨g8,hg8⟩ : ∃ z,W3.heap.size = z := ⟨_,rfl⟩;have W4a : ∀ W : World,Below W.heap.size W (W.alloc (.cells MC 57)) := fun W => (Below.refl _ _).alloc (Nat.le_refl _) _
    have BG5 : Blk ((W3.setCell ⟨s + 1 + 1,3,none⟩ (.slice (some ⟨g8,0,none⟩) n1 n1)).alloc (.cells MC 57)) g8 MC 57 := by
     have := Blk.new (W3.setCell ⟨s + 1 + 1,3,none⟩ (.slice (some ⟨g8,0,none⟩) n1 n1)) MC 57
     rwa [show (W3.setCell ⟨s + 1 + 1,3,none⟩ (.slice (some ⟨g8,0,none⟩) n1 n1)).heap.size = g8 from by simp; exact hg8] at this
    rw [hg8] at hs3;simp only [hg8];have HG8 : Hid (W3.heap.size = g8) := hg8;clear hg8;have BT4 := (BT3.other (a := ⟨s + 1 + 1,3,none⟩) (by simp; omega) (.slice (some ⟨g8,0,none⟩) n1 n1)).below (W4a _);have BR4 := (BR3.other (a := ⟨s + 1 + 1,3,none⟩) (by simp) (.slice (some ⟨g8,0,none⟩) n1 n1)).below (W4a _);have BI4 := (BI3.other (a := ⟨s + 1 + 1,3,none⟩) (BI3.ne BO3 (by decide)) (.slice (some ⟨g8,0,none⟩) n1 n1)).below (W4a _);have BO4 : Blk ((W3.setCell ⟨s + 1 + 1,3,none⟩ (.slice (some ⟨g8,0,none⟩) n1 n1)).alloc (.cells MC 57)) (s + 1 + 1) #[.int .i64 K,.int .i64 N,.string S,.slice (some ⟨g8,0,none⟩) n1 n1,.slice none 0 0] 30 := (BO3.set 3 _ rfl).below (W4a _)
    have hbw4 : Below w.heap.size w ((W3.setCell ⟨s + 1 + 1,3,none⟩ (.slice (some ⟨g8,0,none⟩) n1 n1)).alloc (.cells MC 57)) := by
     have h1 : Below w.heap.size w (W3.setCell ⟨s + 1 + 1,3,none⟩ (.slice (some ⟨g8,0,none⟩) n1 n1)) := Below.setCell (p := ⟨s + 1 + 1,3,none⟩) hbw3 (by rw [HSZ.out]; simp; omega) _;exact h1.trans ((W4a _).mono h1.size)
    clear BT3 BR3 BI3 BO3 W4a;generalize ((W3.setCell ⟨s + 1 + 1,3,none⟩ (.slice (some ⟨g8,0,none⟩) n1 n1)).alloc (.cells MC 57)) = W4 at *;have HCB4 : Hid (Blk W4 cb #[.bool b,.map (some mb),.slice la Ln lc] 87) := HC.out.blk.below hbw4;have hb84 : g8 < W4.heap.size := BG5.lt;obtain ⟨j0,hj0,hy0,hy1,hy2⟩ := info_parts infoUnf;have BU5 : Blk (W4.drew.alloc (.cells #[.slice a1 n1 c1,.slice (some ⟨g8,0,none⟩) n1 n1] 136)) W4.heap.size #[.slice a1 n1 c1,.slice (some ⟨g8,0,none⟩) n1 n1] 136 := Blk.new W4.drew _ _;have al5 : Below W4.heap.size W4 (W4.drew.alloc (.cells #[.slice a1 n1 c1,.slice (some ⟨g8,0,none⟩) n1 n1] 136)) := (Below.refl _ _).drew.alloc (Nat.le_refl _) _
    have hown5 : (W4.drew.alloc (.cells #[.slice a1 n1 c1,.slice (some ⟨g8,0,none⟩) n1 n1] 136)).ownsRow W0.heap.size 136 2 (.slice la Ln lc) Ln (L.flatMap fun r => [r.ve,r.nw]) := by
     have h1 := (HC.out.mk_below (hbw4.trans (al5.mono hbw4.size))).left;rw [HLN.out] at h1;exact h1
    obtain ⟨v6,W6,r1,r2,r3, -,r5⟩ := run_append_own_at (P := Try.prog) (W4.drew.alloc (.cells #[.slice a1 n1 c1,.slice (some ⟨g8,0,none⟩) n1 n1] 136)) W0.heap.size 85 85 136 j0 _ 2 48 Try.underlying85 hj0 hy0 hy1 hy2 rfl (by decide) (.slice la Ln lc) Ln _ hown5 ⟨W4.heap.size,0,none⟩ 1 1 [.slice a1 n1 c1,.slice (some ⟨g8,0,none⟩) n1 n1] rfl (fun j v hv => by
     have := BU5.cell j;rw [Addr.add_lit,Nat.zero_add,this]
     simpa using hv) (by simp [Value.oneCell']) (by unfold maxLen; omega) (by omega) (by have := HC.out.below.size; have := hbw4.size; have := al5.size; omega)
    obtain ⟨va,vc,hv6⟩ := own_form r2;subst hv6;have HRUN : Hid ((Builtin.append_ #[85,85] 85 #[.slice la Ln lc,.slice (some ⟨W4.heap.size,0,none⟩) 1 1]).run Try.prog (W4.drew.alloc (.cells #[.slice a1 n1 c1,.slice (some ⟨g8,0,none⟩) n1 n1] 136)) = .ok (.slice va (Ln + 1) vc) W6) := r1
    have hlb : ∀ k,Value.ownBlock (.slice la Ln lc) = some k → k < w.heap.size := fun k hk => by
     obtain ⟨cs,h1, -⟩ := own_typ HC.out.left hk;exact h1.lt
    have KP6 : Kp (fun q => q = cb ∨ Value.ownBlock (.slice la Ln lc) = some q) w W6 := Kp.grown (Kp.ofBelow (hbw4.trans (al5.mono hbw4.size))) r3 (fun k hk _ => .inr hk);have KQ6 : Kp (fun q => Value.ownBlock (.slice la Ln lc) = some q) (W4.drew.alloc (.cells #[.slice a1 n1 c1,.slice (some ⟨g8,0,none⟩) n1 n1] 136)) W6 := Kp.grown (Kp.refl _ _) r3 (fun k hk _ => hk)
    have hne : ∀ k,s ≤ k → ¬ Value.ownBlock (.slice la Ln lc) = some k := fun k hk e => by have := hlb k e; rw [HSZ.out] at this; omega
    have BT6 := (BT4.below al5).kp KQ6 (hne _ (by omega));have BR6 := (BR4.below al5).kp KQ6 (hne _ (by omega));have BO6 := (BO4.below al5).kp KQ6 (hne _ (by omega));have BI6 := (BI4.below al5).kp KQ6 (hne _ hb6s);have BG6 := (BG5.below al5).kp KQ6 (hne _ (by omega));have BC6 := (HCB4.out.below al5).kp KQ6 (own_ne HC.out.left HC.out.blk (by decide));have HO6 : Hid (W6.ownsRow W0.heap.size 136 2 (.slice va (Ln + 1) vc) (Ln + 1) ((L.flatMap fun r => [r.ve,r.nw]) ++ [.slice a1 n1 c1,.slice (some ⟨g8,0,none⟩) n1 n1])) := r2;have BC4 := HCB4.out
    have HF6 : Hid (∀ k,k < s → Value.ownBlock (.slice la Ln lc) ≠ some k → Value.ownBlock (.slice va (Ln + 1) vc) ≠ some k) := fun k hk h1 h2 => by
     rcases r5 with e | e
     ·rw [e] at h2; exact h1 h2
     ·rw [e] at h2
      have h3 : (W4.drew.alloc (.cells #[.slice a1 n1 c1,.slice (some ⟨g8,0,none⟩) n1 n1] 136)).heap.size = k := by simpa using h2
      have h4 := al5.size;have h5 := hbw4.size;rw [HSZ.out] at h5
      omega
    clear r1 r2 r3 r5 hown5 hj0 hy0 hy1 hy2 hlb;refine M_region (T := fun W => W.cell? ⟨cb,2,none⟩ = some (.slice la Ln lc) ∧ W.cell? ⟨s,3,none⟩ = some (.slice a1 n1 c1) ∧ W.cell? ⟨s + 1 + 1,3,none⟩ = some (.slice (some ⟨g8,0,none⟩) n1 n1)) (m := 12) (by kernel_rfl) ?_;have hS : W4.drew.cell? ⟨cb,2,none⟩ = some (.slice la Ln lc) ∧ W4.drew.cell? ⟨s,3,none⟩ = some (.slice a1 n1 c1) ∧ W4.drew.cell? ⟨s + 1 + 1,3,none⟩ = some (.slice (some ⟨g8,0,none⟩) n1 n1) := ⟨(BC4.cell 2).trans rfl,(BT4.cell 3).trans rfl,(BO4.cell 3).trans rfl⟩;refine M_take 0 54 (.pointer (some ⟨cb,0,none⟩)) _ rfl rfl (by kernel_rfl) (by kernel_rfl) (by kernel_rfl) (by kernel_rfl) (by kernel_rfl) (fun _ _ _ h => h) (by rfl) (fun w' hw' => ?_) hS (listed' := bts 15 1) (by kernel_rfl) rfl ?_
    ·go_simp
    simp only [zsA,zsZ,zsS];refine M_take 1 55 (.pointer (some ⟨cb,0,none⟩)) _ rfl rfl (by kernel_rfl) (by kernel_rfl) (by kernel_rfl) (by kernel_rfl) (by kernel_rfl) (fun _ _ _ h => h) (by rfl) (fun w' hw' => ?_) hS (listed' := bts 15 3) (by kernel_rfl) rfl ?_
    ·go_simp
    simp only [zsA,zsZ,zsS];refine M_take 2 56 (.pointer (some ⟨cb,0,none⟩)) _ rfl rfl (by kernel_rfl) (by kernel_rfl) (by kernel_rfl) (by kernel_rfl) (by kernel_rfl) (fun _ _ _ h => h) (by rfl) (fun w' hw' => ?_) hS (listed' := bts 15 7) (by kernel_rfl) rfl ?_
    ·go_simp
    simp only [zsA,zsZ,zsS];refine M_take 3 57 (.pointer (some ⟨cb,2,none⟩)) _ rfl rfl (by kernel_rfl) (by kernel_rfl) (by kernel_rfl) (by kernel_rfl) (by kernel_rfl) (fun _ _ _ h => h) (by rfl) (fun w' hw' => ?_) hS (listed' := bts 15 15) (by kernel_rfl) rfl ?_
    ·go_simp
    simp only [zsA,zsZ,zsS];refine M_take 4 58 (.slice la Ln lc) _ rfl rfl (by kernel_rfl) (by kernel_rfl) (by kernel_rfl) (by kernel_rfl) (by kernel_rfl) (fun _ _ _ h => h) (by rfl) (fun w' hw' => ?_) hS (listed' := bts 15 31) (by kernel_rfl) rfl ?_
    ·obtain ⟨f0,f1,f2⟩ := hw'; go_simp
    simp only [zsA,zsZ,zsS];refine M_take 5 59 (.pointer (some ⟨s,3,none⟩)) _ rfl rfl (by kernel_rfl) (by kernel_rfl) (by kernel_rfl) (by kernel_rfl) (by kernel_rfl) (fun _ _ _ h => h) (by rfl) (fun w' hw' => ?_) hS (listed' := bts 15 63) (by kernel_rfl) rfl ?_
    ·go_simp
    simp only [zsA,zsZ,zsS];refine M_take 6 60 (.slice a1 n1 c1) _ rfl rfl (by kernel_rfl) (by kernel_rfl) (by kernel_rfl) (by kernel_rfl) (by kernel_rfl) (fun _ _ _ h => h) (by rfl) (fun w' hw' => ?_) hS (listed' := bts 15 127) (by kernel_rfl) rfl ?_
    ·obtain ⟨f0,f1,f2⟩ := hw'; go_simp
    simp only [zsA,zsZ,zsS];refine M_take 7 61 (.pointer (some ⟨s + 1 + 1,3,none⟩)) _ rfl rfl (by kernel_rfl) (by kernel_rfl) (by kernel_rfl) (by kernel_rfl) (by kernel_rfl) (fun _ _ _ h => h) (by rfl) (fun w' hw' => ?_) hS (listed' := bts 15 255) (by kernel_rfl) rfl ?_
    ·go_simp
    simp only [zsA,zsZ,zsS];refine M_take 8 62 (.slice (some ⟨g8,0,none⟩) n1 n1) _ rfl rfl (by kernel_rfl) (by kernel_rfl) (by kernel_rfl) (by kernel_rfl) (by kernel_rfl) (fun _ _ _ h => h) (by rfl) (fun w' hw' => ?_) hS (listed' := bts 15 511) (by kernel_rfl) rfl ?_
    ·obtain ⟨f0,f1,f2⟩ := hw'; go_simp
    simp only [zsA,zsZ,zsS];refine M_take 9 63 (.agg #[.slice a1 n1 c1,.slice (some ⟨g8,0,none⟩) n1 n1]) _ rfl rfl (by kernel_rfl) (by kernel_rfl) (by kernel_rfl) (by kernel_rfl) (by kernel_rfl) (fun _ _ _ h => h) (by rfl) (fun w' hw' => ?_) hS (listed' := bts 15 1023) (by kernel_rfl) rfl ?_
    ·go_simp
    simp only [zsA,zsZ,zsS];have hdz : W4.drew.heap.size = W4.heap.size := rfl;refine M_run 10 64 (.slice (some ⟨W4.heap.size,0,none⟩) 1 1) (W4.drew.alloc (.cells #[.slice a1 n1 c1,.slice (some ⟨g8,0,none⟩) n1 n1] 136)) rfl rfl (by kernel_rfl) (by rfl) (listed' := bts 15 2047) (by kernel_rfl) (by go_simp) ⟨((BC4.below al5).cell 2).trans rfl,((BT4.below al5).cell 3).trans rfl,((BO4.below al5).cell 3).trans rfl⟩ ?_;simp only [zsA,zsZ,zsS];refine M_run 11 65 (.slice va (Ln + 1) vc) W6 rfl rfl (by kernel_rfl) (by rfl) (listed' := bts 15 4095) (by kernel_rfl) (append_run rfl rfl rfl HRUN.out) ⟨(BC6.cell 2).trans rfl,(BT6.cell 3).trans rfl,(BO6.cell 3).trans rfl⟩ ?_;simp only [zsA,zsZ,zsS];have hS : W6.cell? ⟨cb,2,none⟩ = some (.slice la Ln lc) ∧ W6.cell? ⟨s,3,none⟩ = some (.slice a1 n1 c1) ∧ W6.cell? ⟨s + 1 + 1,3,none⟩ = some (.slice (some ⟨g8,0,none⟩) n1 n1) := ⟨(BC6.cell 2).trans rfl,(BT6.cell 3).trans rfl,(BO6.cell 3).trans rfl⟩;refine M_run 12 66 (.pointer (some ⟨cb,0,none⟩)) (W6) rfl rfl (by kernel_rfl) (by rfl) (listed' := bts 15 8191) (by kernel_rfl) (by go_simp) hS ?_;simp only [zsA,zsZ,zsS];refine M_run 13 67 (.pointer (some ⟨cb,2,none⟩)) (W6) rfl rfl (by kernel_rfl) (by rfl) (listed' := bts 15 16383) (by kernel_rfl) (by go_simp) hS ?_;simp only [zsA,zsZ,zsS];have u2 := BC6.cell 2;have u2z := BC6.froz 2;have u2l := BC6.lt;refine M_store 14 (W6.setCell ⟨cb,2,none⟩ (.slice va (Ln + 1) vc)) rfl rfl (by kernel_rfl) (by rfl) (listed' := bts 15 32767) (by kernel_rfl) (by replace u2 := u2.trans rfl; go_simp) (by kernel_rfl) ?_;refine M_done (by kernel_rfl) ?_ _
    have hcne : ∀ k,s ≤ k → k ≠ cb := fun k hk e => by omega
    have BT7 := BT6.other (a := ⟨cb,2,none⟩) (hcne _ (by omega)) (.slice va (Ln + 1) vc);have BR7 := BR6.other (a := ⟨cb,2,none⟩) (hcne _ (by omega)) (.slice va (Ln + 1) vc);have BO7 := BO6.other (a := ⟨cb,2,none⟩) (hcne _ (by omega)) (.slice va (Ln + 1) vc);have BI7 := BI6.other (a := ⟨cb,2,none⟩) (hcne _ hb6s) (.slice va (Ln + 1) vc);have BG7 := BG6.other (a := ⟨cb,2,none⟩) (hcne _ (by omega)) (.slice va (Ln + 1) vc);have BC7 : Blk (W6.setCell ⟨cb,2,none⟩ (.slice va (Ln + 1) vc)) cb #[.bool b,.map (some mb),.slice va (Ln + 1) vc] 87 := BC6.set 2 _ rfl;have KP7 : Kp (fun q => q = cb ∨ Value.ownBlock (.slice la Ln lc) = some q) w (W6.setCell ⟨cb,2,none⟩ (.slice va (Ln + 1) vc)) := KP6.setCell (p := ⟨cb,2,none⟩) (fun _ => .inl rfl) _
    have HO7 : Hid ((W6.setCell ⟨cb,2,none⟩ (.slice va (Ln + 1) vc)).ownsRow W0.heap.size 136 2 (.slice va (Ln + 1) vc) (Ln + 1) ((L.flatMap fun r => [r.ve,r.nw]) ++ [.slice a1 n1 c1,.slice (some ⟨g8,0,none⟩) n1 n1])) := own_kpT HO6.out (Kp.setCell (S := fun q => q = cb) (p := ⟨cb,2,none⟩) (Kp.refl _ _) (fun _ => rfl) _) fun k e1 e2 => by
     rw [e2] at e1;exact own_ne HO6.out BC6 (by decide) e1
    clear BT6 BR6 BO6 BI6 BG6 BC6 KP6 HO6 BT4 BR4 BO4 BI4 BG5 BC4 HCB4 BU5 al5 KQ6 hS hdz u2 u2z u2l HRUN hb84 hbw4;generalize (W6.setCell ⟨cb,2,none⟩ (.slice va (Ln + 1) vc)) = W7 at *;have HRC : Hid (Calls Try.prog 54 #[.slice a3 n3 c3] W7 fun e w' => ∃ r,e = .returned r ∧ w'.ownsRow W7.heap.size 79 4 r u.rest.length (rawCells u.rest) ∧ Below W7.heap.size W7 w') := clone_any (HRG.out.below (HC.out.below.trans (KP7.toBelow HC.out.below.size (fun k hk => by rcases hk with rfl | hk; exact HC.out.cb0; obtain ⟨_,_,h⟩ := own_typ HC.out.left hk; exact h)))) (by rw [HUU.out.2.2.2.2]; omega);have e4 := (BT7.cell 4).trans rfl;go_wp2_with fail;refine HRC.out.mono ?_;rintro e W8 ⟨vr,rfl,ho8,hb8⟩;obtain ⟨ra,rc,hvr⟩ := own_form ho8;rw [HUU.out.2.2.2.2] at hvr;subst hvr;have BO8 := BO7.below hb8;have BR8 := (BR7.below hb8).other (a := ⟨s + 1 + 1,4,none⟩) (by simp) (.slice ra n3 rc);have BI8 := (BI7.below hb8).other (a := ⟨s + 1 + 1,4,none⟩) (fun e => BI7.ne BO7 (by decide) e) (.slice ra n3 rc);have BG8 := (BG7.below hb8).other (a := ⟨s + 1 + 1,4,none⟩) (by simp; omega) (.slice ra n3 rc);have BC8 := (BC7.below hb8).other (a := ⟨s + 1 + 1,4,none⟩) (by simp; omega) (.slice ra n3 rc)
    have hkb : ∀ k,k < s → ¬ k = s + 1 + 1 := fun k hk e => by omega
    have KS8 : Kp (fun q => q = s + 1 + 1) W8 (W8.setCell ⟨s + 1 + 1,4,none⟩ (.slice ra n3 rc)) := Kp.setCell (S := fun q => q = s + 1 + 1) (p := ⟨s + 1 + 1,4,none⟩) (Kp.refl _ _) (fun _ => rfl) _;have BO9 : Blk (W8.setCell ⟨s + 1 + 1,4,none⟩ (.slice ra n3 rc)) (s + 1 + 1) #[.int .i64 K,.int .i64 N,.string S,.slice (some ⟨g8,0,none⟩) n1 n1,.slice ra n3 rc] 30 := BO8.set 4 _ rfl
    have HRS : Hid ((W8.setCell ⟨s + 1 + 1,4,none⟩ (.slice ra n3 rc)).ownsRow W0.heap.size 79 4 (.slice ra n3 rc) u.rest.length (rawCells u.rest)) := own_kpT (own_baseT ho8 (by have h1 := HC.out.below.size; have h2 := KP7.size; omega)) KS8 fun k e1 e2 => by
     rw [e2] at e1;exact own_ne ho8 BO8 (by decide) e1
    have KP9 : Kp (fun q => q = cb ∨ Value.ownBlock (.slice la Ln lc) = some q) w (W8.setCell ⟨s + 1 + 1,4,none⟩ (.slice ra n3 rc)) := (KP7.below hb8).setCell (p := ⟨s + 1 + 1,4,none⟩) (fun h => by exfalso; simp at h; rw [HSZ.out] at h; omega) _
    have HO9 : Hid ((W8.setCell ⟨s + 1 + 1,4,none⟩ (.slice ra n3 rc)).ownsRow W0.heap.size 136 2 (.slice va (Ln + 1) vc) (Ln + 1) ((L.flatMap fun r => [r.ve,r.nw]) ++ [.slice a1 n1 c1,.slice (some ⟨g8,0,none⟩) n1 n1])) := own_kpT (own_kpT HO7.out (Kp.ofBelow (S := fun _ => False) hb8) (fun _ _ e => e)) KS8 fun k e1 e2 => by rw [e2] at e1; exact own_ne HO7.out BO7 (by decide) e1
    have o4 := (BO8.cell 4).trans rfl;have o4z := BO8.froz 4;have o4l := BO8.lt;clear BT7 BO7 BR7 BI7 ho8 hb8 HRC e4 KP7 BG7 BC7 HO7
    go_upto_region 15 with fail
    clear o4 o4z o4l KS8 BO8 d13;generalize (W8.setCell ⟨s + 1 + 1,4,none⟩ (.slice ra n3 rc)) = W9 at *;obtain ⟨rows,hr1,hr2,hr3⟩ := chunk2 n1 MC.toList (by rw [Array.length_toList]; exact hMs)
    have hroom : Fil b W0 W9 [] (⟨n,u,.slice a1 n1 c1,.slice a3 n3 c3,.slice (some ⟨g8,0,none⟩) n1 n1,.slice ra n3 rc⟩ : Rec) 0 := ⟨rows,by
     show W9.ownsRow W0.heap.size 57 2 (.slice (some ⟨g8,0,none⟩) n1 n1) u.es.length rows.flatten
     rw [HUU.out.2.2.2.1,hr1]
     exact ⟨by rw [Array.length_toList]; exact hMs,.inr ⟨g8,n1,MC,rfl,by have h1 := HC.out.below.size; have h2 := HSZ.out; omega,BG8,Nat.le_refl _,by unfold maxLen; omega,hMs,List.take_of_length_le (by rw [Array.length_toList,hMs]; omega)⟩⟩,by rw [hr2]; exact HUU.out.2.2.2.1.symm,hr3,fun k e hk _ => by omega⟩
    have hrec : RecOk b W0 W9 (⟨n,u,.slice a1 n1 c1,.slice a3 n3 c3,.slice (some ⟨g8,0,none⟩) n1 n1,.slice ra n3 rc⟩ : Rec) := ⟨HSR.out,HRS.out,hroom,HRB.out,HSMU.out⟩
    have hune : u.es ≠ [] := fun e => by have := HUU.out.2.2.2.1; rw [e] at this; simp at this; omega
    obtain ⟨hC9,hcel9⟩ := HC.out.add (r := (⟨n,u,.slice a1 n1 c1,.slice a3 n3 c3,.slice (some ⟨g8,0,none⟩) n1 n1,.slice ra n3 rc⟩ : Rec)) KP9 BC8 (by rw [HLN.out]; exact HO9.out) hrec hune (fun k hk => by
     obtain rfl : g8 = k := by simpa [Value.ownBlock] using hk
     rw [HSZ.out]; omega)
    have HFU9 : Hid (FrU (.slice la Ln lc) (.slice va (Ln + 1) vc) w W9) := (fun k cs h1 h2 => ⟨h1.kp KP9 (fun h => by
     rcases h with rfl | h
     ·exact h1.ne HC.out.blk (by decide) rfl
     ·exact h2 h),HF6.out k (by rw [← HSZ.out]; exact h1.lt) h2⟩ : FrU (.slice la Ln lc) (.slice va (Ln + 1) vc) w W9)
    clear hr1 hr2 hr3 hroom hrec hune BG8 BC8 HO9 KP9 HRS hMs HF6;have dr9 : Below W9.heap.size W9 W9.drew := (Below.refl _ _).drew;obtain ⟨W10,g1,g2,g3,g4⟩ := (hC9.mk_below dr9).update (r := (⟨n,u,.slice a1 n1 c1,.slice a3 n3 c3,.slice (some ⟨g8,0,none⟩) n1 n1,.slice ra n3 rc⟩ : Rec)) (List.mem_append.2 (.inr (by simp)))
    have hidn : idnV ((⟨n,u,.slice a1 n1 c1,.slice a3 n3 c3,.slice (some ⟨g8,0,none⟩) n1 n1,.slice ra n3 rc⟩ : Rec)).idn = .agg #[.int .i64 K,.int .i64 N,.string S,.pointer p1,.int .i64 (m1 : Int),.pointer p2,.int .i64 (m2 : Int)] := by
     obtain ⟨e1,e2,e3, -⟩ := HUU.out;obtain ⟨e5,e6⟩ := HPP.out;simp only [Rec.idn,idOf,idnV,idC,e1,e2,e3,e5,e6]
    have hout : ((⟨n,u,.slice a1 n1 c1,.slice a3 n3 c3,.slice (some ⟨g8,0,none⟩) n1 n1,.slice ra n3 rc⟩ : Rec)).out = [.int .i64 K,.int .i64 N,.string S,.slice (some ⟨g8,0,none⟩) n1 n1,.slice ra n3 rc] := by
     obtain ⟨e1,e2,e3, -⟩ := HUU.out;simp only [Rec.out,e1,e2,e3]
    rw [hidn,hout] at g1;have HUP : Hid ((Instr.mapUpdate 84 (.map (some mb)) (.agg #[.int .i64 K,.int .i64 N,.string S,.pointer p1,.int .i64 (m1 : Int),.pointer p2,.int .i64 (m2 : Int)]) (.agg #[.int .i64 K,.int .i64 N,.string S,.slice (some ⟨g8,0,none⟩) n1 n1,.slice ra n3 rc])).run Try.prog W9.drew = .ok () W10) := g1;obtain ⟨MM,mm1, -⟩ := (hC9.mk_below dr9).made;have BO10 := (BO9.below dr9).kp g3 (mm1.neB (BO9.below dr9));have BR10 := (BR8.below dr9).kp g3 (mm1.neB (BR8.below dr9));have HC10 : Hid (CyS b W0 W10 cb mb (.slice va (Ln + 1) vc) (R ++ [(⟨n,u,.slice a1 n1 c1,.slice a3 n3 c3,.slice (some ⟨g8,0,none⟩) n1 n1,.slice ra n3 rc⟩ : Rec)]) (L ++ [(⟨n,u,.slice a1 n1 c1,.slice a3 n3 c3,.slice (some ⟨g8,0,none⟩) n1 n1,.slice ra n3 rc⟩ : Rec)]) ∧ CelT w W10) := ⟨g2,hcel9.trans ((CelT.ofBelow dr9).trans g4)⟩;have HFU10 : Hid (FrU (.slice la Ln lc) (.slice va (Ln + 1) vc) w W10) := (fun k cs h1 h2 => ⟨((HFU9.out k cs h1 h2).1.below dr9).kp g3 (mm1.neB ((HFU9.out k cs h1 h2).1.below dr9)),(HFU9.out k cs h1 h2).2⟩ : FrU (.slice la Ln lc) (.slice va (Ln + 1) vc) w W10);have HOU : Hid (OutOf b (R ++ [(⟨n,u,.slice a1 n1 c1,.slice a3 n3 c3,.slice (some ⟨g8,0,none⟩) n1 n1,.slice ra n3 rc⟩ : Rec)]) [.int .i64 K,.int .i64 N,.string S,.slice (some ⟨g8,0,none⟩) n1 n1,.slice ra n3 rc] x) := (.inr ⟨_,List.mem_append.2 (.inr (List.mem_singleton.2 rfl)),HUX.out.symm,hout.symm⟩ : OutOf b (R ++ [(⟨n,u,.slice a1 n1 c1,.slice a3 n3 c3,.slice (some ⟨g8,0,none⟩) n1 n1,.slice ra n3 rc⟩ : Rec)]) [.int .i64 K,.int .i64 N,.string S,.slice (some ⟨g8,0,none⟩) n1 n1,.slice ra n3 rc] x);have HT9 : Hid (W9.drew.cell? ⟨cb,1,none⟩ = some (.map (some mb)) ∧ (∀ k,W9.drew.cell? ⟨b6,k,none⟩ = #[.int .i64 K,.int .i64 N,.string S,.pointer p1,.int .i64 (m1 : Int),.pointer p2,.int .i64 (m2 : Int)][k]?) ∧ (∀ k,W9.drew.cell? ⟨s + 1 + 1,k,none⟩ = #[.int .i64 K,.int .i64 N,.string S,.slice (some ⟨g8,0,none⟩) n1 n1,.slice ra n3 rc][k]?)) := ⟨(hC9.blk.cell 1).trans rfl,fun k => BI8.cell k,fun k => BO9.cell k⟩;clear g1 g2 g3 g4 hidn hout mm1 MM hC9 hcel9 dr9;refine M_region (T := fun W => W.cell? ⟨cb,1,none⟩ = some (.map (some mb)) ∧ (∀ k,W.cell? ⟨b6,k,none⟩ = #[.int .i64 K,.int .i64 N,.string S,.pointer p1,.int .i64 (m1 : Int),.pointer p2,.int .i64 (m2 : Int)][k]?) ∧ (∀ k,W.cell? ⟨s + 1 + 1,k,none⟩ = #[.int .i64 K,.int .i64 N,.string S,.slice (some ⟨g8,0,none⟩) n1 n1,.slice ra n3 rc][k]?)) (m := 6) (by kernel_rfl) ?_;have hS := HT9.out;refine M_take 0 76 (.pointer (some ⟨cb,0,none⟩)) _ rfl rfl (by kernel_rfl) (by kernel_rfl) (by kernel_rfl) (by kernel_rfl) (by kernel_rfl) (fun _ _ _ h => h) (by rfl) (fun w' hw' => ?_) hS (listed' := bts 7 1) (by kernel_rfl) rfl ?_
    ·go_simp
    simp only [zsA,zsZ,zsS];refine M_take 1 77 (.pointer (some ⟨cb,0,none⟩)) _ rfl rfl (by kernel_rfl) (by kernel_rfl) (by kernel_rfl) (by kernel_rfl) (by kernel_rfl) (fun _ _ _ h => h) (by rfl) (fun w' hw' => ?_) hS (listed' := bts 7 3) (by kernel_rfl) rfl ?_
    ·go_simp
    simp only [zsA,zsZ,zsS];refine M_take 2 78 (.pointer (some ⟨cb,1,none⟩)) _ rfl rfl (by kernel_rfl) (by kernel_rfl) (by kernel_rfl) (by kernel_rfl) (by kernel_rfl) (fun _ _ _ h => h) (by rfl) (fun w' hw' => ?_) hS (listed' := bts 7 7) (by kernel_rfl) rfl ?_
    ·go_simp
    simp only [zsA,zsZ,zsS];refine M_take 3 79 (.map (some mb)) _ rfl rfl (by kernel_rfl) (by kernel_rfl) (by kernel_rfl) (by kernel_rfl) (by kernel_rfl) (fun _ _ _ h => h) (by rfl) (fun w' hw' => ?_) hS (listed' := bts 7 15) (by kernel_rfl) rfl ?_
    ·obtain ⟨f, -, -⟩ := hw'; go_simp
    simp only [zsA,zsZ,zsS];refine M_take 4 80 (.agg #[.int .i64 K,.int .i64 N,.string S,.pointer p1,.int .i64 (m1 : Int),.pointer p2,.int .i64 (m2 : Int)]) _ rfl rfl (by kernel_rfl) (by kernel_rfl) (by kernel_rfl) (by kernel_rfl) (by kernel_rfl) (fun _ _ _ h => h) (by rfl) (fun w' hw' => ?_) hS (listed' := bts 7 31) (by kernel_rfl) rfl ?_
    ·obtain ⟨-,f, -⟩ := hw'; have f0 := (f 0).trans rfl; have f1 := (f 1).trans rfl; have f2 := (f 2).trans rfl; have f3 := (f 3).trans rfl; have f4 := (f 4).trans rfl; have f5 := (f 5).trans rfl; have f6 := (f 6).trans rfl; clear f; go_simp
    simp only [zsA,zsZ,zsS];refine M_take 5 81 (.agg #[.int .i64 K,.int .i64 N,.string S,.slice (some ⟨g8,0,none⟩) n1 n1,.slice ra n3 rc]) _ rfl rfl (by kernel_rfl) (by kernel_rfl) (by kernel_rfl) (by kernel_rfl) (by kernel_rfl) (fun _ _ _ h => h) (by rfl) (fun w' hw' => ?_) hS (listed' := bts 7 63) (by kernel_rfl) rfl ?_
    ·obtain ⟨-, -,f⟩ := hw'; have f0 := (f 0).trans rfl; have f1 := (f 1).trans rfl; have f2 := (f 2).trans rfl; have f3 := (f 3).trans rfl; have f4 := (f 4).trans rfl; clear f; go_simp
    simp only [zsA,zsZ,zsS];refine M_store 6 W10 rfl rfl (by kernel_rfl) (by rfl) (listed' := bts 7 127) (by kernel_rfl) (update_run rfl rfl rfl rfl HUP.out) (by kernel_rfl) ?_;refine M_done (by kernel_rfl) ?_ _;have c0 := (BO10.cell 0).trans rfl;have c1' := (BO10.cell 1).trans rfl;have c2' := (BO10.cell 2).trans rfl;have c3 := (BO10.cell 3).trans rfl;have c4 := (BO10.cell 4).trans rfl;have r0 := (BR10.cell 0).trans rfl;have r1 := (BR10.cell 1).trans rfl;have r2 := (BR10.cell 2).trans rfl;have r3 := (BR10.cell 3).trans rfl;have r4 := (BR10.cell 4).trans rfl;have z0 := BR10.froz 0;have z1 := BR10.froz 1;have z2 := BR10.froz 2;have z3 := BR10.froz 3;have z4 := BR10.froz 4;have hlt := BR10.lt
    have HFI : Hid (TreP b W0 cb mb n x (.slice la Ln lc) R L w (.returned (.agg #[.int .i64 K,.int .i64 N,.string S,.slice (some ⟨g8,0,none⟩) n1 n1,.slice ra n3 rc])) (((((W10.setCell ⟨s + 1,0,none⟩ (.int .i64 K)).setCell ⟨s + 1,1,none⟩ (.int .i64 N)).setCell ⟨s + 1,2,none⟩ (.string S)).setCell ⟨s + 1,3,none⟩ (.slice (some ⟨g8,0,none⟩) n1 n1)).setCell ⟨s + 1,4,none⟩ (.slice ra n3 rc))) := (by
     have kp := Kp.set5 W10 (s + 1) (.int .i64 K) (.int .i64 N) (.string S) (.slice (some ⟨g8,0,none⟩) n1 n1) (.slice ra n3 rc)
     have hs0 : W0.heap.size ≤ s + 1 := by have h1 := HC.out.below.size; have h2 := HSZ.out; omega
     refine ⟨_,_,_,_,rfl,HOU.out,HC10.out.1.keepT kp BR10 hs0,fun q hq => List.mem_append.2 (.inl hq),fun q hq => ?_,?_,by simp,?_,fun k cs h1 h2 => ⟨(HFU10.out k cs h1 h2).1.kp kp (fun e => by have := h1.lt; rw [HSZ.out] at this; omega),(HFU10.out k cs h1 h2).2⟩⟩
     ·rcases List.mem_append.1 hq with hq | hq
      ·exact .inl hq
      ·exact .inr (.inl hq)
     ·simp only [wgt,List.map_cons,List.map_nil,List.sum_cons,List.sum_nil]; have := HCN.out; omega
     ·intro k cs ty hty hB
      exact (HC10.out.2 k cs ty hty hB).kp kp (fun e => by have := hB.lt; rw [HSZ.out] at this; omega) : TreP b W0 cb mb n x (.slice la Ln lc) R L w (.returned (.agg #[.int .i64 K,.int .i64 N,.string S,.slice (some ⟨g8,0,none⟩) n1 n1,.slice ra n3 rc])) (((((W10.setCell ⟨s + 1,0,none⟩ (.int .i64 K)).setCell ⟨s + 1,1,none⟩ (.int .i64 N)).setCell ⟨s + 1,2,none⟩ (.string S)).setCell ⟨s + 1,3,none⟩ (.slice (some ⟨g8,0,none⟩) n1 n1)).setCell ⟨s + 1,4,none⟩ (.slice ra n3 rc)))
    clear hS HT9 BO9 BR8 BI8 BO10 BR10 HUP HOU HC10;go_wp2_with fail;refine bodyPost_ret (results_cell rfl _ _ _ ⟨s + 1,0,none⟩ (.agg #[.int .i64 K,.int .i64 N,.string S,.slice (some ⟨g8,0,none⟩) n1 n1,.slice ra n3 rc]) (by go_simp) (by go_simp)) rfl HFI.out
end Go.Proofs.Ytmgbhicogmclgaa

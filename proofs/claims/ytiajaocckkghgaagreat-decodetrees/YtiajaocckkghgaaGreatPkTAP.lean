/- Part 16 of what the proof stands on. -/
import Derived.Test.YtiajaocckkghgaaGreatPkTAO
namespace Go.Proofs.YtiajaocckkghgaaGreat
set_option maxHeartbeats 8000000
set_option linter.unusedVariables false
set_option linter.unusedSimpArgs false
set_option maxRecDepth 20000
open Go.ChangeShapes Go.WideShapes Go.ChangeAt Go.RowKit
theorem all_take_snoc {rs : List Fd} {i : Nat} {r : Fd} (h : rs[i]? = some r) : rs.take (i + 1) = rs.take i ++ [r] := by
 rw [List.take_add_one,h]; rfl
theorem all_bad {rs : List Fd} {i : Nat} {r : Fd} (h : rs[i]? = some r) (hr : okF r = false) : rs.all okF = false := by
 rw [List.all_eq_false];exact ⟨r,List.mem_of_getElem? h,by simp [hr]⟩
theorem flat_take_le (rs : List Fd) (i : Nat) : (flatN (rs.take i)).length ≤ (flatN rs).length := by
 conv => rhs; rw [← List.take_append_drop i rs,flatN_app,List.length_append]
 omega
theorem wputall_any (a : Option Addr) (rs : List Fd) (N cap : Nat) (w : World) (hN : rs.length = N) (hadr : rs = [] ∨ ∃ g off,a = some ⟨g,off,none⟩) (hc : N ≤ cap) (hm : cap ≤ maxLen) (hl : N ≤ 1000000) (hh : HoldsR w a rs) (h64 : ∀ r ∈ rs,Is64 r.n) :
  Calls Tryz.prog 25 #[.slice a N cap] w fun e w' => ∃ v,e = .returned (.tuple #[v,.int .i64 ((putL rs).2 : Int)]) ∧ w'.ownsRow w.heap.size 5 1 v (putL rs).1.length (byteCells (putL rs).1) ∧ Below w.heap.size w w' := by
 have HN : Hid (rs.length = N) := hN;have HA : Hid (rs = [] ∨ ∃ g off,a = some ⟨g,off,none⟩) := hadr;have HH : Hid (HoldsR w a rs) := hh;have H64 : Hid (∀ r ∈ rs,Is64 r.n) := h64;obtain ⟨R,hR⟩ : ∃ R,putL rs = R := ⟨_,rfl⟩;rw [hR];have HR : Hid (putL rs = R) := hR;unfold maxLen at hm;clear hN hadr hh h64 hR
 go_enter Tryz.func25,Tryz.ntmps25
 go_wp2_with fail
 go_loopw [11] (fun iv wr => ∃ i : Nat,iv = .int .i64 (i : Int) ∧ i ≤ N ∧ Hid ((rs.take i).all okF = true) ∧ Below w.heap.size w wr) (fun iv _ => N - (intOf iv).toNat)
 case atStart => exact ⟨0,rfl,by omega,(by rfl : ((rs.take 0).all okF = true)),Below.refl _ _⟩
 case round =>
  obtain ⟨i,rfl,hi,HT,hbel⟩ := hrel;have hws := hbel.size
  by_cases hlt : i < N
  ·have hr : rs[i]? = some (rs[i]'(by rw [HN.out]; exact hlt)) := List.getElem?_eq_getElem _;generalize rs[i]'(by rw [HN.out]; exact hlt) = r at hr
   rcases HA.out with h0 | ⟨g,off,rfl⟩
   ·exact absurd hlt (by have := HN.out; rw [h0] at this; simp at this; omega)
   obtain ⟨p0,p1,p2,p3⟩ := (HH.out.below hbel).at hr;have HK : Hid (rs[i]? = some r) := hr;obtain ⟨ok,hok⟩ : ∃ b,okF r = b := ⟨_,rfl⟩;have HOK : Hid (okF r = ok) := hok
   have HCK : Hid (∀ W,Calls Tryz.prog 45 #[.agg #[.int .i64 r.tag,.int .i64 r.wire,.int .i64 r.n,.string r.b]] W fun e w' => e = .returned (.bool ok) ∧ Below W.heap.size W w') := fun W => by rw [← hok]; exact wchk_any r W
   clear hr hok;generalize r.tag = t at p0 HCK;generalize r.wire = k at p1 HCK;generalize r.n = n at p2 HCK;generalize r.b = b at p3 HCK;go_wp2_with fail;refine (HCK.out _).mono ?_;rintro e w1 ⟨rfl,hb1⟩;have hb1' : Below w.heap.size w w1 := (hbel.alloc hws _).trans (hb1.mono (by simp; omega));clear hb1 p0 p1 p2 p3 HCK hbel
   cases ok with
   | true =>
    have HT2 : Hid ((rs.take (i + 1)).all okF = true) := by
     show _ = _
     rw [all_take_snoc HK.out,List.all_append,HT.out,List.all_cons,HOK.out,List.all_nil]
     rfl
    clear HT HK HOK;go_wp2_with fail
    go_roundw
    case rel => exact ⟨i + 1,by go_num,by omega,HT2,hb1'⟩
    case measure => simp [intOf]; omega
   | false =>
    obtain rfl : R = ([],1) := by rw [← HR.out]; exact putL_bad (all_bad HK.out HOK.out)
    clear HT HK HOK HR;go_wp2_with fail
    go_ret2
    exact ⟨_,rfl,World.ownsRow_nil _ _ _ _,hb1'⟩
  ·obtain rfl : i = N := by omega
   have HALL : Hid (rs.all okF = true) := by
    have := HT.out;rw [List.take_of_length_le (by rw [HN.out]; exact Nat.le_refl _)] at this;exact this
   clear HT;go_wp2_with fail
   go_loopw [6,21] (fun out iv wr' => ∃ i' : Nat,iv = .int .i64 (i' : Int) ∧ i' ≤ i ∧ Hid ((flatN (rs.take i')).length ≤ 4096) ∧ Hid (wr'.ownsRow w.heap.size 5 1 out (flatN (rs.take i')).length (byteCells (flatN (rs.take i')))) ∧ Below w.heap.size w wr') (fun _ iv _ => i - (intOf iv).toNat)
   case atStart => exact ⟨0,rfl,by omega,(by rw [List.take_zero,flatN_nil]; decide : (flatN (rs.take 0)).length ≤ 4096),by rw [List.take_zero,flatN_nil]; exact World.ownsRow_nil _ _ _ _,hbel⟩
   case round =>
    obtain ⟨j,rfl,hj,HL,HO,hbel2⟩ := hrel;have hws2 := hbel2.size
    by_cases hlt2 : j < i
    ·have hr : rs[j]? = some (rs[j]'(by rw [HN.out]; exact hlt2)) := List.getElem?_eq_getElem _;generalize rs[j]'(by rw [HN.out]; exact hlt2) = r at hr
     rcases HA.out with h0 | ⟨g,off,rfl⟩
     ·exact absurd hlt2 (by have := HN.out; rw [h0] at this; simp at this; omega)
     obtain ⟨p0,p1,p2,p3⟩ := (HH.out.below hbel2).at hr;have hmem : r ∈ rs := List.mem_of_getElem? hr;have hrok : okF r = true := List.all_eq_true.1 HALL.out r hmem;have hr64 := H64.out r hmem;have hfl := (fieldN_len hrok hr64).2;have HFD : Hid (∀ W,Calls Tryz.prog 46 #[.agg #[.int .i64 r.tag,.int .i64 r.wire,.int .i64 r.n,.string r.b]] W fun e w' => ∃ v,e = .returned v ∧ w'.ownsRow W.heap.size 5 1 v (fieldN r).length (byteCells (fieldN r)) ∧ Below W.heap.size W w') := fun W => field_any r W hrok hr64
     have HF1 : Hid (flatN (rs.take (j + 1)) = flatN (rs.take j) ++ fieldN r) := by
      show _ = _
      rw [all_take_snoc hr,flatN_app,flatN_cons,flatN_nil,List.append_nil]
     clear hr hmem hrok hr64;generalize r.tag = t at p0 HFD;generalize r.wire = k at p1 HFD;generalize r.n = n at p2 HFD;generalize r.b = b at p3 HFD;generalize fieldN r = fs at *;have HLF : Hid (fs.length ≤ 4116) := hfl;clear hfl;obtain ⟨F,hF⟩ : ∃ F,flatN (rs.take j) = F := ⟨_,rfl⟩;rw [hF] at HL HO HF1;clear hF;go_wp2_with fail;refine (HFD.out _).mono ?_;rintro e w1 ⟨v1,rfl,ho1,hb1⟩;have hb1' : Below w.heap.size w w1 := (hbel2.alloc hws2 _).trans (hb1.mono (by simp; omega));have HO1 := own_belowH HO ((below_one _ _).trans (hb1.mono (by simp)));obtain ⟨a2,cap2,rfl, -,h21,h22,h23,h24⟩ := own_open ho1;have HH2 : Hid (Holds w1 a2 fs) := h24
     have HA2 : Hid (a2 = none → fs = [] ∧ cap2 = 0) := by
      rcases h21 with h | ⟨g',h,_⟩
      ·exact fun _ => ⟨h.2.1,h.2.2⟩
      ·exact fun e => by rw [h] at e; cases e
     clear HO ho1 hb1 h21 h22 h23 h24 p0 p1 p2 p3 HFD hbel2;obtain ⟨M,hM⟩ : ∃ M,fs.length = M := ⟨_,rfl⟩;rw [hM];have HM : Hid (M = fs.length) := hM.symm;clear hM
     go_wp2_with (first
      | (at_builtin; refine wpList_join rfl _ _ rfl w.heap.size _ _ F rfl HO1.out a2 fs M cap2 rfl HM.out HA2.out HH2.out ?c1 ?c2 ?_)
      | fail)
     case c1 => have := HL.out; have := HLF.out; omega
     case c2 => exact hb1'.size
     intro v3 w3 ho3 hg3;have hb3 : Below w.heap.size w w3 := hb1'.grown hg3 hb1'.size (fun k hk => (HO1.out.lt k hk).1);obtain ⟨a3,cap3,rfl, -,h31,h32,h33,h34⟩ := own_open ho3
     have e0 : F.length + fs.length = (flatN (rs.take (j + 1))).length := by rw [HF1.out,List.length_append]
     rw [← HF1.out] at ho3 ⊢;rw [e0] at ho3;clear e0;have HO3 : Hid (w3.ownsRow w.heap.size 5 1 (.slice a3 (flatN (rs.take (j + 1))).length cap3) (flatN (rs.take (j + 1))).length (byteCells (flatN (rs.take (j + 1))))) := ho3;clear ho3 hg3 h31 h32 h33 h34 HO1 HH2 HA2 HM HL HLF HF1 hb1'
     by_cases hbig : 4096 < (flatN (rs.take (j + 1))).length
     ·obtain rfl : R = ([],4) := by rw [← HR.out]; exact putL_big HALL.out (Nat.lt_of_lt_of_le hbig (flat_take_le rs _))
      clear HR HO3;generalize (flatN (rs.take (j + 1))).length = L at *;go_wp2_with fail
      go_ret2
      exact ⟨_,rfl,World.ownsRow_nil _ _ _ _,hb3⟩
     ·have HL3 : Hid ((flatN (rs.take (j + 1))).length ≤ 4096) := by show _ ≤ _; omega
      obtain ⟨L,hLL⟩ : ∃ L,(flatN (rs.take (j + 1))).length = L := ⟨_,rfl⟩
      have hbig' : ¬ 4096 < L := by omega
      rw [hLL];have HLL : Hid ((flatN (rs.take (j + 1))).length = L) := hLL;clear hbig hLL;go_wp2_with fail
      go_roundw
      case rel => exact ⟨j + 1,by go_num,by omega,HL3,by rw [← HLL.out]; exact HO3,hb3⟩
      case measure => simp [intOf]; omega
    ·obtain rfl : j = i := by omega
     have hF : flatN (rs.take j) = flatN rs := by rw [List.take_of_length_le (by rw [HN.out]; exact Nat.le_refl _)]
     rw [hF] at HL HO
     obtain rfl : R = (flatN rs,0) := by rw [← HR.out]; exact putL_ok HALL.out HL.out
     clear HR hF;go_wp2_with fail
     go_ret2
     exact ⟨_,rfl,HO.out,hbel2⟩
def RawsAt (B : Nat) (w : World) (v : Value) (rs : List Fd) : Prop := ∃ a cap,v = .slice a rs.length cap ∧ ((a = none ∧ rs = [] ∧ cap = 0) ∨ ∃ g,a = some ⟨g,0,none⟩ ∧ B ≤ g ∧ g < w.heap.size) ∧ rs.length ≤ cap ∧ cap ≤ maxLen ∧ HoldsR w a rs
theorem RawsAt.nil (B : Nat) (w : World) : RawsAt B w (.slice none 0 0) [] := ⟨none,0,rfl,.inl ⟨rfl,rfl,rfl⟩,Nat.le_refl _,by decide,HoldsR.nil⟩
def FdsOk (rs : List Fd) : Prop := rs.length ≤ 1000000 ∧ ∀ r ∈ rs,Is64 r.n
def FlsP (W0 : World) (R : List Fd × Nat) (b : Nat) (w : World) (e : Ending) (w' : World) : Prop := ∃ v,e = .returned (.tuple #[v,.int .i64 (R.2 : Int)]) ∧ RawsAt w.heap.size w' v R.1 ∧ FdsOk R.1 ∧ KnE W0 w' b ∧ Kp (fun q => q = b) w w'
theorem putall_at {B : Nat} {w : World} {v : Value} {rs : List Fd} (h : RawsAt B w v rs) (hr : FdsOk rs) :
  Calls Tryz.prog 25 #[v] w fun e w' => ∃ v,e = .returned (.tuple #[v,.int .i64 ((putL rs).2 : Int)]) ∧ w'.ownsRow w.heap.size 5 1 v (putL rs).1.length (byteCells (putL rs).1) ∧ Below w.heap.size w w' := by
 obtain ⟨a,cap,rfl,h2,h3,h4,h5⟩ := h;exact wputall_any a rs rs.length cap w rfl (own_adrR h2) h3 h4 hr.1 h5 hr.2
theorem BytP.of {W0 : World} {R : List Nat × Nat} {b : Nat} {w w' : World} {s : ByteArray} {e : Int} {ns : List Nat} (h : R = (ns,e.toNat)) (he : 0 ≤ e) (hs : s = strN ns) (h1 : KnE W0 w' b) (h2 : Kp (fun q => q = b) w w') : BytP W0 R b w (.returned (.tuple #[.string s,.int .i64 e])) w' := by
 subst h hs;refine ⟨?_,h1,h2⟩;simp only;rw [Int.toNat_of_nonneg he]
theorem ebytes_step (W0 : World) (b m : Nat) (x : Tr) (K N : Int) (S : ByteArray) (a1 a2 : Option Addr) (n1 c1 n2 c2 : Nat) (w : World) (hx : TrW (m + 1) W0 (.agg #[.int .i64 K,.int .i64 N,.string S,.slice a1 n1 c1,.slice a2 n2 c2]) x)
  (IF : ∀ W,Below W0.heap.size W0 W → KnE W0 W b → Calls Tryz.prog 68 #[.agg #[.map (some b)],.agg #[.int .i64 K,.int .i64 N,.string S,.slice a1 n1 c1,.slice a2 n2 c2]] W (FlsP W0 (rwE (bytE m) x) b W))
  (h0 : Below W0.heap.size W0 w) (hk : KnE W0 w b) :
  Calls Tryz.prog 151 #[.agg #[.map (some b)],.agg #[.int .i64 K,.int .i64 N,.string S,.slice a1 n1 c1,.slice a2 n2 c2]] w (BytP W0 (bytE (m + 1) x) b w) := by
 obtain ⟨m',a1',c1',a2',c2',hmn,hv, -, -, -,u1,u2,x1,x2,x3,x4, -, -, -, -⟩ := hx.open;simp only [Value.agg.injEq,Array.mk.injEq,List.cons.injEq,Value.int.injEq,Value.string.injEq,Value.slice.injEq,and_true,true_and] at hv;obtain ⟨-, -, -,⟨rfl,hn1,rfl⟩,rfl,hn2,rfl⟩ := hv;rw [← hn1] at u1 x3;rw [← hn2] at x1 x4;obtain ⟨R,hR⟩ : ∃ R,bytE (m + 1) x = R := ⟨_,rfl⟩;rw [hR];have HR : Hid (bytE (m + 1) x = R) := hR;have HR2 : Hid (ofR (rwE (bytE m) x) = R) := hR;have hj := hx.trJ;obtain ⟨⟨p1,m1⟩,hp1⟩ : ∃ z,plOf (.slice a1 n1 c1) = z := ⟨_,rfl⟩;obtain ⟨⟨p2,m2⟩,hp2⟩ : ∃ z,plOf (.slice a2 n2 c2) = z := ⟨_,rfl⟩;have hI := fun W => eidentity_any K N S a1 a2 n1 c1 n2 c2 W u1 u2 x3 x1 x2 x4
 rw [hp1,hp2] at hj hI;have HJ : Hid (TrJ (m + 1) W0 ((p1,m1),(p2,m2)) x) := hj;have HI : Hid (∀ W,Calls Tryz.prog 167 #[.agg #[.int .i64 K,.int .i64 N,.string S,.slice a1 n1 c1,.slice a2 n2 c2]] W fun e w' => e = .returned (.agg #[.pointer p1,.int .i64 (m1 : Int),.pointer p2,.int .i64 (m2 : Int)]) ∧ Below W.heap.size W w') := hI;have HK : Hid (KnE W0 w b) := hk;have H0 : Hid (Below W0.heap.size W0 w) := h0;have HF : Hid (∀ W,Below W0.heap.size W0 W → KnE W0 W b → Calls Tryz.prog 68 #[.agg #[.map (some b)],.agg #[.int .i64 K,.int .i64 N,.string S,.slice a1 n1 c1,.slice a2 n2 c2]] W (FlsP W0 (rwE (bytE m) x) b W)) := IF;have hlt := hk.lt;obtain ⟨Z,hZ⟩ : ∃ Z,Z = (w.alloc (Obj.cells #[.map (some b)] 119)).alloc (Obj.cells #[.int .i64 K,.int .i64 N,.string S,.slice a1 n1 c1,.slice a2 n2 c2] 33) := ⟨_,rfl⟩;have al1 : Below w.heap.size w (w.alloc (Obj.cells #[.map (some b)] 119)) := bra _
 have BE : Blk Z w.heap.size #[.map (some b)] 119 := by
  rw [hZ];exact (Blk.new w _ _).below (bra _)
 have BT : Blk Z (w.heap.size + 1) #[.int .i64 K,.int .i64 N,.string S,.slice a1 n1 c1,.slice a2 n2 c2] 33 := by
  rw [hZ];have := Blk.new (w.alloc (Obj.cells #[.map (some b)] 119)) #[.int .i64 K,.int .i64 N,.string S,.slice a1 n1 c1,.slice a2 n2 c2] 33;rw [show (w.alloc (Obj.cells #[.map (some b)] 119)).heap.size = w.heap.size + 1 from by simp] at this;exact this
 have hZb : Below w.heap.size w Z := by
  rw [hZ];exact al1.alloc (by simp) _
 clear hR al1 hx h0 hk IF hp1 hp2 hj hI u1 u2 x1 x2 x3 x4 hn1 hn2 hmn
 go_enter Tryz.func151,Tryz.ntmps151
 go_wp2_with fail;rw [← hZ];clear hZ;refine (HI.out _).mono ?_;rintro e w1 ⟨rfl,hb1⟩;have hbw1 : Below w.heap.size w w1 := hZb.trans (hb1.mono hZb.size);have BE1 := BE.below hb1;have BT1 := BT.below hb1;have HK1 : Hid (KnE W0 w1 b) := HK.out.below hbw1;have H01 : Hid (Below W0.heap.size W0 w1) := H0.out.trans (hbw1.mono H0.out.size);clear BE BT hb1 hZb HI Z H0 HK;obtain ⟨s,hs⟩ : ∃ s,w.heap.size = s := ⟨_,rfl⟩;have HSZ : Hid (w.heap.size = s) := hs;rw [hs] at BE1 BT1 hlt;simp only [hs];clear hs;have al2 : Below w1.heap.size w1 (w1.alloc (Obj.cells #[.pointer p1,.int .i64 (m1 : Int),.pointer p2,.int .i64 (m2 : Int)] 222)) := bra _;have BE2 := BE1.below al2;have BT2 := BT1.below al2;have BI2 : Blk (w1.alloc (Obj.cells #[.pointer p1,.int .i64 (m1 : Int),.pointer p2,.int .i64 (m2 : Int)] 222)) w1.heap.size #[.pointer p1,.int .i64 (m1 : Int),.pointer p2,.int .i64 (m2 : Int)] 222 := Blk.new w1 _ _;have HK2 : Hid (KnE W0 (w1.alloc (Obj.cells #[.pointer p1,.int .i64 (m1 : Int),.pointer p2,.int .i64 (m2 : Int)] 222)) b) := HK1.out.below al2;have H02 : Hid (Below W0.heap.size W0 (w1.alloc (Obj.cells #[.pointer p1,.int .i64 (m1 : Int),.pointer p2,.int .i64 (m2 : Int)] 222))) := H01.out.trans (al2.mono H01.out.size);have hbw2 : Below w.heap.size w (w1.alloc (Obj.cells #[.pointer p1,.int .i64 (m1 : Int),.pointer p2,.int .i64 (m2 : Int)] 222)) := hbw1.trans (al2.mono hbw1.size);have e0 := (BE2.cell 0).trans rfl;obtain ⟨i0,i1,i2,i3⟩ := cl4 BI2
 rcases HK2.out.look H02.out HJ.out with ⟨ns,hlk,hbv⟩ | hlk
 ·have HLK : Hid ((Instr.lookup 117 (.map (some b)) (.agg #[.pointer p1,.int .i64 (m1 : Int),.pointer p2,.int .i64 (m2 : Int)]) true).run Tryz.prog (w1.alloc (Obj.cells #[.pointer p1,.int .i64 (m1 : Int),.pointer p2,.int .i64 (m2 : Int)] 222)) = .ok (.tuple #[.agg #[.string (strN ns)],.bool true]) (w1.alloc (Obj.cells #[.pointer p1,.int .i64 (m1 : Int),.pointer p2,.int .i64 (m2 : Int)] 222))) := hlk;have HV : Hid (R = (ns,0)) := (by rw [← HR.out,hbv] : R = _);have HT : Hid (∃ T,T = strN ns) := ⟨_,rfl⟩;have HKE : Hid (∀ o,KnE W0 ((w1.alloc (Obj.cells #[.pointer p1,.int .i64 (m1 : Int),.pointer p2,.int .i64 (m2 : Int)] 222)).alloc o) b) := fun o => HK2.out.below (bra _)
  have HKW : Hid (∀ o,Kp (fun q => q = b) w ((w1.alloc (Obj.cells #[.pointer p1,.int .i64 (m1 : Int),.pointer p2,.int .i64 (m2 : Int)] 222)).alloc o)) := fun o => Kp.ofBelow (hbw2.alloc hbw2.size _)
  clear hlk hbv HF HR HR2 HJ HK1 H01 HK2 H02 hbw1 hbw2 al2 BE1 BT1 BE2 BT2 BI2;obtain ⟨T,hT⟩ : ∃ T,strN ns = T := ⟨_,rfl⟩;rw [hT] at HLK;have HTT : Hid (T = strN ns) := hT.symm;clear hT HT
  go_wp2_with (first | (at_lookup; refine wpList_lookup_pl rfl _ _ rfl rfl rfl HLK.out ?_) | fail)
  go_ret2
  exact BytP.of HV.out (by decide) HTT.out (HKE.out _) (HKW.out _)
 ·have HLK : Hid ((Instr.lookup 117 (.map (some b)) (.agg #[.pointer p1,.int .i64 (m1 : Int),.pointer p2,.int .i64 (m2 : Int)]) true).run Tryz.prog (w1.alloc (Obj.cells #[.pointer p1,.int .i64 (m1 : Int),.pointer p2,.int .i64 (m2 : Int)] 222)) = .ok (.tuple #[.agg #[.string ⟨#[]⟩],.bool false]) (w1.alloc (Obj.cells #[.pointer p1,.int .i64 (m1 : Int),.pointer p2,.int .i64 (m2 : Int)] 222))) := hlk;have al3 : Below (w1.alloc (Obj.cells #[.pointer p1,.int .i64 (m1 : Int),.pointer p2,.int .i64 (m2 : Int)] 222)).heap.size (w1.alloc (Obj.cells #[.pointer p1,.int .i64 (m1 : Int),.pointer p2,.int .i64 (m2 : Int)] 222)) ((w1.alloc (Obj.cells #[.pointer p1,.int .i64 (m1 : Int),.pointer p2,.int .i64 (m2 : Int)] 222)).alloc (Obj.cells #[.string ⟨#[]⟩] 225)) := bra _;have BE3 := BE2.below al3;have BT3 := BT2.below al3;have BI3 := BI2.below al3;have HK3 : Hid (KnE W0 ((w1.alloc (Obj.cells #[.pointer p1,.int .i64 (m1 : Int),.pointer p2,.int .i64 (m2 : Int)] 222)).alloc (Obj.cells #[.string ⟨#[]⟩] 225)) b) := HK2.out.below al3;have H03 : Hid (Below W0.heap.size W0 ((w1.alloc (Obj.cells #[.pointer p1,.int .i64 (m1 : Int),.pointer p2,.int .i64 (m2 : Int)] 222)).alloc (Obj.cells #[.string ⟨#[]⟩] 225))) := H02.out.trans (al3.mono H02.out.size);have HKW3 : Hid (Kp (fun q => q = b) w ((w1.alloc (Obj.cells #[.pointer p1,.int .i64 (m1 : Int),.pointer p2,.int .i64 (m2 : Int)] 222)).alloc (Obj.cells #[.string ⟨#[]⟩] 225))) := Kp.ofBelow (hbw2.trans (al3.mono hbw2.size));have HFC : Hid (Calls Tryz.prog 68 #[.agg #[.map (some b)],.agg #[.int .i64 K,.int .i64 N,.string S,.slice a1 n1 c1,.slice a2 n2 c2]] ((w1.alloc (Obj.cells #[.pointer p1,.int .i64 (m1 : Int),.pointer p2,.int .i64 (m2 : Int)] 222)).alloc (Obj.cells #[.string ⟨#[]⟩] 225)) (FlsP W0 (rwE (bytE m) x) b ((w1.alloc (Obj.cells #[.pointer p1,.int .i64 (m1 : Int),.pointer p2,.int .i64 (m2 : Int)] 222)).alloc (Obj.cells #[.string ⟨#[]⟩] 225)))) := HF.out _ H03.out HK3.out;have k0 := (BE3.cell 0).trans rfl;obtain ⟨t0,t1,t2,t3,t4⟩ := cl5 BT3;have hl1 : s + 1 < w1.heap.size := BT1.lt;clear hlk HF HK1 H01 HK2 H02 hbw1 hbw2 al2 al3 BE1 BT1 BE2 BT2 BI2
  go_wp2_with (first | (at_lookup; refine wpList_lookup_pl rfl _ _ rfl rfl rfl HLK.out ?_) | fail)
  refine Calls.mono HFC.out ?_;rintro ee w4 ⟨v4,rfl,hra,hok,hk4,hkp4⟩
  have hnb : w1.heap.size ≠ b := by omega
  have BE4 := BE3.kp hkp4 (by omega);have BI4 := BI3.kp hkp4 hnb;have HK4 : Hid (KnE W0 w4 b) := hk4;have H04 : Hid (Below W0.heap.size W0 w4) := HK3.out.frame H03.out hkp4;have HKW4 : Hid (Kp (fun q => q = b) w w4) := HKW3.out.trans hkp4;have HRA : Hid (RawsAt ((w1.alloc (Obj.cells #[.pointer p1,.int .i64 (m1 : Int),.pointer p2,.int .i64 (m2 : Int)] 222)).alloc (Obj.cells #[.string ⟨#[]⟩] 225)).heap.size w4 v4 (rwE (bytE m) x).1) := hra;have HOK : Hid (FdsOk (rwE (bytE m) x).1) := hok;clear HLK BE3 BT3 BI3 HK3 H03 HKW3 HFC k0 t0 t1 t2 t3 t4 hra hok hk4 hkp4 e0 i0 i1 i2 i3;generalize ((w1.alloc (Obj.cells #[.pointer p1,.int .i64 (m1 : Int),.pointer p2,.int .i64 (m2 : Int)] 222)).alloc (Obj.cells #[.string ⟨#[]⟩] 225)).heap.size = B4 at *;generalize rwE (bytE m) x = q at *;obtain ⟨rs,er⟩ := q;simp only at HRA HOK ⊢
  by_cases he : er = 0
  ·subst he;have HPC : Hid (Calls Tryz.prog 25 #[v4] w4 fun e w' => ∃ v,e = .returned (.tuple #[v,.int .i64 ((putL rs).2 : Int)]) ∧ w'.ownsRow w4.heap.size 5 1 v (putL rs).1.length (byteCells (putL rs).1) ∧ Below w4.heap.size w4 w') := putall_at HRA.out HOK.out;have HR3 : Hid (putL rs = R) := hid (by have := HR2.out; rw [ofR,if_neg (by simp)] at this; exact this);rw [HR3.out] at HPC;clear HR2 HRA HOK;go_wp2_with fail;refine Calls.mono HPC.out ?_;rintro ee w5 ⟨v5,rfl,ho5,hb5⟩;have BE5 := BE4.below hb5;have BI5 := BI4.below hb5;have HK5 : Hid (KnE W0 w5 b) := HK4.out.below hb5;have H05 : Hid (Below W0.heap.size W0 w5) := H04.out.trans (hb5.mono H04.out.size);have HKW5 : Hid (Kp (fun q => q = b) w w5) := HKW4.out.trans (Kp.ofBelow hb5);have HCV : Hid ((convert 27 9 v5).run Tryz.prog w5 = .ok (.string (strN R.1)) w5) := conv_own ho5;have HNR : Hid (R.2 ≠ 0 → R.1 = []) := hid (by rw [← HR3.out]; exact putL_none);clear BE4 BI4 HK4 H04 HKW4 HPC HR3 ho5 hb5;obtain ⟨ns,e2⟩ := R;simp only at HCV HNR ⊢
   by_cases he2 : e2 = 0
   ·subst he2;obtain ⟨T,hT⟩ : ∃ T,strN ns = T := ⟨_,rfl⟩;rw [hT] at HCV;have HTT : Hid (T = strN ns) := hT.symm;have hcv := HCV.out;have al6 : Below w5.heap.size w5 (w5.alloc (Obj.cells #[.string T] 225)) := bra _;have BE6 := BE5.below al6;have BI6 := BI5.below al6;have BD6 : Blk (w5.alloc (Obj.cells #[.string T] 225)) w5.heap.size #[.string T] 225 := Blk.new w5 _ _;obtain ⟨w7,g1,g2,g3⟩ := (HK5.out.below al6).update (H05.out.trans (al6.mono H05.out.size)) HJ.out (ns := ns) HR.out;rw [hT] at g1;have HUP : Hid ((Instr.mapUpdate 117 (.map (some b)) (.agg #[.pointer p1,.int .i64 (m1 : Int),.pointer p2,.int .i64 (m2 : Int)]) (.agg #[.string T])).run Tryz.prog (w5.alloc (Obj.cells #[.string T] 225)) = .ok () w7) := g1;have HK7 : Hid (KnE W0 w7 b) := g2;have HKW7 : Hid (Kp (fun q => q = b) w w7) := (HKW5.out.trans (Kp.ofBelow al6)).trans g3;have BD7 := BD6.kp g3 (by have := HK5.out.lt; omega);have k0 := (BE6.cell 0).trans rfl;obtain ⟨j0,j1,j2,j3⟩ := cl4 BI6;have d0 := (BD7.cell 0).trans rfl;clear hT HCV al6 BE5 BI5 BE6 BI6 BD6 HK5 H05 HKW5 g1 g2 g3 BD7 HR
    go_wp2_with (first | (at_mapUpdate; refine wpList_update_pl rfl _ _ _ rfl rfl rfl rfl HUP.out ?_) | fail)
    go_ret2
    exact BytP.of rfl (by decide) HTT.out HK7.out HKW7.out
   ·have hd : ((e2 : Int) != 0) = true := by simp; omega
    have HNS : Hid (ns = []) := HNR.out he2;clear he2 HCV HNR HR;go_wp2_with fail
    go_ret2
    exact BytP.of rfl (by omega) (by rw [HNS.out]; rfl) HK5.out HKW5.out
  ·have hd : ((er : Int) != 0) = true := by simp; omega
   have HR3 : Hid (R = ([],((er : Int)).toNat)) := (by have := HR2.out; rw [ofR,if_pos he] at this; exact this.symm : R = _);clear he HR2 HRA HOK HR;go_wp2_with fail
   go_ret2
   exact BytP.of HR3.out (by omega) rfl HK4.out HKW4.out
theorem subs_len {es : List (Int × List Tr)} (h : ∀ e ∈ es,e.2.length ≤ 70) : (subs es).length ≤ 70 * es.length := by
 induction es with
 | nil => simp [subs]
 | cons e l ih =>
  have h1 := ih fun e he => h e (List.mem_cons_of_mem _ he)
  have h2 := h e (List.mem_cons_self ..);unfold subs at *;rw [List.flatMap_cons,List.length_append,List.length_cons]
  omega
theorem uptE_len {B : Tr → List Nat × Nat} {es : List (Int × List Tr)} (h : ∀ e ∈ es,e.2.length ≤ 70) (h2 : es.length ≤ 500) (i k : Nat) : (uptE B es i k).length ≤ 35070 := by
 unfold uptE;rw [List.length_append,fsE_len];have h3 : (subs (es.take i)).length ≤ 70 * (es.take i).length := subs_len fun e he => h e (List.mem_of_mem_take he)
 have h4 : (es.take i).length ≤ 500 := by rw [List.length_take]; omega
 cases hi : es[i]? with
 | none => simp; omega
 | some e =>
  have h5 := h e (List.mem_of_getElem? hi);simp only [Option.map_some,Option.getD_some,List.length_map,List.length_take]
  omega
theorem TrW.all64 {n : Nat} {w : World} {v : Value} {t : Tr} (h : TrW n w v t) : Is64 t.n ∧ (∀ f ∈ t.rest,Is64 f.n) ∧ ∀ e ∈ t.es,∀ x ∈ e.2,Is64 x.n := by
 obtain ⟨r,_,h⟩ := h
 cases n with
 | zero => exact h.elim
 | succ n =>
  obtain ⟨ve,vr,h1,h2,h3,h4,h5,h6,h7,h8,h9⟩ := h;refine ⟨h3,fun f hf => (h5 f hf).2.2.1,fun e he x hx => ?_⟩;obtain ⟨r',vt,_,_,g3⟩ := h7.all e he;obtain ⟨r'',hp⟩ := RowP.all g3 x hx
  cases n with
  | zero => exact hp.elim
  | succ n =>
   obtain ⟨_,_,_,_,q3,_⟩ := hp;exact q3
theorem fds_ok {n : Nat} {w : World} {v : Value} {t : Tr} {B : Tr → List Nat × Nat} (h : TrW n w v t) (h1 : ∀ e ∈ t.es,e.2.length ≤ 70) (h2 : t.es.length ≤ 500) (h3 : t.rest.length ≤ 5000) : FdsOk (sortF ((fsE B t.es).map (·.1) ++ t.rest)) := by
 obtain ⟨-,q2,q3, -⟩ := sortF_all _ ((fsE B t.es).map (·.1) ++ t.rest) (Nat.le_refl _);have hl := subs_len h1;refine ⟨?_,fun r hr => ?_⟩
 ·rw [q2,List.length_append,List.length_map,fsE_len]
  omega
 ·obtain ⟨-,g2,g3⟩ := h.all64
  rcases List.mem_append.1 (q3 r hr) with hr | hr
  ·obtain ⟨p,hp,rfl⟩ := List.mem_map.1 hr;simp only [fsE,List.mem_flatMap,enE,List.mem_map] at hp;obtain ⟨e,he,x,hx,rfl⟩ := hp;exact flE_64 (g3 e he x hx)
  ·exact g2 r hr
theorem own_typeG {w : World} {B : Nat} {e : TypeId} {sz : Nat} {v : Value} {n : Nat} {xs : List Value} {k : Nat} {cs : Array Value} {t : TypeId} (h : w.ownsRow B e sz v n xs) (hb : Blk w k cs t) (ht : t ≠ e) : ¬ v.ownBlock = some k := by
 rcases h.2 with ⟨rfl,_⟩ | ⟨g,cap,cur,rfl,_,h3,_⟩
 ·intro h; cases h
 ·intro h
  obtain rfl : g = k := by simpa [Value.ownBlock] using h
  rw [hb] at h3;simp only [Option.some.injEq,Obj.cells.injEq] at h3;exact ht h3.2.1
theorem rawCells_snoc' (acc : List Fd) (r : Fd) : (acc ++ [r]).length = acc.length + 1 ∧ rawCells (acc ++ [r]) = rawCells acc ++ r.cells := by
 constructor
 ·simp
 ·rw [rawCells_app,rawCells_cons,rawCells_nil,List.append_nil]
theorem FlsP.no {W0 : World} {R : List Fd × Nat} {b : Nat} {w w' : World} {e : Int} (h : R = ([],e.toNat)) (he : 0 ≤ e) (h1 : KnE W0 w' b) (h2 : Kp (fun q => q = b) w w') : FlsP W0 R b w (.returned (.tuple #[.slice none 0 0,.int .i64 e])) w' := by
 subst h;refine ⟨.slice none 0 0,?_,RawsAt.nil _ _,⟨by simp,by simp⟩,h1,h2⟩;simp only;rw [Int.toNat_of_nonneg he]
theorem sorted_at {B : Nat} {w : World} {v : Value} {n : Nat} {rs : List Fd} (h : w.ownsRow B 61 4 v n (rawCells rs)) (hl : rs.length ≤ 1000000) :
  Calls Tryz.prog 28 #[v] w fun e w' => ∃ v',e = .returned v' ∧ RawsAt w.heap.size w' v' (sortF rs) ∧ Below w.heap.size w w' := by
 obtain ⟨a,cap,rfl,_,h2,h3,h4,h5⟩ := own_openR h;refine (sorted_any _ rs a rs.length cap w (Nat.le_refl _) rfl hl (own_adrR h2) h3 h4 h5).mono ?_;rintro e w' ⟨g,rfl,g1,g2,g3,g4⟩;have hlen := (sortF_all _ rs (Nat.le_refl _)).2.1;exact ⟨_,rfl,⟨some ⟨g,0,none⟩,rs.length,by rw [hlen],.inr ⟨g,rfl,g1,g2⟩,by omega,by omega,g3⟩,g4⟩
theorem efields_step (W0 : World) (b m : Nat) (t : Tr) (v : Value) (w : World) (ht : TrW (m + 1) W0 v t) (hs : SmN (m + 1) t)
  (IB : ∀ x K N S a1 n1 c1 a2 n2 c2 W,TrW m W0 (.agg #[.int .i64 K,.int .i64 N,.string S,.slice a1 n1 c1,.slice a2 n2 c2]) x → SmN m x → Below W0.heap.size W0 W → KnE W0 W b → Calls Tryz.prog 151 #[.agg #[.map (some b)],.agg #[.int .i64 K,.int .i64 N,.string S,.slice a1 n1 c1,.slice a2 n2 c2]] W (BytP W0 (bytE m x) b W))
  (h0 : Below W0.heap.size W0 w) (hk : KnE W0 w b) :
  Calls Tryz.prog 68 #[.agg #[.map (some b)],v] w (FlsP W0 (rwE (bytE m) t) b w) := by
 have HFO : Hid (FdsOk (sortF ((fsE (bytE m) t.es).map (·.1) ++ t.rest))) := fds_ok ht (fun e he => (hs.2.2.2.2 e he).1) hs.2.2.1 hs.2.1;obtain ⟨m',a1,c1,a2,c2,hmn,rfl, -, -, -,u1,u2,x1,x2,x3,x4,hr,he,hp1,hp2⟩ := ht.open
 obtain rfl : m = m' := by omega
 have HUL : Hid (∀ i k,(uptE (bytE m) t.es i k).length ≤ 35070) := fun i k => uptE_len (fun e he => (hs.2.2.2.2 e he).1) hs.2.2.1 i k
 have HSM : Hid (∀ e ∈ t.es,e.2.length ≤ 70 ∧ ∀ x ∈ e.2,SmN m x) := hs.2.2.2.2;have HRL : Hid (t.rest.length ≤ 5000) := hs.2.1;obtain ⟨R,hR⟩ : ∃ R,rwE (bytE m) t = R := ⟨_,rfl⟩;rw [hR];have HR : Hid (rwE (bytE m) t = R) := hR;obtain ⟨K,hK⟩ : ∃ z,t.kind = z := ⟨_,rfl⟩;obtain ⟨N,hN⟩ : ∃ z,t.n = z := ⟨_,rfl⟩;obtain ⟨S,hS⟩ : ∃ z,t.s = z := ⟨_,rfl⟩;obtain ⟨n1,hn1⟩ : ∃ z,t.es.length = z := ⟨_,rfl⟩;obtain ⟨n2,hn2⟩ : ∃ z,t.rest.length = z := ⟨_,rfl⟩;rw [hK,hN,hS,hn1,hn2];rw [hn1] at he u1;rw [hn2] at hr x1;have HL : Hid (t.es.length = n1 ∧ t.rest.length = n2) := ⟨hn1,hn2⟩;have HE : Hid (EnsR m W0 (.slice a1 n1 c1) t.es) := he;have HRR : Hid (RowG W0 (.slice a2 n2 c2) 4 (fdRows t.rest)) := hr;have HK : Hid (KnE W0 w b) := hk;have H0 : Hid (Below W0.heap.size W0 w) := h0;have HIB : Hid (∀ x K N S a1 n1 c1 a2 n2 c2 W,TrW m W0 (.agg #[.int .i64 K,.int .i64 N,.string S,.slice a1 n1 c1,.slice a2 n2 c2]) x → SmN m x → Below W0.heap.size W0 W → KnE W0 W b → Calls Tryz.prog 151 #[.agg #[.map (some b)],.agg #[.int .i64 K,.int .i64 N,.string S,.slice a1 n1 c1,.slice a2 n2 c2]] W (BytP W0 (bytE m x) b W)) := IB;have hlt := hk.lt;unfold maxLen at u2 x2;obtain ⟨Z,hZ⟩ : ∃ Z,Z = ((w.alloc (Obj.cells #[.map (some b)] 119)).alloc (Obj.cells #[.int .i64 K,.int .i64 N,.string S,.slice a1 n1 c1,.slice a2 n2 c2] 33)) := ⟨_,rfl⟩;have al1 : Below w.heap.size w (w.alloc (Obj.cells #[.map (some b)] 119)) := bra _
 have BE : Blk Z w.heap.size #[.map (some b)] 119 := by
  rw [hZ];exact (Blk.new w _ _).below (bra _)
 have BT : Blk Z (w.heap.size + 1) #[.int .i64 K,.int .i64 N,.string S,.slice a1 n1 c1,.slice a2 n2 c2] 33 := by
  rw [hZ];have := Blk.new (w.alloc (Obj.cells #[.map (some b)] 119)) #[.int .i64 K,.int .i64 N,.string S,.slice a1 n1 c1,.slice a2 n2 c2] 33;rw [show (w.alloc (Obj.cells #[.map (some b)] 119)).heap.size = w.heap.size + 1 from by simp] at this;exact this
 have hZb : Below w.heap.size w Z := by
  rw [hZ];exact al1.alloc (by simp) _
 clear hR al1 ht h0 hk IB hn1 hn2 hK hN hS hmn hs he hr hp1 hp2 x3 x4
 go_enter Tryz.func68,Tryz.ntmps68
 go_wp2_with fail;rw [← hZ];have HKZ : Hid (KnE W0 Z b) := HK.out.below hZb;have H0Z : Hid (Below W0.heap.size W0 Z) := H0.out.trans (hZb.mono H0.out.size);have HWZ : Hid (Kp (fun q => q = b) w Z) := Kp.ofBelow hZb;have HSZ2 : Hid (w.heap.size + 1 < Z.heap.size) := BT.lt;clear hZ hZb HK H0;obtain ⟨s,hs⟩ : ∃ s,w.heap.size = s := ⟨_,rfl⟩;have HSZ : Hid (w.heap.size = s) := hs;rw [hs] at BE BT hlt;simp only [hs];clear hs
 go_loopw [6,16] (fun ov iv wr => ∃ (out : Value) (i : Nat),out = ov ∧ iv = .int .i64 (i : Int) ∧ i ≤ n1 ∧ Hid (errE (fsE (bytE m) (t.es.take i)) = 0) ∧ Hid (wr.ownsRow Z.heap.size 61 4 out ((fsE (bytE m) (t.es.take i)).map (·.1)).length (rawCells ((fsE (bytE m) (t.es.take i)).map (·.1)))) ∧ Kp (fun q => q = b) Z wr ∧ Hid (KnE W0 wr b)) (fun _ iv _ => n1 - (intOf iv).toNat)
 case atStart => exact ⟨_,0,rfl,rfl,by omega,(by simp [fsE,errE] : errE (fsE (bytE m) (t.es.take 0)) = 0),World.ownsRow_nil _ _ _ _,Kp.refl _ _,HKZ⟩
 case round =>
  obtain ⟨out,i,rfl,rfl,hi,HI,HO,hkp,HKR⟩ := hrel;have HBR : Hid (Below W0.heap.size W0 wr) := HKZ.out.frame H0Z.out hkp;have BEr := BE.kp hkp (by omega);have BTr := BT.kp hkp (by omega)
  by_cases hlt2 : i < n1
  ·obtain ⟨e,hx⟩ : ∃ r,t.es[i]? = some r := ⟨_,List.getElem?_eq_getElem (by rw [HL.out.1]; exact hlt2)⟩;obtain ⟨gx,ox,xa,xc,rfl,y0,y1, -,hxt,hxc,hxm⟩ := ensR_get HE.out hx
   replace y0 := (Cel.ofBelow HBR.out).cell y0
   replace y1 := (Cel.ofBelow HBR.out).cell y1
   have HIX : Hid (t.es[i]? = some e) := hx;obtain ⟨e1,he1⟩ : ∃ z,e.1 = z := ⟨_,rfl⟩;obtain ⟨Xl,hXl⟩ : ∃ z,e.2.length = z := ⟨_,rfl⟩;rw [he1] at y0;rw [hXl] at y1 hxt hxc;have HEE : Hid (e.1 = e1 ∧ e.2.length = Xl) := ⟨he1,hXl⟩;have HXT : Hid (TrsR m W0 (.slice xa Xl xc) e.2) := hxt;unfold maxLen at hxm;have ale : Below wr.heap.size wr (wr.alloc (Obj.cells #[.int .i64 e1,.slice xa Xl xc] 80)) := bra _;have BNe : Blk (wr.alloc (Obj.cells #[.int .i64 e1,.slice xa Xl xc] 80)) wr.heap.size #[.int .i64 e1,.slice xa Xl xc] 80 := Blk.new wr _ _;have BEe := BEr.below ale;have HKe : Hid (KnE W0 (wr.alloc (Obj.cells #[.int .i64 e1,.slice xa Xl xc] 80)) b) := HKR.out.below ale;have HOe : Hid ((wr.alloc (Obj.cells #[.int .i64 e1,.slice xa Xl xc] 80)).ownsRow Z.heap.size 61 4 out ((uptE (bytE m) t.es i 0).map (·.1)).length (rawCells ((uptE (bytE m) t.es i 0).map (·.1)))) := hid (by rw [uptE_zero]; exact own_belowH HO ale);have HIe : Hid (errE (uptE (bytE m) t.es i 0) = 0) := hid (by rw [uptE_zero]; exact HI.out);have HKZe : Hid (Kp (fun q => q = b) Z (wr.alloc (Obj.cells #[.int .i64 e1,.slice xa Xl xc] 80))) := hkp.trans (Kp.ofBelow ale);have HSe : Hid (s < wr.heap.size) := BEr.lt;clear hx he1 hXl hxt HI HO hkp HKR HBR BEr BTr ale;go_wp2_with fail;generalize (wr.alloc (Obj.cells #[.int .i64 e1,.slice xa Xl xc] 80)) = we at *;obtain ⟨se,hse⟩ : ∃ z,wr.heap.size = z := ⟨_,rfl⟩;rw [hse] at BNe HSe;simp only [hse];clear hse y0 y1
   go_loopw [6,23] (fun ov kv wr => ∃ (out : Value) (k : Nat),out = ov ∧ kv = .int .i64 (k : Int) ∧ k ≤ Xl ∧ Hid (errE (uptE (bytE m) t.es i k) = 0) ∧ Hid (wr.ownsRow Z.heap.size 61 4 out ((uptE (bytE m) t.es i k).map (·.1)).length (rawCells ((uptE (bytE m) t.es i k).map (·.1)))) ∧ Kp (fun q => q = b) Z wr ∧ Hid (KnE W0 wr b) ∧ Hid (Blk wr se #[.int .i64 e1,.slice xa Xl xc] 80)) (fun _ kv _ => Xl - (intOf kv).toNat)
   case atStart => exact ⟨_,0,rfl,rfl,by omega,HIe,HOe,HKZe.out,HKe,BNe⟩
   case round =>
    obtain ⟨out,k,rfl,rfl,hk,HI,HO,hkp,HKR,HBN⟩ := hrel;have HBR : Hid (Below W0.heap.size W0 wr) := HKZ.out.frame H0Z.out hkp;have BEr := BE.kp hkp (by omega);have BNr : Blk wr se #[.int .i64 e1,.slice xa Xl xc] 80 := HBN.out
    by_cases hlt3 : k < Xl
    ·obtain ⟨x,hx⟩ : ∃ r,e.2[k]? = some r := ⟨_,List.getElem?_eq_getElem (by rw [HEE.out.2]; exact hlt3)⟩;obtain ⟨gy,oy,y1,z1,v1,y2,z2,v2,rfl,q0,q1,q2,q3,q4,hxw⟩ := trsR_get HXT.out hx
     replace q0 := (Cel.ofBelow HBR.out).cell q0
     replace q1 := (Cel.ofBelow HBR.out).cell q1
     replace q2 := (Cel.ofBelow HBR.out).cell q2
     replace q3 := (Cel.ofBelow HBR.out).cell q3
     replace q4 := (Cel.ofBelow HBR.out).cell q4
     obtain ⟨YK,hYK⟩ : ∃ z,x.kind = z := ⟨_,rfl⟩;obtain ⟨YN,hYN⟩ : ∃ z,x.n = z := ⟨_,rfl⟩;obtain ⟨YS,hYS⟩ : ∃ z,x.s = z := ⟨_,rfl⟩;rw [hYK] at q0 hxw;rw [hYN] at q1 hxw;rw [hYS] at q2 hxw;have al : Below wr.heap.size wr (wr.alloc (Obj.cells #[.int .i64 YK,.int .i64 YN,.string YS,.slice y1 z1 v1,.slice y2 z2 v2] 33)) := bra _;have hsx : SmN m x := (HSM.out e (List.mem_of_getElem? HIX.out)).2 x (List.mem_of_getElem? hx);have HTC : Hid (Calls Tryz.prog 119 #[.agg #[.map (some b)],.int .i64 e1,.agg #[.int .i64 YK,.int .i64 YN,.string YS,.slice y1 z1 v1,.slice y2 z2 v2]] (wr.alloc (Obj.cells #[.int .i64 YK,.int .i64 YN,.string YS,.slice y1 z1 v1,.slice y2 z2 v2] 33)) (FldP W0 (flE (bytE m) e1 x) b (wr.alloc (Obj.cells #[.int .i64 YK,.int .i64 YN,.string YS,.slice y1 z1 v1,.slice y2 z2 v2] 33)))) := efield_step W0 b m x e1 YK YN YS y1 y2 z1 v1 z2 v2 _ hxw (fun W g1 g2 => HIB.out x YK YN YS y1 z1 v1 y2 z2 v2 W hxw hsx g1 g2) (HBR.out.trans (al.mono HBR.out.size)) (HKR.out.below al);have HUS : Hid (uptE (bytE m) t.es i (k + 1) = uptE (bytE m) t.es i k ++ [flE (bytE m) e1 x]) := (by have := uptE_step (B := bytE m) HIX.out hx; rw [HEE.out.1] at this; exact this : _ = _)
     have HUH : Hid ((flE (bytE m) e1 x).2 ≠ 0 → errE (fsE (bytE m) t.es) = (flE (bytE m) e1 x).2) := fun h => by have := errE_hit (B := bytE m) HIX.out hx HI.out; rw [HEE.out.1] at this; exact this h
     have BEx := BEr.below al;have BNx := BNr.below al;have g0 := (BEx.cell 0).trans rfl;have j0 := (BNx.cell 0).trans rfl;have hxs : se < wr.heap.size := BNr.lt;have HOx : Hid ((wr.alloc (Obj.cells #[.int .i64 YK,.int .i64 YN,.string YS,.slice y1 z1 v1,.slice y2 z2 v2] 33)).ownsRow Z.heap.size 61 4 out ((uptE (bytE m) t.es i k).map (·.1)).length (rawCells ((uptE (bytE m) t.es i k).map (·.1)))) := own_belowH HO al;have HKWx : Hid (Kp (fun q => q = b) Z (wr.alloc (Obj.cells #[.int .i64 YK,.int .i64 YN,.string YS,.slice y1 z1 v1,.slice y2 z2 v2] 33))) := hkp.trans (Kp.ofBelow al);have hws : Z.heap.size ≤ wr.heap.size := hkp.size;clear hx hYK hYN hYS hxw hsx HO HKR HBR BEr BNr HBN hkp;go_wp2_with fail;refine Calls.mono HTC.out ?_;rintro ee w4 ⟨rfl,hk4,hkp4⟩;have HK4 : Hid (KnE W0 w4 b) := hk4;have HKW4 : Hid (Kp (fun q => q = b) Z w4) := HKWx.out.trans hkp4;have HO4 : Hid (w4.ownsRow Z.heap.size 61 4 out ((uptE (bytE m) t.es i k).map (·.1)).length (rawCells ((uptE (bytE m) t.es i k).map (·.1)))) := own_kp HOx.out hkp4 (fun z hz => by have := HSZ2.out; have := HSZ.out; omega);have hws4 : Z.heap.size ≤ w4.heap.size := HKW4.out.size;have BN4 : Hid (Blk w4 se #[.int .i64 e1,.slice (some ⟨gy,oy,none⟩) Xl xc] 80) := BNx.kp hkp4 (by have := HSe.out; omega);clear HTC hk4 hkp4 g0 j0 BEx BNx HOx HKWx q0 q1 q2 q3 q4 al;obtain ⟨⟨f,er⟩,hF⟩ : ∃ z,flE (bytE m) e1 x = z := ⟨_,rfl⟩;rw [hF] at HUS HUH;rw [hF];clear hF;obtain ⟨ft,fk,fn,fb⟩ := f;simp only [Fd.val] at HUH ⊢
     by_cases her : er = 0
     ·subst her;have HI2 : Hid (errE (uptE (bytE m) t.es i (k + 1)) = 0) := hid (by rw [HUS.out,errE_app,if_pos HI.out,errE_one]);have hul := HUL.out i k
      have hln : ((uptE (bytE m) t.es i k).map (·.1)).length ≤ 35070 := by rw [List.length_map]; exact hul
      obtain ⟨i0,hif,hz0,hz1,hz2⟩ := info_parts infoRaw;obtain ⟨acc,hacc⟩ : ∃ z,(uptE (bytE m) t.es i k).map (·.1) = z := ⟨_,rfl⟩;rw [hacc] at HO4 hln;have HAC : Hid ((uptE (bytE m) t.es i (k + 1)).map (·.1) = acc ++ [⟨ft,fk,fn,fb⟩]) := (by rw [HUS.out,List.map_append,hacc]; rfl : _ = _);obtain ⟨al,hal⟩ : ∃ z,acc.length = z := ⟨_,rfl⟩;rw [hal] at HO4 hln;have HAL : Hid (acc.length = al) := hal;clear HUH HI HUS hul hacc hal
      go_wp2_with (first
       | (at_builtin; refine wpList_append_own _ rfl _ _ 31 rfl Z.heap.size 61 i0 _ 4 40 Tryz.underlying31 hif hz0 hz1 hz2 rfl (by decide) _ _ _ rfl ((HO4.out.alloc _).alloc _) ⟨w4.heap.size + 1,0,none⟩ 1 1 (Fd.cells ⟨ft,fk,fn,fb⟩) rfl rfl ?c1 ?c2 ?c3 ?c4 ?c5 ?_)
       | fail)
      case c1 =>
       intro j u hj
       match j,hj with
       | 0,hj | 1,hj | 2,hj | 3,hj => simp [Fd.cells] at hj; subst hj; simp [Addr.add]
      case c2 => intro u hu; simp [Fd.cells] at hu; rcases hu with rfl | rfl | rfl | rfl <;> rfl
      case c3 => unfold maxLen; omega
      case c4 => omega
      case c5 => simp; omega
      intro v5 w5 ho5 hg5 _;have HKW5 : Hid (Kp (fun q => q = b) Z w5) := ((HKW4.out.alloc _).alloc _).grown hg5 (fun k hk hlt' => absurd (HO4.out.lt k hk).1 (by omega));have HK5 : Hid (KnE W0 w5 b) := HK4.out.kp (S := fun q => Z.heap.size ≤ q) (((Kp.refl _ _).alloc _).alloc _ |>.grown hg5 (fun k hk _ => (HO4.out.lt k hk).1)) (by have := HSZ.out; have := HSZ2.out; omega);have HB5 : Hid (Blk w5 se #[.int .i64 e1,.slice (some ⟨gy,oy,none⟩) Xl xc] 80) := (hg5.block se (Nat.lt_of_lt_of_le BN4.out.lt (by simp; omega)) (fun h => own_typeG HO4.out BN4.out (by decide) h.symm)).trans ((BN4.out.below (bra _)).below (bra _))
      have HO5 : Hid (w5.ownsRow Z.heap.size 61 4 v5 ((uptE (bytE m) t.es i (k + 1)).map (·.1)).length (rawCells ((uptE (bytE m) t.es i (k + 1)).map (·.1)))) := hid (by
       rw [HAC.out,(rawCells_snoc' acc _).1,(rawCells_snoc' acc _).2,HAL.out]
       exact ho5)
      clear ho5 hg5 HO4 HK4 HKW4 HAC HAL;go_wp2_with fail
      go_roundw
      case rel => exact ⟨_,k + 1,rfl,by go_num,by omega,HI2,HO5,HKW5.out,HK5,HB5⟩
      case measure => simp [intOf]; omega
     ·have hd : ((er : Int) != 0) = true := by simp; omega
      have HR2 : Hid (R = ([],((er : Int)).toNat)) := (by
       have h1 := HUH.out her;rw [← HR.out,rwE_no (by rw [h1]; exact her),h1]
       rfl : R = _)
      have HKf : Hid (∀ o,KnE W0 (w4.alloc o) b) := fun o => HK4.out.below (bra _)
      have HWf : Hid (∀ o,Kp (fun q => q = b) w (w4.alloc o)) := fun o => (HWZ.out.trans HKW4.out).alloc o
      clear her HUH HI HUS HO4 HK4 HKW4;go_wp2_with fail
      go_ret2
      exact FlsP.no HR2.out (by omega) (HKf.out _) (HWf.out _)
    ·obtain rfl : k = Xl := by omega
     have HI2 : Hid (errE (fsE (bytE m) (t.es.take (i + 1))) = 0) := hid (by rw [← uptE_end HIX.out,HEE.out.2]; exact HI.out);have HO2 : Hid (wr.ownsRow Z.heap.size 61 4 out ((fsE (bytE m) (t.es.take (i + 1))).map (·.1)).length (rawCells ((fsE (bytE m) (t.es.take (i + 1))).map (·.1)))) := hid (by rw [← uptE_end HIX.out,HEE.out.2]; exact HO.out);clear HI HO BEr BNr HBN HBR;go_wp2_with fail
     go_roundw
     case rel => exact ⟨_,i + 1,rfl,by go_num,by omega,HI2,HO2,hkp,HKR⟩
     case measure => simp [intOf]; omega
  ·obtain rfl : i = n1 := by omega
   have HI0 : Hid (errE (fsE (bytE m) t.es) = 0) := hid (by
    have h1 := HI.out;rw [List.take_of_length_le (by rw [HL.out.1]; exact Nat.le_refl _)] at h1
    exact h1)
   have HRV : Hid (R = (sortF ((fsE (bytE m) t.es).map (·.1) ++ t.rest),0)) := (by rw [← HR.out,rwE_ok HI0.out] : R = _)
   have HLN : Hid (((fsE (bytE m) t.es).map (·.1)).length ≤ 35070) := hid (by
    have h1 := HUL.out i 0;rw [uptE_zero,List.take_of_length_le (by rw [HL.out.1]; exact Nat.le_refl _)] at h1
    rw [List.length_map]; exact h1)
   have HO2 : Hid (wr.ownsRow Z.heap.size 61 4 out ((fsE (bytE m) t.es).map (·.1)).length (rawCells ((fsE (bytE m) t.es).map (·.1)))) := hid (by
    have h1 := HO.out;rw [List.take_of_length_le (by rw [HL.out.1]; exact Nat.le_refl _)] at h1
    exact h1)
   obtain ⟨acc,hacc⟩ : ∃ z,(fsE (bytE m) t.es).map (·.1) = z := ⟨_,rfl⟩;rw [hacc] at HO2 HLN HRV HFO;have HRG : Hid (RowG wr (.slice a2 n2 c2) 4 (fdRows t.rest)) := HRR.out.cel (Cel.ofBelow HBR.out);have HFN : Hid ((fdRows t.rest).length = t.rest.length) := hid (by simp [fdRows]);have t4 := (BTr.cell 4).trans rfl;have hws : Z.heap.size ≤ wr.heap.size := hkp.size;have HKWr : Hid (Kp (fun q => q = b) w wr) := HWZ.out.trans hkp;clear hacc HO HI HI0 HBR BEr BTr hkp
   go_wp2_with (first
    | (at_builtin; refine wpList_joinG rfl _ _ 31 61 4 40 _ rfl Tryz.underlying31 infoRaw rfl (by decide) Z.heap.size out acc.length (rawCells acc) rfl HO2.out (.slice a2 n2 c2) (fdRows t.rest) rfl HRG.out (fdr_len t.rest) (fdr_one t.rest) ?c1 (by decide) hws ?_)
    | fail)
   case c1 => have h1 := HFN.out; have h2 := HLN.out; have h3 := HRL.out; have h4 := HL.out.2; omega
   intro v5 w5 ho5 hg5;have HKW5 : Hid (Kp (fun q => q = b) w w5) := HKWr.out.grown hg5 (fun k hk hlt' => absurd (HO2.out.lt k hk).1 (by have := HSZ2.out; omega));have HK5 : Hid (KnE W0 w5 b) := HKR.out.kp (S := fun q => Z.heap.size ≤ q) ((Kp.refl _ _).grown hg5 (fun k hk _ => (HO2.out.lt k hk).1)) (by have := HSZ.out; have := HSZ2.out; omega)
   have HO5 : Hid (w5.ownsRow Z.heap.size 61 4 v5 (acc ++ t.rest).length (rawCells (acc ++ t.rest))) := hid (by
    rw [rawCells_app,rawCells_flat t.rest,List.length_append,← HFN.out]
    exact ho5)
   have HSC : Hid (Calls Tryz.prog 28 #[v5] w5 fun e w' => ∃ v',e = .returned v' ∧ RawsAt w5.heap.size w' v' (sortF (acc ++ t.rest)) ∧ Below w5.heap.size w5 w') := sorted_at HO5.out (by rw [List.length_append]; have h2 := HLN.out; have h3 := HRL.out; have h4 := HL.out.2; omega);clear ho5 hg5 HO2 HO5 HKWr HKR HRG t4;go_wp2_with fail;refine Calls.mono HSC.out ?_;rintro ee w6 ⟨v6,rfl,hra,hb6⟩
   have HRA : Hid (RawsAt w.heap.size w6 v6 (sortF (acc ++ t.rest))) := hid (by
    obtain ⟨qa,qc,q1,q2,q3,q4,q5⟩ := hra;refine ⟨qa,qc,q1,?_,q3,q4,q5⟩
    rcases q2 with h | ⟨g,g1,g2,g3⟩
    ·exact .inl h
    ·exact .inr ⟨g,g1,Nat.le_trans HKW5.out.size g2,g3⟩)
   have HK6 : Hid (KnE W0 w6 b) := HK5.out.below hb6;have HKW6 : Hid (Kp (fun q => q = b) w w6) := HKW5.out.trans (Kp.ofBelow hb6);clear hra hb6 HSC HKW5 HK5;go_wp2_with fail
   go_ret2
   exact ⟨v6,by rw [HRV.out]; rfl,by rw [HRV.out]; exact HRA.out,by rw [HRV.out]; exact HFO.out,HK6.out,HKW6.out⟩
theorem ebytes_of (W0 : World) (b : Nat) : ∀ (m : Nat),(∀ t v w,TrW m W0 v t → SmN m t → Below W0.heap.size W0 w → KnE W0 w b → Calls Tryz.prog 68 #[.agg #[.map (some b)],v] w (FlsP W0 (rwE (bytE (m - 1)) t) b w)) →
  ∀ x K N S a1 n1 c1 a2 n2 c2 W,TrW m W0 (.agg #[.int .i64 K,.int .i64 N,.string S,.slice a1 n1 c1,.slice a2 n2 c2]) x → SmN m x → Below W0.heap.size W0 W → KnE W0 W b → Calls Tryz.prog 151 #[.agg #[.map (some b)],.agg #[.int .i64 K,.int .i64 N,.string S,.slice a1 n1 c1,.slice a2 n2 c2]] W (BytP W0 (bytE m x) b W)
 | 0,_,_,_,_,_,_,_,_,_,_,_,_,h,_,_,_ => by obtain ⟨r,_,h⟩ := h; exact h.elim
 | m + 1,IF,x,K,N,S,a1,n1,c1,a2,n2,c2,W,h,hs,h0,hk => ebytes_step W0 b m x K N S a1 a2 n1 c1 n2 c2 W h (fun W h0 hk => IF x _ W h hs h0 hk) h0 hk
theorem efields_any (W0 : World) (b : Nat) : ∀ (m : Nat) (t : Tr) (v : Value) (w : World),TrW m W0 v t → SmN m t → Below W0.heap.size W0 w → KnE W0 w b → Calls Tryz.prog 68 #[.agg #[.map (some b)],v] w (FlsP W0 (rwE (bytE (m - 1)) t) b w)
 | 0,_,_,_,h,_,_,_ => by obtain ⟨r,_,h⟩ := h; exact h.elim
 | m + 1,t,v,w,h,hs,h0,hk => efields_step W0 b m t v w h hs (ebytes_of W0 b m (fun t v w h hs h0 hk => efields_any W0 b m t v w h hs h0 hk)) h0 hk
theorem zeroEp (w : World) : (zeroValue 145).run Tryz.prog w = .ok (.agg #[]) w := by kernel_rfl
theorem place_any (a : Option Addr) (N cap : Nat) (w : World) (h1 : N ≤ cap) (h2 : cap ≤ maxLen) (h3 : N = 0 ∨ ∃ g off,a = some ⟨g,off,none⟩) :
  Calls Tryz.prog 123 #[.slice a N cap] w fun e w' => e = .returned (plV (plOf (.slice a N cap))) ∧ Below w.heap.size w w' := by
 unfold maxLen at h2
 by_cases hN : N = 0
 ·subst hN
  go_enter Tryz.func123,Tryz.ntmps123
  go_wp2_with fail;refine bodyPost_ret (results_cell rfl _ _ _ ⟨w.heap.size,0,none⟩ (.agg #[.pointer none,.int .i64 0]) (by go_simp) (by go_simp)) rfl ⟨by simp [plV,plOf],bra _⟩
 ·obtain ⟨g,off,rfl⟩ : ∃ g off,a = some ⟨g,off,none⟩ := by
   rcases h3 with h | h
   ·exact absurd h hN
   ·exact h
  have hd : ((N : Int) == 0) = false := by simp; omega
  have hp : 0 < N := by omega
  go_enter Tryz.func123,Tryz.ntmps123
  go_wp2_with fail;refine bodyPost_ret (results_cell rfl _ _ _ ⟨w.heap.size,0,none⟩ (.agg #[.pointer (some ⟨g,off,none⟩),.int .i64 (N : Int)]) (by go_simp) (by go_simp)) rfl ⟨by simp [plV,plOf,hN],bra _⟩
theorem uPlace : Tryz.prog.underlying 182 = some (.map 184 145) := by kernel_rfl
theorem told_pl {w : World} {x : Pl} {L : List Pl} (hx : PlOk w x) (hL : ∀ y ∈ L,PlOk w y) : Told 184 w (plV x) (L.map plV) := by
 intro q hq;obtain ⟨y,hy,rfl⟩ := List.mem_map.1 hq;have h := eql_pl w x y hx (hL y hy)
 have inj : plV x = plV y ↔ x = y := by
  obtain ⟨p,m⟩ := x;obtain ⟨q,n⟩ := y
  simp [plV]
  intro _
  omega
 constructor
 ·intro e;rw [h,decide_eq_true (inj.1 e)]
 ·intro e;rw [h,decide_eq_false (fun e' => e (inj.2 e'))]
theorem mem_plV {x : Pl} {L : List Pl} : plV x ∈ L.map plV ↔ x ∈ L := by
 constructor
 ·intro h;obtain ⟨y,hy,e⟩ := List.mem_map.1 h;obtain ⟨p,m⟩ := x;obtain ⟨q,n⟩ := y
  simp [plV] at e
  obtain ⟨rfl,e2⟩ := e
  obtain rfl : n = m := by omega
  exact hy
 ·exact List.mem_map_of_mem
def msgsL (ts : List Tr) : List (List (Int × List Tr)) := (ts.filter fun t => t.kind == 3).map Tr.es
def MsgS (ts : List Tr) (M : List (List (Int × List Tr))) : Prop := M.Sublist (msgsL ts) ∧ ∀ t ∈ ts,t.kind = 3 → t.es ∈ M
def LvC (n : Nat) (w : World) (r : List Value) (m : List (Int × List Tr)) : Prop := ∃ ve,r = [ve] ∧ EnsQ n w ve m ∧ PlnV w ve
abbrev LvQ (n : Nat) (w : World) (v : Value) (M : List (List (Int × List Tr))) : Prop := RowP (LvC n w) w 1 v M
theorem infoSl : (Tryz.prog.info? 30).map (fun i => (i.zero,i.size,i.bytes)) = some (some (.slice none 0 0),1,24) := by kernel_rfl
theorem MsgS.skip {ts : List Tr} {M : List (List (Int × List Tr))} {t : Tr} (h : MsgS ts M) (ht : t.kind ≠ 3) : MsgS (ts ++ [t]) M := by
 refine ⟨?_,fun x hx hk => ?_⟩
 ·have : msgsL (ts ++ [t]) = msgsL ts := by simp [msgsL,List.filter_append,ht]
  rw [this]; exact h.1
 ·rcases List.mem_append.1 hx with hx | hx
  ·exact h.2 x hx hk
  ·obtain rfl : x = t := by simpa using hx
   exact absurd hk ht
theorem msgs_snoc {ts : List Tr} {t : Tr} (ht : t.kind = 3) : msgsL (ts ++ [t]) = msgsL ts ++ [t.es] := by simp [msgsL,List.filter_append,ht]
theorem MsgS.old {ts : List Tr} {M : List (List (Int × List Tr))} {t : Tr} (h : MsgS ts M) (ht : t.kind = 3) (hm : t.es ∈ M) : MsgS (ts ++ [t]) M := by
 refine ⟨?_,fun x hx hk => ?_⟩
 ·rw [msgs_snoc ht]; exact h.1.trans (List.sublist_append_left _ _)
 ·rcases List.mem_append.1 hx with hx | hx
  ·exact h.2 x hx hk
  ·obtain rfl : x = t := by simpa using hx
   exact hm
theorem MsgS.new {ts : List Tr} {M : List (List (Int × List Tr))} {t : Tr} (h : MsgS ts M) (ht : t.kind = 3) : MsgS (ts ++ [t]) (M ++ [t.es]) := by
 refine ⟨?_,fun x hx hk => ?_⟩
 ·rw [msgs_snoc ht]; exact h.1.append (List.Sublist.refl _)
 ·rcases List.mem_append.1 hx with hx | hx
  ·exact List.mem_append.2 (.inl (h.2 x hx hk))
  ·obtain rfl : x = t := by simpa using hx
   simp
def Side (n : Nat) (w : World) (ves : List Value) (M : List (List (Int × List Tr))) : Prop := ves.length = M.length ∧ ∀ (i : Nat) (ve : Value) (m : List (Int × List Tr)),ves[i]? = some ve → M[i]? = some m → EnsQ n w ve m ∧ PlnV w ve
theorem Side.nil (n : Nat) (w : World) : Side n w [] [] := ⟨rfl,by simp⟩
theorem Side.snoc {n : Nat} {w : World} {ves : List Value} {M : List (List (Int × List Tr))} (h : Side n w ves M) {ve : Value} {m : List (Int × List Tr)} (h1 : EnsQ n w ve m) (h2 : PlnV w ve) : Side n w (ves ++ [ve]) (M ++ [m]) := by
 refine ⟨by simp [h.1],fun i v m' hv hm => ?_⟩
 by_cases hi : i < ves.length
 ·rw [List.getElem?_append_left hi] at hv;rw [List.getElem?_append_left (by rw [← h.1]; exact hi)] at hm;exact h.2 i v m' hv hm
 ·rw [List.getElem?_append_right (by omega)] at hv;rw [List.getElem?_append_right (by rw [← h.1]; omega)] at hm;rw [← h.1] at hm
  cases hq : i - ves.length with
  | zero =>
   rw [hq] at hv hm
   obtain rfl : ve = v := by simpa using hv
   obtain rfl : m = m' := by simpa using hm
   exact ⟨h1,h2⟩
  | succ q => rw [hq] at hv; simp at hv
theorem Side.mem {n : Nat} {w : World} {ves : List Value} {M : List (List (Int × List Tr))} (h : Side n w ves M) {ve : Value} (hv : ve ∈ ves) : ∃ m ∈ M,EnsQ n w ve m ∧ PlnV w ve := by
 obtain ⟨i,hi,e⟩ := List.getElem_of_mem hv;have hm : M[i]? = some (M[i]'(by rw [← h.1]; exact hi)) := List.getElem?_eq_getElem _;exact ⟨_,List.mem_of_getElem? hm,h.2 i ve _ (by rw [List.getElem?_eq_getElem hi,e]) hm⟩
theorem flat_one : ∀ l : List Value,l = (l.map fun x => [x]).flatten
 | [] => rfl
 | a :: l => by rw [List.map_cons,List.flatten_cons,← flat_one l]; rfl
theorem Side.row {n : Nat} {w w' : World} {ves : List Value} {M : List (List (Int × List Tr))} (h : Side n w ves M) (hb : Below w.heap.size w w') {B k : Nat} {v : Value} (ho : w'.ownsRow B 30 1 v k ves) : LvQ n w' v M := by
 have hf : ves = (ves.map fun x => [x]).flatten := flat_one ves;rw [hf] at ho;have hr := (RowG.own (rs := ves.map fun x => [x]) (by intro r hr; obtain ⟨x,_,rfl⟩ := List.mem_map.1 hr; rfl) (by decide) ho).1;refine ⟨_,hr,by simp [h.1],fun i m hm => ?_⟩;obtain ⟨ve,hv⟩ : ∃ ve,ves[i]? = some ve := ⟨_,List.getElem?_eq_getElem (by rw [h.1]; exact (List.getElem?_eq_some_iff.1 hm).1)⟩;obtain ⟨g1,g2⟩ := h.2 i ve m hv hm;exact ⟨[ve],by simp [hv],ve,rfl,g1.belowEQ hb,g2.below hb⟩
def MsgP (n : Nat) (ts : List Tr) (w : World) (e : Ending) (w' : World) : Prop := ∃ v M,e = .returned v ∧ LvQ n w' v M ∧ MsgS ts M ∧ Below w.heap.size w w'
theorem messages_step (n : Nat) (v : Value) (ts : List Tr) (w : World) (h : TrsQ (n + 1) w v ts) (hl : ts.length ≤ 5000) :
  Calls Tryz.prog 82 #[v] w (MsgP n ts w) := by
 have hmm := @run_makeMap Tryz.prog;obtain ⟨a,cap,rfl,h1,h2,h3, -, -⟩ := RowP.open h;obtain ⟨N,hN⟩ : ∃ N,ts.length = N := ⟨_,rfl⟩;rw [hN] at h1 hl ⊢;have HH : Hid (TrsQ (n + 1) w (.slice a N cap) ts) := hid (by rw [← hN]; exact h);have HN : Hid (ts.length = N) := hN;unfold maxLen at h2;clear h hN h3
 go_enter Tryz.func82,Tryz.ntmps82
 go_wp2_with fail;have HS0 : Hid (PlSet (w.alloc (.map #[] 0)) w.heap.size (List.map plV [])) := PlSet.made w;have HO0 : Hid ((w.alloc (.map #[] 0)).ownsRow (w.heap.size + 1) 30 1 (.slice none 0 0) 0 []) := World.ownsRow_nil _ _ _ _;have hb0 : Below w.heap.size w (w.alloc (.map #[] 0)) := bra _
 go_loopw [3,13] (fun ov iv wr => ∃ (i k : Nat) (oa : Option Addr) (oc : Nat) (ves : List Value) (M : List (List (Int × List Tr))),iv = .int .i64 (i : Int) ∧ ov = .slice oa k oc ∧ i ≤ N ∧ k ≤ i ∧ Hid (Side n w ves M) ∧ Hid (MsgS (ts.take i) M) ∧ Hid (PlSet wr w.heap.size ((ves.map plOf).map plV)) ∧ Hid (wr.ownsRow (w.heap.size + 1) 30 1 (.slice oa k oc) k ves) ∧ Below w.heap.size w wr) (fun _ iv _ => N - (intOf iv).toNat)
 case atStart => exact ⟨0,0,none,0,[],[],rfl,rfl,by omega,by omega,Side.nil n w,(⟨by simp,by simp⟩ : MsgS (ts.take 0) []),HS0,HO0,hb0⟩
 case round =>
  clear HS0 HO0 hb0;obtain ⟨i,k,oa,oc,ves,M,rfl,rfl,hi,hk,HSD,HMS,HST,HO,hbel⟩ := hrel
  by_cases hlt : i < N
  ·obtain ⟨t,ht⟩ : ∃ r,ts[i]? = some r := ⟨_,List.getElem?_eq_getElem (by rw [HN.out]; exact hlt)⟩;obtain ⟨g,off,rfl,r,hr,hc⟩ := HH.out.get ht;obtain ⟨ve,vr,rfl,q1,q2,q3,q4,q5,q6,q7⟩ := hr;obtain ⟨ea,ec,rfl,e1,e2,e3, -, -⟩ := RowP.open q6;obtain ⟨ra,rc,rfl, -⟩ := rest_holds q5;have c0 := (hbel.cell (World.block_lt_of_cell? _ _ (hc 0 _ rfl))).trans (hc 0 _ rfl);have c1 := (hbel.cell (World.block_lt_of_cell? _ _ (hc 1 _ rfl))).trans (hc 1 _ rfl);have c2 := (hbel.cell (World.block_lt_of_cell? _ _ (hc 2 _ rfl))).trans (hc 2 _ rfl);have c3 := (hbel.cell (World.block_lt_of_cell? _ _ (hc 3 _ rfl))).trans (hc 3 _ rfl);have c4 := (hbel.cell (World.block_lt_of_cell? _ _ (hc 4 _ rfl))).trans (hc 4 _ rfl);simp only [Nat.add_zero] at c0;have HT : Hid (ts[i]? = some t) := ht;have HTK : Hid (ts.take (i + 1) = ts.take i ++ [t]) := hid (by obtain ⟨hl',e⟩ := List.getElem?_eq_some_iff.1 ht; rw [List.take_succ_eq_append_getElem hl',e]);have HE : Hid (EnsQ n w (.slice ea t.es.length ec) t.es ∧ PlnV w (.slice ea t.es.length ec)) := ⟨q6,q7⟩;clear hc ht q1 q2 q3 q4 q5 q6 q7;generalize hEl : t.es.length = El at *;generalize t.rest.length = Rl at *;have HEl : Hid (t.es.length = El) := hEl;obtain ⟨K,hK⟩ : ∃ K,t.kind = K := ⟨_,rfl⟩;rw [hK] at c0;have HK : Hid (t.kind = K) := hK;clear hK hEl;generalize t.n = Tn at *;generalize t.s = Ts at *
   by_cases h3 : K = 3
   ·subst h3;obtain ⟨⟨p,m⟩,hpm⟩ : ∃ x,plOf (.slice ea El ec) = x := ⟨_,rfl⟩;have HPM : Hid (plOf (.slice ea El ec) = (p,m)) := hpm
    have HPC : Hid (∀ W,Calls Tryz.prog 123 #[.slice ea El ec] W fun e w' => e = .returned (.agg #[.pointer p,.int .i64 (m : Int)]) ∧ Below W.heap.size W w') := fun W => by
     have := place_any ea El ec W e1 e2 (e3.imp (fun h => by rw [← HEl.out,h]; rfl) id);rw [hpm] at this;exact this
    clear hpm e3;go_wp2_with fail;refine (HPC.out _).mono ?_;rintro e w2 ⟨rfl,hb2⟩;have BT : Blk w2 wr.heap.size #[.int .i64 3,.int .i64 Tn,.string Ts,.slice ea El ec,.slice ra Rl rc] 33 := (Blk.new wr _ _).below hb2;have hbr : Below wr.heap.size wr w2 := (bra _).trans (hb2.mono (by simp));have hbw : Below w.heap.size w w2 := hbel.trans (hbr.mono hbel.size);have HST2 : Hid (PlSet w2 w.heap.size ((ves.map plOf).map plV)) := HST.out.below hbr;have HO2 : Hid (w2.ownsRow (w.heap.size + 1) 30 1 (.slice oa k oc) k ves) := own_below HO.out hbr;generalize wr.heap.size = bt at *;clear hb2 hbr HPC c0 c1 c2 c3 c4 HST HO hbel
    have HTD : Hid (∀ W,Below w.heap.size w W → Told 184 W (.agg #[.pointer p,.int .i64 (m : Int)]) ((ves.map plOf).map plV)) := fun W hW => by
     have hx : PlOk W (p,m) := by rw [← HPM.out]; exact plOf_ok (HE.out.2.below hW) (HE.out.1.belowEQ hW)
     exact told_pl hx fun y hy => by
      obtain ⟨ve,hve,rfl⟩ := List.mem_map.1 hy;obtain ⟨m',_,g1,g2⟩ := HSD.out.mem hve;exact plOf_ok (g2.below hW) (RowP.belowEQ g1 hW)
    obtain ⟨R,hR⟩ : ∃ R : Bool,R = true ↔ (p,m) ∈ ves.map plOf := by
     by_cases hm : (p,m) ∈ ves.map plOf
     ·exact ⟨true,by simp [hm]⟩
     ·exact ⟨false,by simp [hm]⟩
    have HR : Hid (R = true ↔ (p,m) ∈ ves.map plOf) := hR;clear hR;have al3 : Below w2.heap.size w2 (w2.alloc (Obj.cells #[.pointer p,.int .i64 (m : Int)] 184)) := bra _;have hb3 : Below w.heap.size w (w2.alloc (Obj.cells #[.pointer p,.int .i64 (m : Int)] 184)) := hbw.trans (al3.mono hbw.size);have al4 : Below w2.heap.size w2 ((w2.alloc (Obj.cells #[.pointer p,.int .i64 (m : Int)] 184)).alloc (Obj.cells #[] 145)) := al3.alloc (by simp) _;have hb4 : Below w.heap.size w ((w2.alloc (Obj.cells #[.pointer p,.int .i64 (m : Int)] 184)).alloc (Obj.cells #[] 145)) := hbw.trans (al4.mono hbw.size)
    have HLK : Hid ((Instr.lookup 182 (.map (some w.heap.size)) (.agg #[.pointer p,.int .i64 (m : Int)]) true).run Tryz.prog (w2.alloc (Obj.cells #[.pointer p,.int .i64 (m : Int)] 184)) = .ok (.tuple #[.agg #[],.bool R]) (w2.alloc (Obj.cells #[.pointer p,.int .i64 (m : Int)] 184))) :=
     look_pl uPlace zeroEp Tryz.underlying184 (fun _ _ => rfl) rfl (fun e => check_pl _ e (p,m)) (HST2.out.below al3) (HTD.out _ hb3) R (HR.out.trans mem_plV.symm)
    cases R with
    | true =>
     have hes : t.es ∈ M := by
      obtain ⟨ve,hve,e⟩ := List.mem_map.1 (HR.out.1 rfl);obtain ⟨m',hm',g1,g2⟩ := HSD.out.mem hve;rw [pl_uniq HE.out.1 g1 (by rw [HPM.out,e])];exact hm'
     have HES : Hid (t.es ∈ M) := hes;have q0 := BT.cell 3;clear hes
     go_wp2_with (first | (at_lookup; refine wpList_lookup_pl rfl _ _ rfl rfl rfl HLK.out ?_) | fail)
     go_roundw
     case rel => exact ⟨i + 1,k,oa,oc,ves,M,by go_num,rfl,by omega,by omega,HSD,(by rw [HTK.out]; exact HMS.out.old HK.out HES.out : MsgS (ts.take (i + 1)) M),HST2.out.below al4,own_below HO2.out al4,hb4⟩
     case measure => simp [intOf]; omega
    | false =>
     obtain ⟨w5,r1,r2,r3,r4⟩ := update_pl (MT := 182) (E := 145) (w := ((w2.alloc (Obj.cells #[.pointer p,.int .i64 (m : Int)] 184)).alloc (Obj.cells #[] 145))) uPlace Tryz.underlying184 (fun _ _ => rfl) rfl (fun e => check_pl _ e (p,m)) (HST2.out.below al4) (HTD.out _ hb4) (fun h => by have := HR.out.2 (mem_plV.1 h); cases this);have HUP : Hid _ := r1;have BT5 : Blk w5 bt #[.int .i64 3,.int .i64 Tn,.string Ts,.slice ea El ec,.slice ra Rl rc] 33 := (BT.below al4).kp r3 (fun e => (HST2.out.below al4).neB (BT.below al4) e);have hO5 : w5.ownsRow (w.heap.size + 1) 30 1 (.slice oa k oc) k ves := own_kpV (own_below HO2.out al4) r3 (fun q hq e => by have := (own_lt (own_below HO2.out al4) hq).1; omega);have hb5 : Below w.heap.size w w5 := hb4.trans (r3.toBelow hb4.size (fun q e => by omega))
     have HST5 : Hid (PlSet w5 w.heap.size (((ves ++ [Value.slice ea El ec]).map plOf).map plV)) := by
      show PlSet _ _ _
      rw [List.map_append,List.map_append,List.map_cons,List.map_nil,HPM.out];exact r2
     have al6 : Below w5.heap.size w5 (w5.alloc (Obj.cells #[.slice ea El ec] 30)) := bra _;have BE : Blk (w5.alloc (Obj.cells #[.slice ea El ec] 30)) w5.heap.size #[.slice ea El ec] 30 := Blk.new w5 _ _;have hb6 : Below w.heap.size w (w5.alloc (Obj.cells #[.slice ea El ec] 30)) := hb5.trans (al6.mono hb5.size);have q3 := (BT5.cell 3).trans rfl;obtain ⟨i0,hi0,hz0,hz1,hz2⟩ := info_parts infoSl
     obtain ⟨v',W7,s1,s2,s3,_,s5⟩ := run_append_own_at (w5.alloc (Obj.cells #[.slice ea El ec] 30)) (w.heap.size + 1) 131 131 30 i0 _ 1 24 Tryz.underlying131 hi0 hz0 hz1 hz2 rfl (by decide) (.slice oa k oc) k _ (own_below hO5 al6) ⟨w5.heap.size,0,none⟩ 1 1 [.slice ea El ec] rfl (fun j u hu => by
      have := BE.cell j;rw [Addr.add_lit,Nat.zero_add,this]
      simpa using hu) (fun u hu => by
      simp only [List.mem_cons,List.not_mem_nil,or_false] at hu
      subst hu; rfl) (by unfold maxLen; omega) (by omega) (by have := hb6.size; have := HST5.out.lt; have := al6.size; omega)
     have HRUN : Hid _ := s1
     have HST7 : Hid (PlSet W7 w.heap.size (((ves ++ [Value.slice ea El ec]).map plOf).map plV)) := by
      have h6 := HST5.out.below al6;have hl6 := h6.lt;obtain ⟨es,c,g1,g2⟩ := h6;refine ⟨es,c,(s3.block _ hl6 (fun e => ?_)).trans g1,g2⟩;have := (own_lt hO5 e.symm).1
      omega
     have hb7 : Below w.heap.size w W7 := hb6.grown s3 hb6.size (fun q hq => by have := (own_lt hO5 hq).1; omega);obtain ⟨na,nc,hv'⟩ := own_form s2;subst hv';have HO7 : Hid (W7.ownsRow (w.heap.size + 1) 30 1 (.slice na (k + 1) nc) (k + 1) (ves ++ [Value.slice ea El ec])) := s2;have HSD7 : Hid (Side n w (ves ++ [Value.slice ea El ec]) (M ++ [t.es])) := HSD.out.snoc HE.out.1 HE.out.2;have q0 := (BT.cell 3).trans rfl;clear r1 r2 r3 r4 s1 s2 s3 s5 hO5 BE HTD HR HSD HST2 HO2 HST5 hi0 hz0 hz1 hz2
     go_wp2_with (first | (at_lookup; refine wpList_lookup_pl rfl _ _ rfl rfl rfl HLK.out ?_) | (at_mapUpdate; refine wpList_update_pl rfl _ _ _ rfl rfl rfl rfl HUP.out ?_) | (at_builtin; refine wpList_ran rfl (append_run rfl rfl rfl HRUN.out) ?_) | fail)
     go_roundw
     case rel => exact ⟨i + 1,k + 1,na,nc,_,_,by go_num,rfl,by omega,by omega,HSD7,(by rw [HTK.out]; exact HMS.out.new HK.out : MsgS (ts.take (i + 1)) (M ++ [t.es])),HST7,HO7,hb7⟩
     case measure => simp [intOf]; omega
   ·have hd : (K != 3) = true := by simpa using h3
    go_wp2_with fail;have hb2 : Below w.heap.size w (wr.alloc (Obj.cells #[.int .i64 K,.int .i64 Tn,.string Ts,.slice ea El ec,.slice ra Rl rc] 33)) := hbel.alloc hbel.size _;have hal : Below wr.heap.size wr (wr.alloc (Obj.cells #[.int .i64 K,.int .i64 Tn,.string Ts,.slice ea El ec,.slice ra Rl rc] 33)) := bra _
    go_roundw
    case rel => exact ⟨i + 1,k,oa,oc,ves,M,by go_num,rfl,by omega,by omega,HSD,(by rw [HTK.out]; exact HMS.out.skip (by rw [HK.out]; exact h3) : MsgS (ts.take (i + 1)) M),HST.out.below hal,own_below HO.out hal,hb2⟩
    case measure => simp [intOf]; omega
  ·go_wp2_with fail;go_ret;have h5 := HMS.out;rw [List.take_of_length_le (by rw [HN.out]; omega)] at h5;exact ⟨_,M,rfl,HSD.out.row hbel HO.out,h5,hbel⟩
theorem infoTq : (Tryz.prog.info? 33).map (fun i => (i.zero,i.size,i.bytes)) = some (some (.agg #[.int .i64 0,.int .i64 0,.string ⟨#[]⟩,.slice none 0 0,.slice none 0 0]),5,80) := by kernel_rfl
def SideT (n : Nat) (w : World) (rows : List (List Value)) (ts : List Tr) : Prop := rows.length = ts.length ∧ ∀ (i : Nat) (r : List Value) (t : Tr),rows[i]? = some r → ts[i]? = some t → TrQ n w r t
theorem SideT.append {n : Nat} {w : World} {rows rs : List (List Value)} {ts us : List Tr} (h : SideT n w rows ts) (k : SideT n w rs us) : SideT n w (rows ++ rs) (ts ++ us) := by
 refine ⟨by simp [h.1,k.1],fun i r t hr ht => ?_⟩
 by_cases hi : i < rows.length
 ·rw [List.getElem?_append_left hi] at hr;rw [List.getElem?_append_left (by rw [← h.1]; exact hi)] at ht;exact h.2 i r t hr ht
 ·rw [List.getElem?_append_right (by omega)] at hr;rw [List.getElem?_append_right (by rw [← h.1]; omega),← h.1] at ht;exact k.2 _ r t hr ht
theorem SideT.below {n : Nat} {w w1 : World} {rows : List (List Value)} {ts : List Tr} (h : SideT n w rows ts) (hb : Below w.heap.size w w1) : SideT n w1 rows ts := ⟨h.1,fun i r t hr ht => (h.2 i r t hr ht).below hb⟩
theorem TrQ.five {n : Nat} {w : World} {r : List Value} {t : Tr} (h : TrQ n w r t) : r.length = 5 ∧ ∀ u ∈ r,u.oneCell' = true := by
 cases n with
 | zero => exact h.elim
 | succ n =>
  obtain ⟨ve,vr,rfl,_,_,_,_,h6,h7,_⟩ := h;obtain ⟨a1,c1,rfl,_⟩ := RowP.open h7;obtain ⟨a2,c2,rfl,_⟩ := h6.form2;refine ⟨rfl,fun u hu => ?_⟩;simp only [List.mem_cons,List.not_mem_nil,or_false] at hu
  rcases hu with rfl | rfl | rfl | rfl | rfl <;> rfl
theorem SideT.rows {n : Nat} {w : World} {rows : List (List Value)} {ts : List Tr} (h : SideT n w rows ts) : (∀ r ∈ rows,r.length = 5) ∧ ∀ u ∈ rows.flatten,u.oneCell' = true := by
 have each : ∀ r ∈ rows,r.length = 5 ∧ ∀ u ∈ r,u.oneCell' = true := fun r hr => by
  obtain ⟨i,hi,e⟩ := List.getElem_of_mem hr;have ht : ts[i]? = some (ts[i]'(by rw [← h.1]; exact hi)) := List.getElem?_eq_getElem _;exact (h.2 i r _ (by rw [List.getElem?_eq_getElem hi,e]) ht).five
 refine ⟨fun r hr => (each r hr).1,fun u hu => ?_⟩;obtain ⟨r,hr,hu⟩ := List.mem_flatten.1 hu;exact (each r hr).2 u hu
theorem TrsQ_side {n : Nat} {w : World} {v : Value} {ts : List Tr} (h : TrsQ n w v ts) : ∃ rows,RowG w v 5 rows ∧ SideT n w rows ts := by
 obtain ⟨rows,h1,h2,h3⟩ := h;refine ⟨rows,h1,h2,fun i r t hr ht => ?_⟩;obtain ⟨r',e,hp⟩ := h3 i t ht;rw [hr] at e
 cases e
 exact hp
theorem SideT.row {n : Nat} {w : World} {rows : List (List Value)} {ts : List Tr} (h : SideT n w rows ts) {B k : Nat} {v : Value} (ho : w.ownsRow B 33 5 v k rows.flatten) : TrsQ n w v ts := by
 refine ⟨rows,(RowG.own h.rows.1 (by decide) ho).1,h.1,fun i t ht => ?_⟩;obtain ⟨r,hr⟩ : ∃ r,rows[i]? = some r := ⟨_,List.getElem?_eq_getElem (by rw [h.1]; exact (List.getElem?_eq_some_iff.1 ht).1)⟩;exact ⟨r,hr,h.2 i r t hr ht⟩
def subsL (M : List (List (Int × List Tr))) : List Tr := M.flatMap subs
theorem subs_snoc (es : List (Int × List Tr)) (e : Int × List Tr) : subs (es ++ [e]) = subs es ++ e.2 := by simp [subs,List.flatMap_append]
theorem subsL_snoc (M : List (List (Int × List Tr))) (m : List (Int × List Tr)) : subsL (M ++ [m]) = subsL M ++ subs m := by simp [subsL,List.flatMap_append]
theorem take_atQ {α : Type} {l : List α} {i : Nat} {x : α} (h : l[i]? = some x) : l.take (i + 1) = l.take i ++ [x] := by
 obtain ⟨hl,rfl⟩ := List.getElem?_eq_some_iff.1 h;rw [List.take_succ_eq_append_getElem hl]
theorem subs_take_le (m : List (Int × List Tr)) (j : Nat) : (subs (m.take j)).length ≤ (subs m).length := by
 have : subs m = subs (m.take j) ++ subs (m.drop j) := by rw [subs,subs,subs,← List.flatMap_append,List.take_append_drop]
 rw [this,List.length_append]
 omega
theorem subsL_take_le (M : List (List (Int × List Tr))) (j : Nat) : (subsL (M.take j)).length ≤ (subsL M).length := by
 have : subsL M = subsL (M.take j) ++ subsL (M.drop j) := by rw [subsL,subsL,subsL,← List.flatMap_append,List.take_append_drop]
 rw [this,List.length_append]
 omega
theorem acc_le {M : List (List (Int × List Tr))} {m : List (Int × List Tr)} {i j : Nat} (h : M[i]? = some m) : (subsL (M.take i) ++ subs (m.take j)).length ≤ (subsL M).length := by
 refine Nat.le_trans ?_ (subsL_take_le M (i + 1));rw [take_atQ h,subsL_snoc,List.length_append,List.length_append];have := subs_take_le m j
 omega
def InsP (n : Nat) (M : List (List (Int × List Tr))) (w : World) (e : Ending) (w' : World) : Prop := ∃ v,e = .returned v ∧ TrsQ n w' v (subsL M) ∧ Below w.heap.size w w'
theorem inside_any (n : Nat) (v : Value) (M : List (List (Int × List Tr))) (w : World) (h : LvQ n w v M) (hl : (subsL M).length ≤ 5000) :
  Calls Tryz.prog 81 #[v] w (InsP n M w) := by
 obtain ⟨a,cap,rfl,h1,h2, -⟩ := RowP.open h;obtain ⟨N,hN⟩ : ∃ N,M.length = N := ⟨_,rfl⟩;rw [hN] at h1 ⊢;have HH : Hid (LvQ n w (.slice a N cap) M) := hid (by rw [← hN]; exact h);have HN : Hid (M.length = N) := hN;have HL : Hid ((subsL M).length ≤ 5000) := hl;unfold maxLen at h2;clear h hN hl
 go_enter Tryz.func81,Tryz.ntmps81
 go_wp2_with fail
 go_loopw [3,10] (fun ov iv wr => ∃ (i k : Nat) (oa : Option Addr) (oc : Nat) (rows : List (List Value)),iv = .int .i64 (i : Int) ∧ ov = .slice oa k oc ∧ i ≤ N ∧ Hid (SideT n w rows (subsL (M.take i))) ∧ Hid (wr.ownsRow w.heap.size 33 5 (.slice oa k oc) k rows.flatten) ∧ Below w.heap.size w wr) (fun _ iv _ => N - (intOf iv).toNat)
 case atStart => exact ⟨0,0,none,0,[],rfl,rfl,by omega,(⟨rfl,by simp⟩ : SideT n w [] (subsL (M.take 0))),World.ownsRow_nil _ _ _ _,Below.refl _ _⟩
 case round =>
  obtain ⟨i,k,oa,oc,rows,rfl,rfl,hi,HS,HO,hbel⟩ := hrel
  by_cases hlt : i < N
  ·obtain ⟨m,hm⟩ : ∃ r,M[i]? = some r := ⟨_,List.getElem?_eq_getElem (by rw [HN.out]; exact hlt)⟩;obtain ⟨g,off,rfl,r,⟨ve,rfl,he,hp⟩,hc⟩ := HH.out.get hm;obtain ⟨ea,ec,rfl,e1,e2, -⟩ := RowP.open he;have c0 := (hbel.cell (World.block_lt_of_cell? _ _ (hc 0 _ rfl))).trans (hc 0 _ rfl);simp only [Nat.mul_one,Nat.add_zero] at c0;obtain ⟨El,hEl⟩ : ∃ N,m.length = N := ⟨_,rfl⟩;rw [hEl] at e1 c0;have HE : Hid (EnsQ n w (.slice ea El ec) m) := hid (by rw [← hEl]; exact he);have HEl : Hid (m.length = El) := hEl;have HM : Hid (M[i]? = some m) := hm;unfold maxLen at e2;clear hc he hp hm hEl;go_wp2_with fail;clear c0
   go_loopw [3,16] (fun ov jv wz => ∃ (j k : Nat) (oa : Option Addr) (oc : Nat) (rows : List (List Value)),jv = .int .i64 (j : Int) ∧ ov = .slice oa k oc ∧ j ≤ El ∧ Hid (SideT n w rows (subsL (M.take i) ++ subs (m.take j))) ∧ Hid (wz.ownsRow w.heap.size 33 5 (.slice oa k oc) k rows.flatten) ∧ Below w.heap.size w wz) (fun _ jv _ => El - (intOf jv).toNat)
   case atStart => exact ⟨0,k,oa,oc,rows,rfl,rfl,by omega,(by simpa [subs] using HS.out : SideT n w rows (subsL (M.take i) ++ subs (m.take 0))),HO,hbel⟩
   case round =>
    clear HS HO hbel;obtain ⟨j,k,oa,oc,rows,rfl,rfl,hj,HS,HO,hbel⟩ := hrel
    by_cases hlt2 : j < El
    ·obtain ⟨x,hx⟩ : ∃ r,m[j]? = some r := ⟨_,List.getElem?_eq_getElem (by rw [HEl.out]; exact hlt2)⟩;obtain ⟨ge,offe,rfl,r,⟨vt,rfl, -,ht⟩,hc⟩ := HE.out.get hx;obtain ⟨ta,tc,rfl, -⟩ := RowP.open ht;have c0 := (hbel.cell (World.block_lt_of_cell? _ _ (hc 0 _ rfl))).trans (hc 0 _ rfl);have c1 := (hbel.cell (World.block_lt_of_cell? _ _ (hc 1 _ rfl))).trans (hc 1 _ rfl);simp only [Nat.add_zero] at c0;obtain ⟨rs,hrg,hsd⟩ := TrsQ_side ht;have hal : Below wr.heap.size wr (wr.alloc (Obj.cells #[.int .i64 x.1,.slice ta x.2.length tc] 80)) := bra _;have hb2 : Below w.heap.size w (wr.alloc (Obj.cells #[.int .i64 x.1,.slice ta x.2.length tc] 80)) := hbel.trans (hal.mono hbel.size)
     have hlen : k + rs.length ≤ 5000 := by
      have h1 := acc_le (j := j + 1) HM.out;rw [take_atQ hx,subs_snoc] at h1;have h2 := HL.out;have h3 := HS.out.1;have h4 := hsd.1;have h5 := (RowG.own HS.out.rows.1 (by decide) HO.out).2;simp only [List.length_append] at h1 h3
      omega
     obtain ⟨v',W4,r1,r2,r3⟩ := run_joinG (w := wr.alloc (Obj.cells #[.int .i64 x.1,.slice ta x.2.length tc] 80)) 78 78 33 5 80 _ Tryz.underlying78 infoTq rfl (by decide) w.heap.size (.slice oa k oc) k rows.flatten (own_below HO.out hal) (.slice ta x.2.length tc) rs (hrg.below hb2) hsd.rows.1 hsd.rows.2 (by omega) (by decide) hb2.size;have HRUN : Hid _ := r1;have HS4 : Hid (SideT n w (rows ++ rs) (subsL (M.take i) ++ subs (m.take (j + 1)))) := hid (by rw [take_atQ hx,subs_snoc,← List.append_assoc]; exact HS.out.append hsd);have hb4 : Below w.heap.size w W4 := hb2.grown r3 hb2.size (fun q hq => (own_lt HO.out hq).1);rw [← List.flatten_append] at r2;obtain ⟨na,nc,hv'⟩ := own_form r2;subst hv';have HO4 : Hid (W4.ownsRow w.heap.size 33 5 (.slice na (k + rs.length) nc) (k + rs.length) (rows ++ rs).flatten) := r2;clear r1 r2 r3 hrg hsd hc ht hx HS HO;generalize x.2.length = Xl at *;generalize x.1 = xt at *;generalize k + rs.length = k2 at *
     go_wp2_with (first | (at_builtin; refine wpList_ran rfl (append_run rfl rfl rfl HRUN.out) ?_) | fail)
     clear HRUN c0 c1 hal hb2 hbel
     go_roundw
     case rel => exact ⟨j + 1,k2,na,nc,_,by go_num,rfl,by omega,HS4,HO4,hb4⟩
     case measure => simp [intOf]; omega
    ·have HS5 : Hid (SideT n w rows (subsL (M.take (i + 1)))) := hid (by
      have := HS.out;rw [List.take_of_length_le (l := m) (by rw [HEl.out]; omega)] at this;rw [take_atQ HM.out,subsL_snoc]
      exact this)
     clear HS;go_wp2_with fail
     go_roundw
     case rel => exact ⟨i + 1,k,oa,oc,rows,by go_num,rfl,by omega,HS5,HO,hbel⟩
     case measure => simp [intOf]; omega
  ·go_wp2_with fail;go_ret;have h5 := HS.out;rw [List.take_of_length_le (by rw [HN.out]; omega)] at h5;exact ⟨_,rfl,(h5.below hbel).row HO.out,hbel⟩
end Go.Proofs.YtiajaocckkghgaaGreat

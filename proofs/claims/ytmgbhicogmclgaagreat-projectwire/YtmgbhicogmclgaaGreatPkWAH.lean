/- Part 8 of what the proof stands on. -/
import Derived.Test.YtmgbhicogmclgaaGreatPkWAG
namespace Go.Proofs.YtmgbhicogmclgaaGreat
set_option maxHeartbeats 8000000
set_option linter.unusedVariables false
set_option linter.unusedSimpArgs false
set_option maxRecDepth 20000
section
open Go.ChangeShapes Go.WideShapes Go.ChangeAt Go.RowKit
def EntP (s : ScS) (W0 : World) (b : Nat) (F : Nat → Prop) (n : Nat) (R : Option (Int × List Tr)) (w : World) (e : Ending) (w' : World) : Prop := ∃ a c G tg xs ok,e = .returned (.tuple #[.agg #[.int .i64 tg,.slice a xs.length c],.bool ok]) ∧ Grw s W0 b F w w' G ∧ SeeL n w' (.slice a xs.length c) xs G ∧ (R = none ∧ ok = false ∨ R = some (tg,xs) ∧ ok = true)
theorem EntP.no {s : ScS} {W0 w w' : World} {b : Nat} {F G : Nat → Prop} {n : Nat} {R : Option (Int × List Tr)} (hR : R = none) (hg : Grw s W0 b F w w' G) : EntP s W0 b F n R w (.returned (.tuple #[.agg #[.int .i64 0,.slice none 0 0],.bool false])) w' :=
 ⟨none,0,G,0,[],false,rfl,hg,fun w' _ => RowP.nil _ _ _,.inl ⟨hR,rfl⟩⟩
theorem pentry_any {s : ScS} {W0 : World} {n : Nat} {sn : ByteArray} {ma ea ta : Option Addr} {mn mc en ec tn tc : Nat} (IH : MsgC s W0 n sn ma ea ta mn mc en ec tn tc)
  (b : Nat) (F : Nat → Prop) (fs : List FlS) (tag : Int) (xl : List Tr) (qn : ByteArray) (vf : Value) (ra pt : Option Addr) (rl rc Kt ct : Nat) (w : World) (hvf : RowG w vf 5 (flRows fs)) (hKn : KnP s W0 w b F) (hks : ∀ f,fldOf fs tag = some f → 1 ≤ f.kind ∧ f.kind ≤ 7) (hts : TrsR n W0 (.slice pt Kt ct) xl) (hl1 : 1 ≤ xl.length) (hl2 : xl.length ≤ 70) (hok : ∀ x ∈ xl,okN n x = true) (hsm : ∀ x ∈ xl,SmN n x) :
  Calls Tryz.prog 46 #[.agg #[.string sn,.slice ma mn mc,.slice ea en ec,.slice ta tn tc,.map (some b)],.agg #[.string qn,vf,.slice ra rl rc],.agg #[.int .i64 tag,.slice pt Kt ct]] w (EntP s W0 b F n (entP (prM n s) fs (tag,xl)) w) := by
 have HKN : Hid (KnP s W0 w b F) := hKn;have HTS : Hid (TrsR n W0 (.slice pt Kt ct) xl) := hts;obtain ⟨X,hX⟩ : ∃ z,fldOf fs tag = z := ⟨_,rfl⟩;have HXF : Hid (fldOf fs tag = X) := hX
 have HFC0 : Hid (∀ W,Below w.heap.size w W → Calls Tryz.prog 81 #[.agg #[.string qn,vf,.slice ra rl rc],.int .i64 tag] W fun e w' => e = .returned (.tuple #[flV (X.getD zeroF),.bool X.isSome]) ∧ Below W.heap.size W w') := fun W hW => by
  have h1 := cfield_any (w := W) (snm := qn) (nm := tag) (am := ra) (M := rl) (cm := rc) (hvf.below hW);have h2 : (fs.find? fun m => decide (m.tag = tag)) = X := hX;rw [h2] at h1;exact h1
 obtain ⟨fa,fc,rfl, -⟩ := hvf.form;generalize (flRows fs).length = fl at *;obtain ⟨BS,BM,BE,BR,hbw⟩ := pt4 w #[.string sn,.slice ma mn mc,.slice ea en ec,.slice ta tn tc,.map (some b)] #[.string qn,.slice fa fl fc,.slice ra rl rc] #[.int .i64 tag,.slice pt Kt ct] #[.int .i64 0,.slice none 0 0] 74 52 69 69
 cases X with
 | none =>
  have HR : Hid (entP (prM n s) fs (tag,xl) = none) := hid (by simp only [entP,HXF.out]);clear HXF HTS hts hl1 hl2 hok hsm hks IH hKn hvf;simp only [flV,zeroF,Option.getD_none,Option.isSome_none] at HFC0
  go_enter Tryz.func46,Tryz.ntmps46
  go_upto_region 1 with fail
  generalize ((((w.alloc (Obj.cells #[.string sn,.slice ma mn mc,.slice ea en ec,.slice ta tn tc,.map (some b)] 74)).alloc (Obj.cells #[.string qn,.slice fa fl fc,.slice ra rl rc] 52)).alloc (Obj.cells #[.int .i64 tag,.slice pt Kt ct] 69)).alloc (Obj.cells #[.int .i64 0,.slice none 0 0] 69)) = U0 at *;obtain ⟨b0,hb0⟩ : ∃ z,w.heap.size = z := ⟨_,rfl⟩;have HBZ : Hid (w.heap.size = b0) := hb0;rw [hb0] at BS BM BE BR
  try simp only [hb0]
  clear hb0;obtain ⟨m0,m1,m2⟩ := cl3 BM;obtain ⟨e0,e1⟩ := cl2 BE;go_wp2_with fail;refine (HFC0.out _ hbw).mono ?_;rintro ee w1 ⟨rfl,hb1⟩;have hbw1 := hbw.trans (hb1.mono hbw.size);have BS1 := BS.below hb1;have BE1 := BE.below hb1;have BR1 := BR.below hb1;clear m0 m1 m2 e0 e1 BS BM BE BR hb1 HFC0 hbw;have hbl : b0 + 3 < w1.heap.size := BR1.lt;have r0 := (BR1.cell 0).trans rfl;have rz0 := BR1.froz 0;have r1 := (BR1.cell 1).trans rfl;have rz1 := BR1.froz 1;go_wp2_with fail;have hb2 : ∀ u v,Below w.heap.size w ((w1.setCell ⟨b0 + 3,0,none⟩ u).setCell ⟨b0 + 3,1,none⟩ v) := fun u v => Below.setCell (p := ⟨b0 + 3,1,none⟩) (Below.setCell (p := ⟨b0 + 3,0,none⟩) hbw1 (by have := HBZ.out; show w.heap.size ≤ b0 + 3; omega) _) (by have := HBZ.out; show w.heap.size ≤ b0 + 3; omega) _
  have hbe : ∀ o u v,Below w.heap.size w (((w1.setCell ⟨b0 + 3,0,none⟩ u).setCell ⟨b0 + 3,1,none⟩ v).alloc o) := fun o u v => (hb2 u v).alloc (hb2 u v).size _
  exact bodyPost_ret (results_two rfl _ _ _ ⟨b0 + 3,0,none⟩ (.agg #[.int .i64 0,.slice none 0 0]) (by go_simp) (by go_simp)) rfl (EntP.no HR.out (Grw.below HKN.out (hbe _ _ _)))
 | some f =>
  have HFT : Hid (f.tag = tag) := (fldP HXF.out).1;have hk := hks f hX;have HR : Hid (entP (prM n s) fs (tag,xl) = if xl.all (pfitB f) = true then (if f.label = 1 ∧ zroB (((lastP f xl).map (oneP (prM n s) f)).headD tr0) = true then none else some (f.tag,(lastP f xl).map (oneP (prM n s) f))) else none) := (by simp only [entP,HXF.out] : entP (prM n s) fs (tag,xl) = _)
  have HCN : Hid (∀ W bf,Below w.heap.size w W → Blk W bf #[.string f.name,.int .i64 f.tag,.int .i64 f.label,.int .i64 f.kind,.string f.tname] 56 → Calls Tryz.prog 43 #[.slice pt Kt ct,.func (.func 82) #[] #[.pointer (some ⟨bf,0,none⟩)]] W fun e w' => e = .returned (.bool (xl.any fun x => !pfitB f x)) ∧ Below W.heap.size W w') := fun W bf hW hB => containsP_any bf n _ xl W _ ((HTS.out.celT (Cel.ofBelow (HKN.out.below.trans (hW.mono HKN.out.below.size)))).imp fun _ _ _ hp => hp.trQ) (pfun_any bf f W n xl hB hk fun x hx => by
   have h1 := hsm x hx
   cases n with
   | zero => exact h1.elim
   | succ n => have := h1.1; omega)
  have HTR : Hid (∀ W2 F2,xl.all (pfitB f) = true → KnP s W0 W2 b F2 → Calls Tryz.prog 84 #[.agg #[.string sn,.slice ma mn mc,.slice ea en ec,.slice ta tn tc,.map (some b)],.agg #[.string f.name,.int .i64 f.tag,.int .i64 f.label,.int .i64 f.kind,.string f.tname],.slice pt Kt ct] W2 (SeesP s W0 b F2 n ((lastP f xl).map (oneP (prM n s) f)) W2)) := fun W2 F2 h1 h2 => ptrees_any IH b F2 f xl _ W2 hk h1 h2 HTS.out hl1 hl2 hok hsm
  have HLL : Hid (1 ≤ ((lastP f xl).map (oneP (prM n s) f)).length) := (by rw [List.length_map]; exact (lastP_len hl1).1 : 1 ≤ _);have HAN : Hid ((xl.any fun x => !pfitB f x) = !xl.all (pfitB f)) := (by rw [List.not_all_eq_any_not] : _ = _);clear HXF HTS hts hl1 hl2 hok hsm hks IH hKn hvf hX hk;generalize (lastP f xl).map (oneP (prM n s) f) = YS at *;obtain ⟨A,hA⟩ : ∃ z,xl.all (pfitB f) = z := ⟨_,rfl⟩;rw [HAN.out,hA] at HCN;rw [hA] at HTR HR;clear hA HAN;obtain ⟨y1,y2,y3,y4,y5⟩ := f;simp only [flV,Option.getD_some,Option.isSome_some] at HFC0 HCN HTR HR HFT
  go_enter Tryz.func46,Tryz.ntmps46
  go_upto_region 1 with fail
  generalize ((((w.alloc (Obj.cells #[.string sn,.slice ma mn mc,.slice ea en ec,.slice ta tn tc,.map (some b)] 74)).alloc (Obj.cells #[.string qn,.slice fa fl fc,.slice ra rl rc] 52)).alloc (Obj.cells #[.int .i64 tag,.slice pt Kt ct] 69)).alloc (Obj.cells #[.int .i64 0,.slice none 0 0] 69)) = U0 at *;obtain ⟨b0,hb0⟩ : ∃ z,w.heap.size = z := ⟨_,rfl⟩;have HBZ : Hid (w.heap.size = b0) := hb0;rw [hb0] at BS BM BE BR
  try simp only [hb0]
  clear hb0;obtain ⟨m0,m1,m2⟩ := cl3 BM;obtain ⟨e0,e1⟩ := cl2 BE;go_wp2_with fail;refine (HFC0.out _ hbw).mono ?_;rintro ee w1 ⟨rfl,hb1⟩;have hbw1 := hbw.trans (hb1.mono hbw.size);have BS1 := BS.below hb1;have BE1 := BE.below hb1;have BR1 := BR.below hb1;clear m0 m1 m2 e0 e1 BS BM BE BR hb1 HFC0 hbw;have hbl : b0 + 3 < w1.heap.size := BR1.lt;have hbl0 : b0 < w1.heap.size := BS1.lt;have hbl2 : b0 + 2 < w1.heap.size := BE1.lt;obtain ⟨e0,e1⟩ := cl2 BE1;go_wp2_with fail;have alF : Below w1.heap.size w1 (w1.alloc (Obj.cells #[.string y1,.int .i64 y2,.int .i64 y3,.int .i64 y4,.string y5] 56)) := bra _;refine Calls.mono (HCN.out _ w1.heap.size (hbw1.trans (alF.mono hbw1.size)) (Blk.new w1 _ _)) ?_;rintro ee w2 ⟨rfl,hb2⟩;have hbw2 := (hbw1.trans (alF.mono hbw1.size)).trans (hb2.mono (hbw1.trans (alF.mono hbw1.size)).size);have BF2 := (Blk.new w1 #[.string y1,.int .i64 y2,.int .i64 y3,.int .i64 y4,.string y5] 56).below hb2;have BS2 := (BS1.below alF).below hb2;have BE2 := (BE1.below alF).below hb2;have BR2 := (BR1.below alF).below hb2;have HLB : Hid (w.heap.size ≤ w1.heap.size) := hbw1.size;clear alF hb2 HCN hbw1 BS1 BE1 BR1 e0 e1 hbl hbl0 hbl2;obtain ⟨bf,hbf⟩ : ∃ z,w1.heap.size = z := ⟨_,rfl⟩;rw [hbf] at BF2 HLB
  try simp only [hbf]
  clear hbf
  cases A with
  | false =>
   have HR2 : Hid (entP (prM n s) fs (tag,xl) = none) := hid (by rw [HR.out]; rfl);clear HR HTR HLL HFT BF2 BS2 BE2;have r0 := (BR2.cell 0).trans rfl;have rz0 := BR2.froz 0;have r1 := (BR2.cell 1).trans rfl;have rz1 := BR2.froz 1;go_wp2_with fail;have hbe : ∀ u v,Below w.heap.size w ((w2.setCell ⟨b0 + 3,0,none⟩ u).setCell ⟨b0 + 3,1,none⟩ v) := fun u v => Below.setCell (p := ⟨b0 + 3,1,none⟩) (Below.setCell (p := ⟨b0 + 3,0,none⟩) hbw2 (by have := HBZ.out; show w.heap.size ≤ b0 + 3; omega) _) (by have := HBZ.out; show w.heap.size ≤ b0 + 3; omega) _
   exact bodyPost_ret (results_two rfl _ _ _ ⟨b0 + 3,0,none⟩ (.agg #[.int .i64 0,.slice none 0 0]) (by go_simp) (by go_simp)) rfl (EntP.no HR2.out (Grw.below HKN.out (hbe _ _)))
  | true =>
   have HR2 : Hid (entP (prM n s) fs (tag,xl) = if y3 = 1 ∧ zroB (YS.headD tr0) = true then none else some (y2,YS)) := (by rw [HR.out]; rfl : entP (prM n s) fs (tag,xl) = _);clear HR;obtain ⟨s0,s1,s2,s3,s4⟩ := cl5 BS2;have e1 := (BE2.cell 1).trans rfl;obtain ⟨f0,f1,f2,f3,f4⟩ := cl5 BF2;have hK2 := HKN.out.mk_below hbw2;go_wp2_with fail;refine Calls.mono (HTR.out _ F trivial hK2) ?_;rintro ee w3 ⟨ya,yc,G,rfl,hg,hse⟩;have BE3 := BE2.kp hg.kp (hK2.neB BE2);have BR3 := BR2.kp hg.kp (hK2.neB BR2);have BF3 := BF2.kp hg.kp (hK2.neB BF2);have hrb : b0 + 3 ≠ b := hK2.neB BR2
   have hnF : ¬ F (b0 + 3) := fun e => by have h1 := (HKN.out.new _ e).2; have h2 := HBZ.out; omega
   have hnG : ¬ G (b0 + 3) := hg.fresh BR2 hnF;have HG : Hid (Grw s W0 b F w w3 G) := hg.before hbw2;have HSE : Hid (SeeL n w3 (.slice ya YS.length yc) YS G) := hse
   have HGA : Hid (∀ W u v,Below w3.heap.size w3 W → Grw s W0 b F w ((W.setCell ⟨b0 + 3,0,none⟩ u).setCell ⟨b0 + 3,1,none⟩ v) G ∧ Stay G w3 ((W.setCell ⟨b0 + 3,0,none⟩ u).setCell ⟨b0 + 3,1,none⟩ v)) := (fun W u v hW => by
    have hk2 : Kp (fun q => q = b0 + 3) w3 ((W.setCell ⟨b0 + 3,0,none⟩ u).setCell ⟨b0 + 3,1,none⟩ v) := Kp.setCell (S := fun q => q = b0 + 3) (p := ⟨b0 + 3,1,none⟩) (Kp.setCell (S := fun q => q = b0 + 3) (p := ⟨b0 + 3,0,none⟩) (Kp.ofBelow hW) (fun _ => rfl) _) (fun _ => rfl) _
    have hs2 : ∀ q,q = b0 + 3 → w.heap.size ≤ q ∧ ¬ G q ∧ q ≠ b := fun q e => by subst e; exact ⟨by have := HBZ.out; omega,hnG,hrb⟩
    exact ⟨HG.out.after HKN.out.below.size hk2 hs2,HG.out.stay hk2 hs2⟩ : ∀ W u v,Below w3.heap.size w3 W → _ ∧ _)
   clear s0 s1 s2 s3 s4 e1 f0 f1 f2 f3 f4 BS2 BE2 BF2 BR2 hg hse hrb hnF hnG hK2 hbw2 HTR;have e0 := (BE3.cell 0).trans rfl;have f2 := (BF3.cell 2).trans rfl;have r0 := (BR3.cell 0).trans rfl;have rz0 := BR3.froz 0;have r1 := (BR3.cell 1).trans rfl;have rz1 := BR3.froz 1;clear BE3 BF3;obtain ⟨M,hM⟩ : ∃ z,YS.length = z := ⟨_,rfl⟩;have HM : Hid (YS.length = M) := hM
   have hM1 : 1 ≤ M := by rw [← hM]; exact HLL.out
   rw [hM] at HSE;simp only [hM];clear hM HLL
   by_cases hy : y3 = 1
   ·subst hy;obtain ⟨x,hx⟩ : ∃ r,YS[0]? = some r := ⟨_,List.getElem?_eq_getElem (by rw [HM.out]; omega)⟩;obtain ⟨gx,off,a1,n1,c1,a2,n2,c2,rfl,y0,y1',y2',y3',y4',hxw⟩ := trsR_get HSE.out.now hx;simp only [Nat.zero_mul,Nat.add_zero] at y0 y1' y2' y3' y4'
    have hhd : YS.headD tr0 = x := by
     cases YS with
     | nil => simp at hx
     | cons a l => simpa using hx
    obtain ⟨Z,hZ⟩ : ∃ z,zroB x = z := ⟨_,rfl⟩
    have HZ : Hid (∀ W,Calls Tryz.prog 85 #[.agg #[.int .i64 x.kind,.int .i64 x.n,.string x.s,.slice a1 n1 c1,.slice a2 n2 c2]] W fun e w' => e = .returned (.bool Z) ∧ Below W.heap.size W w') := fun W => by
     obtain ⟨-, -, -,q4,q5⟩ := hxw.parts;rw [← hZ];exact zero_any x a1 a2 n1 c1 n2 c2 W q4.symm q5.symm
    have HR3 : Hid (entP (prM n s) fs (tag,xl) = if Z = true then none else some (y2,YS)) := (by rw [HR2.out,hhd,hZ]; simp : entP (prM n s) fs (tag,xl) = _);clear hhd hZ hxw hx HR2;generalize x.kind = XK at *;generalize x.n = XN at *;generalize x.s = XS at *;go_wp2_with fail;refine Calls.mono (HZ.out _) ?_;rintro ee w4 ⟨rfl,hb4⟩;have e0 := (hb4.cell (World.block_lt_of_cell? _ _ e0)).trans e0;have BR4 := BR3.below hb4;clear HZ r0 rz0 r1 rz1 y0 y1' y2' y3' y4' f2;have r0 := (BR4.cell 0).trans rfl;have rz0 := BR4.froz 0;have r1 := (BR4.cell 1).trans rfl;have rz1 := BR4.froz 1;clear BR3 BR4
    cases Z with
    | true =>
     have HR4 : Hid (entP (prM n s) fs (tag,xl) = none) := hid (by rw [HR3.out]; rfl);clear HR3;go_wp2_with fail;exact bodyPost_ret (results_two rfl _ _ _ ⟨b0 + 3,0,none⟩ (.agg #[.int .i64 0,.slice none 0 0]) (by go_simp) (by go_simp)) rfl (EntP.no HR4.out (HGA.out _ _ _ hb4).1)
    | false =>
     have HR4 : Hid (entP (prM n s) fs (tag,xl) = some (y2,YS)) := (by rw [HR3.out]; rfl : entP (prM n s) fs (tag,xl) = _);clear HR3;go_wp2_with fail;refine bodyPost_ret (results_two rfl _ _ _ ⟨b0 + 3,0,none⟩ (.agg #[.int .i64 tag,.slice (some ⟨gx,off,none⟩) M yc]) (by go_simp) (by go_simp)) rfl ?_;refine ⟨_,yc,G,tag,YS,true,by rw [HM.out]; rfl,(HGA.out _ _ _ hb4).1,?_,.inr ⟨by rw [HR4.out]; exact congrArg (fun z => some (z,YS)) HFT.out,rfl⟩⟩;rw [HM.out];exact HSE.out.stay (HGA.out _ _ _ hb4).2
   ·have d1 : (y3 == 1) = false := by simpa using hy
    have HR3 : Hid (entP (prM n s) fs (tag,xl) = some (y2,YS)) := (by rw [HR2.out,if_neg (fun h => hy h.1)] : entP (prM n s) fs (tag,xl) = _);clear HR2 hy;go_wp2_with fail;refine bodyPost_ret (results_two rfl _ _ _ ⟨b0 + 3,0,none⟩ (.agg #[.int .i64 tag,.slice ya M yc]) (by go_simp) (by go_simp)) rfl ?_;refine ⟨ya,yc,G,tag,YS,true,by rw [HM.out]; rfl,(HGA.out _ _ _ (Below.refl _ _)).1,?_,.inr ⟨by rw [HR3.out]; exact congrArg (fun z => some (z,YS)) HFT.out,rfl⟩⟩;rw [HM.out];exact HSE.out.stay (HGA.out _ _ _ (Below.refl _ _)).2
theorem infoFl : (Tryz.prog.info? 56).map (fun i => (i.zero,i.size,i.bytes)) = some (some (.agg #[.string ⟨#[]⟩,.int .i64 0,.int .i64 0,.int .i64 0,.string ⟨#[]⟩]),5,56) := by kernel_rfl
theorem infoIn : (Tryz.prog.info? 3).map (fun i => (i.zero,i.size,i.bytes)) = some (some (.int .i64 0),1,8) := by kernel_rfl
theorem infoNm : (Tryz.prog.info? 61).map (fun i => (i.zero,i.size,i.bytes)) = some (some (.agg #[.string ⟨#[]⟩,.int .i64 0]),2,24) := by kernel_rfl
theorem infoMs : (Tryz.prog.info? 52).map (fun i => (i.zero,i.size,i.bytes)) = some (some (.agg #[.string ⟨#[]⟩,.slice none 0 0,.slice none 0 0]),3,64) := by kernel_rfl
theorem infoEn : (Tryz.prog.info? 59).map (fun i => (i.zero,i.size,i.bytes)) = some (some (.agg #[.string ⟨#[]⟩,.slice none 0 0]),2,40) := by kernel_rfl
theorem infoMt : (Tryz.prog.info? 63).map (fun i => (i.zero,i.size,i.bytes)) = some (some (.agg #[.string ⟨#[]⟩,.string ⟨#[]⟩,.string ⟨#[]⟩]),3,48) := by kernel_rfl
theorem flr_len (fs : List FlS) : ∀ r ∈ flRows fs,r.length = 5 := fun r hr => by simp only [flRows,List.mem_map] at hr; obtain ⟨_,_,rfl⟩ := hr; rfl
theorem inr_len (fs : List Int) : ∀ r ∈ inRows fs,r.length = 1 := fun r hr => by simp only [inRows,List.mem_map] at hr; obtain ⟨_,_,rfl⟩ := hr; rfl
theorem nmr_len (fs : List NmS) : ∀ r ∈ nmRows fs,r.length = 2 := fun r hr => by simp only [nmRows,List.mem_map] at hr; obtain ⟨_,_,rfl⟩ := hr; rfl
theorem mtr_len (fs : List MtS) : ∀ r ∈ mtRows fs,r.length = 3 := fun r hr => by simp only [mtRows,List.mem_map] at hr; obtain ⟨_,_,rfl⟩ := hr; rfl
theorem flr_one (fs : List FlS) : ∀ u ∈ (flRows fs).flatten,u.oneCell' = true := by
 intro u hu;simp only [List.mem_flatten,flRows,List.mem_map] at hu;obtain ⟨l,⟨f,_,rfl⟩,hu⟩ := hu;simp only [FlS.cells,List.mem_cons,List.not_mem_nil,or_false] at hu
 rcases hu with rfl | rfl | rfl | rfl | rfl <;> rfl
theorem inr_one (fs : List Int) : ∀ u ∈ (inRows fs).flatten,u.oneCell' = true := by
 intro u hu;simp only [List.mem_flatten,inRows,List.mem_map] at hu;obtain ⟨l,⟨f,_,rfl⟩,hu⟩ := hu;simp only [List.mem_cons,List.not_mem_nil,or_false] at hu;subst hu; rfl
theorem nmr_one (fs : List NmS) : ∀ u ∈ (nmRows fs).flatten,u.oneCell' = true := by
 intro u hu;simp only [List.mem_flatten,nmRows,List.mem_map] at hu;obtain ⟨l,⟨f,_,rfl⟩,hu⟩ := hu;simp only [NmS.cells,List.mem_cons,List.not_mem_nil,or_false] at hu
 rcases hu with rfl | rfl <;> rfl
theorem mtr_one (fs : List MtS) : ∀ u ∈ (mtRows fs).flatten,u.oneCell' = true := by
 intro u hu;simp only [List.mem_flatten,mtRows,List.mem_map] at hu;obtain ⟨l,⟨f,_,rfl⟩,hu⟩ := hu;simp only [MtS.cells,List.mem_cons,List.not_mem_nil,or_false] at hu
 rcases hu with rfl | rfl | rfl <;> rfl
theorem freshF_any {w : World} {v : Value} {fs : List FlS} (hr : RowG w v 5 (flRows fs)) (hl : fs.length ≤ 100) :
  Calls Tryz.prog 38 #[v] w fun e w' => ∃ r,e = .returned r ∧ w'.ownsRow w.heap.size 56 5 r fs.length (flRows fs).flatten ∧ Below w.heap.size w w' := by
 have hN : (flRows fs).length = fs.length := by simp [flRows]
 have HN : Hid ((flRows fs).length = fs.length) := hN;have HR : Hid (RowG w v 5 (flRows fs)) := hr;have HL : Hid (fs.length ≤ 100) := hl;clear hr hN hl
 go_enter Tryz.func38,Tryz.ntmps38
 go_wp2_with (first
  | (at_builtin; refine wpList_joinG rfl _ _ 49 56 5 56 _ rfl Tryz.underlying49 infoFl rfl (by decide) w.heap.size (.slice none 0 0) 0 [] rfl (World.ownsRow_nil _ _ _ _) v (flRows fs) rfl HR.out (flr_len fs) (flr_one fs) ?c1 (by decide) (Nat.le_refl _) ?_)
  | fail)
 case c1 => have h1 := HN.out; have h2 := HL.out; omega
 intro r w1 ho hg;have hb : Below w.heap.size w w1 := (Below.refl _ _).grown hg (Nat.le_refl _) (fun k hk => by cases hk)
 have HO : Hid (w1.ownsRow w.heap.size 56 5 r fs.length (flRows fs).flatten) := by
  show World.ownsRow _ _ _ _ _ _ _
  rw [HN.out] at ho;exact ho
 clear hg ho;go_wp2_with fail;go_ret;exact ⟨_,rfl,HO.out,hb⟩
theorem freshI_any {w : World} {v : Value} {fs : List Int} (hr : RowG w v 1 (inRows fs)) (hl : fs.length ≤ 100) :
  Calls Tryz.prog 39 #[v] w fun e w' => ∃ r,e = .returned r ∧ w'.ownsRow w.heap.size 3 1 r fs.length (inRows fs).flatten ∧ Below w.heap.size w w' := by
 have hN : (inRows fs).length = fs.length := by simp [inRows]
 have HN : Hid ((inRows fs).length = fs.length) := hN;have HR : Hid (RowG w v 1 (inRows fs)) := hr;have HL : Hid (fs.length ≤ 100) := hl;clear hr hN hl
 go_enter Tryz.func39,Tryz.ntmps39
 go_wp2_with (first
  | (at_builtin; refine wpList_joinG rfl _ _ 50 3 1 8 _ rfl Tryz.underlying50 infoIn rfl (by decide) w.heap.size (.slice none 0 0) 0 [] rfl (World.ownsRow_nil _ _ _ _) v (inRows fs) rfl HR.out (inr_len fs) (inr_one fs) ?c1 (by decide) (Nat.le_refl _) ?_)
  | fail)
 case c1 => have h1 := HN.out; have h2 := HL.out; omega
 intro r w1 ho hg;have hb : Below w.heap.size w w1 := (Below.refl _ _).grown hg (Nat.le_refl _) (fun k hk => by cases hk)
 have HO : Hid (w1.ownsRow w.heap.size 3 1 r fs.length (inRows fs).flatten) := by
  show World.ownsRow _ _ _ _ _ _ _
  rw [HN.out] at ho;exact ho
 clear hg ho;go_wp2_with fail;go_ret;exact ⟨_,rfl,HO.out,hb⟩
end
section
open Go.ChangeShapes Go.WideShapes Go.ChangeAt Go.RowKit Go.Maps
theorem cmessage_any {w : World} {snm nm : ByteArray} {ae at' : Option Addr} {E ce T ct : Nat} {vm : Value} {ms : List MsS} (hr : MsIn w vm ms) (hl : ∀ m ∈ ms,m.fields.length ≤ 20 ∧ m.reserved.length ≤ 40) :
  Calls Tryz.prog 21 #[.agg #[.string snm,vm,.slice ae E ce,.slice at' T ct],.string nm] w fun e w' => ∃ vf vr,e = .returned (.tuple #[.agg #[.string ((ms.find? (fun m => decide (m.name = nm))).getD zeroM).name,vf,vr],.bool (ms.find? (fun m => decide (m.name = nm))).isSome]) ∧ w'.ownsRow w.heap.size 56 5 vf ((ms.find? (fun m => decide (m.name = nm))).getD zeroM).fields.length (flRows ((ms.find? (fun m => decide (m.name = nm))).getD zeroM).fields).flatten ∧ w'.ownsRow w.heap.size 3 1 vr ((ms.find? (fun m => decide (m.name = nm))).getD zeroM).reserved.length (inRows ((ms.find? (fun m => decide (m.name = nm))).getD zeroM).reserved).flatten ∧ Below w.heap.size w w' := by
 obtain ⟨a,c,rfl,q1,q2⟩ := hr.form2;have HR : Hid (MsIn w (.slice a ms.length c) ms) := hr;obtain ⟨N,hN⟩ : ∃ N,ms.length = N := ⟨_,rfl⟩;rw [hN] at HR q1 ⊢;have HN : Hid (ms.length = N) := hN;clear hN hr;have HL : Hid (∀ m ∈ ms,m.fields.length ≤ 20 ∧ m.reserved.length ≤ 40) := hl;clear hl;obtain ⟨A,hA⟩ : ∃ A,(ms.find? (fun m => decide (m.name = nm))) = A := ⟨_,rfl⟩;rw [hA];have HA : Hid (A = ((ms.drop 0).find? (fun m => decide (m.name = nm)))) := hA.symm;clear hA;have BX0 : Blk ((w.alloc (.cells #[.string snm,.slice a N c,.slice ae E ce,.slice at' T ct] 26)).alloc (.cells #[.string ⟨#[]⟩,.slice none 0 0,.slice none 0 0] 52)) w.heap.size #[.string snm,.slice a N c,.slice ae E ce,.slice at' T ct] 26 := (Blk.new w _ _).below (bra _)
 have BR0 : Blk ((w.alloc (.cells #[.string snm,.slice a N c,.slice ae E ce,.slice at' T ct] 26)).alloc (.cells #[.string ⟨#[]⟩,.slice none 0 0,.slice none 0 0] 52)) (w.heap.size + 1) #[.string ⟨#[]⟩,.slice none 0 0,.slice none 0 0] 52 := by
  have := Blk.new (w.alloc (.cells #[.string snm,.slice a N c,.slice ae E ce,.slice at' T ct] 26)) #[.string ⟨#[]⟩,.slice none 0 0,.slice none 0 0] 52
  rwa [show (w.alloc (.cells #[.string snm,.slice a N c,.slice ae E ce,.slice at' T ct] 26)).heap.size = w.heap.size + 1 by simp] at this
 have hb0 : Below w.heap.size w ((w.alloc (.cells #[.string snm,.slice a N c,.slice ae E ce,.slice at' T ct] 26)).alloc (.cells #[.string ⟨#[]⟩,.slice none 0 0,.slice none 0 0] 52)) := (bra _).alloc (by simp) _
 go_enter Tryz.func21,Tryz.ntmps21
 go_wp2_with fail
 go_loopw [11] (fun iv wr => ∃ k : Nat,iv = .int .i64 (k : Int) ∧ k ≤ N ∧ Hid (A = ((ms.drop k).find? (fun m => decide (m.name = nm)))) ∧ Below w.heap.size w wr ∧ Blk wr (w.heap.size + 1) #[.string ⟨#[]⟩,.slice none 0 0,.slice none 0 0] 52) (fun iv _ => N - (intOf iv).toNat)
 case atStart => exact ⟨0,rfl,by omega,HA,hb0,BR0⟩
 case round =>
  obtain ⟨k,rfl,hk,HAk,hbel,BR⟩ := hrel;clear BX0 BR0 hb0;have hlt2 : w.heap.size + 1 < wr.heap.size := BR.lt;have r0 := (BR.cell 0).trans rfl;have z0 := BR.froz 0;have r1 := (BR.cell 1).trans rfl;have z1 := BR.froz 1;have r2 := (BR.cell 2).trans rfl;have z2 := BR.froz 2
  by_cases hlt : k < N
  ·obtain ⟨f,hf⟩ : ∃ n,ms[k]? = some n := ⟨_,List.getElem?_eq_getElem (by rw [HN.out]; exact hlt)⟩;obtain ⟨g,off,vf,vr,rfl,c0',c1',c2',hrf,hrr⟩ := HR.out.get hf;have c0 := (hbel.cell (World.block_lt_of_cell? _ _ c0')).trans c0';have c1 := (hbel.cell (World.block_lt_of_cell? _ _ c1')).trans c1';have c2 := (hbel.cell (World.block_lt_of_cell? _ _ c2')).trans c2';clear c0' c1' c2';have HF : Hid (RowG w vf 5 (flRows f.fields)) := hrf;have HV : Hid (RowG w vr 1 (inRows f.reserved)) := hrr;obtain ⟨a3,c3,rfl,_,_⟩ := hrf.form2;obtain ⟨a4,c4,rfl,_,_⟩ := hrr.form2;have HF : Hid (RowG w (.slice a3 (flRows f.fields).length c3) 5 (flRows f.fields)) := HF;have HV : Hid (RowG w (.slice a4 (inRows f.reserved).length c4) 1 (inRows f.reserved)) := HV;have HLf : Hid _ := HL.out f (List.mem_of_getElem? hf)
   have HA2 : Hid (A = if decide (f.name = nm) = true then some f else ((ms.drop (k + 1)).find? (fun m => decide (m.name = nm)))) := by
    show _ = _
    rw [HAk.out,drop_at hf,List.find?_cons]
    cases decide (f.name = nm) <;> rfl
   obtain ⟨f0,ff,fr⟩ := f;simp only at c0 c1 c2 HA2 HF HV HLf;generalize hnF : (flRows ff).length = nF at *;generalize hnR : (inRows fr).length = nR at *;clear hrf hrr hf HAk hnF hnR
   by_cases he : f0 = nm
   ·subst he
    have HA3 : Hid (A = some ⟨f0,ff,fr⟩) := by show _ = _; rw [HA2.out,if_pos (by simp)]
    clear HA2;go_wp2_with fail;refine wp_region_held_drew (S := fun _ => True) (by kernel_rfl) trivial (fun hS => ?_);have hba : Below w.heap.size w (wr.alloc (.cells #[.string f0,.slice a3 nF c3,.slice a4 nR c4] 52)).drew := below_drewN 1 (hbel.alloc (by omega) _);have BT : Blk (wr.alloc (.cells #[.string f0,.slice a3 nF c3,.slice a4 nR c4] 52)).drew wr.heap.size #[.string f0,.slice a3 nF c3,.slice a4 nR c4] 52 := Blk.new wr #[.string f0,.slice a3 nF c3,.slice a4 nR c4] 52;have BR2 : Blk (wr.alloc (.cells #[.string f0,.slice a3 nF c3,.slice a4 nR c4] 52)).drew (w.heap.size + 1) #[.string ⟨#[]⟩,.slice none 0 0,.slice none 0 0] 52 := BR.below (below_drewN 1 (bra _))
    have HSZ : Hid ((wr.alloc (.cells #[.string f0,.slice a3 nF c3,.slice a4 nR c4] 52)).drew.heap.size = wr.heap.size + 1) := by show _ = _; simp [World.drew]
    generalize (wr.alloc (.cells #[.string f0,.slice a3 nF c3,.slice a4 nR c4] 52)).drew = W0 at *;obtain ⟨bt,hbt⟩ : ∃ n,wr.heap.size = n := ⟨_,rfl⟩;rw [hbt] at BT HSZ hlt2 ⊢;clear hbt c0 c1 c2 r0 r1 r2 z0 z1 z2 hS;have t1 : W0.cell? ⟨bt,1,none⟩ = some (.slice a3 nF c3) := BT.cell 1;have t2 : W0.cell? ⟨bt,2,none⟩ = some (.slice a4 nR c4) := BT.cell 2;refine rg_tk 0 19 (.pointer (some ⟨bt,1,none⟩)) (fun w' hw' => ?_) trivial (bts 10 1) ?_
    ·go_simp
    refine rg_tk 3 22 (.pointer (some ⟨bt,2,none⟩)) (fun w' hw' => ?_) trivial (bts 10 9) ?_
    ·go_simp
    refine rg_llc 1 4 2 20 23 21 (.slice a3 nF c3) (.slice a4 nR c4) 38 #[.slice a3 nF c3] (fun W => W.cell? ⟨bt,2,none⟩ = some (.slice a4 nR c4)) rfl rfl rfl rfl rfl rfl (by kernel_rfl) (by kernel_rfl) (by kernel_rfl) (by kernel_rfl) (by kernel_rfl) (fun _ => rfl) (fun _ => rfl) (fun _ => rfl) (by decide) (by decide) (by decide) (by decide) (by go_simp) (by go_simp) (by go_simp) (by go_simp) (fun v W hLD => by go_simp) (fun W => by go_simp) (fun W => by go_simp) ?_;refine (freshF_any (HF.out.below hba) (by have := HLf.out; omega)).mono ?_;rintro e w2 ⟨rv,rfl,ho,hb2⟩;have BT2 := BT.below hb2;have BR3 := BR2.below hb2;have hbw2 : Below w.heap.size w w2 := hba.trans (hb2.mono hba.size);refine ⟨_,rfl,BT2.cell 2,?_⟩;simp only [zsA,zsZ,zsS];clear t1 t2;refine rg_tk 6 25 (.pointer (some ⟨bt,1,none⟩)) (fun w' hw' => ?_) trivial (bts 10 95) ?_
    ·go_simp
    refine rg_cl 5 24 39 #[.slice a4 nR c4] (bts 10 127) rfl (fun W => by go_simp) ?_;refine (freshI_any (HV.out.below hbw2) (by have := HLf.out; omega)).mono ?_;rintro e w3 ⟨rw,rfl,ho2,hb3⟩;refine ⟨_,rfl,trivial,?_⟩;simp only [zsA,zsZ,zsS];have BT3 := BT2.below hb3;have BR4 := BR3.below hb3;have hbw : Below w.heap.size w w3 := hbw2.trans (hb3.mono hbw2.size)
    have HO1 : Hid (w3.ownsRow (bt + 1) 56 5 rv ff.length (flRows ff).flatten) := by show World.ownsRow _ _ _ _ _ _ _; rw [HSZ.out] at ho; exact own_below ho hb3
    have HO2 : Hid (w3.ownsRow (bt + 1) 3 1 rw fr.length (inRows fr).flatten) := own_base ho2 (by have := hb2.size; have := HSZ.out; omega);obtain ⟨ra,rc,hrv⟩ := own_form ho;obtain ⟨qa,qc,hqv⟩ := own_form ho2;subst hrv hqv;have HO1 : Hid (w3.ownsRow (bt + 1) 56 5 (.slice ra ff.length rc) ff.length (flRows ff).flatten) := HO1;have HO2 : Hid (w3.ownsRow (bt + 1) 3 1 (.slice qa fr.length qc) fr.length (inRows fr).flatten) := HO2;obtain ⟨nFF,hNL⟩ : ∃ x,ff.length = x := ⟨_,rfl⟩;obtain ⟨nRR,hRL⟩ : ∃ x,fr.length = x := ⟨_,rfl⟩;rw [hNL] at HO1 ⊢;rw [hRL] at HO2 ⊢;have HNL : Hid (ff.length = nFF) := hNL;have HRL : Hid (fr.length = nRR) := hRL;clear hNL hRL;have hlt3 : bt < w3.heap.size := BT3.lt;clear ho ho2 hb2 hb3 BT BT2 BR2 BR3 hba hbw2 hbel HSZ BR;have t0 : w3.cell? ⟨bt,0,none⟩ = some (.string f0) := BT3.cell 0;have t1 : w3.cell? ⟨bt,1,none⟩ = some (.slice a3 nF c3) := BT3.cell 1;have t2 : w3.cell? ⟨bt,2,none⟩ = some (.slice a4 nR c4) := BT3.cell 2;have y1 := BT3.froz 1;have y2 := BT3.froz 2;obtain ⟨r0,r1,r2⟩ := cl3 BR4;have z0 := BR4.froz 0;have z1 := BR4.froz 1;have z2 := BR4.froz 2
    have hdd : w.heap.size + 1 ≠ bt := by omega
    refine rg_store 7 (w3.setCell ⟨bt,1,none⟩ (.slice ra nFF rc)) rfl rfl (by kernel_rfl) (by rfl) (listed' := bts 10 255) (by kernel_rfl) (by go_simp) trivial ?_;refine rg_tk 8 26 (.pointer (some ⟨bt,2,none⟩)) (fun w' hw' => ?_) trivial (bts 10 511) ?_
    ·go_simp
    refine rg_store 9 ((w3.setCell ⟨bt,1,none⟩ (.slice ra nFF rc)).setCell ⟨bt,2,none⟩ (.slice qa nRR qc)) rfl rfl (by kernel_rfl) (by rfl) (listed' := bts 10 1023) (by kernel_rfl) (by go_simp) trivial ?_;refine wpAnyH_done (by kernel_rfl) ?_ _;go_wp2_with fail;refine bodyPost_ret (results_two rfl _ _ _ ⟨w.heap.size + 1,0,none⟩ (.agg #[.string f0,.slice ra nFF rc,.slice qa nRR qc]) (by go_simp) (by go_simp)) rfl ?_;refine ⟨.slice ra nFF rc,.slice qa nRR qc,ret_two (by rw [HA3.out]; rfl) (by rw [HA3.out]; rfl),?_,?_,?_⟩
    ·rw [HA3.out];rw [show ((some (⟨f0,ff,fr⟩ : MsS)).getD zeroM).fields.length = nFF from HNL.out];refine own_base (own_kp HO1.out (S := fun k => k = bt ∨ k = w.heap.size + 1) ?_ (fun k hk => by omega)) (by omega)
     repeat' first | exact Kp.refl _ _ | refine Kp.setCell ?_ (fun _ => by simp) _
    ·rw [HA3.out];rw [show ((some (⟨f0,ff,fr⟩ : MsS)).getD zeroM).reserved.length = nRR from HRL.out];refine own_base (own_kp HO2.out (S := fun k => k = bt ∨ k = w.heap.size + 1) ?_ (fun k hk => by omega)) (by omega)
     repeat' first | exact Kp.refl _ _ | refine Kp.setCell ?_ (fun _ => by simp) _
    ·repeat' first | exact hbw | refine Below.setCell ?_ (by first | (simp; done) | (simp; omega)) _
   ·have hq := bytes_ne he
    have HA3 : Hid (A = ((ms.drop (k + 1)).find? (fun m => decide (m.name = nm)))) := by show _ = _; rw [HA2.out,if_neg (by simpa using he)]
    have hb2 : Below w.heap.size w (wr.alloc (.cells #[.string f0,.slice a3 nF c3,.slice a4 nR c4] 52)) := hbel.alloc (by omega) _;have BR2 : Blk (wr.alloc (.cells #[.string f0,.slice a3 nF c3,.slice a4 nR c4] 52)) (w.heap.size + 1) #[.string ⟨#[]⟩,.slice none 0 0,.slice none 0 0] 52 := BR.below (bra _);go_wp2_with fail
    go_roundw
    case rel => exact ⟨k + 1,by go_num,by omega,HA3,hb2,BR2⟩
    case measure => simp [intOf]; omega
  ·have HA2 : Hid (A = none) := by show _ = _; rw [HAk.out,drop_end (by rw [HN.out]; omega)]; rfl
   go_wp2_with fail;refine bodyPost_ret (results_two rfl _ _ _ ⟨w.heap.size + 1,0,none⟩ (.agg #[.string ⟨#[]⟩,.slice none 0 0,.slice none 0 0]) (by go_simp) (by go_simp)) rfl ?_;exact ⟨.slice none 0 0,.slice none 0 0,ret_two (by rw [HA2.out]; rfl) (by rw [HA2.out]; rfl),by rw [HA2.out]; exact World.ownsRow_nil _ _ _ _,by rw [HA2.out]; exact World.ownsRow_nil _ _ _ _,(Below.setCell (Below.setCell (Below.setCell hbel (by simp) _) (by simp) _) (by simp) _)⟩
end
section
open Go.ChangeShapes Go.WideShapes Go.ChangeAt Go.RowKit
section
variable {T MT : TypeId} {k : Value}
variable {E : TypeId} {L : List (Value × Value)} {b : Nat} {w : World}
end
theorem wpList_appP {ops : Array Oper} {rest : List Oper} {o : Oper} {a : Act} {Q : Exit → Act → World → Prop} {w w' : World} {t : TypeId} {v y v' : Value} (hgd : o.guard = none) (s x : Operand) (hop : o.op = .call { callee := .builtin .append,args := #[s,x],argTypes := #[t,t] })
  (hs : a.eval s = v) (hx : a.eval x = y) (hr : (Builtin.append_ #[t,t] o.type #[v,y]).run Tryz.prog w = .ok v' w') (h : wpList Tryz.prog ops Q rest (a.put o.dst v') w') : wpList Tryz.prog ops Q (o :: rest) a w :=
 wpList_plain hgd fun K hK => by
  unfold Oper.wp;rw [append_run hop hs hx hr];exact hK _ _ h
theorem p3blk (w : World) (c1 c2 c3 : Array Value) (t1 t2 t3 : TypeId) : Blk (((w.alloc (.cells c1 t1)).alloc (.cells c2 t2)).alloc (.cells c3 t3)) w.heap.size c1 t1 ∧ Blk (((w.alloc (.cells c1 t1)).alloc (.cells c2 t2)).alloc (.cells c3 t3)) (w.heap.size + 1) c2 t2 ∧ Blk (((w.alloc (.cells c1 t1)).alloc (.cells c2 t2)).alloc (.cells c3 t3)) (w.heap.size + 2) c3 t3 ∧ Below w.heap.size w (((w.alloc (.cells c1 t1)).alloc (.cells c2 t2)).alloc (.cells c3 t3)) := by
 have e1 : (w.alloc (.cells c1 t1)).heap.size = w.heap.size + 1 := by simp
 have e2 : ((w.alloc (.cells c1 t1)).alloc (.cells c2 t2)).heap.size = w.heap.size + 2 := by simp
 have a1 : Below w.heap.size w (w.alloc (.cells c1 t1)) := bra _;have a2 : Below (w.alloc (.cells c1 t1)).heap.size (w.alloc (.cells c1 t1)) ((w.alloc (.cells c1 t1)).alloc (.cells c2 t2)) := bra _;have a3 : Below ((w.alloc (.cells c1 t1)).alloc (.cells c2 t2)).heap.size ((w.alloc (.cells c1 t1)).alloc (.cells c2 t2)) (((w.alloc (.cells c1 t1)).alloc (.cells c2 t2)).alloc (.cells c3 t3)) := bra _;refine ⟨((Blk.new w c1 t1).below a2).below a3,?_,?_,(a1.trans (a2.mono a1.size)).trans (a3.mono (Nat.le_trans a1.size a2.size))⟩
 ·have := (Blk.new (w.alloc (.cells c1 t1)) c2 t2).below a3
  rwa [e1] at this
 ·have := Blk.new ((w.alloc (.cells c1 t1)).alloc (.cells c2 t2)) c3 t3
  rwa [e2] at this
theorem pmsg_ents {n : Nat} {t : Tr} (h : okN (n + 1) t = true) (hk : t.kind = 3) : entsB 0 t.es = true ∧ ∀ e ∈ t.es,∀ x ∈ e.2,okN n x = true := by
 simp only [okN,Bool.and_eq_true,if_pos hk] at h;obtain ⟨h2,h3⟩ := h;refine ⟨?_,fun e he x hx => List.all_eq_true.1 h3 x (mem_subs.2 ⟨e,he,hx⟩)⟩;unfold lvB at h2;rw [if_neg (by rw [hk]; decide),if_neg (by rw [hk]; decide),if_pos hk] at h2;simp only [Bool.and_eq_true] at h2;obtain ⟨⟨_,h2⟩,_⟩ := h2;exact h2
theorem pfld_kinds {s : ScS} (hks : ∀ nm m,msgOf s nm = some m → ∀ f ∈ m.fields,1 ≤ f.kind ∧ f.kind ≤ 7) {nm : ByteArray} {t : Int} {f : FlS} (h : fldOf ((msgOf s nm).getD zMs).fields t = some f) : 1 ≤ f.kind ∧ f.kind ≤ 7 := by
 have hm := (fldP h).2
 cases hq : msgOf s nm with
 | none => rw [hq] at hm; cases hm
 | some m => rw [hq] at hm; exact hks nm m hq f hm
theorem Grw.upd {s : ScS} {W0 w w1 w2 : World} {b : Nat} {F H : Nat → Prop} (h : Grw s W0 b F w w1 H) (hk : KnP s W0 w2 b H) (hkp : Kp (fun q => q = b) w1 w2) : Grw s W0 b F w w2 H := ⟨hk,h.sub,h.new,h.kp.trans hkp⟩
theorem pown_at {w w' : World} {base e s n bt b : Nat} {v : Value} {xs : List Value} (h : w.ownsRow base e s v n xs) (hk : Kp (fun q => q = b ∨ bt ≤ q) w w') (h1 : ∀ k,v.ownBlock = some k → k < bt ∧ k ≠ b) : w'.ownsRow base e s v n xs := MsP.kp.own_kpT2 h hk fun k e1 e2 => by
 have := h1 k e2
 rcases e1 with e1 | e1
 ·exact this.2 e1
 ·omega
theorem pown_more {w : World} {B B' e s n : Nat} {v : Value} {xs : List Value} (h : w.ownsRow B e s v n xs) (hb : B' ≤ B) : w.ownsRow B' e s v n xs := ⟨h.1,h.2.imp id fun ⟨g,cap,cur,h1,h2,h3⟩ => ⟨g,cap,cur,h1,Nat.le_trans hb h2,h3⟩⟩
theorem ptake_fm {α β : Type} {f : α → Option β} {l : List α} {i : Nat} {x : α} (h : l[i]? = some x) : (l.take (i + 1)).filterMap f = (l.take i).filterMap f ++ (f x).toList := by
 obtain ⟨hl,rfl⟩ := List.getElem?_eq_some_iff.1 h;rw [List.take_succ_eq_append_getElem hl,List.filterMap_append]
 congr 1
theorem pmsg_step {s : ScS} {W0 : World} {n : Nat} {sn : ByteArray} {ma ea ta : Option Addr} {mn mc en ec tn tc : Nat} (hks : ∀ nm m,msgOf s nm = some m → ∀ f ∈ m.fields,1 ≤ f.kind ∧ f.kind ≤ 7) (hms : MsIn W0 (.slice ma mn mc) s.msgs) (hfl : ∀ m ∈ s.msgs,m.fields.length ≤ 20 ∧ m.reserved.length ≤ 40) (IH : MsgC s W0 n sn ma ea ta mn mc en ec tn tc) : MsgC s W0 (n + 1) sn ma ea ta mn mc en ec tn tc := by
 intro b F nm t K N S a1 a2 n1 c1 n2 c2 w hKn hx hk3 hok hsm;obtain ⟨hen,hch⟩ := pmsg_ents hok hk3;obtain ⟨-, -,he40, -,hsub⟩ := hsm;have HJ : Hid (TrK (n + 1) W0 (plOf (.slice a1 n1 c1),plOf (.slice a2 n2 c2)) t) := hx.trK;obtain ⟨m',a1',c1',a2',c2',hmn,hv, -, -, -,u1,u2,x1,x2,x3,x4, -,hes, -, -⟩ := hx.open;simp only [Value.agg.injEq,Array.mk.injEq,List.cons.injEq,Value.int.injEq,Value.string.injEq,Value.slice.injEq,and_true,true_and] at hv;obtain ⟨-, -, -,⟨rfl,hn1,rfl⟩,rfl,hn2,rfl⟩ := hv
 obtain rfl : m' = n := by omega
 rw [← hn1] at u1 x3 hes;rw [← hn2] at x1 x4;have HES : Hid (EnsR m' W0 (.slice a1 n1 c1) t.es ∧ t.es.length = n1) := ⟨hes,hn1.symm⟩
 have hnn : n1 ≤ 500 := by rw [hn1]; exact he40
 have hI := fun W => pidentity_any K N S a1 a2 n1 c1 n2 c2 W u1 u2 x3 x1 x2 x4
 obtain ⟨⟨p1,m1⟩,hp1⟩ : ∃ z,plOf (.slice a1 n1 c1) = z := ⟨_,rfl⟩;obtain ⟨⟨p2,m2⟩,hp2⟩ : ∃ z,plOf (.slice a2 n2 c2) = z := ⟨_,rfl⟩;rw [hp1,hp2] at HJ hI;have HI : Hid (∀ W,Calls Tryz.prog 45 #[.agg #[.int .i64 K,.int .i64 N,.string S,.slice a1 n1 c1,.slice a2 n2 c2]] W fun e w' => e = .returned (.agg #[.pointer p1,.int .i64 (m1 : Int),.pointer p2,.int .i64 (m2 : Int)]) ∧ Below W.heap.size W w') := hI;have HKN : Hid (KnP s W0 w b F) := hKn;have HCH : Hid (∀ e ∈ t.es,1 ≤ e.2.length ∧ e.2.length ≤ 70 ∧ ∀ x ∈ e.2,okN m' x = true ∧ SmN m' x) := fun e he => ⟨ents_one _ _ hen e he,(hsub e he).1,fun x hx => ⟨hch e he x hx,(hsub e he).2 x hx⟩⟩
 obtain ⟨M,hM⟩ : ∃ M,(msgOf s nm).getD zMs = M := ⟨_,rfl⟩;have HKS : Hid (∀ tag f,fldOf M.fields tag = some f → 1 ≤ f.kind ∧ f.kind ≤ 7) := fun tag f h => pfld_kinds hks (by rw [hM]; exact h)
 have HMC : Hid (∀ W,Below W0.heap.size W0 W → Calls Tryz.prog 21 #[.agg #[.string sn,.slice ma mn mc,.slice ea en ec,.slice ta tn tc],.string nm] W fun e w' => ∃ vf vr,e = .returned (.tuple #[.agg #[.string M.name,vf,vr],.bool (msgOf s nm).isSome]) ∧ w'.ownsRow W.heap.size 56 5 vf M.fields.length (flRows M.fields).flatten ∧ w'.ownsRow W.heap.size 3 1 vr M.reserved.length (inRows M.reserved).flatten ∧ Below W.heap.size W w') := (fun W hW => by
  have h1 := cmessage_any (w := W) (snm := sn) (nm := nm) (ae := ea) (at' := ta) (E := en) (ce := ec) (T := tn) (ct := tc) (hms.below hW) hfl;have h2 : ((s.msgs.find? fun m => decide (m.name = nm)).getD zeroM) = M := hM;rw [h2] at h1
  exact h1 : ∀ W,_ → Calls Tryz.prog _ _ W _)
 have HT : Hid (prM (m' + 1) s nm t = ⟨3,0,⟨#[]⟩,t.es.filterMap (entP (prM m' s) M.fields),[]⟩) := (by rw [← hM]; rfl : prM (m' + 1) s nm t = _);have HIH : Hid (MsgC s W0 m' sn ma ea ta mn mc en ec tn tc) := IH;obtain ⟨T,hT⟩ : ∃ T,prM (m' + 1) s nm t = T := ⟨_,rfl⟩
 have HTL : Hid (∀ (W : World) (F2 : Nat → Prop),KnP s W0 W b F2 → (∃ r,(Instr.lookup 72 (.map (some b)) (.agg #[.string nm,.pointer p1,.int .i64 (m1 : Int),.pointer p2,.int .i64 (m2 : Int)]) true).run Tryz.prog W = .ok (.tuple #[.agg r.toArray,.bool true]) W ∧ SeeG (m' + 1) W r T F2) ∨ (Instr.lookup 72 (.map (some b)) (.agg #[.string nm,.pointer p1,.int .i64 (m1 : Int),.pointer p2,.int .i64 (m2 : Int)]) true).run Tryz.prog W = .ok (.tuple #[.agg #[.int .i64 0,.int .i64 0,.string ⟨#[]⟩,.slice none 0 0,.slice none 0 0],.bool false]) W) := fun W F2 hK => by
  have h1 := hK.look (x := (nm,((p1,m1),(p2,m2)))) HJ.out;rw [hT] at h1;exact h1
 have HTU : Hid (∀ (W : World) (F2 : Nat → Prop) (r : List Value),KnP s W0 W b F2 → SeeG (m' + 1) W r T F2 → ∃ w',(Instr.mapUpdate 72 (.map (some b)) (.agg #[.string nm,.pointer p1,.int .i64 (m1 : Int),.pointer p2,.int .i64 (m2 : Int)]) (.agg r.toArray)).run Tryz.prog W = .ok () w' ∧ KnP s W0 w' b F2 ∧ Kp (fun q => q = b) W w' ∧ Stay F2 W w') := fun W F2 r hK hr => by
  rw [← hT] at hr;exact hK.update (x := (nm,((p1,m1),(p2,m2)))) HJ.out hr
 rw [hT] at HT ⊢;clear hI hp1 hp2 hKn hx hk3 hok hen hch he40 hsub hes hn1 hn2 hmn u1 u2 x1 x2 x3 x4 IH hks hms hfl HJ hT;generalize (msgOf s nm).isSome = QB at *;obtain ⟨qn,fs,rs⟩ := M;simp only at HKS HMC HT;clear hM;obtain ⟨BS,BT,BR,hbw⟩ := p3blk w #[.string sn,.slice ma mn mc,.slice ea en ec,.slice ta tn tc,.map (some b)] #[.int .i64 K,.int .i64 N,.string S,.slice a1 n1 c1,.slice a2 n2 c2] #[.int .i64 0,.int .i64 0,.string ⟨#[]⟩,.slice none 0 0,.slice none 0 0] 74 30 30
 go_enter Tryz.func23,Tryz.ntmps23
 go_upto_region 1 with fail
 generalize (((w.alloc (Obj.cells #[.string sn,.slice ma mn mc,.slice ea en ec,.slice ta tn tc,.map (some b)] 74)).alloc (Obj.cells #[.int .i64 K,.int .i64 N,.string S,.slice a1 n1 c1,.slice a2 n2 c2] 30)).alloc (Obj.cells #[.int .i64 0,.int .i64 0,.string ⟨#[]⟩,.slice none 0 0,.slice none 0 0] 30)) = U0 at *;obtain ⟨b0,hb0⟩ : ∃ z,w.heap.size = z := ⟨_,rfl⟩;have HBZ : Hid (w.heap.size = b0) := hb0;rw [hb0] at BS BT BR
 try simp only [hb0]
 clear hb0;obtain ⟨t0,t1,t2,t3,t4⟩ := cl5 BT;go_wp2_with fail;refine (HI.out _).mono ?_;rintro e w1 ⟨rfl,hb1⟩;have hbw1 := hbw.trans (hb1.mono hbw.size);have BS1 := BS.below hb1;have BT1 := BT.below hb1;have BR1 := BR.below hb1;clear t0 t1 t2 t3 t4 BS BT BR hb1 hbw HI
 go_upto_region 2 with fail
 have al1 : Below w1.heap.size w1 (w1.alloc (Obj.cells #[.string nm,.pointer p1,.int .i64 (m1 : Int),.pointer p2,.int .i64 (m2 : Int)] 108)) := bra _;have BV2 : Blk (w1.alloc (Obj.cells #[.string nm,.pointer p1,.int .i64 (m1 : Int),.pointer p2,.int .i64 (m2 : Int)] 108)) w1.heap.size #[.string nm,.pointer p1,.int .i64 (m1 : Int),.pointer p2,.int .i64 (m2 : Int)] 108 := Blk.new w1 _ _;have hbw2 := hbw1.trans (al1.mono hbw1.size);have BS2 := BS1.below al1;have BT2 := BT1.below al1;have BR2 := BR1.below al1;have HL1 : Hid (b0 + 2 < w1.heap.size) := BR1.lt;clear al1 hbw1 BS1 BT1 BR1;generalize (w1.alloc (Obj.cells #[.string nm,.pointer p1,.int .i64 (m1 : Int),.pointer p2,.int .i64 (m2 : Int)] 108)) = W2 at *;obtain ⟨bv,hbv⟩ : ∃ z,w1.heap.size = z := ⟨_,rfl⟩;rw [hbv] at BV2 HL1
 try simp only [hbv]
 clear hbv;have hK2 := HKN.out.mk_below hbw2;have s4 := (BS2.cell 4).trans rfl;obtain ⟨v0,v1,v2,v3,v4⟩ := cl5 BV2
 rcases HTL.out W2 F hK2 with ⟨r,hlk,hse⟩ | hlk
 ·skip
  obtain ⟨q1,q2,q3,q4,q5,q6,rfl⟩ := trC_open hse.now.trQ.trC
  have hnF : ¬ F (b0 + 2) := fun e => by have h1 := (HKN.out.new _ e).2; have h2 := HBZ.out; omega
  have hbl : b0 + 2 < W2.heap.size := BR2.lt;clear HTU HT HIH HMC HKS HCH HES hK2;have HLK : Hid ((Instr.lookup 72 (.map (some b)) (.agg #[.string nm,.pointer p1,.int .i64 (m1 : Int),.pointer p2,.int .i64 (m2 : Int)]) true).run Tryz.prog W2 = .ok (.tuple #[.agg #[.int .i64 T.kind,.int .i64 T.n,.string T.s,.slice q1 q2 q3,.slice q4 q5 q6],.bool true]) W2) := hlk
  have HFIN : Hid (∀ o,SeenP s W0 b F (m' + 1) T w (.returned (.agg #[.int .i64 T.kind,.int .i64 T.n,.string T.s,.slice q1 q2 q3,.slice q4 q5 q6])) ((set5 W2 (b0 + 2) 0 (.int .i64 T.kind) (.int .i64 T.n) (.string T.s) (.slice q1 q2 q3) (.slice q4 q5 q6)).alloc o)) := fun o => by
   have hk5 := (set5_kp W2 (b0 + 2) 0 (.int .i64 T.kind) (.int .i64 T.n) (.string T.s) (.slice q1 q2 q3) (.slice q4 q5 q6)).alloc o;exact ⟨_,F,rfl,Grw.below HKN.out (hbw2.trans (hk5.toBelow hbw2.size fun q e => by rw [e,HBZ.out]; omega)),hse.stay (Stay.kp hk5 (fun k e => Nat.lt_of_lt_of_le (HKN.out.new k e).2 hbw2.size) fun k e e2 => hnF (e2 ▸ e))⟩
  unfold set5 at HFIN;clear hlk hse hnF hbw2 HKN HTL BS2 BV2 BT2;obtain ⟨r0,r1,r2,r3,r4⟩ := cl5 BR2;obtain ⟨rz0,rz1,rz2,rz3,rz4⟩ := fz5 BR2;generalize T.kind = TK at *;generalize T.n = TN at *;generalize T.s = TS at *
  go_wp2_with (first | (at_lookup; refine wpList_lookup_pl rfl _ _ rfl rfl rfl HLK.out ?_) | fail)
  exact bodyPost_ret (results_cell rfl _ _ _ ⟨b0 + 2,0,none⟩ (.agg #[.int .i64 TK,.int .i64 TN,.string TS,.slice q1 q2 q3,.slice q4 q5 q6]) (by go_simp) (by go_simp)) rfl (HFIN.out _)
 ·skip
  have HLK : Hid ((Instr.lookup 72 (.map (some b)) (.agg #[.string nm,.pointer p1,.int .i64 (m1 : Int),.pointer p2,.int .i64 (m2 : Int)]) true).run Tryz.prog W2 = .ok (.tuple #[.agg #[.int .i64 0,.int .i64 0,.string ⟨#[]⟩,.slice none 0 0,.slice none 0 0],.bool false]) W2) := hlk;have al3 : Below W2.heap.size W2 (W2.alloc (Obj.cells #[.int .i64 0,.int .i64 0,.string ⟨#[]⟩,.slice none 0 0,.slice none 0 0] 30)) := bra _;have hbw3 := hbw2.trans (al3.mono hbw2.size);have BS3 := BS2.below al3;have BT3 := BT2.below al3;have BR3 := BR2.below al3;have BV3 := BV2.below al3;have hMW := HMC.out _ (HKN.out.below.trans (hbw3.mono HKN.out.below.size));have HMW : Hid _ := hMW;have hbl0 : b0 < W2.heap.size := BS2.lt;have hbl2 : bv < W2.heap.size := BV2.lt;obtain ⟨s0,s1,s2,s3⟩ := cl4 BS2;clear hlk hMW HMC HTL al3 hbw2 BS2 BT2 BR2 BV2 hK2
  go_wp2_with (first | (at_lookup; refine wpList_lookup_pl rfl _ _ rfl rfl rfl HLK.out ?_) | fail)
  refine Calls.mono HMW.out ?_;rintro e w4 ⟨vf,vr,rfl,ho1,ho2,hb4⟩;obtain ⟨fa,fc,rfl⟩ := own_form ho1;obtain ⟨ra,rc,rfl⟩ := own_form ho2;have hbw4 := hbw3.trans (hb4.mono hbw3.size);have BS4 := BS3.below hb4;have BT4 := BT3.below hb4;have BR4 := BR3.below hb4;have BV4 := BV3.below hb4;clear HLK HMW hb4 hbw3 BS3 BT3 BR3 BV3 s0 s1 s2 s3 s4 v0 v1 v2 v3 v4 ho2
  go_upto_region 7 with fail
  have alm : Below w4.heap.size w4 ((w4.alloc (Obj.cells #[.string qn,.slice fa fs.length fc,.slice ra rs.length rc] 52)).alloc (Obj.cells #[.int .i64 3,.int .i64 0,.string ⟨#[]⟩,.slice none 0 0,.slice none 0 0] 30)) := (bra _).alloc (by simp) _;have BM6 : Blk ((w4.alloc (Obj.cells #[.string qn,.slice fa fs.length fc,.slice ra rs.length rc] 52)).alloc (Obj.cells #[.int .i64 3,.int .i64 0,.string ⟨#[]⟩,.slice none 0 0,.slice none 0 0] 30)) w4.heap.size #[.string qn,.slice fa fs.length fc,.slice ra rs.length rc] 52 := (Blk.new w4 _ _).below (bra _);have BO6 : Blk ((w4.alloc (Obj.cells #[.string qn,.slice fa fs.length fc,.slice ra rs.length rc] 52)).alloc (Obj.cells #[.int .i64 3,.int .i64 0,.string ⟨#[]⟩,.slice none 0 0,.slice none 0 0] 30)) (w4.heap.size + 1) #[.int .i64 3,.int .i64 0,.string ⟨#[]⟩,.slice none 0 0,.slice none 0 0] 30 := blk_new2T _ _ _ _;have hbw6 := hbw4.trans (alm.mono hbw4.size);have BS6 := BS4.below alm;have BT6 := BT4.below alm;have BR6 := BR4.below alm;have BV6 := BV4.below alm;have ho6 := own_below ho1 alm;have hvl : ∀ k,(Value.slice fa fs.length fc).ownBlock = some k → k < w4.heap.size := fun k e => (own_lt ho1 e).2
  have hbv4 : bv < w4.heap.size := BV4.lt;generalize ((w4.alloc (Obj.cells #[.string qn,.slice fa fs.length fc,.slice ra rs.length rc] 52)).alloc (Obj.cells #[.int .i64 3,.int .i64 0,.string ⟨#[]⟩,.slice none 0 0,.slice none 0 0] 30)) = W6 at *;obtain ⟨bm,hbm⟩ : ∃ z,w4.heap.size = z := ⟨_,rfl⟩;rw [hbm] at BM6 BO6 hvl hbv4
  try simp only [hbm]
  have hbwm : w.heap.size ≤ bm := by rw [← hbm]; exact hbw4.size
  clear hbm alm BS4 BT4 BR4 BV4 ho1 hbw4 hbl0 hbl2;obtain ⟨fl,hfl⟩ : ∃ z,fs.length = z := ⟨_,rfl⟩;obtain ⟨rl,hrl⟩ : ∃ z,rs.length = z := ⟨_,rfl⟩;have hK6 := HKN.out.mk_below hbw6
  have HOW : Hid (W6.ownsRow W2.heap.size 56 5 (.slice fa fl fc) fl (flRows fs).flatten ∧ ∀ k,(Value.slice fa fl fc).ownBlock = some k → k < bm + 1 ∧ k ≠ b) := (by
   rw [← hfl];refine ⟨pown_more ho6 (by simp),fun k e => ⟨Nat.lt_succ_of_lt (hvl k e),?_⟩⟩
   rcases ho6.2 with ⟨e9,_⟩ | ⟨g,cap,cur,e9,g1,g2,_⟩
   ·rw [e9] at e; cases e
   ·rw [e9] at e
    obtain rfl : g = k := by simpa [Value.ownBlock] using e
    exact hK6.neB g2 : _ ∧ _)
  rw [hfl,hrl] at BM6
  try simp only [hfl,hrl]
  clear hfl hrl ho6 hvl;have HNB : Hid (b0 ≠ b ∧ bm ≠ b ∧ bv ≠ b ∧ b0 + 2 ≠ b ∧ bm + 1 ≠ b) := ⟨hK6.neB BS6,hK6.neB BM6,hK6.neB BV6,hK6.neB BR6,hK6.neB BO6⟩;have HFX : Hid (Blk W6 b0 #[.string sn,.slice ma mn mc,.slice ea en ec,.slice ta tn tc,.map (some b)] 74 ∧ Blk W6 bm #[.string qn,.slice fa fl fc,.slice ra rl rc] 52 ∧ Blk W6 bv #[.string nm,.pointer p1,.int .i64 (m1 : Int),.pointer p2,.int .i64 (m2 : Int)] 108 ∧ Blk W6 (b0 + 2) #[.int .i64 0,.int .i64 0,.string ⟨#[]⟩,.slice none 0 0,.slice none 0 0] 30) := ⟨BS6,BM6,BV6,BR6⟩
  have HFK : Hid (∀ W,Kp (fun q => q = b ∨ bm + 1 ≤ q) W6 W → Blk W b0 #[.string sn,.slice ma mn mc,.slice ea en ec,.slice ta tn tc,.map (some b)] 74 ∧ Blk W bm #[.string qn,.slice fa fl fc,.slice ra rl rc] 52 ∧ Blk W bv #[.string nm,.pointer p1,.int .i64 (m1 : Int),.pointer p2,.int .i64 (m2 : Int)] 108 ∧ Blk W (b0 + 2) #[.int .i64 0,.int .i64 0,.string ⟨#[]⟩,.slice none 0 0,.slice none 0 0] 30 ∧ RowG W (.slice fa fl fc) 5 (flRows fs)) := (fun W hk => by
   obtain ⟨f1,f2,f3,f4⟩ := HFX.out;obtain ⟨n1,n2,n3,n4,n5⟩ := HNB.out
   have hn : ∀ q,q ≠ b → q < bm + 1 → ¬ (q = b ∨ bm + 1 ≤ q) := fun q h1 h2 h3 => by rcases h3 with h3 | h3 <;> omega
   have h0 := HL1.out;refine ⟨f1.kp hk (hn _ n1 (by omega)),f2.kp hk (hn _ n2 (by omega)),f3.kp hk (hn _ n3 (by omega)),f4.kp hk (hn _ n4 (by omega)),?_⟩
   exact (RowG.own (flr_len fs) (by decide) (pown_at HOW.out.1 hk HOW.out.2)).1 : ∀ W,_ → _)
  have HWW : Hid (w.heap.size ≤ bm ∧ b0 + 2 < bv ∧ bv < bm) := ⟨hbwm,HL1.out,hbv4⟩
  have HMS0 : Hid (MsP m' (bm + 1) F (.slice none 0 0) [] W6) := MsP.nil BO6 fun e => by
   have h1 := (HKN.out.new _ e).2
   omega
  have HG0 : Hid (Grw s W0 b F w W6 F) := Grw.below HKN.out hbw6;have HNF0 : Hid (¬ F (b0 + 2)) := hid (fun e => by have h1 := (HKN.out.new _ e).2; have h2 := HBZ.out; omega);have t3 := (BT6.cell 3).trans rfl;clear BS6 BM6 BV6 BR6 BO6 hK6 hbw6 hbwm hbv4 HL1 HFX;go_wp2_with fail;clear t3 BT6
  go_loopw [41] (fun iv wr => ∃ (i j : Nat) (va : Option Addr) (vc : Nat) (G : Nat → Prop),iv = .int .i64 (i : Int) ∧ i ≤ n1 ∧ j ≤ i ∧ Hid (MsP m' (bm + 1) G (.slice va j vc) ((t.es.take i).filterMap (entP (prM m' s) fs)) wr ∧ ((t.es.take i).filterMap (entP (prM m' s) fs)).length = j) ∧ Hid (Grw s W0 b F w wr G ∧ ¬ G (b0 + 2)) ∧ Hid (Kp (fun q => q = b ∨ bm + 1 ≤ q) W6 wr)) (fun iv _ => n1 - (intOf iv).toNat)
  case atStart => exact ⟨0,0,none,0,F,rfl,by omega,by omega,⟨HMS0.out,rfl⟩,⟨HG0.out,HNF0.out⟩,Kp.refl _ _⟩
  case round =>
   clear HMS0 HG0 HNF0;obtain ⟨i,j,va,vc,G,rfl,hi,hj,HMS,HG,HKW⟩ := hrel
   by_cases hlt : i < n1
   ·obtain ⟨x,hx⟩ : ∃ r,t.es[i]? = some r := ⟨_,List.getElem?_eq_getElem (by rw [HES.out.2]; exact hlt)⟩;obtain ⟨g,off,rfl,r,⟨vt,rfl,h64,hrow⟩,hc⟩ := RowP.get HES.out.1 hx;obtain ⟨pt,ct,rfl, -⟩ := RowP.open hrow;have HX : Hid (t.es[i]? = some x) := hx;have HSX := HCH.out x (List.mem_of_getElem? hx);obtain ⟨xt,xl⟩ := x;simp only at hrow h64 HSX hc;obtain ⟨Kt,hKt⟩ : ∃ z,xl.length = z := ⟨_,rfl⟩;rw [hKt] at hrow hc;clear hKt hx;have hcl := fun {p : Addr} {v : Value} (h : W0.cell? p = some v) => Cel.cell (Cel.ofBelow HG.out.1.kn.below) h
    have y0 := hcl (hc 0 _ rfl);have y1 := hcl (hc 1 _ rfl);simp only [Nat.add_zero] at y0;have H64 : Hid (Is64 xt) := h64;have HEC : Hid (∀ W,Below wr.heap.size wr W → Calls Tryz.prog 46 #[.agg #[.string sn,.slice ma mn mc,.slice ea en ec,.slice ta tn tc,.map (some b)],.agg #[.string qn,.slice fa fl fc,.slice ra rl rc],.agg #[.int .i64 xt,.slice pt Kt ct]] W (EntP s W0 b G m' (entP (prM m' s) fs (xt,xl)) W)) := fun W hW => pentry_any HIH.out b G fs xt xl qn _ ra pt rl rc Kt ct W ((HFK.out wr HKW.out).2.2.2.2.below hW) (HG.out.1.kn.mk_below hW) (fun f h => HKS.out xt f h) hrow HSX.1 HSX.2.1 (fun y hy => (HSX.2.2 y hy).1) fun y hy => (HSX.2.2 y hy).2
    obtain ⟨BSr,BMr, -, -, -⟩ := HFK.out wr HKW.out;have hl1 : b0 < wr.heap.size := BSr.lt;have hl2 : bm < wr.heap.size := BMr.lt;have hl3 : bm + 1 < wr.heap.size := HMS.out.1.size;obtain ⟨s0,s1,s2,s3,s4⟩ := cl5 BSr;obtain ⟨z0,z1,z2⟩ := cl3 BMr;have al : Below wr.heap.size wr (wr.alloc (Obj.cells #[.int .i64 xt,.slice pt Kt ct] 69)) := bra _;have HE2 : Hid _ := HEC.out _ al;clear hcl hc hrow h64 HSX HEC BSr BMr;go_wp2_with fail;refine Calls.mono HE2.out ?_;rintro e w8 ⟨ya,yc,G2,tg,xs,okk,rfl,hg,hse,hR⟩;clear HE2 s0 s1 s2 s3 s4 z0 z1 z2 y0 y1;have hgT : Grw s W0 b F w w8 G2 := HG.out.1.trans (hg.before al);have hgw : Grw s W0 b G wr w8 G2 := hg.before al
    have hnR : ¬ G2 (b0 + 2) := fun e => by
     rcases hgw.new _ e with e | e
     ·exact HG.out.2 e
     ·have := HWW.out; omega
    have hMS8 : MsP m' (bm + 1) G2 (.slice va j vc) ((t.es.take i).filterMap (entP (prM m' s) fs)) w8 := HMS.out.1.call HG.out.1.kn hgw.kp hgw.sub hgw.new;have hkw8 : Kp (fun q => q = b ∨ bm + 1 ≤ q) W6 w8 := HKW.out.trans2 hgw.kp fun _ _ e => .inl e
    have HLE : Hid (((t.es.take i).filterMap (entP (prM m' s) fs)).length = j) := HMS.out.2;have HTK : Hid ((t.es.take (i + 1)).filterMap (entP (prM m' s) fs) = (t.es.take i).filterMap (entP (prM m' s) fs) ++ (entP (prM m' s) fs (xt,xl)).toList) := ptake_fm HX.out;have HWB : Hid (w.heap.size ≤ bm + 1) := hid (by have := HWW.out; omega);obtain ⟨xn,hxn⟩ : ∃ z,xs.length = z := ⟨_,rfl⟩;have HXN : Hid (xs.length = xn) := hxn
    have hse' : SeeL m' w8 (.slice ya xn yc) xs G2 := by rw [← hxn]; exact hse
    simp only [hxn];clear hxn hse;have al9 : Below w8.heap.size w8 (w8.alloc (Obj.cells #[.int .i64 tg,.slice ya xn yc] 69)) := bra _;have hMS9 := hMS8.below al9 fun k e => (hgT.kn.new k e).2
    rcases hR with ⟨hRn,rfl⟩ | ⟨hRs,rfl⟩
    ·have HMS9 : Hid (MsP m' (bm + 1) G2 (.slice va j vc) ((t.es.take (i + 1)).filterMap (entP (prM m' s) fs)) (w8.alloc (Obj.cells #[.int .i64 tg,.slice ya xn yc] 69)) ∧ ((t.es.take (i + 1)).filterMap (entP (prM m' s) fs)).length = j) := (by
      rw [HTK.out,hRn];simp only [Option.toList_none,List.append_nil]
      exact ⟨hMS9,HLE.out⟩ : _ ∧ _)
     have HG9 : Hid (Grw s W0 b F w (w8.alloc (Obj.cells #[.int .i64 tg,.slice ya xn yc] 69)) G2 ∧ ¬ G2 (b0 + 2)) := ⟨hgT.trans (Grw.below hgT.kn al9),hnR⟩;have HKW9 : Hid (Kp (fun q => q = b ∨ bm + 1 ≤ q) W6 (w8.alloc (Obj.cells #[.int .i64 tg,.slice ya xn yc] 69))) := hkw8.below al9;clear hgT hgw hnR hMS8 hkw8 hse' al9 hMS9 hRn hg al HMS HG HKW HTK HX HLE hl1 hl2 hl3;go_wp2_with fail
     go_roundw
     case rel => exact ⟨i + 1,j,va,vc,G2,by go_num,by omega,by omega,HMS9,HG9,HKW9⟩
     case measure => simp [intOf]; omega
    ·have hb10 : Below w8.heap.size w8 ((w8.alloc (Obj.cells #[.int .i64 tg,.slice ya xn yc] 69)).alloc (Obj.cells #[.int .i64 tg,.slice ya xn yc] 69)) := (bra _).alloc (by simp) _;have BZ : Blk ((w8.alloc (Obj.cells #[.int .i64 tg,.slice ya xn yc] 69)).alloc (Obj.cells #[.int .i64 tg,.slice ya xn yc] 69)) (w8.heap.size + 1) #[.int .i64 tg,.slice ya xn yc] 69 := blk_new2T _ _ _ _;have hMS10 := hMS8.below hb10 fun k e => (hgT.kn.new k e).2
     have hg10 := hgT.trans (Grw.below hgT.kn hb10)
     have htg : tg = xt := by
      obtain ⟨f,q1, -, -,q4⟩ := entP_some hRs;rw [Prod.mk.injEq] at q4;exact q4.1.trans (fldP q1).1
     have hBO := hMS8.blk;have o3 := (hBO.cell 3).trans rfl;have hl8 : bm + 1 < w8.heap.size := hBO.lt;obtain ⟨a',c',W',p1',B',hMS',hKn',hkq,hkq2⟩ := hMS10.push (ts := xs) hg10.kn (Nat.le_trans HKN.out.below.size HWB.out) (hse'.stay (Stay.kp (S := fun _ => False) (Kp.ofBelow hb10) (fun k e => (hgT.kn.new k e).2) fun _ _ e => e)) (by rw [htg]; exact H64.out) BZ rfl (by rw [HLE.out]; omega);rw [HLE.out] at p1' hMS' hKn' hkq;have HAP : Hid ((Builtin.append_ #[27,27] 27 #[.slice va j vc,.slice (some ⟨w8.heap.size + 1,0,none⟩) 1 1]).run Tryz.prog ((w8.alloc (Obj.cells #[.int .i64 tg,.slice ya xn yc] 69)).alloc (Obj.cells #[.int .i64 tg,.slice ya xn yc] 69)) = .ok (.slice a' (j + 1) c') W') := p1';have hsq : ∀ q,(bm + 1 ≤ q ∧ ¬ G2 q ∧ q ≠ b) → w.heap.size ≤ q ∧ ¬ G2 q ∧ q ≠ b := fun q e => ⟨Nat.le_trans HWB.out e.1,e.2⟩
     have HMS9 : Hid (MsP m' (bm + 1) G2 (.slice a' (j + 1) c') ((t.es.take (i + 1)).filterMap (entP (prM m' s) fs)) (W'.setCell ⟨bm + 1,3,none⟩ (.slice a' (j + 1) c')) ∧ ((t.es.take (i + 1)).filterMap (entP (prM m' s) fs)).length = j + 1) := (by
      rw [HTK.out,hRs];simp only [Option.toList_some]
      exact ⟨hMS',by rw [List.length_append,HLE.out]; rfl⟩ : _ ∧ _)
     have HG9 : Hid (Grw s W0 b F w (W'.setCell ⟨bm + 1,3,none⟩ (.slice a' (j + 1) c')) G2 ∧ ¬ G2 (b0 + 2)) := ⟨hg10.after HKN.out.below.size hkq hsq,hnR⟩;have HKW9 : Hid (Kp (fun q => q = b ∨ bm + 1 ≤ q) W6 (W'.setCell ⟨bm + 1,3,none⟩ (.slice a' (j + 1) c'))) := (hkw8.below hb10).trans2 hkq fun _ _ e => .inr e.1
     have k3 := (B'.cell 3).trans rfl;have kz3 := B'.froz 3;clear hgT hgw hnR hMS8 hkw8 hse' al9 hMS9 hRs hg al HMS HG HKW HTK HX HLE hl1 hl2 hl3 hb10 BZ hMS10 hg10 htg hBO p1' B' hMS' hKn' hkq hkq2 hsq HXN
     go_wp2_with (first | (at_builtin; refine wpList_appP rfl _ _ rfl rfl rfl HAP.out ?_) | fail)
     clear k3 kz3 o3
     go_roundw
     case rel => exact ⟨i + 1,j + 1,a',c',G2,by go_num,by omega,by omega,HMS9,HG9,HKW9⟩
     case measure => simp [intOf]; omega
   ·have hin : i = n1 := by omega
    have dlt : decide ((i : Int) < (n1 : Int)) = false := by simp; omega
    obtain ⟨hm1,hm2⟩ := HMS.out;have htk : t.es.take i = t.es := List.take_of_length_le (by rw [HES.out.2,hin]; exact Nat.le_refl _);rw [htk] at hm1 hm2
    have hWB : w.heap.size ≤ bm + 1 := by have := HWW.out; omega
    obtain ⟨hd1,hd2⟩ := hm1.done HG.out.1.kn.new (Nat.le_trans HKN.out.below.size hWB);rw [← HT.out] at hd1;obtain ⟨rows,ho, -⟩ := hm1.row
    have hvb : ∀ k,(Value.slice va j vc).ownBlock = some k → k ≠ b ∧ bm + 1 < k ∧ k < wr.heap.size := fun k e => by
     refine ⟨?_,(own_lt ho e).1,(own_lt ho e).2⟩
     rcases ho.2 with ⟨e9,_⟩ | ⟨g,cap,cur,e9,g1,g2,_⟩
     ·rw [e9] at e; cases e
     ·rw [e9] at e
      obtain rfl : g = k := by simpa [Value.ownBlock] using e
      exact HG.out.1.kn.neB g2
    have hg2 : Grw s W0 b F w wr (fun k => G k ∨ (Value.slice va j vc).ownBlock = some k) := HG.out.1.more (fun k e => .inl e) (fun k e => e.imp id fun e => ⟨by have := (hvb k e).2.1; omega,(hvb k e).2.2⟩) HKN.out.below.size (fun e => by
     rcases e with e | e
     ·exact HG.out.1.kn.nb e
     ·exact (hvb b e).1 rfl)
    have hnR : ¬ (G (b0 + 2) ∨ (Value.slice va j vc).ownBlock = some (b0 + 2)) := fun e => by
     rcases e with e | e
     ·exact HG.out.2 e
     ·have h1 := (hvb _ e).2.1; have h2 := HWW.out; omega
    obtain ⟨W9,hup,hkn9,hkp9,hst9⟩ := HTU.out wr _ _ hg2.kn hd1;have HUP : Hid ((Instr.mapUpdate 72 (.map (some b)) (.agg #[.string nm,.pointer p1,.int .i64 (m1 : Int),.pointer p2,.int .i64 (m2 : Int)]) (.agg #[.int .i64 3,.int .i64 0,.string ⟨#[]⟩,.slice va j vc,.slice none 0 0])).run Tryz.prog wr = .ok () W9) := hup;have hg9 := hg2.upd hkn9 hkp9;obtain ⟨BSr, -,BVr,BRr, -⟩ := HFK.out wr HKW.out;have hBO := hm1.blk;have BR9 := BRr.kp hkp9 HNB.out.2.2.2.1;have BO9 := hBO.kp hkp9 HNB.out.2.2.2.2;have hk5 := set5_kp W9 (b0 + 2) 0 (.int .i64 3) (.int .i64 0) (.string ⟨#[]⟩) (.slice va j vc) (.slice none 0 0)
    have hs5 : ∀ q,q = b0 + 2 → w.heap.size ≤ q ∧ ¬ (G q ∨ (Value.slice va j vc).ownBlock = some q) ∧ q ≠ b := fun q e => by subst e; exact ⟨by rw [HBZ.out]; omega,hnR,HNB.out.2.2.2.1⟩
    have HFIN : Hid (SeenP s W0 b F (m' + 1) T w (.returned (.agg #[.int .i64 3,.int .i64 0,.string ⟨#[]⟩,.slice va j vc,.slice none 0 0])) (set5 W9 (b0 + 2) 0 (.int .i64 3) (.int .i64 0) (.string ⟨#[]⟩) (.slice va j vc) (.slice none 0 0))) := ⟨_,_,rfl,hg9.after HKN.out.below.size hk5 hs5,(hd1.stay hst9).stay (hg9.stay hk5 hs5)⟩;unfold set5 at HFIN;have s4 := (BSr.cell 4).trans rfl;obtain ⟨v0,v1,v2,v3,v4⟩ := cl5 BVr;obtain ⟨o0,o1,o2,o3,o4⟩ := cl5 hBO;obtain ⟨u0,u1,u2,u3,u4⟩ := cl5 BO9;obtain ⟨r0,r1,r2,r3,r4⟩ := cl5 BR9;obtain ⟨rz0,rz1,rz2,rz3,rz4⟩ := fz5 BR9;clear hm1 hm2 htk hWB hd1 hd2 ho hvb hg2 hnR hup hkn9 hkp9 hst9 hg9 BSr BVr BRr hBO BO9 BR9 hk5 hs5 HMS HG HKW HTU hin
    go_wp2_with (first | (at_mapUpdate; refine wpList_update_pl rfl _ _ _ rfl rfl rfl rfl HUP.out ?_) | fail)
    exact bodyPost_ret (results_cell rfl _ _ _ ⟨b0 + 2,0,none⟩ (.agg #[.int .i64 3,.int .i64 0,.string ⟨#[]⟩,.slice va j vc,.slice none 0 0]) (by go_simp) (by go_simp)) rfl HFIN.out
end
section
theorem typeB_kindJ {mn en : List ByteArray} {k : Int} {t : ByteArray} (h : typeB mn en k t = true) : 1 ≤ k ∧ k ≤ 7 := by
 unfold typeB at h
 by_cases h1 : 1 ≤ k ∧ k ≤ 7
 ·exact h1
 ·exfalso
  revert h
  simp
  intros
  omega
theorem ok_kindsJ {s : ScS} (h : OkS s) : ∀ nm m,msgOf s nm = some m → ∀ f ∈ m.fields,1 ≤ f.kind ∧ f.kind ≤ 7 := fun nm m hm f hf => typeB_kindJ ((h.msgs m (List.mem_of_find?_eq_some hm)).2.2.2.2.1 f hf).1.2.2.2
end
section
open Go.ChangeShapes Go.WideShapes Go.ChangeAt Go.RowKit
def cmpI (a b : Int) : Int := if a < b then -1 else if b < a then 1 else 0
theorem nan_any (a : Int) (w : World) : Calls Tryz.prog 128 #[.int .i64 a] w fun e w' => e = .returned (.bool false) ∧ w' = w := by
 go_enter Tryz.func128,Tryz.ntmps128
 go_wp2
 go_ret;exact ⟨rfl,rfl⟩
theorem compare_any (a b : Int) (w : World) : Calls Tryz.prog 126 #[.int .i64 a,.int .i64 b] w fun e w' => e = .returned (.int .i64 (cmpI a b)) ∧ w' = w := by
 by_cases h1 : a < b
 ·go_enter Tryz.func126,Tryz.ntmps126
  go_wp2_with (first | (go_at_call 128; refine (nan_any _ _).mono ?_; rintro e w' ⟨rfl,rfl⟩) | fail)
  go_ret;exact ⟨by simp [cmpI,h1],rfl⟩
 ·by_cases h2 : b < a
  ·go_enter Tryz.func126,Tryz.ntmps126
   go_wp2_with (first | (go_at_call 128; refine (nan_any _ _).mono ?_; rintro e w' ⟨rfl,rfl⟩) | fail)
   go_ret;exact ⟨by simp [cmpI,h1,h2],rfl⟩
  ·have HC : Hid (cmpI a b = 0) := hid (by simp [cmpI,h1,h2]);rw [HC.out]
   go_enter Tryz.func126,Tryz.ntmps126
   go_wp2_with (first | (go_at_call 128; refine (nan_any _ _).mono ?_; rintro e w' ⟨rfl,rfl⟩) | fail)
   go_ret;exact ⟨rfl,rfl⟩
theorem tagc_any (a b : Int) (p : Option Addr) (n c : Nat) (w : World) : Calls Tryz.prog 125 #[.agg #[.int .i64 a,.slice p n c],.int .i64 b] w fun e w' => e = .returned (.int .i64 (cmpI a b)) ∧ Below w.heap.size w w' := by
 go_enter Tryz.func125,Tryz.ntmps125
 go_wp2_with (first | (go_at_call 126; refine (compare_any _ _ _).mono ?_; rintro e w' ⟨rfl,rfl⟩) | fail)
 go_ret;exact ⟨rfl,bra _⟩
def RisT (es : List (Int × List Tr)) : Prop := ∀ (i j : Nat) (x y : Int × List Tr),i < j → es[i]? = some x → es[j]? = some y → x.1 < y.1
theorem cmp_lt (a b : Int) : cmpI a b < 0 ↔ a < b := by
 unfold cmpI
 by_cases h1 : a < b
 ·simp [h1]
 ·by_cases h2 : b < a
  ·simp [h1,h2]
  ·simp [h1,h2]
theorem cmp_eq (a b : Int) : cmpI a b = 0 ↔ a = b := by
 unfold cmpI
 by_cases h1 : a < b
 ·simp [h1]; omega
 ·by_cases h2 : b < a
  ·simp [h1,h2]; omega
  ·simp [h1,h2]; omega
theorem ents_low : ∀ (es : List (Int × List Tr)) (last : Int),entsB last es = true → ∀ x ∈ es,last < x.1
 | [],_,_,x,hx => by cases hx
 | e :: l,last,h,x,hx => by
  simp only [entsB,Bool.and_eq_true,decide_eq_true_eq] at h
  rcases List.mem_cons.1 hx with rfl | hx
  ·exact h.1.1.1.1.1
  ·exact Int.lt_trans h.1.1.1.1.1 (ents_low l e.1 h.2 x hx)
theorem ents_ris : ∀ (es : List (Int × List Tr)) (last : Int),entsB last es = true → RisT es
 | [],_,_ => by intro i j x y _ h; simp at h
 | e :: l,last,h => by
  simp only [entsB,Bool.and_eq_true,decide_eq_true_eq] at h;intro i j x y hij hx hy
  cases j with
  | zero => omega
  | succ j =>
   simp only [List.getElem?_cons_succ] at hy
   cases i with
   | zero =>
    obtain rfl : e = x := by simpa using hx
    exact ents_low l e.1 h.2 y (List.mem_of_getElem? hy)
   | succ i => exact ents_ris l e.1 h.2 i j x y (by omega) (by simpa using hx) hy
theorem bin_any (n : Nat) (v : Value) (es : List (Int × List Tr)) (tag : Int) (w : World) (h : EnsQ n w v es) (hr : RisT es) (hl : es.length ≤ 1000000) :
  Calls Tryz.prog 124 #[v,.int .i64 tag,.func (.func 125) #[] #[]] w fun e w' => (∃ k : Int,e = .returned (.tuple #[.int .i64 k,.bool (hasB es tag)])) ∧ Below w.heap.size w w' := by
 obtain ⟨a,cap,rfl,h1,h2, -⟩ := RowP.open h;obtain ⟨N,hN⟩ : ∃ N,es.length = N := ⟨_,rfl⟩;rw [hN] at h1 hl ⊢;have HH : Hid (EnsQ n w (.slice a N cap) es) := hid (by rw [← hN]; exact h);have HN : Hid (es.length = N) := hN;have HR : Hid (RisT es) := hr;unfold maxLen at h2;obtain ⟨R0,hR0⟩ : ∃ R0,hasB es tag = R0 := ⟨_,rfl⟩;have HR0 : Hid (hasB es tag = R0) := hR0;rw [hR0];clear h hN hr hR0
 go_enter Tryz.func124,Tryz.ntmps124
 go_wp2_with fail
 go_loopw [9,10] (fun iv jv wr => ∃ i j : Nat,iv = .int .i64 (i : Int) ∧ jv = .int .i64 (j : Int) ∧ i ≤ j ∧ j ≤ N ∧ Hid (∀ (k : Nat) (x : Int × List Tr),k < i → es[k]? = some x → x.1 < tag) ∧ Hid (∀ (k : Nat) (x : Int × List Tr),j ≤ k → es[k]? = some x → tag ≤ x.1) ∧ Below w.heap.size w wr) (fun iv jv _ => (intOf jv - intOf iv).toNat)
 case atStart => exact ⟨0,N,rfl,rfl,by omega,by omega,(fun k x hk => absurd hk (by omega) : ∀ (k : Nat) (x : Int × List Tr),k < 0 → es[k]? = some x → x.1 < tag),(fun k x hk hx => by have := (List.getElem?_eq_some_iff.1 hx).1; rw [HN.out] at this; omega : ∀ (k : Nat) (x : Int × List Tr),N ≤ k → es[k]? = some x → tag ≤ x.1),Below.refl _ _⟩
 case round =>
  obtain ⟨i,j,rfl,rfl,hij,hjN,HI,HJ,hbel⟩ := hrel
  by_cases hlt : i < j
  ·obtain ⟨q,hq⟩ : ∃ q : Nat,q = (i + j) / 2 := ⟨_,rfl⟩
   have hq1 : i ≤ q := by omega
   have hq2 : q < j := by omega
   obtain ⟨x,hx⟩ : ∃ r,es[q]? = some r := ⟨_,List.getElem?_eq_getElem (by rw [HN.out]; omega)⟩;obtain ⟨g,off,rfl,r,⟨vt,rfl, -,ht⟩,hc⟩ := (HH.out.belowEQ hbel).get hx;obtain ⟨ta,tc,rfl, -⟩ := RowP.open ht;have c0 := hc 0 _ rfl;have c1 := hc 1 _ rfl;simp only [Nat.add_zero] at c0
   have hqi : ((i : Int) + (j : Int)) / 2 = (q : Int) := by omega
   have HX : Hid (es[q]? = some x) := hx;clear hc ht hx;generalize x.2.length = Xl at *;obtain ⟨xt,hxt⟩ : ∃ z,x.1 = z := ⟨_,rfl⟩;rw [hxt] at c0;have HXT : Hid (x.1 = xt) := hxt;clear hxt hq;obtain ⟨c,hcc⟩ : ∃ c,cmpI xt tag = c := ⟨_,rfl⟩
   have HCA : Hid (∀ W,Calls Tryz.prog 125 #[.agg #[.int .i64 xt,.slice ta Xl tc],.int .i64 tag] W fun e w' => e = .returned (.int .i64 c) ∧ Below W.heap.size W w') := fun W => by
    rw [← hcc]; exact tagc_any xt tag ta Xl tc W
   have hc0 : c < 0 ↔ xt < tag := by rw [← hcc]; exact cmp_lt xt tag
   clear hcc
   by_cases hxl : xt < tag
   ·have hdc : decide (c < 0) = true := by simp [hc0,hxl]
    clear hc0;go_wp2_with fail;refine (HCA.out _).mono ?_;rintro e w2 ⟨rfl,hb2⟩;have hbw : Below w.heap.size w w2 := hbel.trans (hb2.mono hbel.size);clear hb2 hbel c0 c1 HCA;go_wp2_with fail
    go_roundw
    case rel => exact ⟨q + 1,j,by go_num,rfl,by omega,hjN,(fun k y hk hy => by
     rcases Nat.lt_or_eq_of_le (Nat.le_of_lt_succ hk) with h | h
     ·exact Int.lt_trans (HR.out k q y x h hy HX.out) (by rw [HXT.out]; exact hxl)
     ·subst h; rw [HX.out] at hy; cases hy; rw [HXT.out]; exact hxl : ∀ (k : Nat) (x : Int × List Tr),k < q + 1 → es[k]? = some x → x.1 < tag),HJ,hbw⟩
    case measure => simp [intOf]; omega
   ·have hdc : decide (c < 0) = false := by simp; exact Int.not_lt.1 (fun h => hxl (hc0.1 h))
    clear hc0;go_wp2_with fail;refine (HCA.out _).mono ?_;rintro e w2 ⟨rfl,hb2⟩;have hbw : Below w.heap.size w w2 := hbel.trans (hb2.mono hbel.size);clear hb2 hbel c0 c1 HCA;go_wp2_with fail
    go_roundw
    case rel => exact ⟨i,q,rfl,rfl,by omega,by omega,HI,(fun k y hk hy => by
     rcases Nat.lt_or_eq_of_le hk with h | h
     ·have := HR.out q k x y h HX.out hy;rw [HXT.out] at this
      omega
     ·subst h; rw [HX.out] at hy; cases hy; rw [HXT.out]; omega : ∀ (k : Nat) (x : Int × List Tr),q ≤ k → es[k]? = some x → tag ≤ x.1),hbw⟩
    case measure => simp [intOf]; omega
  ·obtain rfl : i = j := by omega
   by_cases hiN : i < N
   ·obtain ⟨x,hx⟩ : ∃ r,es[i]? = some r := ⟨_,List.getElem?_eq_getElem (by rw [HN.out]; omega)⟩;obtain ⟨g,off,rfl,r,⟨vt,rfl, -,ht⟩,hc⟩ := (HH.out.belowEQ hbel).get hx;obtain ⟨ta,tc,rfl, -⟩ := RowP.open ht;have c0 := hc 0 _ rfl;have c1 := hc 1 _ rfl;simp only [Nat.add_zero] at c0;have HX : Hid (es[i]? = some x) := hx;clear hc ht hx;generalize x.2.length = Xl at *;obtain ⟨xt,hxt⟩ : ∃ z,x.1 = z := ⟨_,rfl⟩;rw [hxt] at c0;have HXT : Hid (x.1 = xt) := hxt;clear hxt;obtain ⟨c,hcc⟩ : ∃ c,cmpI xt tag = c := ⟨_,rfl⟩
    have HCA : Hid (∀ W,Calls Tryz.prog 125 #[.agg #[.int .i64 xt,.slice ta Xl tc],.int .i64 tag] W fun e w' => e = .returned (.int .i64 c) ∧ Below W.heap.size W w') := fun W => by
     rw [← hcc]; exact tagc_any xt tag ta Xl tc W
    have hc0 : c = 0 ↔ xt = tag := by rw [← hcc]; exact cmp_eq xt tag
    have hB : hasB es tag = decide (xt = tag) := by
     by_cases he : xt = tag
     ·rw [decide_eq_true he];exact List.any_eq_true.2 ⟨x,List.mem_of_getElem? HX.out,by rw [HXT.out,he]; simp⟩
     ·rw [decide_eq_false he];refine List.any_eq_false.2 fun y hy => ?_
      obtain ⟨k,hk,ek⟩ := List.getElem_of_mem hy
      have hyk : es[k]? = some y := by rw [List.getElem?_eq_getElem hk,ek]
      have hge := HJ.out i x (Nat.le_refl _) HX.out;rw [HXT.out] at hge
      rcases Nat.lt_trichotomy k i with h | h | h
      ·have := HI.out k y h hyk; simp; omega
      ·subst h; rw [HX.out] at hyk; cases hyk; rw [HXT.out]; simp; omega
      ·have := HR.out i k x y h HX.out hyk; rw [HXT.out] at this; simp; omega
    have hdc : (c == 0) = R0 := by
     rw [← HR0.out,hB,Bool.eq_iff_iff]; simp [hc0]
    clear hcc hc0 hB;go_wp2_with fail;refine (HCA.out _).mono ?_;rintro e w2 ⟨rfl,hb2⟩;have hbw : Below w.heap.size w w2 := hbel.trans (hb2.mono hbel.size);clear hb2 hbel c0 c1 HCA;go_wp2_with fail
    go_ret2
    exact ⟨⟨_,rfl⟩,hbw⟩
   ·have hB : hasB es tag = false := by
     refine List.any_eq_false.2 fun y hy => ?_
     obtain ⟨k,hk,ek⟩ := List.getElem_of_mem hy
     have hyk : es[k]? = some y := by rw [List.getElem?_eq_getElem hk,ek]
     have := HI.out k y (by rw [HN.out] at hk; omega) hyk
     simp; omega
    obtain rfl : R0 = false := by rw [← HR0.out,hB]
    clear hB;go_wp2_with fail
    go_ret2
    exact ⟨⟨_,rfl⟩,hbel⟩
theorem hasTag_any (n : Nat) (v : Value) (es : List (Int × List Tr)) (tag : Int) (w : World) (h : EnsQ n w v es) (hr : RisT es) (hl : es.length ≤ 1000000) :
  Calls Tryz.prog 109 #[v,.int .i64 tag] w fun e w' => e = .returned (.bool (hasB es tag)) ∧ Below w.heap.size w w' := by
 have HI : Hid _ := bin_any n v es tag w h hr hl;obtain ⟨a,cap,rfl, -⟩ := RowP.open h;clear h hr hl;generalize es.length = N at *;generalize hasB es tag = R at *
 go_enter Tryz.func109,Tryz.ntmps109
 go_wp2_with fail;refine Calls.mono HI.out ?_;rintro e w2 ⟨⟨k,rfl⟩,hb⟩;clear HI;go_wp2_with fail;go_ret;exact ⟨rfl,hb⟩
theorem kindc_any (n : Nat) (x : Tr) (r : List Value) (b g off Kt tc : Nat) (k0 : Int) (W : World) (h : TrQ n W r x) (hB : Blk W b #[.slice (some ⟨g,off,none⟩) Kt tc] 67) (hc : W.cell? ⟨g,off,none⟩ = some (.int .i64 k0)) (hk : 0 < Kt) :
  Calls Tryz.prog 123 #[.agg r.toArray,.pointer (some ⟨b,0,none⟩)] W fun e w' => e = .returned (.bool (x.kind != k0)) ∧ Below W.heap.size W w' := by
 obtain ⟨ea,el,ec,ra,rl,rc,e1, -⟩ := TrV2.open ⟨_,rfl,h⟩;rw [e1];clear e1 h;have q0 := (hB.cell 0).trans rfl;have hb := hB.lt;have hg : g < W.heap.size := World.block_lt_of_cell? _ _ hc;clear hB;generalize x.kind = K at *;generalize x.n = N at *;generalize x.s = S at *
 go_enter Tryz.func123,Tryz.ntmps123
 go_wp2_with fail
 go_quiet (fail)
 go_wp2_with fail;go_ret;exact ⟨rfl,below_drewN nq (bra _)⟩
def okB (ts : List Tr) : Bool := decide (1 ≤ ts.length) && decide (ts.length ≤ 64) && (ts.all fun x => x.kind == (ts.head?.map Tr.kind).getD 0)
theorem oneKind_any (n : Nat) (v : Value) (ts : List Tr) (w : World) (h : TrsQ n w v ts) :
  Calls Tryz.prog 107 #[v] w fun e w' => e = .returned (.bool (okB ts)) ∧ Below w.heap.size w w' := by
 have hmf : ∀ (fn : Fn) (first cap : Array Value) (w : World),(Instr.makeFunc fn first cap).run Tryz.prog w = .ok (.func fn first cap) w := fun _ _ _ _ => rfl
 obtain ⟨a,cap,rfl,h1,h2,h3, -, -⟩ := RowP.open h;obtain ⟨N,hN⟩ : ∃ N,ts.length = N := ⟨_,rfl⟩;obtain ⟨R,hR⟩ : ∃ R,okB ts = R := ⟨_,rfl⟩;rw [hR];rw [hN] at h1 ⊢;have HH : Hid (TrsQ n w (.slice a N cap) ts) := hid (by rw [← hN]; exact h);have HN : Hid (ts.length = N) := hN;have HR : Hid (okB ts = R) := hR;unfold maxLen at h2;clear h hN hR h3
 by_cases l1 : 1 ≤ N
 ·have d1 : decide ((N : Int) < 1) = false := by simp; omega
  by_cases l2 : N ≤ 64
  ·have d2 : decide (64 < (N : Int)) = false := by simp; omega
   obtain ⟨t0,ht0⟩ : ∃ t,ts[0]? = some t := ⟨_,List.getElem?_eq_getElem (by rw [HN.out]; omega)⟩;obtain ⟨g,off,rfl,r,hr,hc⟩ := HH.out.get ht0;obtain ⟨ea,el,ec,ra,rl,rc,e1, -⟩ := TrV2.open ⟨_,rfl,hr⟩
   have hcell : w.cell? ⟨g,off,none⟩ = some (.int .i64 t0.kind) := by
    have := hc 0 (.int .i64 t0.kind) (by
     have h9 : r.toArray = #[.int .i64 t0.kind,.int .i64 t0.n,.string t0.s,.slice ea el ec,.slice ra rl rc] := by simpa using e1
     have h8 : r = [.int .i64 t0.kind,.int .i64 t0.n,.string t0.s,.slice ea el ec,.slice ra rl rc] := by simpa using congrArg Array.toList h9
     rw [h8]; rfl)
    simpa using this
   have hw1 : Below w.heap.size w (w.alloc (Obj.cells #[.slice (some ⟨g,off,none⟩) N cap] 67)) := bra _;have BX : Blk (w.alloc (Obj.cells #[.slice (some ⟨g,off,none⟩) N cap] 67)) w.heap.size #[.slice (some ⟨g,off,none⟩) N cap] 67 := Blk.new w _ _
   have HC : Hid (Calls Tryz.prog 43 #[.slice (some ⟨g,off,none⟩) N cap,.func (.func 123) #[] #[.pointer (some ⟨w.heap.size,0,none⟩)]] (w.alloc (Obj.cells #[.slice (some ⟨g,off,none⟩) N cap] 67)) fun e w' => e = .returned (.bool (!R)) ∧ Below (w.alloc (Obj.cells #[.slice (some ⟨g,off,none⟩) N cap] 67)).heap.size (w.alloc (Obj.cells #[.slice (some ⟨g,off,none⟩) N cap] 67)) w') := by
    have hh : ts.head? = some t0 := by rw [List.head?_eq_getElem?]; exact ht0
    have hb : (!R) = ts.any (fun x => x.kind != t0.kind) := by
     rw [← HR.out,okB,HN.out,decide_eq_true l1,decide_eq_true l2,hh];simp only [Option.map_some,Option.getD_some,Bool.true_and,List.not_all_eq_any_not]
     rfl
    rw [hb];refine containsK_any w.heap.size n _ ts _ (fun x => x.kind != t0.kind) (HH.out.belowTQ hw1) fun W x r' hW hx hr' => ?_
    exact kindc_any n x r' w.heap.size g off N cap t0.kind W hr' (BX.below hW) ((hW.cell (by have hg9 : g < w.heap.size := World.block_lt_of_cell? _ _ hcell; simp; omega)).trans ((hw1.cell (World.block_lt_of_cell? _ _ hcell)).trans hcell)) (by omega)
   clear hcell hc e1 hr ht0 HH HR BX
   go_enter Tryz.func107,Tryz.ntmps107
   go_wp2_with fail;refine HC.out.mono ?_;rintro e w2 ⟨rfl,hb2⟩;have hbw : Below w.heap.size w w2 := hw1.trans (hb2.mono hw1.size);clear HC hb2 hw1;go_wp2_with fail;go_ret;exact ⟨by simp,hbw⟩
  ·have d2 : decide (64 < (N : Int)) = true := by simp; omega
   obtain rfl : R = false := by rw [← HR.out,okB,HN.out]; simp; omega
   go_enter Tryz.func107,Tryz.ntmps107
   go_wp2_with fail;go_ret;exact ⟨rfl,bra _⟩
 ·have d1 : decide ((N : Int) < 1) = true := by simp; omega
  obtain rfl : R = false := by rw [← HR.out,okB,HN.out]; simp; omega
  go_enter Tryz.func107,Tryz.ntmps107
  go_wp2_with fail;go_ret;exact ⟨rfl,bra _⟩
theorem ents_cons (last : Int) (e : Int × List Tr) (l : List (Int × List Tr)) : entsB last (e :: l) = (decide (last < e.1) && decide (e.1 ≤ 500) && okB e.2 && entsB e.1 l) := by
 simp only [entsB,okB,Bool.and_assoc]
theorem entries_any (n : Nat) (v : Value) (es : List (Int × List Tr)) (w : World) (h : EnsQ n w v es) :
  Calls Tryz.prog 77 #[v] w fun e w' => e = .returned (.bool (entsB 0 es)) ∧ Below w.heap.size w w' := by
 obtain ⟨a,cap,rfl,h1,h2, -⟩ := RowP.open h;obtain ⟨N,hN⟩ : ∃ N,es.length = N := ⟨_,rfl⟩;obtain ⟨R,hR⟩ : ∃ R,entsB 0 es = R := ⟨_,rfl⟩;rw [hR];rw [hN] at h1 ⊢;have HH : Hid (EnsQ n w (.slice a N cap) es) := hid (by rw [← hN]; exact h);have HN : Hid (es.length = N) := hN;have HR0 : Hid (entsB 0 (es.drop 0) = R) := hR;unfold maxLen at h2;clear h hN hR
 go_enter Tryz.func77,Tryz.ntmps77
 go_wp2_with fail
 go_loopw [3,8] (fun av iv wr => ∃ (i : Nat) (last : Int),iv = .int .i64 (i : Int) ∧ av = .int .i64 last ∧ i ≤ N ∧ Hid (entsB last (es.drop i) = R) ∧ Below w.heap.size w wr) (fun _ iv _ => N - (intOf iv).toNat)
 case atStart => exact ⟨0,0,rfl,rfl,by omega,HR0,Below.refl _ _⟩
 case round =>
  clear HR0;obtain ⟨i,last,rfl,rfl,hi,HR,hbel⟩ := hrel
  by_cases hlt : i < N
  ·obtain ⟨x,hx⟩ : ∃ r,es[i]? = some r := ⟨_,List.getElem?_eq_getElem (by rw [HN.out]; exact hlt)⟩;obtain ⟨g,off,rfl,r,⟨vt,rfl, -,ht⟩,hc⟩ := (HH.out.belowEQ hbel).get hx;obtain ⟨ta,tc,rfl, -⟩ := RowP.open ht;have c0 := hc 0 _ rfl;have c1 := hc 1 _ rfl;simp only [Nat.add_zero] at c0
   have hdr : es.drop i = x :: es.drop (i + 1) := by
    obtain ⟨hl',e⟩ := List.getElem?_eq_some_iff.1 hx;rw [List.drop_eq_getElem_cons hl',e]
   have HR1 : Hid ((decide (last < x.1) && decide (x.1 ≤ 500) && okB x.2 && entsB x.1 (es.drop (i + 1))) = R) := hid (by rw [← ents_cons,← hdr]; exact HR.out);have HOK : Hid (∀ W,Below wr.heap.size wr W → Calls Tryz.prog 107 #[.slice ta x.2.length tc] W fun e w' => e = .returned (.bool (okB x.2)) ∧ Below W.heap.size W w') := fun W hW => oneKind_any n _ x.2 W (RowP.belowTQ ht hW)
   clear hc ht hx hdr HR;generalize x.2.length = Xl at *;generalize okB x.2 = O at *;generalize x.1 = xt at *
   by_cases k1 : last < xt
   ·by_cases k2 : xt ≤ 500
    ·have d1 : decide (xt ≤ last) = false := by simp; omega
     have d2 : decide (500 < xt) = false := by simp; omega
     have hal : Below wr.heap.size wr (wr.alloc (Obj.cells #[.int .i64 xt,.slice ta Xl tc] 69)) := bra _;have BE : Blk (wr.alloc (Obj.cells #[.int .i64 xt,.slice ta Xl tc] 69)) wr.heap.size #[.int .i64 xt,.slice ta Xl tc] 69 := Blk.new wr _ _;go_wp2_with fail;refine (HOK.out _ hal).mono ?_;rintro e w2 ⟨rfl,hb2⟩;have hb3 : Below wr.heap.size wr w2 := hal.trans (hb2.mono hal.size);have hbw : Below w.heap.size w w2 := hbel.trans (hb3.mono hbel.size);have q0 := ((BE.below hb2).cell 0).trans rfl;generalize wr.heap.size = bw at *;clear hb2 hb3 hbel c0 c1 HOK hal BE
     cases O with
     | true =>
      go_wp2_with fail
      go_roundw
      case rel => exact ⟨i + 1,xt,by go_num,rfl,by omega,(by have := HR1.out; rw [decide_eq_true k1,decide_eq_true k2] at this; simpa using this : entsB xt (es.drop (i + 1)) = R),hbw⟩
      case measure => simp [intOf]; omega
     | false =>
      obtain rfl : R = false := by rw [← HR1.out]; simp
      go_wp2_with fail;go_ret;exact ⟨rfl,hbw⟩
    ·have d1 : decide (xt ≤ last) = false := by simp; omega
     have d2 : decide (500 < xt) = true := by simp; omega
     obtain rfl : R = false := by rw [← HR1.out,decide_eq_false k2]; simp
     go_wp2_with fail;go_ret;exact ⟨rfl,hbel.alloc hbel.size _⟩
   ·have d1 : decide (xt ≤ last) = true := by simp; omega
    obtain rfl : R = false := by rw [← HR1.out,decide_eq_false k1]; simp
    go_wp2_with fail;go_ret;exact ⟨rfl,hbel.alloc hbel.size _⟩
  ·obtain rfl : R = true := by rw [← HR.out,List.drop_eq_nil_of_le (by rw [HN.out]; omega)]; rfl
   go_wp2_with fail;go_ret;exact ⟨rfl,hbel⟩
theorem ret_boolF {a b : Bool} (h : a = b) : Ending.returned (.bool a) = .returned (.bool b) := by rw [h]
theorem checkV_any (t k n : Int) (b : ByteArray) (w : World) :
  Calls Tryz.prog 108 #[.agg #[.int .i64 t,.int .i64 k,.int .i64 n,.string b]] w fun e w' => e = .returned (.bool (okV t k n b)) ∧ Below w.heap.size w w' := by
 by_cases h1 : 1 ≤ t
 ·by_cases h2 : t ≤ 500
  ·by_cases hk : k = 0
   ·subst hk
    go_enter Tryz.func108,Tryz.ntmps108
    go_wp2_with fail
    all_goals
     go_ret;exact ⟨ret_boolF (by simp [okV,h1,h2]),bra _⟩
   ·by_cases hk1 : k = 1
    ·subst hk1
     by_cases hn : n = 0
     ·subst hn
      go_enter Tryz.func108,Tryz.ntmps108
      go_wp2_with fail
      all_goals
       go_ret;exact ⟨ret_boolF (by simp [okV,h1,h2]),bra _⟩
     ·go_enter Tryz.func108,Tryz.ntmps108
      go_wp2_with fail
      all_goals
       go_ret;exact ⟨ret_boolF (by simp [okV,hn]),bra _⟩
    ·have e0 : (k == 0) = false := by simp [hk]
     have e1 : (k == 1) = false := by simp [hk1]
     go_enter Tryz.func108,Tryz.ntmps108
     go_wp2_with fail
     all_goals
      go_ret;exact ⟨ret_boolF (by simp [okV,hk,hk1]),bra _⟩
  ·have hok : okV t k n b = false := by simp [okV]; omega
   rw [hok];clear hok
   have hd : decide (t < 1) = false := by simp; omega
   have hd5 : decide (500 < t) = true := by simp; omega
   go_enter Tryz.func108,Tryz.ntmps108
   go_wp2_with fail
   all_goals
    go_ret;exact ⟨rfl,bra _⟩
 ·have hok : okV t k n b = false := by simp [okV]; omega
  rw [hok];clear hok
  have hd : decide (t < 1) = true := by simp; omega
  go_enter Tryz.func108,Tryz.ntmps108
  go_wp2_with fail
  all_goals
   go_ret;exact ⟨rfl,bra _⟩
theorem rising_any (a : Option Addr) (rs : List Fd) (N cap : Nat) (w : World) (hN : rs.length = N) (hadr : rs = [] ∨ ∃ g off,a = some ⟨g,off,none⟩) (hc : N ≤ cap) (hm : cap ≤ maxLen) (hh : HoldsR w a rs) :
  Calls Tryz.prog 110 #[.slice a N cap] w fun e w' => e = .returned (.bool (risesB rs)) ∧ Below w.heap.size w w' := by
 have HN : Hid (rs.length = N) := hN;have HA : Hid (rs = [] ∨ ∃ g off,a = some ⟨g,off,none⟩) := hadr;have HH : Hid (HoldsR w a rs) := hh;obtain ⟨R,hR⟩ : ∃ R,risesB rs = R := ⟨_,rfl⟩;rw [hR];have HR : Hid (risesB rs = R) := hR;unfold maxLen at hm;clear hN hadr hh hR
 go_enter Tryz.func110,Tryz.ntmps110
 go_wp2_with fail
 go_loopw [3] (fun iv wr => ∃ i : Nat,iv = .int .i64 ((i : Int) + 1) ∧ i ≤ N ∧ Hid (∀ j x y,j < i → rs[j]? = some x → rs[j + 1]? = some y → x.tag ≤ y.tag) ∧ Below w.heap.size w wr) (fun iv _ => N + 1 - (intOf iv).toNat)
 case atStart => exact ⟨0,rfl,by omega,(fun j x y hj => absurd hj (by omega) : ∀ j x y,j < 0 → rs[j]? = some x → rs[j + 1]? = some y → x.tag ≤ y.tag),Below.refl _ _⟩
 case round =>
  obtain ⟨i,rfl,hi,HT,hbel⟩ := hrel
  by_cases hlt : i + 1 < N
  ·have hr : rs[i]? = some (rs[i]'(by rw [HN.out]; omega)) := List.getElem?_eq_getElem _;generalize rs[i]'(by rw [HN.out]; omega) = r at hr;have hs : rs[i + 1]? = some (rs[i + 1]'(by rw [HN.out]; exact hlt)) := List.getElem?_eq_getElem _;generalize rs[i + 1]'(by rw [HN.out]; exact hlt) = s at hs
   rcases HA.out with h0 | ⟨g,off,rfl⟩
   ·exact absurd hlt (by have := HN.out; rw [h0] at this; simp at this; omega)
   obtain ⟨p0, -, -, -⟩ := (HH.out.below hbel).at hr;obtain ⟨q0, -, -, -⟩ := (HH.out.below hbel).at hs;have HK : Hid (rs[i]? = some r) := hr;have HK2 : Hid (rs[i + 1]? = some s) := hs;obtain ⟨x,hx⟩ : ∃ q,r.tag = q := ⟨_,rfl⟩;obtain ⟨y,hy⟩ : ∃ q,s.tag = q := ⟨_,rfl⟩;rw [hx] at p0;rw [hy] at q0;have HX : Hid (r.tag = x) := hx;have HY : Hid (s.tag = y) := hy
   have hlti : (i : Int) + 1 < (N : Int) := by omega
   clear hr hs hx hy
   by_cases hle : y < x
   ·have hd : decide (y < x) = true := by simp [hle]
    obtain rfl : R = false := by rw [← HR.out]; exact rises_break i r s HK.out HK2.out (by rw [HX.out,HY.out]; exact hle)
    clear HT HK HK2 HX HY HR;go_wp2_with fail
    go_quiet (fail)
    have hbn := below_drewN nq hbel;clear p0 q0 hbel;go_wp2_with fail;go_ret;exact ⟨rfl,hbn⟩
   ·have hd : decide (y < x) = false := by simp; omega
    have HT2 : Hid (∀ j u v,j < i + 1 → rs[j]? = some u → rs[j + 1]? = some v → u.tag ≤ v.tag) := fun j u v hj hu hv => by
     by_cases hji : j = i
     ·subst hji;rw [HK.out] at hu;rw [HK2.out] at hv
      obtain rfl : r = u := by simpa using hu
      obtain rfl : s = v := by simpa using hv
      rw [HX.out,HY.out]; omega
     ·exact HT.out j u v (by omega) hu hv
    clear HT HK HK2 HX HY;go_wp2_with fail
    go_quiet (fail)
    have hbn := below_drewN nq hbel;clear p0 q0 hbel;go_wp2_with fail
    go_roundw
    case rel => exact ⟨i + 1,by go_num,by omega,HT2,hbn⟩
    case measure => simp [intOf]; omega
  ·obtain rfl : R = true := by
    rw [← HR.out];refine rises_steps fun j x y hx hy => HT.out j x y ?_ hx hy
    have := (List.getElem?_eq_some_iff.1 hy).1;rw [HN.out] at this
    omega
   have hnl : ¬ (i : Int) + 1 < (N : Int) := by omega
   clear HT HR;go_wp2_with fail;go_ret;exact ⟨rfl,hbel⟩
end
end Go.Proofs.YtmgbhicogmclgaaGreat

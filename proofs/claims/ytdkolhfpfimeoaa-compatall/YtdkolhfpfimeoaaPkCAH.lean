/- Part 8 of what the proof stands on. -/
import Derived.Test.YtdkolhfpfimeoaaPkCAG
namespace Go.Proofs.Ytdkolhfpfimeoaa
set_option maxHeartbeats 8000000
set_option linter.unusedVariables false
set_option linter.unusedSimpArgs false
set_option maxRecDepth 20000
section
open Go.ChangeShapes Go.WideShapes Go.ChangeAt Go.RowKit Go.Maps
theorem inVs_snoc {v : NmS} {l : List NmS} {k : Nat} {x : NmS} (h : l[k]? = some x) : inVs v (l.take (k + 1)) = (inVs v (l.take k) || decide (v.name = x.name ∧ v.n = x.n)) := by
 rw [List.take_add_one,h]; simp [inVs]
theorem allVs_snoc {l r : List NmS} {k : Nat} {x : NmS} (h : l[k]? = some x) : (l.take (k + 1)).all (fun v => inVs v r) = ((l.take k).all (fun v => inVs v r) && inVs x r) := by
 rw [List.take_add_one,h,List.all_append]; simp
theorem rfits6_any {s t : ScS} {sv tv : Value} {w : World} {n1 n2 : ByteArray} (hs : SIn w sv s) (ht : SIn w tv t) : Calls Try.prog 15 #[sv,tv,.agg #[.int .i64 6,.string n1],.agg #[.int .i64 6,.string n2]] w fun e w' => e = .returned (.bool (fitsY s t 6 n1 6 n2)) ∧ Below w.heap.size w w' := by
 have HF1 := enm_few hs.few n1;have HF2 := enm_few ht.few n2;have HR : Hid (fitsY s t 6 n1 6 n2 = ((enmOf s n1).isSome && (enmOf t n2).isSome && ((enmOf s n1).getD zEn).values.all fun v => inVs v ((enmOf t n2).getD zEn).values)) := (by simp [fitsY] : _ = _);obtain ⟨am,M,cm,ae,E,ce,at',T,ct,rfl, -,hE1, -⟩ := hs.open;obtain ⟨am2,M2,cm2,ae2,E2,ce2,at2,T2,ct2,rfl, -,hE2, -⟩ := ht.open;obtain ⟨sn,hsn⟩ : ∃ z,s.name = z := ⟨_,rfl⟩;obtain ⟨tn,htn⟩ : ∃ z,t.name = z := ⟨_,rfl⟩;rw [hsn,htn];have HC1 : Hid (∀ W,Below w.heap.size w W → Calls Try.prog 27 #[.agg #[.string sn,.slice am M cm,.slice ae E ce,.slice at' T ct],.string n1] W fun e w' => ∃ vv,e = .returned (.tuple #[.agg #[.string ((enmOf s n1).getD zEn).name,vv],.bool (enmOf s n1).isSome]) ∧ RowG w' vv 2 (nmRows ((enmOf s n1).getD zEn).values) ∧ Below W.heap.size W w') := fun W hW => r7enum_any (hE1.below hW)
 have HC2 : Hid (∀ W,Below w.heap.size w W → Calls Try.prog 27 #[.agg #[.string tn,.slice am2 M2 cm2,.slice ae2 E2 ce2,.slice at2 T2 ct2],.string n2] W fun e w' => ∃ vv,e = .returned (.tuple #[.agg #[.string ((enmOf t n2).getD zEn).name,vv],.bool (enmOf t n2).isSome]) ∧ RowG w' vv 2 (nmRows ((enmOf t n2).getD zEn).values) ∧ Below W.heap.size W w') := fun W hW => r7enum_any (hE2.below hW)
 rw [HR.out];generalize enmOf s n1 = X at *;generalize enmOf t n2 = Y at *;clear hs ht hE1 hE2 HR hsn htn;obtain ⟨XE,hXE⟩ : ∃ z,X.getD zEn = z := ⟨_,rfl⟩;obtain ⟨YE,hYE⟩ : ∃ z,Y.getD zEn = z := ⟨_,rfl⟩;rw [hXE] at HC1 HF1 ⊢;rw [hYE] at HC2 HF2 ⊢;obtain ⟨xb,hxb⟩ : ∃ z,X.isSome = z := ⟨_,rfl⟩;obtain ⟨yb,hyb⟩ : ∃ z,Y.isSome = z := ⟨_,rfl⟩;rw [hxb] at HC1 ⊢;rw [hyb] at HC2 ⊢;clear hXE hYE hxb hyb;obtain ⟨xn,xv⟩ := XE;obtain ⟨yn,yv⟩ := YE;simp only at HC1 HC2 HF1 HF2 ⊢;obtain ⟨ANS,hANS⟩ : ∃ z,(xb && yb && xv.all fun v => inVs v yv) = z := ⟨_,rfl⟩;have HANS : Hid ((xb && yb && xv.all fun v => inVs v yv) = ANS) := hANS;rw [hANS];clear hANS;obtain ⟨b0,hb0⟩ : ∃ z,w.heap.size = z := ⟨_,rfl⟩;have h1 := alls_below [(#[.string sn,.slice am M cm,.slice ae E ce,.slice at' T ct],26),(#[.string tn,.slice am2 M2 cm2,.slice ae2 E2 ce2,.slice at2 T2 ct2],26),(#[.int .i64 6,.string n1],28),(#[.int .i64 6,.string n2],28)] w;have h2 := alls_blk [(#[.string sn,.slice am M cm,.slice ae E ce,.slice at' T ct],26),(#[.string tn,.slice am2 M2 cm2,.slice ae2 E2 ce2,.slice at2 T2 ct2],26),(#[.int .i64 6,.string n1],28),(#[.int .i64 6,.string n2],28)] w;have HBB : Hid (Below w.heap.size w ((((w.alloc (.cells #[.string sn,.slice am M cm,.slice ae E ce,.slice at' T ct] 26)).alloc (.cells #[.string tn,.slice am2 M2 cm2,.slice ae2 E2 ce2,.slice at2 T2 ct2] 26)).alloc (.cells #[.int .i64 6,.string n1] 28)).alloc (.cells #[.int .i64 6,.string n2] 28)) ∧ Blk ((((w.alloc (.cells #[.string sn,.slice am M cm,.slice ae E ce,.slice at' T ct] 26)).alloc (.cells #[.string tn,.slice am2 M2 cm2,.slice ae2 E2 ce2,.slice at2 T2 ct2] 26)).alloc (.cells #[.int .i64 6,.string n1] 28)).alloc (.cells #[.int .i64 6,.string n2] 28)) (w.heap.size + 1) #[.string tn,.slice am2 M2 cm2,.slice ae2 E2 ce2,.slice at2 T2 ct2] 26 ∧ Blk ((((w.alloc (.cells #[.string sn,.slice am M cm,.slice ae E ce,.slice at' T ct] 26)).alloc (.cells #[.string tn,.slice am2 M2 cm2,.slice ae2 E2 ce2,.slice at2 T2 ct2] 26)).alloc (.cells #[.int .i64 6,.string n1] 28)).alloc (.cells #[.int .i64 6,.string n2] 28)) (w.heap.size + 1 + 1 + 1) #[.int .i64 6,.string n2] 28) := ⟨h1.1,h2 1 _ rfl,h2 3 _ rfl⟩;clear h1 h2
 go_enter Try.func15,Try.ntmps15
 go_wp2_with fail;generalize ((((w.alloc (.cells #[.string sn,.slice am M cm,.slice ae E ce,.slice at' T ct] 26)).alloc (.cells #[.string tn,.slice am2 M2 cm2,.slice ae2 E2 ce2,.slice at2 T2 ct2] 26)).alloc (.cells #[.int .i64 6,.string n1] 28)).alloc (.cells #[.int .i64 6,.string n2] 28)) = U at *;rw [hb0] at HBB
 try simp only [hb0]
 have HUW : Hid (Below w.heap.size w U) := (by rw [hb0]; exact HBB.out.1 : Below _ _ _);have HBZ : Hid (w.heap.size = b0) := hb0;clear hb0;refine (HC1.out _ HUW.out).mono ?_;rintro e w1 ⟨v1,rfl,hr1,hb1⟩;obtain ⟨p1,r1,rfl, -, -⟩ := hr1.form2;obtain ⟨XL,hXL⟩ : ∃ z,(nmRows xv).length = z := ⟨_,rfl⟩
 have hXL2 : xv.length = XL := by rw [← hXL]; simp [nmRows]
 rw [hXL] at hr1 ⊢;have B2 := HBB.out.2.1.below hb1;have B4 := HBB.out.2.2.below hb1;have hl1 := B2.lt;have hl2 := B4.lt;have hbw1 := HUW.out.trans (hb1.mono HUW.out.size);have HR1 : Hid (RowG w1 (.slice p1 XL r1) 2 (nmRows xv)) := hr1;have HXL : Hid (xv.length = XL) := hXL2;clear hXL hXL2 hr1 hb1 HC1 HBB;have s0 := (B2.cell 0).trans rfl;have s1 := (B2.cell 1).trans rfl;have s2 := (B2.cell 2).trans rfl;have s3 := (B2.cell 3).trans rfl;have y0 := (B4.cell 0).trans rfl;have y1 := (B4.cell 1).trans rfl;go_wp2_with fail;have al : Below w1.heap.size w1 (w1.alloc (.cells #[.string xn,.slice p1 XL r1] 51)) := (Below.refl _ _).alloc (Nat.le_refl _) _;have hbw1a := hbw1.trans (al.mono hbw1.size);refine Calls.mono (HC2.out _ hbw1a) ?_;rintro e w2 ⟨v2,rfl,hr2,hb2⟩;obtain ⟨p2,r2,rfl, -, -⟩ := hr2.form2;obtain ⟨YL,hYL⟩ : ∃ z,(nmRows yv).length = z := ⟨_,rfl⟩
 have hYL2 : yv.length = YL := by rw [← hYL]; simp [nmRows]
 rw [hYL] at hr2 ⊢;have BX2 := (Blk.new w1 #[.string xn,.slice p1 XL r1] 51).below hb2;have hbw2 := hbw1a.trans (hb2.mono hbw1a.size);have HR1' : Hid (RowG w2 (.slice p1 XL r1) 2 (nmRows xv)) := (HR1.out.below al).below hb2;have HR2 : Hid (RowG w2 (.slice p2 YL r2) 2 (nmRows yv)) := hr2;have HYL : Hid (yv.length = YL) := hYL2;clear hYL hYL2 hr2 hb2 HC2 HR1 al hbw1 hbw1a B2 B4 s0 s1 s2 s3 y0 y1 hl1 hl2;obtain ⟨bx,hbx⟩ : ∃ z,w1.heap.size = z := ⟨_,rfl⟩;rw [hbx] at BX2;simp only [hbx];clear hbx;have al : Below w2.heap.size w2 (w2.alloc (.cells #[.string yn,.slice p2 YL r2] 51)) := (Below.refl _ _).alloc (Nat.le_refl _) _;have BX3 := BX2.below al;have BY3 := Blk.new w2 #[.string yn,.slice p2 YL r2] 51;have HR3 : Hid (RowG (w2.alloc (.cells #[.string yn,.slice p2 YL r2] 51)) (.slice p1 XL r1) 2 (nmRows xv)) := HR1'.out.below al;have HR4 : Hid (RowG (w2.alloc (.cells #[.string yn,.slice p2 YL r2] 51)) (.slice p2 YL r2) 2 (nmRows yv)) := HR2.out.below al;have hbw3 := hbw2.trans (al.mono hbw2.size)
 have hxl : XL ≤ 30000 := by rw [← HXL.out]; exact HF1
 have hyl : YL ≤ 30000 := by rw [← HYL.out]; exact HF2
 go_wp2_with fail;obtain ⟨bv,hbv⟩ : ∃ z,w2.heap.size = z := ⟨_,rfl⟩;rw [hbv] at BY3;simp only [hbv];clear hbv al BX2 HR1' HR2 hbw2 HF1 HF2;generalize (w2.alloc (Obj.cells #[.string yn,.slice p2 YL r2] 51)) = w3 at *;have HI0 : Hid ((yb && (xv.take 0).all (fun v => inVs v yv)) = yb) := (by simp : _ = _)
 go_loopw [12,13] (fun bz iv wr => ∃ (i : Nat) (z : Bool),bz = .bool z ∧ iv = .int .i64 (i : Int) ∧ i ≤ XL ∧ Hid ((yb && (xv.take i).all (fun v => inVs v yv)) = z) ∧ Below w3.heap.size w3 wr) (fun _ iv _ => XL - (intOf iv).toNat)
 case atStart => exact ⟨0,yb,rfl,rfl,by omega,HI0,Below.refl _ _⟩
 case round =>
  clear HI0;obtain ⟨i,z,rfl,rfl,hi,HI,hbel⟩ := hrel;have x1 := ((BX3.below hbel).cell 1).trans rfl;have hlx := (BX3.below hbel).lt
  by_cases hlt : i < XL
  ·obtain ⟨f,hfi⟩ : ∃ n,xv[i]? = some n := ⟨_,List.getElem?_eq_getElem (by rw [HXL.out]; exact hlt)⟩;have HFI : Hid (xv[i]? = some f) := hfi;have HN0 : Hid (inVs f (yv.take 0) = false) := (by simp [inVs] : _ = _);have HW : Hid (Below w3.heap.size w3 wr) := hbel;clear hfi;go_wp2_with fail
   go_loopw [14,15] (fun nz kv wr => ∃ (k : Nat) (y : Bool),nz = .bool y ∧ kv = .int .i64 (k : Int) ∧ k ≤ YL ∧ Hid (inVs f (yv.take k) = y) ∧ Below w3.heap.size w3 wr) (fun _ kv _ => YL - (intOf kv).toNat)
   case atStart => exact ⟨0,false,rfl,rfl,by omega,HN0,HW.out⟩
   case round =>
    clear HN0 HW x1 hbel hlx;obtain ⟨k,y,rfl,rfl,hk,HN,hbel⟩ := hrel;have x1 := ((BX3.below hbel).cell 1).trans rfl;have y1 := ((BY3.below hbel).cell 1).trans rfl;have hlx := (BX3.below hbel).lt;have hly := (BY3.below hbel).lt
    by_cases hlk : k < YL
    ·obtain ⟨g,hgk⟩ : ∃ n,yv[k]? = some n := ⟨_,List.getElem?_eq_getElem (by rw [HYL.out]; exact hlk)⟩
     have hr1 : (nmRows xv)[i]? = some [.string f.name,.int .i64 f.n] := by simp [nmRows,HFI.out,NmS.cells]
     have hr2 : (nmRows yv)[k]? = some [.string g.name,.int .i64 g.n] := by simp [nmRows,hgk,NmS.cells]
     obtain ⟨g1,o1,rfl,c1⟩ := (HR3.out.below hbel).get hr1;obtain ⟨g2,o2,rfl,c2⟩ := (HR4.out.below hbel).get hr2;have d0 := c1 0 _ rfl;have d1 := c1 1 _ rfl;have e0 := c2 0 _ rfl;have e1 := c2 1 _ rfl;simp only [Nat.add_zero] at d0 d1 e0 e1;have HNX : Hid (inVs f (yv.take (k + 1)) = (y || decide (f.name = g.name ∧ f.n = g.n))) := (by rw [inVs_snoc hgk,HN.out] : _ = _);obtain ⟨f0,f1⟩ := f;obtain ⟨g0,g1'⟩ := g;simp only at d0 d1 e0 e1 HNX;clear c1 c2 hr1 hr2 hgk
     cases y with
     | true =>
      have HN2 : Hid (inVs ⟨f0,f1⟩ (yv.take (k + 1)) = true) := (by rw [HNX.out]; rfl : _ = _)
      go_upto_region 16 with fail
      go_quiet (fail)
      go_wp2_with fail
      go_roundw
      case rel => exact ⟨k + 1,true,rfl,by go_num,by omega,HN2,below_drewN _ hbel⟩
      case measure => simp [intOf]; omega
     | false =>
      by_cases h1 : f0 = g0
      ·subst h1
       by_cases h2 : f1 = g1'
       ·subst h2;have HN2 : Hid (inVs ⟨f0,f1⟩ (yv.take (k + 1)) = true) := (by rw [HNX.out]; simp : _ = _)
        go_upto_region 16 with fail
        go_quiet (fail)
        go_wp2_with fail
        go_roundw
        case rel => exact ⟨k + 1,true,rfl,by go_num,by omega,HN2,below_drewN _ hbel⟩
        case measure => simp [intOf]; omega
       ·have hq : (f1 == g1') = false := by simpa using h2
        have HN2 : Hid (inVs ⟨f0,f1⟩ (yv.take (k + 1)) = false) := (by rw [HNX.out]; simp [h2] : _ = _)
        go_upto_region 16 with fail
        go_quiet (fail)
        go_wp2_with fail
        go_roundw
        case rel => exact ⟨k + 1,false,rfl,by go_num,by omega,HN2,below_drewN _ hbel⟩
        case measure => simp [intOf]; omega
      ·have hq := bytes_ne h1;have HN2 : Hid (inVs ⟨f0,f1⟩ (yv.take (k + 1)) = false) := (by rw [HNX.out]; simp [h1] : _ = _)
       go_upto_region 16 with fail
       go_quiet (fail)
       go_wp2_with fail
       go_roundw
       case rel => exact ⟨k + 1,false,rfl,by go_num,by omega,HN2,below_drewN _ hbel⟩
       case measure => simp [intOf]; omega
    ·obtain rfl : k = YL := by omega
     have HY2 : Hid (inVs f yv = y) := (by
      have h1 := HN.out
      rwa [List.take_of_length_le (by rw [HYL.out]; omega)] at h1 : inVs f yv = y)
     have HZ2 : Hid ((yb && (xv.take (i + 1)).all (fun v => inVs v yv)) = (z && y)) := (by
      rw [allVs_snoc HFI.out,← HI.out,← HY2.out,Bool.and_assoc] : _ = _)
     cases z with
     | false =>
      have HZ3 : Hid ((yb && (xv.take (i + 1)).all (fun v => inVs v yv)) = false) := (by rw [HZ2.out]; rfl : _ = _);go_wp2_with fail
      go_roundw
      case rel => exact ⟨i + 1,false,rfl,by go_num,by omega,HZ3,hbel⟩
      case measure => simp [intOf]; omega
     | true =>
      have HZ3 : Hid ((yb && (xv.take (i + 1)).all (fun v => inVs v yv)) = y) := (by rw [HZ2.out]; rfl : _ = _);go_wp2_with fail
      go_roundw
      case rel => exact ⟨i + 1,y,rfl,by go_num,by omega,HZ3,hbel⟩
      case measure => simp [intOf]; omega
  ·obtain rfl : i = XL := by omega
   have HAN : Hid (ANS = (xb && z)) := (by
    have h1 := HI.out;rw [List.take_of_length_le (by rw [HXL.out]; omega)] at h1
    rw [← HANS.out,← h1,Bool.and_assoc] : _ = _)
   have hbwz := hbw3.trans (hbel.mono hbw3.size)
   cases xb with
   | false =>
    go_wp2_with fail;go_ret;exact ⟨ret_bool (by rw [HAN.out]; rfl),hbwz⟩
   | true =>
    go_wp2_with fail;go_ret;exact ⟨ret_bool (by rw [HAN.out]; rfl),hbwz⟩
theorem rfits_any {s t : ScS} {sv tv : Value} (k1 k2 : Int) (n1 n2 : ByteArray) {w : World} (hs : SIn w sv s) (ht : SIn w tv t) : Calls Try.prog 15 #[sv,tv,.agg #[.int .i64 k1,.string n1],.agg #[.int .i64 k2,.string n2]] w fun e w' => e = .returned (.bool (fitsY s t k1 n1 k2 n2)) ∧ Below w.heap.size w w' := by
 by_cases h66 : k1 = 6 ∧ k2 = 6
 ·obtain ⟨rfl,rfl⟩ := h66;exact rfits6_any hs ht
 obtain ⟨am,M,cm,ae,E,ce,at',T,ct,rfl, -, -, -⟩ := hs.open;obtain ⟨am2,M2,cm2,ae2,E2,ce2,at2,T2,ct2,rfl, -, -, -⟩ := ht.open;obtain ⟨R,hR⟩ : ∃ z,fitsY s t k1 n1 k2 n2 = z := ⟨_,rfl⟩;rw [hR]
 have HR : Hid (R = if k1 = 1 ∧ k2 = 2 then true else if k1 ≠ k2 then false else if k1 ≠ 6 then true else fitsY s t 6 n1 6 n2) := (by
  rw [← hR]
  by_cases h1 : k1 = 1 ∧ k2 = 2
  ·simp [fitsY,h1]
  ·by_cases h2 : k1 = k2
   ·subst h2
    by_cases h3 : k1 = 6
    ·subst h3; simp [h1]
    ·simp [fitsY,h1,h3]
   ·simp [fitsY,h1,h2] : R = _)
 generalize fitsY s t 6 n1 6 n2 = G at *;generalize s.name = sn at *;generalize t.name = tn at *;clear hs ht hR;have hba : Below w.heap.size w ((((w.alloc (.cells #[.string sn,.slice am M cm,.slice ae E ce,.slice at' T ct] 26)).alloc (.cells #[.string tn,.slice am2 M2 cm2,.slice ae2 E2 ce2,.slice at2 T2 ct2] 26)).alloc (.cells #[.int .i64 k1,.string n1] 28)).alloc (.cells #[.int .i64 k2,.string n2] 28)) := ((((Below.refl _ _).alloc (Nat.le_refl _) _).alloc (by simp) _).alloc (by simp; omega) _).alloc (by simp; omega) _
 by_cases h1 : k1 = 1
 ·subst h1
  by_cases h2 : k2 = 2
  ·subst h2;have HR2 : Hid (R = true) := (by rw [HR.out]; simp : R = true)
   go_enter Try.func15,Try.ntmps15
   go_wp2_with fail;go_ret;exact ⟨ret_bool HR2.out.symm,hba⟩
  ·by_cases h3 : k2 = 1
   ·subst h3;have HR2 : Hid (R = true) := (by rw [HR.out]; simp : R = true)
    go_enter Try.func15,Try.ntmps15
    go_wp2_with fail;go_ret;exact ⟨ret_bool HR2.out.symm,hba⟩
   ·have HR2 : Hid (R = false) := (by rw [HR.out]; simp [h2,Ne.symm h3] : R = false)
    have e1 : (k2 == 2) = false := by simpa using h2
    have e2 : ((1 : Int) != k2) = true := by simpa using Ne.symm h3
    go_enter Try.func15,Try.ntmps15
    go_wp2_with fail;go_ret;exact ⟨ret_bool HR2.out.symm,hba⟩
 ·have e1 : (k1 == 1) = false := by simpa using h1
  by_cases h3 : k1 = k2
  ·subst h3
   by_cases h6 : k1 = 6
   ·exact absurd ⟨h6,h6⟩ h66
   ·have HR2 : Hid (R = true) := (by rw [HR.out]; simp [h1,h6] : R = true)
    have e2 : (k1 == 6) = false := by simpa using h6
    have e4 : (k1 != 6) = true := by simpa using h6
    have e3 : (k1 != k1) = false := by simp
    go_enter Try.func15,Try.ntmps15
    go_wp2_with fail;go_ret;exact ⟨ret_bool HR2.out.symm,hba⟩
  ·have HR2 : Hid (R = false) := (by rw [HR.out]; simp [h1,h3] : R = false)
   have e2 : (k1 != k2) = true := by simpa using h3
   go_enter Try.func15,Try.ntmps15
   go_wp2_with fail;go_ret;exact ⟨ret_bool HR2.out.symm,hba⟩
theorem r7field_any {w : World} {snm : ByteArray} {nm : Int} {am : Option Addr} {M cm : Nat} {vt : Value} {ts : List FlS} (hr : RowG w vt 5 (flRows ts)) :
  Calls Try.prog 41 #[.agg #[.string snm,vt,.slice am M cm],.int .i64 nm] w fun e w' => e = .returned (.tuple #[flV ((ts.find? fun m => decide (m.tag = nm)).getD zeroF),.bool (ts.find? fun m => decide (m.tag = nm)).isSome]) ∧ Below w.heap.size w w' := by
 obtain ⟨a,c,rfl,q1,q2⟩ := hr.form2
 have hN : (flRows ts).length = ts.length := by simp [flRows]
 rw [hN] at hr q1 ⊢;clear hN;obtain ⟨N,hN⟩ : ∃ N,ts.length = N := ⟨_,rfl⟩;rw [hN] at hr q1 ⊢;have HN : Hid (ts.length = N) := hN;have HR : Hid (RowG w (.slice a N c) 5 (flRows ts)) := hr;clear hN hr;obtain ⟨A,hA⟩ : ∃ A,(ts.find? fun m => decide (m.tag = nm)) = A := ⟨_,rfl⟩;rw [hA];have HA : Hid (A = ((ts.drop 0).find? fun m => decide (m.tag = nm))) := hA.symm;clear hA;have BX0 : Blk ((w.alloc (.cells #[.string snm,.slice a N c,.slice am M cm] 40)).alloc (.cells #[.string ⟨#[]⟩,.int .i64 0,.int .i64 0,.int .i64 0,.string ⟨#[]⟩] 42)) w.heap.size #[.string snm,.slice a N c,.slice am M cm] 40 := (Blk.new w _ _).below ((Below.refl _ _).alloc (Nat.le_refl _) _)
 have BR0 : Blk ((w.alloc (.cells #[.string snm,.slice a N c,.slice am M cm] 40)).alloc (.cells #[.string ⟨#[]⟩,.int .i64 0,.int .i64 0,.int .i64 0,.string ⟨#[]⟩] 42)) (w.heap.size + 1) #[.string ⟨#[]⟩,.int .i64 0,.int .i64 0,.int .i64 0,.string ⟨#[]⟩] 42 := by
  have := Blk.new (w.alloc (.cells #[.string snm,.slice a N c,.slice am M cm] 40)) #[.string ⟨#[]⟩,.int .i64 0,.int .i64 0,.int .i64 0,.string ⟨#[]⟩] 42
  rwa [show (w.alloc (.cells #[.string snm,.slice a N c,.slice am M cm] 40)).heap.size = w.heap.size + 1 by simp] at this
 have hb0 : Below w.heap.size w ((w.alloc (.cells #[.string snm,.slice a N c,.slice am M cm] 40)).alloc (.cells #[.string ⟨#[]⟩,.int .i64 0,.int .i64 0,.int .i64 0,.string ⟨#[]⟩] 42)) := ((Below.refl _ _).alloc (Nat.le_refl _) _).alloc (by simp) _
 go_enter Try.func41,Try.ntmps41
 go_wp2_with fail
 go_loopw [6] (fun iv wr => ∃ k : Nat,iv = .int .i64 (k : Int) ∧ k ≤ N ∧ Hid (A = ((ts.drop k).find? fun m => decide (m.tag = nm))) ∧ Below w.heap.size w wr ∧ Blk wr (w.heap.size + 1) #[.string ⟨#[]⟩,.int .i64 0,.int .i64 0,.int .i64 0,.string ⟨#[]⟩] 42 ∧ Blk wr w.heap.size #[.string snm,.slice a N c,.slice am M cm] 40) (fun iv _ => N - (intOf iv).toNat)
 case atStart => exact ⟨0,rfl,by omega,HA,hb0,BR0,BX0⟩
 case round =>
  obtain ⟨k,rfl,hk,HAk,hbel,BR,BX⟩ := hrel;clear BX0 BR0 hb0;have hlt2 : w.heap.size + 1 < wr.heap.size := BR.lt;have r0 := (BR.cell 0).trans rfl;have z0 := BR.froz 0;have r1 := (BR.cell 1).trans rfl;have z1 := BR.froz 1;have r2 := (BR.cell 2).trans rfl;have z2 := BR.froz 2;have r3 := (BR.cell 3).trans rfl;have z3 := BR.froz 3;have r4 := (BR.cell 4).trans rfl;have z4 := BR.froz 4;have x1 : wr.cell? ⟨w.heap.size,1,none⟩ = some (.slice a N c) := BX.cell 1
  by_cases hlt : k < N
  ·obtain ⟨f,hf⟩ : ∃ n,ts[k]? = some n := ⟨_,List.getElem?_eq_getElem (by rw [HN.out]; exact hlt)⟩
   have hrr : (flRows ts)[k]? = some f.cells := by simp [flRows,hf]
   obtain ⟨g,off,rfl,c1⟩ := (HR.out.below hbel).get hrr;obtain ⟨f0,f1,f2,f3,f4⟩ := f
   have HA2 : Hid (A = if decide (f1 = nm) = true then some ⟨f0,f1,f2,f3,f4⟩ else ((ts.drop (k + 1)).find? fun m => decide (m.tag = nm))) := by
    show _ = _
    rw [HAk.out,drop_at hf,List.find?_cons]
    cases decide (f1 = nm) <;> rfl
   have p0 := c1 0 _ rfl;have p1 := c1 1 _ rfl;have p2 := c1 2 _ rfl;have p3 := c1 3 _ rfl;have p4 := c1 4 _ rfl;simp only [Nat.add_zero] at p0 p1 p2 p3 p4;clear c1 hrr hf HAk
   by_cases he : f1 = nm
   ·subst he;go_wp2_with fail;refine bodyPost_ret (results_two rfl _ _ _ ⟨w.heap.size + 1,0,none⟩ (.agg #[.string f0,.int .i64 f1,.int .i64 f2,.int .i64 f3,.string f4]) (by go_simp) (by go_simp)) rfl ?_;exact ⟨ret_two (by rw [HA2.out,if_pos (by simp)]; rfl) (by rw [HA2.out,if_pos (by simp)]; rfl),(Below.setCell (Below.setCell (Below.setCell (Below.setCell (Below.setCell hbel (by simp) _) (by simp) _) (by simp) _) (by simp) _) (by simp) _)⟩
   ·have hq : (f1 == nm) = false := by simpa using he
    have HA3 : Hid (A = ((ts.drop (k + 1)).find? fun m => decide (m.tag = nm))) := by show _ = _; rw [HA2.out,if_neg (by simpa using he)]
    go_wp2_with fail
    go_roundw
    case rel => exact ⟨k + 1,by go_num,by omega,HA3,hbel,BR,BX⟩
    case measure => simp [intOf]; omega
  ·have HA2 : Hid (A = none) := by show _ = _; rw [HAk.out,drop_end (by rw [HN.out]; omega)]; rfl
   go_wp2_with fail;refine bodyPost_ret (results_two rfl _ _ _ ⟨w.heap.size + 1,0,none⟩ (.agg #[.string ⟨#[]⟩,.int .i64 0,.int .i64 0,.int .i64 0,.string ⟨#[]⟩]) (by go_simp) (by go_simp)) rfl ?_;exact ⟨ret_two (by rw [HA2.out]; rfl) (by rw [HA2.out]; rfl),(Below.setCell (Below.setCell (Below.setCell (Below.setCell (Below.setCell hbel (by simp) _) (by simp) _) (by simp) _) (by simp) _) (by simp) _)⟩
theorem memI_cons' (x y : Int) (l : List Int) : memI x (y :: l) = (decide (x = y) || memI x l) := by simp [memI,Bool.decide_or]
theorem rreserved_any {w : World} {v : Value} {ns : List Int} {snm : ByteArray} {af : Option Addr} {F cf : Nat} (t : Int) (hr : RowG w v 1 (inRows ns)) :
  Calls Try.prog 40 #[.agg #[.string snm,.slice af F cf,v],.int .i64 t] w fun e w' => e = .returned (.bool (memI t ns)) ∧ Below w.heap.size w w' := by
 obtain ⟨a,c,rfl,q1,q2⟩ := hr.form2
 have hN : (inRows ns).length = ns.length := by simp [inRows]
 rw [hN] at hr q1 ⊢;clear hN;obtain ⟨N,hN⟩ : ∃ N,ns.length = N := ⟨_,rfl⟩;rw [hN] at hr q1 ⊢;have HN : Hid (ns.length = N) := hN;have HR : Hid (RowG w (.slice a N c) 1 (inRows ns)) := hr;clear hN hr;obtain ⟨A,hA⟩ : ∃ A,memI t ns = A := ⟨_,rfl⟩;rw [hA];have HA : Hid (A = memI t ns) := hA.symm;clear hA;have hb0 : Below w.heap.size w (w.alloc (.cells #[.string snm,.slice af F cf,.slice a N c] 40)) := (Below.refl _ _).alloc (Nat.le_refl _) _;have BX0 := Blk.new w #[.string snm,.slice af F cf,.slice a N c] 40
 go_enter Try.func40,Try.ntmps40
 go_wp2_with fail
 go_loopw [5] (fun iv wr => ∃ k : Nat,iv = .int .i64 (k : Int) ∧ k ≤ N ∧ Hid (A = memI t (ns.drop k)) ∧ Below w.heap.size w wr ∧ Blk wr w.heap.size #[.string snm,.slice af F cf,.slice a N c] 40) (fun iv _ => N - (intOf iv).toNat)
 case atStart => exact ⟨0,rfl,by omega,HA,hb0,BX0⟩
 case round =>
  obtain ⟨k,rfl,hk,HAk,hbel,BX⟩ := hrel;clear hb0 BX0;have b2 : wr.cell? ⟨w.heap.size,2,none⟩ = some (.slice a N c) := BX.cell 2
  by_cases hlt : k < N
  ·obtain ⟨f,hf⟩ : ∃ n,ns[k]? = some n := ⟨_,List.getElem?_eq_getElem (by rw [HN.out]; exact hlt)⟩
   have hrr : (inRows ns)[k]? = some [.int .i64 f] := by simp [inRows,hf]
   obtain ⟨g,off,rfl,c1⟩ := (HR.out.below hbel).get hrr
   have HA2 : Hid (A = (decide (t = f) || memI t (ns.drop (k + 1)))) := by
    show _ = _
    rw [HAk.out,drop_at hf,memI_cons']
   have p0 := c1 0 _ rfl;simp only [Nat.mul_one,Nat.add_zero] at p0;clear c1 hrr hf HAk
   by_cases he : t = f
   ·subst he
    have HA3 : Hid (A = true) := by show _ = _; rw [HA2.out,decide_eq_true rfl]; rfl
    clear HA2;go_wp2_with fail;go_ret;exact ⟨ret_bool HA3.out.symm,hbel⟩
   ·have hq : (f == t) = false := by simpa using Ne.symm he
    have HA3 : Hid (A = memI t (ns.drop (k + 1))) := by show _ = _; rw [HA2.out,decide_eq_false he]; rfl
    go_wp2_with fail
    go_roundw
    case rel => exact ⟨k + 1,by go_num,by omega,HA3,hbel,BX⟩
    case measure => simp [intOf]; omega
  ·go_wp2_with fail;go_ret;exact ⟨ret_bool (by rw [HAk.out,drop_end (by rw [HN.out]; omega)]; rfl),hbel⟩
theorem results_threeC {fn : Func} {p u v : Tmp} {ty : TypeId} (h : fn.results = #[.cell p ty,.tmp u,.tmp v]) (tmps : Array Value) (P : Program) (w : World) (a : Addr) (x : Value) (ha : (asAddr (tmps.getD p undef)).run P w = .ok a w) (hl : (loadVar ty a).run P w = .ok x w) :
  (results fn tmps).run P w = .ok (.tuple #[x,tmps.getD u undef,tmps.getD v undef]) w := by
 simp only [results,h];simp only [Array.getD_eq_getD_getElem?] at ha
 simp [Sem.run_bind,Result.andThen,ha,hl]
def RAtP (o : Option (Option Pr)) (w : World) (e : Ending) (w' : World) : Prop := ∃ (q : Pr) (add : Bool),e = .returned (.tuple #[.agg #[.string q.1,.string q.2],.bool add,.bool o.isSome]) ∧ (∀ x,o = some x → x = if add = true then some q else none) ∧ Below w.heap.size w w'
theorem RAtP.no {o : Option (Option Pr)} {w w' : World} (h : o = none) (hb : Below w.heap.size w w') : RAtP o w (.returned (.tuple #[.agg #[.string ⟨#[]⟩,.string ⟨#[]⟩],.bool false,.bool false])) w' := ⟨(⟨#[]⟩,⟨#[]⟩),false,(by rw [h]; rfl),(fun x e => by rw [h] at e; cases e),hb⟩
theorem RAtP.as {o : Option (Option Pr)} {w w' : World} {r : Bool} (h : o = if r = true then some none else none) (hb : Below w.heap.size w w') : RAtP o w (.returned (.tuple #[.agg #[.string ⟨#[]⟩,.string ⟨#[]⟩],.bool false,.bool r])) w' := by
 refine ⟨(⟨#[]⟩,⟨#[]⟩),false,(by rw [h]; cases r <;> rfl),(fun x e => ?_),hb⟩;rw [h] at e
 cases r with
 | true => simp at e; simp [← e]
 | false => simp at e
theorem rmsg_at {w : World} {s : ScS} {sn : ByteArray} {sa ea ta : Option Addr} {sl sc el ec tl tc : Nat} (hs : SIn w (.agg #[.string sn,.slice sa sl sc,.slice ea el ec,.slice ta tl tc]) s) (nm : ByteArray) : Calls Try.prog 31 #[.agg #[.string sn,.slice sa sl sc,.slice ea el ec,.slice ta tl tc],.string nm] w fun e w' => ∃ vf vr,e = .returned (.tuple #[.agg #[.string (msG s nm).name,vf,vr],.bool (msgOf s nm).isSome]) ∧ RowG w' vf 5 (flRows (msG s nm).fields) ∧ RowG w' vr 1 (inRows (msG s nm).reserved) ∧ Below w.heap.size w w' := by
 obtain ⟨vm,ve,vt,e,h1,h2,h3⟩ := hs.row;simp only [Value.agg.injEq,Array.mk.injEq,List.cons.injEq,and_true] at e;obtain ⟨e1,rfl,rfl,rfl⟩ := e;exact r7message_any h1
theorem rat_any {s t : ScS} {sn tn : ByteArray} {sa ea ta sa2 ea2 ta2 : Option Addr} {sl sc el ec tl tc sl2 sc2 el2 ec2 tl2 tc2 : Nat} {w : World} (hs : SIn w (.agg #[.string sn,.slice sa sl sc,.slice ea el ec,.slice ta tl tc]) s) (ht : SIn w (.agg #[.string tn,.slice sa2 sl2 sc2,.slice ea2 el2 ec2,.slice ta2 tl2 tc2]) t) (A B : ByteArray) (tag : Int) :
  Calls Try.prog 25 #[.agg #[.string sn,.slice sa sl sc,.slice ea el ec,.slice ta tl tc],.agg #[.string tn,.slice sa2 sl2 sc2,.slice ea2 el2 ec2,.slice ta2 tl2 tc2],.agg #[.string A,.string B],.int .i64 tag] w (RAtP (atE s t (msG s A) (msG t B) tag) w) := by
 have HC1 : Hid (∀ W,Below w.heap.size w W → Calls Try.prog 31 #[.agg #[.string sn,.slice sa sl sc,.slice ea el ec,.slice ta tl tc],.string A] W fun e w' => ∃ vf vr,e = .returned (.tuple #[.agg #[.string (msG s A).name,vf,vr],.bool (msgOf s A).isSome]) ∧ RowG w' vf 5 (flRows (msG s A).fields) ∧ RowG w' vr 1 (inRows (msG s A).reserved) ∧ Below W.heap.size W w') := fun W hW => rmsg_at (hs.below hW) A
 have HC2 : Hid (∀ W,Below w.heap.size w W → Calls Try.prog 31 #[.agg #[.string tn,.slice sa2 sl2 sc2,.slice ea2 el2 ec2,.slice ta2 tl2 tc2],.string B] W fun e w' => ∃ vf vr,e = .returned (.tuple #[.agg #[.string (msG t B).name,vf,vr],.bool (msgOf t B).isSome]) ∧ RowG w' vf 5 (flRows (msG t B).fields) ∧ RowG w' vr 1 (inRows (msG t B).reserved) ∧ Below W.heap.size W w') := fun W hW => rmsg_at (ht.below hW) B
 have HFI : Hid (∀ W k1 k2 n1 n2,Below w.heap.size w W → Calls Try.prog 15 #[.agg #[.string sn,.slice sa sl sc,.slice ea el ec,.slice ta tl tc],.agg #[.string tn,.slice sa2 sl2 sc2,.slice ea2 el2 ec2,.slice ta2 tl2 tc2],.agg #[.int .i64 k1,.string n1],.agg #[.int .i64 k2,.string n2]] W fun e w' => e = .returned (.bool (fitsY s t k1 n1 k2 n2)) ∧ Below W.heap.size W w') := fun W k1 k2 n1 n2 hW => rfits_any k1 k2 n1 n2 (hs.below hW) (ht.below hW)
 generalize msG s A = m at *;generalize msG t B = n at *;generalize (msgOf s A).isSome = ok1 at *;generalize (msgOf t B).isSome = ok2 at *;obtain ⟨X,hX⟩ : ∃ z,fldOf m.fields tag = z := ⟨_,rfl⟩;obtain ⟨Y,hY⟩ : ∃ z,fldOf n.fields tag = z := ⟨_,rfl⟩;obtain ⟨R1,hR1⟩ : ∃ z,memI tag m.reserved = z := ⟨_,rfl⟩;obtain ⟨R2,hR2⟩ : ∃ z,memI tag n.reserved = z := ⟨_,rfl⟩;have HX : Hid (fldOf m.fields tag = X ∧ fldOf n.fields tag = Y ∧ memI tag m.reserved = R1 ∧ memI tag n.reserved = R2) := ⟨hX,hY,hR1,hR2⟩
 have HAT : Hid ((R1 = true → atE s t m n tag = if R2 = true then some none else none) ∧ (R1 = false → X = none → atE s t m n tag = some none) ∧ (R1 = false → ∀ f,X = some f → R2 = true → atE s t m n tag = some none) ∧ (R1 = false → ∀ f,X = some f → R2 = false → Y = none → atE s t m n tag = none) ∧ (R1 = false → ∀ f,X = some f → R2 = false → ∀ g,Y = some g → atE s t m n tag = if f.label = g.label ∧ fitsY s t f.kind f.tname g.kind g.tname = true then some (if f.kind = 7 then some (f.tname,g.tname) else none) else none)) := (by
  have i1 : tag ∈ m.reserved ↔ R1 = true := by rw [← hR1]; exact memI_iffE.symm
  have i2 : tag ∈ n.reserved ↔ R2 = true := by rw [← hR2]; exact memI_iffE.symm
  refine ⟨fun e => ?_,fun e h => ?_,fun e f h e2 => ?_,fun e f h e2 h2 => ?_,fun e f h e2 g h2 => ?_⟩
  ·unfold atE;rw [if_pos (i1.2 e)]
   cases R2 with
   | true => rw [if_pos (i2.2 rfl)]; rfl
   | false => rw [if_neg (fun h => by cases i2.1 h)]; rfl
  ·unfold atE;rw [if_neg (fun h => by rw [i1.1 h] at e; cases e),hX,h]
  ·unfold atE;rw [if_neg (fun h => by rw [i1.1 h] at e; cases e),hX,h];simp only;rw [if_pos (i2.2 e2)]
  ·unfold atE;rw [if_neg (fun h => by rw [i1.1 h] at e; cases e),hX,h];simp only;rw [if_neg (fun h => by rw [i2.1 h] at e2; cases e2),hY,h2]
  ·unfold atE;rw [if_neg (fun h => by rw [i1.1 h] at e; cases e),hX,h];simp only
   rw [if_neg (fun h => by rw [i2.1 h] at e2; cases e2),hY,h2] : _ ∧ _)
 generalize atE s t m n tag = OO at *;obtain ⟨b0,hb0⟩ : ∃ z,w.heap.size = z := ⟨_,rfl⟩;have h1 := alls_below [(#[.string sn,.slice sa sl sc,.slice ea el ec,.slice ta tl tc],26),(#[.string tn,.slice sa2 sl2 sc2,.slice ea2 el2 ec2,.slice ta2 tl2 tc2],26),(#[.string A,.string B],69),(#[.string ⟨#[]⟩,.string ⟨#[]⟩],69)] w;have h2 := alls_blk [(#[.string sn,.slice sa sl sc,.slice ea el ec,.slice ta tl tc],26),(#[.string tn,.slice sa2 sl2 sc2,.slice ea2 el2 ec2,.slice ta2 tl2 tc2],26),(#[.string A,.string B],69),(#[.string ⟨#[]⟩,.string ⟨#[]⟩],69)] w;have HBB : Hid (Below w.heap.size w ((((w.alloc (.cells #[.string sn,.slice sa sl sc,.slice ea el ec,.slice ta tl tc] 26)).alloc (.cells #[.string tn,.slice sa2 sl2 sc2,.slice ea2 el2 ec2,.slice ta2 tl2 tc2] 26)).alloc (.cells #[.string A,.string B] 69)).alloc (.cells #[.string ⟨#[]⟩,.string ⟨#[]⟩] 69)) ∧ Blk ((((w.alloc (.cells #[.string sn,.slice sa sl sc,.slice ea el ec,.slice ta tl tc] 26)).alloc (.cells #[.string tn,.slice sa2 sl2 sc2,.slice ea2 el2 ec2,.slice ta2 tl2 tc2] 26)).alloc (.cells #[.string A,.string B] 69)).alloc (.cells #[.string ⟨#[]⟩,.string ⟨#[]⟩] 69)) w.heap.size #[.string sn,.slice sa sl sc,.slice ea el ec,.slice ta tl tc] 26 ∧ Blk ((((w.alloc (.cells #[.string sn,.slice sa sl sc,.slice ea el ec,.slice ta tl tc] 26)).alloc (.cells #[.string tn,.slice sa2 sl2 sc2,.slice ea2 el2 ec2,.slice ta2 tl2 tc2] 26)).alloc (.cells #[.string A,.string B] 69)).alloc (.cells #[.string ⟨#[]⟩,.string ⟨#[]⟩] 69)) (w.heap.size + 1) #[.string tn,.slice sa2 sl2 sc2,.slice ea2 el2 ec2,.slice ta2 tl2 tc2] 26 ∧ Blk ((((w.alloc (.cells #[.string sn,.slice sa sl sc,.slice ea el ec,.slice ta tl tc] 26)).alloc (.cells #[.string tn,.slice sa2 sl2 sc2,.slice ea2 el2 ec2,.slice ta2 tl2 tc2] 26)).alloc (.cells #[.string A,.string B] 69)).alloc (.cells #[.string ⟨#[]⟩,.string ⟨#[]⟩] 69)) (w.heap.size + 1 + 1) #[.string A,.string B] 69 ∧ Blk ((((w.alloc (.cells #[.string sn,.slice sa sl sc,.slice ea el ec,.slice ta tl tc] 26)).alloc (.cells #[.string tn,.slice sa2 sl2 sc2,.slice ea2 el2 ec2,.slice ta2 tl2 tc2] 26)).alloc (.cells #[.string A,.string B] 69)).alloc (.cells #[.string ⟨#[]⟩,.string ⟨#[]⟩] 69)) (w.heap.size + 1 + 1 + 1) #[.string ⟨#[]⟩,.string ⟨#[]⟩] 69) := ⟨h1.1,h2 0 _ rfl,h2 1 _ rfl,h2 2 _ rfl,h2 3 _ rfl⟩;clear h1 h2 hs ht hX hY hR1 hR2
 go_enter Try.func25,Try.ntmps25
 go_wp2_with fail;generalize ((((w.alloc (.cells #[.string sn,.slice sa sl sc,.slice ea el ec,.slice ta tl tc] 26)).alloc (.cells #[.string tn,.slice sa2 sl2 sc2,.slice ea2 el2 ec2,.slice ta2 tl2 tc2] 26)).alloc (.cells #[.string A,.string B] 69)).alloc (.cells #[.string ⟨#[]⟩,.string ⟨#[]⟩] 69)) = U at *;rw [hb0] at HBB
 try simp only [hb0]
 have HUW : Hid (Below w.heap.size w U) := (by rw [hb0]; exact HBB.out.1 : Below _ _ _);have HBZ : Hid (w.heap.size = b0) := hb0;clear hb0;refine (HC1.out _ HUW.out).mono ?_;rintro e w1 ⟨vf,vr,rfl,hf1,hr1,hb1⟩;obtain ⟨fa,fc,rfl, -, -⟩ := hf1.form2;obtain ⟨ra,rc,rfl, -, -⟩ := hr1.form2;have B2 := HBB.out.2.2.1.below hb1;have B3 := HBB.out.2.2.2.1.below hb1;have hU1 : Below U.heap.size U w1 := hb1;have hbw1 := HUW.out.trans (hb1.mono HUW.out.size)
 have HFA : Hid (∀ W,Below w1.heap.size w1 W → Calls Try.prog 40 #[.agg #[.string m.name,.slice fa (flRows m.fields).length fc,.slice ra (inRows m.reserved).length rc],.int .i64 tag] W fun e w' => e = .returned (.bool R1) ∧ Below W.heap.size W w') := fun W hW => by
  rw [← HX.out.2.2.1];exact rreserved_any tag (hr1.below hW)
 have HFB : Hid (∀ W,Below w1.heap.size w1 W → Calls Try.prog 41 #[.agg #[.string m.name,.slice fa (flRows m.fields).length fc,.slice ra (inRows m.reserved).length rc],.int .i64 tag] W fun e w' => e = .returned (.tuple #[flV (X.getD zeroF),.bool X.isSome]) ∧ Below W.heap.size W w') := fun W hW => by
  rw [← HX.out.1];exact r7field_any (hf1.below hW)
 obtain ⟨fl,hfl⟩ : ∃ z,(flRows m.fields).length = z := ⟨_,rfl⟩;obtain ⟨rl,hrl⟩ : ∃ z,(inRows m.reserved).length = z := ⟨_,rfl⟩;rw [hfl,hrl] at HFA HFB ⊢;have hl2 := B2.lt;have hl3 := B3.lt;clear hfl hrl hf1 hr1 hb1 HC1;have s0 := (B2.cell 0).trans rfl;have s1 := (B2.cell 1).trans rfl;have s2 := (B2.cell 2).trans rfl;have s3 := (B2.cell 3).trans rfl;have p0 := (B3.cell 0).trans rfl;have p1 := (B3.cell 1).trans rfl;go_wp2_with fail;have al : Below w1.heap.size w1 (w1.alloc (.cells #[.string m.name,.slice fa fl fc,.slice ra rl rc] 40)) := (Below.refl _ _).alloc (Nat.le_refl _) _;have hbw1a := hbw1.trans (al.mono hbw1.size);refine Calls.mono (HC2.out _ hbw1a) ?_;rintro e w2 ⟨vg,vq,rfl,hf2,hr2,hb2⟩;obtain ⟨fb,gc,rfl, -, -⟩ := hf2.form2;obtain ⟨rb,qc,rfl, -, -⟩ := hr2.form2;have h12 : Below w1.heap.size w1 w2 := al.trans (hb2.mono al.size);have hU2 : Below U.heap.size U w2 := hU1.trans (h12.mono hU1.size);have hbw2 := hbw1.trans (h12.mono hbw1.size);have BM2 := (Blk.new w1 #[.string m.name,.slice fa fl fc,.slice ra rl rc] 40).below hb2
 have HGA : Hid (∀ W,Below w2.heap.size w2 W → Calls Try.prog 40 #[.agg #[.string n.name,.slice fb (flRows n.fields).length gc,.slice rb (inRows n.reserved).length qc],.int .i64 tag] W fun e w' => e = .returned (.bool R2) ∧ Below W.heap.size W w') := fun W hW => by
  rw [← HX.out.2.2.2];exact rreserved_any tag (hr2.below hW)
 have HGB : Hid (∀ W,Below w2.heap.size w2 W → Calls Try.prog 41 #[.agg #[.string n.name,.slice fb (flRows n.fields).length gc,.slice rb (inRows n.reserved).length qc],.int .i64 tag] W fun e w' => e = .returned (.tuple #[flV (Y.getD zeroF),.bool Y.isSome]) ∧ Below W.heap.size W w') := fun W hW => by
  rw [← HX.out.2.1];exact r7field_any (hf2.below hW)
 obtain ⟨gl,hgl⟩ : ∃ z,(flRows n.fields).length = z := ⟨_,rfl⟩;obtain ⟨ql,hql⟩ : ∃ z,(inRows n.reserved).length = z := ⟨_,rfl⟩;rw [hgl,hql] at HGA HGB ⊢;obtain ⟨bm,hbm⟩ : ∃ z,w1.heap.size = z := ⟨_,rfl⟩;rw [hbm] at BM2;have HF2 : Hid (∀ W,Below w2.heap.size w2 W → Below w1.heap.size w1 W) := fun W hW => h12.trans (hW.mono h12.size)
 have HBM : Hid (U.heap.size ≤ bm) := (by rw [← hbm]; exact hU1.size : _ ≤ _);simp only [hbm];have al2 : Below w2.heap.size w2 (w2.alloc (.cells #[.string n.name,.slice fb gl gc,.slice rb ql qc] 40)) := (Below.refl _ _).alloc (Nat.le_refl _) _;have BM3 := BM2.below al2;have BN3 := Blk.new w2 #[.string n.name,.slice fb gl gc,.slice rb ql qc] 40;have HB3 : Hid (Below U.heap.size U (w2.alloc (.cells #[.string n.name,.slice fb gl gc,.slice rb ql qc] 40)) ∧ Below w.heap.size w (w2.alloc (.cells #[.string n.name,.slice fb gl gc,.slice rb ql qc] 40)) ∧ Below w2.heap.size w2 (w2.alloc (.cells #[.string n.name,.slice fb gl gc,.slice rb ql qc] 40))) := ⟨hU2.trans (al2.mono hU2.size),hbw2.trans (al2.mono hbw2.size),al2⟩;have hlm := BM2.lt;have q0 := (BM2.cell 0).trans rfl;have q1 := (BM2.cell 1).trans rfl;have q2 := (BM2.cell 2).trans rfl;clear hgl hql hf2 hr2 hb2 HC2 al hbw1 hbw1a h12 hU1 hbm B2 B3 s0 s1 s2 s3 p0 p1 hl2 hl3;go_wp2_with fail;refine Calls.mono (HFA.out _ (HF2.out _ al2)) ?_;rintro e w4 ⟨rfl,hb4⟩;generalize (w2.alloc (Obj.cells #[.string n.name,.slice fb gl gc,.slice rb ql qc] 40)) = w3 at *;obtain ⟨bn,hbn⟩ : ∃ z,w2.heap.size = z := ⟨_,rfl⟩;rw [hbn] at BN3;simp only [hbn];have BM4 := BM3.below hb4;have BN4 := BN3.below hb4;have HB4 : Hid (Below U.heap.size U w4 ∧ Below w.heap.size w w4 ∧ Below w2.heap.size w2 w4) := ⟨HB3.out.1.trans (hb4.mono HB3.out.1.size),HB3.out.2.1.trans (hb4.mono HB3.out.2.1.size),HB3.out.2.2.trans (hb4.mono HB3.out.2.2.size)⟩;have BR4 := HBB.out.2.2.2.2.below HB4.out.1;have hlm2 := BM4.lt;have hln2 := BN4.lt;have hlr2 := BR4.lt;clear hbn HFA hb4 HB3 BM3 BN3 q0 q1 q2 hlm BM2 al2 hU2 hbw2;have q0 := (BM4.cell 0).trans rfl;have q1 := (BM4.cell 1).trans rfl;have q2 := (BM4.cell 2).trans rfl;have n0 := (BN4.cell 0).trans rfl;have n1 := (BN4.cell 1).trans rfl;have n2 := (BN4.cell 2).trans rfl;have z0 := (BR4.cell 0).trans rfl;have zz0 := BR4.froz 0;have z1 := (BR4.cell 1).trans rfl;have zz1 := BR4.froz 1
 cases R1 with
 | true =>
  have HE : Hid (OO = if R2 = true then some none else none) := HAT.out.1 rfl;go_wp2_with fail;refine (HGA.out _ HB4.out.2.2).mono ?_;rintro e w5 ⟨rfl,hb5⟩;have BR5 := BR4.below hb5;have hlr3 := BR5.lt;clear z0 zz0 z1 zz1 q0 q1 q2 n0 n1 n2 hlm2 hln2 hlr2;have hbw5 := HB4.out.2.1.trans (hb5.mono HB4.out.2.1.size);have z0 := (BR5.cell 0).trans rfl;have zz0 := BR5.froz 0;have z1 := (BR5.cell 1).trans rfl;have zz1 := BR5.froz 1;go_wp2_with fail;refine bodyPost_ret (results_threeC rfl _ _ _ ⟨b0 + 1 + 1 + 1,0,none⟩ (.agg #[.string ⟨#[]⟩,.string ⟨#[]⟩]) (by go_simp) (by go_simp)) rfl ?_;exact RAtP.as HE.out (Below.setCell (Below.setCell hbw5 (by have := HBZ.out; simp; omega) _) (by have := HBZ.out; simp; omega) _)
 | false =>
  clear z0 zz0 z1 zz1;go_wp2_with fail;refine (HFB.out _ (HF2.out _ HB4.out.2.2)).mono ?_;rintro e w5 ⟨rfl,hb5⟩;have HB5 : Hid (Below U.heap.size U w5 ∧ Below w.heap.size w w5 ∧ Below w2.heap.size w2 w5) := ⟨HB4.out.1.trans (hb5.mono HB4.out.1.size),HB4.out.2.1.trans (hb5.mono HB4.out.2.1.size),HB4.out.2.2.trans (hb5.mono HB4.out.2.2.size)⟩;have BN5 := BN4.below hb5;have BR5 := BR4.below hb5;have hlr3 := BR5.lt;clear q0 q1 q2 n0 n1 n2 hlm2 hln2 hlr2 HB4 BM4 BN4 BR4 HFB hb5
  cases X with
  | none =>
   have HE : Hid (OO = some none) := HAT.out.2.1 (by simp) (by simp);have hbw5 := HB5.out.2.1;simp only [flV,zeroF,Option.getD_none,Option.isSome_none];have z0 := (BR5.cell 0).trans rfl;have zz0 := BR5.froz 0;have z1 := (BR5.cell 1).trans rfl;have zz1 := BR5.froz 1;have hbw6 := hbw5.alloc (o := .cells #[.string ⟨#[]⟩,.int .i64 0,.int .i64 0,.int .i64 0,.string ⟨#[]⟩] 42) hbw5.size;go_wp2_with fail;refine bodyPost_ret (results_threeC rfl _ _ _ ⟨b0 + 1 + 1 + 1,0,none⟩ (.agg #[.string ⟨#[]⟩,.string ⟨#[]⟩]) (by go_simp) (by go_simp)) rfl ?_;exact RAtP.as (r := true) HE.out (Below.alloc (Below.setCell (Below.setCell hbw5 (by have := HBZ.out; simp; omega) _) (by have := HBZ.out; simp; omega) _) (by have := hbw5.size; simp; omega) _)
  | some f =>
   have HE2 : Hid ((R2 = true → OO = some none) ∧ (R2 = false → Y = none → OO = none) ∧ (R2 = false → ∀ g,Y = some g → OO = if f.label = g.label ∧ fitsY s t f.kind f.tname g.kind g.tname = true then some (if f.kind = 7 then some (f.tname,g.tname) else none) else none)) := ⟨fun e => HAT.out.2.2.1 (by simp) f (by simp) e,fun e h => HAT.out.2.2.2.1 (by simp) f (by simp) e h,fun e g h => HAT.out.2.2.2.2 (by simp) f (by simp) e g h⟩;clear HAT;obtain ⟨f1,f2,f3,f4,f5⟩ := f;simp only [flV,Option.getD_some,Option.isSome_some];simp only at HE2;have al5 : Below w5.heap.size w5 (w5.alloc (.cells #[.string f1,.int .i64 f2,.int .i64 f3,.int .i64 f4,.string f5] 42)) := (Below.refl _ _).alloc (Nat.le_refl _) _;have BF6 := Blk.new w5 #[.string f1,.int .i64 f2,.int .i64 f3,.int .i64 f4,.string f5] 42;have BN6 := BN5.below al5;have BR6 := BR5.below al5;have HB6 : Hid (Below U.heap.size U (w5.alloc (.cells #[.string f1,.int .i64 f2,.int .i64 f3,.int .i64 f4,.string f5] 42)) ∧ Below w.heap.size w (w5.alloc (.cells #[.string f1,.int .i64 f2,.int .i64 f3,.int .i64 f4,.string f5] 42)) ∧ Below w2.heap.size w2 (w5.alloc (.cells #[.string f1,.int .i64 f2,.int .i64 f3,.int .i64 f4,.string f5] 42))) := ⟨HB5.out.1.trans (al5.mono HB5.out.1.size),HB5.out.2.1.trans (al5.mono HB5.out.2.1.size),HB5.out.2.2.trans (al5.mono HB5.out.2.2.size)⟩;have hln3 := BN5.lt;have n0 := (BN5.cell 0).trans rfl;have n1 := (BN5.cell 1).trans rfl;have n2 := (BN5.cell 2).trans rfl;go_wp2_with fail;refine Calls.mono (HGA.out _ HB6.out.2.2) ?_;rintro e w7 ⟨rfl,hb7⟩;generalize (w5.alloc (Obj.cells #[.string f1,.int .i64 f2,.int .i64 f3,.int .i64 f4,.string f5] 42)) = w6 at *;obtain ⟨bf,hbf⟩ : ∃ z,w5.heap.size = z := ⟨_,rfl⟩;rw [hbf] at BF6;simp only [hbf];have HB7 : Hid (Below U.heap.size U w7 ∧ Below w.heap.size w w7 ∧ Below w2.heap.size w2 w7) := ⟨HB6.out.1.trans (hb7.mono HB6.out.1.size),HB6.out.2.1.trans (hb7.mono HB6.out.2.1.size),HB6.out.2.2.trans (hb7.mono HB6.out.2.2.size)⟩;have BF7 := BF6.below hb7;have BN7 := BN6.below hb7;have BR7 := BR6.below hb7;have hlr4 := BR7.lt;have hbw7 := HB7.out.2.1;clear hbf hb7 HB5 HB6 BN5 BR5 BF6 BN6 BR6 al5 n0 n1 n2 hln3 hlr3 HGA
   cases R2 with
   | true =>
    have HE : Hid (OO = some none) := HE2.out.1 (by simp);clear HE2;have z0 := (BR7.cell 0).trans rfl;have zz0 := BR7.froz 0;have z1 := (BR7.cell 1).trans rfl;have zz1 := BR7.froz 1;go_wp2_with fail;refine bodyPost_ret (results_threeC rfl _ _ _ ⟨b0 + 1 + 1 + 1,0,none⟩ (.agg #[.string ⟨#[]⟩,.string ⟨#[]⟩]) (by go_simp) (by go_simp)) rfl ?_;exact RAtP.as (r := true) HE.out (Below.setCell (Below.setCell hbw7 (by have := HBZ.out; simp; omega) _) (by have := HBZ.out; simp; omega) _)
   | false =>
    have hln4 := BN7.lt;have n0 := (BN7.cell 0).trans rfl;have n1 := (BN7.cell 1).trans rfl;have n2 := (BN7.cell 2).trans rfl;go_wp2_with fail;refine Calls.mono (HGB.out _ HB7.out.2.2) ?_;rintro e w8 ⟨rfl,hb8⟩;have hbw8 := hbw7.trans (hb8.mono hbw7.size);have BF8 := BF7.below hb8;have BR8 := BR7.below hb8;have HU8 : Hid (Below U.heap.size U w8) := HB7.out.1.trans (hb8.mono HB7.out.1.size);have hlr5 := BR8.lt;clear hb8 HB7 BF7 BN7 BR7 n0 n1 n2 hln4 HGB hbw7 hlr4
    cases Y with
    | none =>
     have HE : Hid (OO = none) := HE2.out.2.1 (by simp) (by simp);simp only [flV,zeroF,Option.getD_none,Option.isSome_none];clear HE2;have z0 := (BR8.cell 0).trans rfl;have zz0 := BR8.froz 0;have z1 := (BR8.cell 1).trans rfl;have zz1 := BR8.froz 1;go_wp2_with fail;refine bodyPost_ret (results_threeC rfl _ _ _ ⟨b0 + 1 + 1 + 1,0,none⟩ (.agg #[.string ⟨#[]⟩,.string ⟨#[]⟩]) (by go_simp) (by go_simp)) rfl ?_;exact RAtP.no HE.out (Below.alloc (Below.setCell (Below.setCell hbw8 (by have := HBZ.out; simp; omega) _) (by have := HBZ.out; simp; omega) _) (by have := hbw8.size; simp; omega) _)
    | some g =>
     have HE : Hid (OO = if f3 = g.label ∧ fitsY s t f4 f5 g.kind g.tname = true then some (if f4 = 7 then some (f5,g.tname) else none) else none) := HE2.out.2.2 (by simp) g (by simp);clear HE2;obtain ⟨g1,g2,g3,g4,g5⟩ := g;simp only [flV,Option.getD_some,Option.isSome_some];simp only at HE;have al8 : Below w8.heap.size w8 (w8.alloc (.cells #[.string g1,.int .i64 g2,.int .i64 g3,.int .i64 g4,.string g5] 42)) := (Below.refl _ _).alloc (Nat.le_refl _) _;have BG9 := Blk.new w8 #[.string g1,.int .i64 g2,.int .i64 g3,.int .i64 g4,.string g5] 42;have BF9 := BF8.below al8;have BR9 := BR8.below al8;have hbw9 := hbw8.trans (al8.mono hbw8.size);have HU9 : Hid (Below U.heap.size U (w8.alloc (.cells #[.string g1,.int .i64 g2,.int .i64 g3,.int .i64 g4,.string g5] 42))) := HU8.out.trans (al8.mono HU8.out.size);have hlf := BF8.lt;have hlf9 := BF9.lt;have hlr9 := BR9.lt;have f_0 := (BF8.cell 0).trans rfl;have f_1 := (BF8.cell 1).trans rfl;have f_2 := (BF8.cell 2).trans rfl;have f_3 := (BF8.cell 3).trans rfl;have f_4 := (BF8.cell 4).trans rfl
     by_cases h3 : f3 = g3
     rotate_left
     ·have HE4 : Hid (OO = none) := (by rw [HE.out,if_neg fun e => h3 e.1] : _ = _)
      have e3 : (f3 != g3) = true := by simpa using h3
      have z0 := (BR8.cell 0).trans rfl;have zz0 := BR8.froz 0;have z1 := (BR8.cell 1).trans rfl;have zz1 := BR8.froz 1;go_wp2_with fail;refine bodyPost_ret (results_threeC rfl _ _ _ ⟨b0 + 1 + 1 + 1,0,none⟩ (.agg #[.string ⟨#[]⟩,.string ⟨#[]⟩]) (by go_simp) (by go_simp)) rfl ?_;exact RAtP.no HE4.out (Below.alloc (Below.setCell (Below.setCell hbw8 (by have := HBZ.out; simp; omega) _) (by have := HBZ.out; simp; omega) _) (by have := hbw8.size; simp; omega) _)
     ·subst h3
      have e3 : (f3 != f3) = false := by simp
      have HE4 : Hid (OO = if fitsY s t f4 f5 g4 g5 = true then some (if f4 = 7 then some (f5,g5) else none) else none) := (by
       by_cases hF : fitsY s t f4 f5 g4 g5 = true
       ·rw [HE.out,if_pos ⟨rfl,hF⟩,if_pos hF]
       ·rw [HE.out,if_neg (fun e => hF e.2),if_neg hF] : _ = _)
      have HFF : Hid (∀ W,Below w.heap.size w W → Calls Try.prog 15 #[.agg #[.string sn,.slice sa sl sc,.slice ea el ec,.slice ta tl tc],.agg #[.string tn,.slice sa2 sl2 sc2,.slice ea2 el2 ec2,.slice ta2 tl2 tc2],.agg #[.int .i64 f4,.string f5],.agg #[.int .i64 g4,.string g5]] W fun e w' => e = .returned (.bool (fitsY s t f4 f5 g4 g5)) ∧ Below W.heap.size W w') := fun W hW => HFI.out W f4 g4 f5 g5 hW
      have BA := HBB.out.2.1.below HU8.out;have BB := HBB.out.2.2.1.below HU8.out;have hla := BA.lt;have hlb := BB.lt;have a0 := (BA.cell 0).trans rfl;have a1 := (BA.cell 1).trans rfl;have a2 := (BA.cell 2).trans rfl;have a3 := (BA.cell 3).trans rfl;have b_0 := (BB.cell 0).trans rfl;have b_1 := (BB.cell 1).trans rfl;have b_2 := (BB.cell 2).trans rfl;have b_3 := (BB.cell 3).trans rfl;generalize fitsY s t f4 f5 g4 g5 = F at *;clear HFI HE BA BB;go_wp2_with fail;refine Calls.mono (HFF.out _ hbw9) ?_;rintro e w10 ⟨rfl,hb10⟩;have hbw10 := hbw9.trans (hb10.mono hbw9.size);have BF10 := BF9.below hb10;have BG10 := BG9.below hb10;have BR10 := BR9.below hb10;have hlr10 := BR10.lt;obtain ⟨bg,hbg⟩ : ∃ z,w8.heap.size = z := ⟨_,rfl⟩;rw [hbg] at BG10;simp only [hbg];clear hbg hb10 HFF BF8 BR8 BF9 BG9 BR9 al8 f_0 f_1 f_2 f_3 f_4 a0 a1 a2 a3 b_0 b_1 b_2 b_3 hlf hlf9 hlr9 hla hlb hbw8 hbw9 HU8 HU9
      cases F with
      | false =>
       have HE5 : Hid (OO = none) := (by rw [HE4.out,if_neg (by decide)] : _ = _);have z0 := (BR10.cell 0).trans rfl;have zz0 := BR10.froz 0;have z1 := (BR10.cell 1).trans rfl;have zz1 := BR10.froz 1;go_wp2_with fail;refine bodyPost_ret (results_threeC rfl _ _ _ ⟨b0 + 1 + 1 + 1,0,none⟩ (.agg #[.string ⟨#[]⟩,.string ⟨#[]⟩]) (by go_simp) (by go_simp)) rfl ?_;exact RAtP.no HE5.out (Below.setCell (Below.setCell hbw10 (by have := HBZ.out; simp; omega) _) (by have := HBZ.out; simp; omega) _)
      | true =>
       have HE5 : Hid (OO = some (if f4 = 7 then some (f5,g5) else none)) := (by rw [HE4.out,if_pos rfl] : _ = _)
       have hne1 : bf ≠ b0 + 1 + 1 + 1 := fun e => by
        rw [e] at BF10;have h4 := BF10.symm.trans BR10
        simp at h4
       have hne2 : bg ≠ b0 + 1 + 1 + 1 := fun e => by
        rw [e] at BG10;have h4 := BG10.symm.trans BR10
        simp at h4
       go_upto_region 11 with fail
       have BF11 := BF10.below (Below.refl _ _).drew;have BG11 := BG10.below (Below.refl _ _).drew;have BR11 := BR10.below (Below.refl _ _).drew;have hbw11 : Below w.heap.size w w10.drew := hbw10.drew;generalize hD : w10.drew = D at *;have r0 := (BR11.cell 0).trans rfl;have rz0 := BR11.froz 0;have r1 := (BR11.cell 1).trans rfl;have rz1 := BR11.froz 1;have BF12 := (BF11.other (a := ⟨b0 + 1 + 1 + 1,0,none⟩) hne1 (.string f5)).other (a := ⟨b0 + 1 + 1 + 1,1,none⟩) hne1 (.string g5);have BG12 := (BG11.other (a := ⟨b0 + 1 + 1 + 1,0,none⟩) hne2 (.string f5)).other (a := ⟨b0 + 1 + 1 + 1,1,none⟩) hne2 (.string g5);have BR12 := (BR11.set 0 (.string f5) rfl).set 1 (.string g5) rfl;have hbw12 : Below w.heap.size w ((D.setCell ⟨b0 + 1 + 1 + 1,0,none⟩ (.string f5)).setCell ⟨b0 + 1 + 1 + 1,1,none⟩ (.string g5)) := Below.setCell (Below.setCell hbw11 (by have := HBZ.out; simp; omega) _) (by have := HBZ.out; simp; omega) _;refine M_region (T := fun W => (W.cell? ⟨bf,3,none⟩ = some (.int .i64 f4) ∧ W.cell? ⟨bf,4,none⟩ = some (.string f5) ∧ W.cell? ⟨bg,4,none⟩ = some (.string g5))) (m := 13) (by kernel_rfl) ?_;rw [hD];have hS : (D.cell? ⟨bf,3,none⟩ = some (.int .i64 f4) ∧ D.cell? ⟨bf,4,none⟩ = some (.string f5) ∧ D.cell? ⟨bg,4,none⟩ = some (.string g5)) := ⟨(BF11.cell 3).trans rfl,(BF11.cell 4).trans rfl,(BG11.cell 4).trans rfl⟩;have hS2 : (((D.setCell ⟨b0 + 1 + 1 + 1,0,none⟩ (.string f5)).setCell ⟨b0 + 1 + 1 + 1,1,none⟩ (.string g5)).cell? ⟨bf,3,none⟩ = some (.int .i64 f4) ∧ ((D.setCell ⟨b0 + 1 + 1 + 1,0,none⟩ (.string f5)).setCell ⟨b0 + 1 + 1 + 1,1,none⟩ (.string g5)).cell? ⟨bf,4,none⟩ = some (.string f5) ∧ ((D.setCell ⟨b0 + 1 + 1 + 1,0,none⟩ (.string f5)).setCell ⟨b0 + 1 + 1 + 1,1,none⟩ (.string g5)).cell? ⟨bg,4,none⟩ = some (.string g5)) := ⟨(BF12.cell 3).trans rfl,(BF12.cell 4).trans rfl,(BG12.cell 4).trans rfl⟩;refine M_take 0 80 (.pointer (some ⟨bf,3,none⟩)) _ rfl rfl (by kernel_rfl) (by kernel_rfl) (by kernel_rfl) (by kernel_rfl) (by kernel_rfl) (fun _ _ _ h => h) (by rfl) (fun w' hw' => ?_) hS (listed' := bts 14 1) (by kernel_rfl) rfl ?_
       ·go_simp
       simp only [zsA,zsZ,zsS];refine M_take 1 81 (.pointer (some ⟨bf,4,none⟩)) _ rfl rfl (by kernel_rfl) (by kernel_rfl) (by kernel_rfl) (by kernel_rfl) (by kernel_rfl) (fun _ _ _ h => h) (by rfl) (fun w' hw' => ?_) hS (listed' := bts 14 3) (by kernel_rfl) rfl ?_
       ·go_simp
       simp only [zsA,zsZ,zsS];refine M_take 2 82 (.string f5) _ rfl rfl (by kernel_rfl) (by kernel_rfl) (by kernel_rfl) (by kernel_rfl) (by kernel_rfl) (fun _ _ _ h => h) (by rfl) (fun w' hw' => ?_) hS (listed' := bts 14 7) (by kernel_rfl) rfl ?_
       ·obtain ⟨-,h0, -⟩ := hw'; go_simp
       simp only [zsA,zsZ,zsS];refine M_take 3 83 (.pointer (some ⟨bg,3,none⟩)) _ rfl rfl (by kernel_rfl) (by kernel_rfl) (by kernel_rfl) (by kernel_rfl) (by kernel_rfl) (fun _ _ _ h => h) (by rfl) (fun w' hw' => ?_) hS (listed' := bts 14 15) (by kernel_rfl) rfl ?_
       ·go_simp
       simp only [zsA,zsZ,zsS];refine M_take 4 84 (.pointer (some ⟨bg,4,none⟩)) _ rfl rfl (by kernel_rfl) (by kernel_rfl) (by kernel_rfl) (by kernel_rfl) (by kernel_rfl) (fun _ _ _ h => h) (by rfl) (fun w' hw' => ?_) hS (listed' := bts 14 31) (by kernel_rfl) rfl ?_
       ·go_simp
       simp only [zsA,zsZ,zsS];refine M_take 5 85 (.string g5) _ rfl rfl (by kernel_rfl) (by kernel_rfl) (by kernel_rfl) (by kernel_rfl) (by kernel_rfl) (fun _ _ _ h => h) (by rfl) (fun w' hw' => ?_) hS (listed' := bts 14 63) (by kernel_rfl) rfl ?_
       ·obtain ⟨-, -,h0⟩ := hw'; go_simp
       simp only [zsA,zsZ,zsS];refine M_take 6 86 (.agg #[.string f5,.string g5]) _ rfl rfl (by kernel_rfl) (by kernel_rfl) (by kernel_rfl) (by kernel_rfl) (by kernel_rfl) (fun _ _ _ h => h) (by rfl) (fun w' hw' => ?_) hS (listed' := bts 14 127) (by kernel_rfl) rfl ?_
       ·go_simp
       simp only [zsA,zsZ,zsS];refine M_take 7 87 (.pointer (some ⟨bf,3,none⟩)) _ rfl rfl (by kernel_rfl) (by kernel_rfl) (by kernel_rfl) (by kernel_rfl) (by kernel_rfl) (fun _ _ _ h => h) (by rfl) (fun w' hw' => ?_) hS (listed' := bts 14 255) (by kernel_rfl) rfl ?_
       ·go_simp
       simp only [zsA,zsZ,zsS];refine M_take 8 88 (.pointer (some ⟨bf,3,none⟩)) _ rfl rfl (by kernel_rfl) (by kernel_rfl) (by kernel_rfl) (by kernel_rfl) (by kernel_rfl) (fun _ _ _ h => h) (by rfl) (fun w' hw' => ?_) hS (listed' := bts 14 511) (by kernel_rfl) rfl ?_
       ·go_simp
       simp only [zsA,zsZ,zsS];refine M_take 9 89 (.int .i64 f4) _ rfl rfl (by kernel_rfl) (by kernel_rfl) (by kernel_rfl) (by kernel_rfl) (by kernel_rfl) (fun _ _ _ h => h) (by rfl) (fun w' hw' => ?_) hS (listed' := bts 14 1023) (by kernel_rfl) rfl ?_
       ·obtain ⟨h0, -, -⟩ := hw'; go_simp
       simp only [zsA,zsZ,zsS];refine M_take 10 90 (.bool (f4 == 7)) _ rfl rfl (by kernel_rfl) (by kernel_rfl) (by kernel_rfl) (by kernel_rfl) (by kernel_rfl) (fun _ _ _ h => h) (by rfl) (fun w' hw' => ?_) hS (listed' := bts 14 2047) (by kernel_rfl) rfl ?_
       ·go_simp
       simp only [zsA,zsZ,zsS];refine M_storeT 11 ((D.setCell ⟨b0 + 1 + 1 + 1,0,none⟩ (.string f5)).setCell ⟨b0 + 1 + 1 + 1,1,none⟩ (.string g5)) rfl rfl (by kernel_rfl) (by rfl) (listed' := bts 14 4095) (by kernel_rfl) (by go_simp) hS2 ?_;refine M_run 12 9 (.bool (f4 == 7)) (((D.setCell ⟨b0 + 1 + 1 + 1,0,none⟩ (.string f5)).setCell ⟨b0 + 1 + 1 + 1,1,none⟩ (.string g5))) rfl rfl (by kernel_rfl) (by rfl) (listed' := bts 14 8191) (by kernel_rfl) (by go_simp) hS2 ?_;simp only [zsA,zsZ,zsS];refine M_runA 13 10 (.bool true) ((D.setCell ⟨b0 + 1 + 1 + 1,0,none⟩ (.string f5)).setCell ⟨b0 + 1 + 1 + 1,1,none⟩ (.string g5)) rfl rfl (by kernel_rfl) (by rfl) (listed' := bts 14 16383) (by kernel_rfl) (by go_simp) (by kernel_rfl) ?_;simp only [zsA,zsZ,zsS];refine M_done (by kernel_rfl) ?_ _;clear hS hS2 r0 rz0 r1 rz1 BF12 BG12 BF11 BG11 BR11 hD;generalize ((D.setCell ⟨b0 + 1 + 1 + 1,0,none⟩ (.string f5)).setCell ⟨b0 + 1 + 1 + 1,1,none⟩ (.string g5)) = WF at *;have r0 := (BR12.cell 0).trans rfl;have r1 := (BR12.cell 1).trans rfl;go_wp2_with fail;refine bodyPost_ret (results_threeC rfl _ _ _ ⟨b0 + 1 + 1 + 1,0,none⟩ (.agg #[.string f5,.string g5]) (by go_simp) (by go_simp)) rfl ?_;rw [HE5.out];refine ⟨(f5,g5),f4 == 7,rfl,fun x e => ?_,hbw12⟩;simp only [Option.some.injEq] at e;subst e
       by_cases h7 : f4 = 7
       ·simp [h7]
       ·simp [h7]
theorem infoPR : (Try.prog.info? 69).map (fun i => (i.zero,i.size,i.bytes)) = some (some (.agg #[.string ⟨#[]⟩,.string ⟨#[]⟩]),2,32) := by kernel_rfl
def PrO (w : World) (B : Nat) (v : Value) (l : List Pr) : Prop := w.ownsRow B 69 2 v l.length (prRows l).flatten
def RAddP (B : Nat) (v : Value) (l : List Pr) (w : World) (e : Ending) (w' : World) : Prop := ∃ v',e = .returned v' ∧ PrO w' B v' l ∧ Kp (fun q => v.ownBlock = some q) w w'
theorem radd_any {w : World} {B : Nat} {v : Value} {l : List Pr} {p : Pr} (h : PrO w B v l) (hB : B ≤ w.heap.size) (hl : l.length ≤ 1000) :
  Calls Try.prog 24 #[v,.agg #[.string p.1,.string p.2]] w (RAddP B v (addP l p) w) := by
 obtain ⟨a,c,rfl⟩ := own_form h;obtain ⟨N,hN⟩ : ∃ z,l.length = z := ⟨_,rfl⟩;have HN : Hid (l.length = N) := hN;have HP : Hid ((memP p l = true → addP l p = l) ∧ (memP p l = false → addP l p = l ++ [p])) := ⟨fun e => by unfold addP; rw [if_pos e],fun e => by unfold addP; rw [if_neg (by simp [e])]⟩;have HO : Hid (PrO w B (.slice a N c) l) := (by rw [← hN]; exact h : PrO _ _ _ _);have HM0 : Hid (memP p (l.take 0) = false) := (by simp [memP] : _ = _);have HL : Hid (N ≤ 1000) := (by rw [← hN]; exact hl : N ≤ 1000);have hl2 := HL.out;have hal : Below w.heap.size w (w.alloc (.cells #[.string p.1,.string p.2] 69)) := (Below.refl _ _).alloc (Nat.le_refl _) _;have BS := Blk.new w #[.string p.1,.string p.2] 69;have HPC : Hid (prC p = [.string p.1,.string p.2]) := rfl
 have HPM : Hid (∀ q : Pr,memP p (l ++ [q]) = (memP p l || (decide (q.1 = p.1) && decide (q.2 = p.2)))) := fun q => by simp [memP]
 have HPT : Hid (∀ (k : Nat) (q : Pr),l[k]? = some q → memP p (l.take (k + 1)) = (memP p (l.take k) || (decide (q.1 = p.1) && decide (q.2 = p.2)))) := fun k q hq => by
  rw [List.take_add_one,hq]; simp [memP]
 have HPL : Hid (memP p (l.take N) = memP p l) := (by rw [List.take_of_length_le (by omega)] : _ = _)
 have HPA : Hid (∀ (k : Nat) (q : Pr),l[k]? = some q → q.1 = p.1 → q.2 = p.2 → memP p l = true) := fun k q hq h1 h2 => memP_iff.2 (by
  have h3 : q = p := Prod.ext h1 h2
  exact h3 ▸ List.mem_of_getElem? hq)
 rw [hN];obtain ⟨p1,hp1⟩ : ∃ z,p.1 = z := ⟨_,rfl⟩;obtain ⟨p2,hp2⟩ : ∃ z,p.2 = z := ⟨_,rfl⟩;rw [hp1,hp2] at BS hal HPC HPT HPA;rw [hp1,hp2];clear h hN hl hp1 hp2 HPM;generalize hU : w.alloc (Obj.cells #[.string p1,.string p2] 69) = U at *;obtain ⟨s,hs⟩ : ∃ z,w.heap.size = z := ⟨_,rfl⟩;rw [hs] at BS;have HSZ : Hid (w.heap.size = s) := hs;have HB : Hid (Below w.heap.size w U) := hal
 go_enter Try.func24,Try.ntmps24
 go_wp2_with fail
 try rw [hU]
 try simp only [hs]
 clear hU hs hal
 go_loopw [5] (fun iv wr => ∃ k : Nat,iv = .int .i64 (k : Int) ∧ k ≤ N ∧ Hid (memP p (l.take k) = false) ∧ Below U.heap.size U wr) (fun iv _ => N - (intOf iv).toNat)
 case atStart => exact ⟨0,rfl,by omega,HM0,Below.refl _ _⟩
 case round =>
  clear HM0;obtain ⟨k,rfl,hk,HM,hbel⟩ := hrel;have BSr := BS.below hbel;have x0 := (BSr.cell 0).trans rfl;have x1 := (BSr.cell 1).trans rfl
  by_cases hlt : k < N
  ·obtain ⟨q,hqk⟩ : ∃ n,l[k]? = some n := ⟨_,List.getElem?_eq_getElem (by rw [HN.out]; exact hlt)⟩
   obtain ⟨g,rfl⟩ : ∃ g,a = some ⟨g,0,none⟩ := by
    rcases HO.out.2 with ⟨e,h0⟩ | ⟨g,cap,cur,e,_⟩
    ·rw [HN.out] at h0; omega
    ·simp only [Value.slice.injEq] at e;exact ⟨g,e.1⟩
   have hbw := HB.out.trans (hbel.mono HB.out.size);have hrow := own_below HO.out hbw;have q0 := hrow.cells (g := g) rfl (k * 2 + 0) _ (flat_get (prRows l) (prr_len l) k (prC q) (by simp [prRows,hqk]) 0 _ rfl);have q1 := hrow.cells (g := g) rfl (k * 2 + 1) _ (flat_get (prRows l) (prr_len l) k (prC q) (by simp [prRows,hqk]) 1 _ rfl);simp only [Addr.add_lit,Nat.zero_add,Nat.add_zero] at q0 q1;have HQT := HPT.out k q hqk;have HQT' : Hid _ := HQT;have HQA : Hid (q.1 = p1 → q.2 = p2 → memP p l = true) := HPA.out k q hqk;obtain ⟨y1,y2⟩ := q;simp only at q0 q1 HQT' HQA;clear HQT hqk hrow BSr
   by_cases e1 : y1 = p1
   ·subst e1
    by_cases e2 : y2 = p2
    ·subst e2;have HMM : Hid (addP l p = l) := HP.out.1 (HQA.out rfl rfl);have hbW := hbw
     go_upto_region 4 with fail
     go_quiet (fail)
     go_wp2_with fail;go_ret;refine ⟨_,rfl,?_,Kp.ofBelow (below_drewN _ hbW)⟩;rw [HMM.out];exact own_below HO.out (below_drewN _ hbW)
    ·have hq := bytes_ne e2;have HM2 : Hid (memP p (l.take (k + 1)) = false) := (by rw [HQT'.out,HM.out]; simp [e2] : _ = _)
     go_upto_region 4 with fail
     go_quiet (fail)
     go_wp2_with fail
     go_roundw
     case rel => exact ⟨k + 1,by go_num,by omega,HM2,below_drewN _ hbel⟩
     case measure => simp [intOf]; omega
   ·have hq := bytes_ne e1;have HM2 : Hid (memP p (l.take (k + 1)) = false) := (by rw [HQT'.out,HM.out]; simp [e1] : _ = _)
    go_upto_region 4 with fail
    go_quiet (fail)
    go_wp2_with fail
    go_roundw
    case rel => exact ⟨k + 1,by go_num,by omega,HM2,below_drewN _ hbel⟩
    case measure => simp [intOf]; omega
  ·obtain rfl : k = N := by omega
   have HM2 : Hid (addP l p = l ++ [p]) := HP.out.2 (by rw [← HPL.out]; exact HM.out);have hbw := HB.out.trans (hbel.mono HB.out.size);have hal5 : Below wr.heap.size wr (wr.alloc (Obj.cells #[.string p1,.string p2] 69)) := (Below.refl _ _).alloc (Nat.le_refl _) _;have hown5 := own_below (own_below HO.out hbw) hal5;have BN5 := Blk.new wr #[.string p1,.string p2] 69;obtain ⟨v',W6,r1,r2,r3⟩ := run_joinG (w := wr.alloc (Obj.cells #[.string p1,.string p2] 69)) 66 66 69 2 32 _ Try.underlying66 infoPR rfl (by decide) B (.slice a k c) l.length (prRows l).flatten hown5 (.slice (some ⟨wr.heap.size,0,none⟩) 1 1) [[.string p1,.string p2]] (RowG.blk BN5 rfl (by simp) rfl (by omega)) (by simp) (by simp [Value.oneCell']) (by have := HN.out; simp; omega) (by decide) (Nat.le_trans (Nat.le_trans hB hbw.size) hal5.size);have HRUN : Hid ((Builtin.append_ #[66,66] 66 #[.slice a k c,.slice (some ⟨wr.heap.size,0,none⟩) 1 1]).run Try.prog (wr.alloc (Obj.cells #[.string p1,.string p2] 69)) = .ok v' W6) := r1
   have HR2 : Hid (PrO W6 B v' (addP l p)) := (by
    rw [HM2.out]
    show World.ownsRow _ _ _ _ _ _ _
    rw [show (l ++ [p]).length = l.length + ([[.string p1,.string p2]] : List (List Value)).length by simp,show (prRows (l ++ [p])).flatten = (prRows l).flatten ++ ([[.string p1,.string p2]] : List (List Value)).flatten by simp [prRows,HPC.out]]
    exact r2 : PrO _ _ _ _)
   have HK2 : Hid (Kp (fun q => (Value.slice a k c).ownBlock = some q) w W6) := ((Kp.ofBelow hbw).below hal5).trans2 ((Kp.refl _ _).grown r3 fun k hk _ => hk) fun _ _ e => e
   obtain ⟨na,nc,rfl⟩ := own_form r2;clear r1 r2 r3 hown5 BN5 BSr
   go_wp2_with (first | (at_builtin; refine wpList_ran rfl (append_run rfl rfl rfl HRUN.out) ?_) | fail)
   go_ret;exact ⟨_,rfl,HR2.out,HK2.out⟩
end
section
open Go.ChangeShapes Go.WideShapes Go.ChangeAt Go.RowKit
def tlL : List UInt8 → Int
 | [] => -1
 | a :: _ => if ctU a = true then (a.toNat : Int) - 128 else -1
theorem tl_in (s : ByteArray) (i : Nat) (h : i < s.size) (a : 128 ≤ (s[i].toNat : Int)) (b : (s[i].toNat : Int) ≤ 191) : (s[i].toNat : Int) - 128 = tlL (s.data.toList.drop i) := by
 rw [drop_cons s i h]; simp only [tlL]; rw [if_pos (by simp [ctU]; omega)]
theorem tl_out (s : ByteArray) (i : Nat) (h : i < s.size) (a : (s[i].toNat : Int) < 128 ∨ 191 < (s[i].toNat : Int)) : -1 = tlL (s.data.toList.drop i) := by
 rw [drop_cons s i h]; simp only [tlL]; rw [if_neg (by simp [ctU]; omega)]
theorem tl_end (s : ByteArray) (i : Nat) (h : s.size ≤ i) : -1 = tlL (s.data.toList.drop i) := by
 rw [drop_none s i h]; rfl
theorem tail_any (s : ByteArray) (i : Int) (w : World) (hs : s.size ≤ 140737488351232) (hi : 0 ≤ i) :
  Calls Try.prog 79 #[.string s,.int .i64 i] w fun e w' => e = .returned (.int .i64 (tlL (s.data.toList.drop i.toNat))) ∧ w' = w := by
 by_cases h : i < s.size
 ·have hn : i.toNat < s.size := by omega
  go_enter Try.func79,Try.ntmps79
  go_wp2
  all_goals
   go_ret
   first
   | exact ⟨ret_int (tl_in s i.toNat hn (by omega) (by omega)),rfl⟩
   | exact ⟨ret_int (tl_out s i.toNat hn (by omega)),rfl⟩
 ·go_enter Try.func79,Try.ntmps79
  go_wp2
  go_ret;exact ⟨ret_int (tl_end s i.toNat (by omega)),rfl⟩
theorem rnext_out (s : ByteArray) (i : Int) (w : World) (h : i < 0 ∨ (s.size : Int) ≤ i) :
  Calls Try.prog 66 #[.string s,.int .i64 i] w fun e w' => e = .returned (nxV (nxL (atL s i))) ∧ w' = w := by
 have hx := atL_out s i h;have HX : Hid (nxL (atL s i) = none) := hx;clear hx
 rcases h with h | h
 ·go_enter Try.func66,Try.ntmps66
  go_wp2
  go_ret3
  exact ⟨ret_none HX.out,rfl⟩
 ·by_cases h0 : i < 0
  all_goals
   go_enter Try.func66,Try.ntmps66
   go_wp2
   go_ret3
   exact ⟨ret_none HX.out,rfl⟩
def accv (v0 : Int) (l : List UInt8) : Nat → Int
 | 0 => v0
 | k + 1 => 64 * accv v0 l k + tlL (l.drop (k + 1))
theorem nxL_lead1 (s : ByteArray) (i : Nat) (h : i < s.size) (ha : (s[i].toNat : Int) < 128) : nxL (atL s i) = some (s[i].toNat,1) := by
 rw [atL_in s i (by omega),Int.toNat_natCast,drop_cons s i h];simp only [nxL]; rw [if_pos (by omega)]
theorem nxL_lead0 (s : ByteArray) (i : Nat) (h : i < s.size) (h0 : 128 ≤ (s[i].toNat : Int)) (h1 : (s[i].toNat : Int) < 192 ∨ 248 ≤ (s[i].toNat : Int)) : nxL (atL s i) = none := by
 rw [atL_in s i (by omega),Int.toNat_natCast,drop_cons s i h];simp only [nxL]; rw [if_neg (by omega),if_neg (by omega),if_neg (by omega),if_neg (by omega)]
theorem rnext_lead1 (s : ByteArray) (i : Nat) (w : World) (hs : s.size ≤ 140737488351232) (h : i < s.size) (ha : (s[i].toNat : Int) < 128) :
  Calls Try.prog 66 #[.string s,.int .i64 (i : Int)] w fun e w' => e = .returned (nxV (nxL (atL s i))) ∧ w' = w := by
 have HX : Hid (nxL (atL s i) = some (s[i].toNat,1)) := nxL_lead1 s i h ha
 have hb : 0 ≤ (s[i].toNat : Int) := by omega
 go_enter Try.func66,Try.ntmps66
 go_wp2
 go_ret3
 exact ⟨ret_some _ _ HX.out rfl rfl,rfl⟩
theorem rnext_lead0 (s : ByteArray) (i : Nat) (w : World) (hs : s.size ≤ 140737488351232) (h : i < s.size) (h0 : 128 ≤ (s[i].toNat : Int)) (h1 : (s[i].toNat : Int) < 192 ∨ 248 ≤ (s[i].toNat : Int)) :
  Calls Try.prog 66 #[.string s,.int .i64 (i : Int)] w fun e w' => e = .returned (nxV (nxL (atL s i))) ∧ w' = w := by
 have HX : Hid (nxL (atL s i) = none) := nxL_lead0 s i h h0 h1
 have hb : (s[i].toNat : Int) < 256 := by have := s[i].toNat_lt; omega
 rcases h1 with h1 | h1
 all_goals
  go_enter Try.func66,Try.ntmps66
  go_wp2
  go_ret3
  exact ⟨ret_none HX.out,rfl⟩
theorem tl_neg {r : List UInt8} (h : tlL r < 0) : ∀ b r',r = b :: r' → ctU b = false := by
 rintro b r' rfl
 cases e : ctU b with
 | false => rfl
 | true => simp only [tlL,e,if_true] at h; simp [ctU] at e; omega
theorem tl_pos {r : List UInt8} (h : 0 ≤ tlL r) : ∃ b r',r = b :: r' ∧ ctU b = true ∧ tlL r = (b.toNat : Int) - 128 := by
 match r with
 | [] => simp [tlL] at h
 | b :: r' =>
  cases e : ctU b with
  | false => simp [tlL,e] at h
  | true => exact ⟨b,r',rfl,e,by simp [tlL,e]⟩
theorem tl_bd (r : List UInt8) : -1 ≤ tlL r ∧ tlL r ≤ 63 := by
 match r with
 | [] => simp [tlL]
 | b :: r' =>
  simp only [tlL]
  split
  ·rename_i e; simp [ctU] at e; omega
  ·omega
def okVr (v : Int) : Prop := v ≤ 1114111 ∧ ¬ (55296 ≤ v ∧ v ≤ 57343)
theorem bad_2 {a : UInt8} {r : List UInt8} (h0 : 192 ≤ a.toNat) (h1 : a.toNat < 224) (m : Nat) (hm : 1 ≤ m) (hn : m < 2) (h : tlL ((a :: r).drop m) < 0) : nxL (a :: r) = none := by
 obtain rfl : m = 1 := by omega
 have hc := tl_neg (r := r) h;simp only [nxL];rw [if_neg (by omega),if_pos ⟨h0,h1⟩]
 match r with
 | [] => rfl
 | b :: r' => simp [hc b r' rfl]
theorem bad_3 {a : UInt8} {r : List UInt8} (h0 : 224 ≤ a.toNat) (h1 : a.toNat < 240) (m : Nat) (hm : 1 ≤ m) (hn : m < 3) (h : tlL ((a :: r).drop m) < 0) : nxL (a :: r) = none := by
 simp only [nxL];rw [if_neg (by omega),if_neg (by omega),if_pos ⟨h0,h1⟩]
 match r with
 | [] => rfl
 | [b] => rfl
 | b :: c :: r' =>
  obtain rfl | rfl : m = 1 ∨ m = 2 := by omega
  ·have hc := tl_neg (r := b :: c :: r') h; simp [hc b _ rfl]
  ·have hc := tl_neg (r := c :: r') h; simp [hc c _ rfl]
theorem bad_4 {a : UInt8} {r : List UInt8} (h0 : 240 ≤ a.toNat) (h1 : a.toNat < 248) (m : Nat) (hm : 1 ≤ m) (hn : m < 4) (h : tlL ((a :: r).drop m) < 0) : nxL (a :: r) = none := by
 simp only [nxL];rw [if_neg (by omega),if_neg (by omega),if_neg (by omega),if_pos ⟨h0,h1⟩]
 match r with
 | [] => rfl
 | [b] => rfl
 | [b,c] => rfl
 | b :: c :: d :: r' =>
  obtain rfl | rfl | rfl : m = 1 ∨ m = 2 ∨ m = 3 := by omega
  ·have hc := tl_neg (r := b :: c :: d :: r') h; simp [hc b _ rfl]
  ·have hc := tl_neg (r := c :: d :: r') h; simp [hc c _ rfl]
  ·have hc := tl_neg (r := d :: r') h; simp [hc d _ rfl]
theorem good_2 {a : UInt8} {r : List UInt8} (h0 : 192 ≤ a.toNat) (h1 : a.toNat < 224) (h : ∀ m,1 ≤ m → m < 2 → 0 ≤ tlL ((a :: r).drop m)) :
  ∃ v : Nat,accv ((a.toNat : Int) - 192) (a :: r) 1 = v ∧ v ≤ 1000000000 ∧ (128 ≤ v ∧ okVr v → nxL (a :: r) = some (v,2)) ∧ (¬ (128 ≤ v ∧ okVr v) → nxL (a :: r) = none) := by
 obtain ⟨b,r',rfl,hb,eb⟩ := tl_pos (r := r) (h 1 (by omega) (by omega));have hl := two_lt h1 hb;have hb' := hb;simp only [ctU,Bool.and_eq_true,decide_eq_true_eq] at hb';refine ⟨two a b,?_,by omega,?_,?_⟩
 ·show 64 * ((a.toNat : Int) - 192) + tlL (b :: r') = _
  rw [eb]; simp only [two]; omega
 ·rintro ⟨g,_⟩;simp only [nxL];rw [if_neg (by omega),if_pos ⟨h0,h1⟩,if_pos ⟨hb,g⟩]
 ·intro g;simp only [nxL];rw [if_neg (by omega),if_pos ⟨h0,h1⟩,if_neg (fun x => g ⟨x.2,by simp only [okVr]; omega⟩)]
theorem good_3 {a : UInt8} {r : List UInt8} (h0 : 224 ≤ a.toNat) (h1 : a.toNat < 240) (h : ∀ m,1 ≤ m → m < 3 → 0 ≤ tlL ((a :: r).drop m)) :
  ∃ v : Nat,accv ((a.toNat : Int) - 224) (a :: r) 2 = v ∧ v ≤ 1000000000 ∧ (2048 ≤ v ∧ okVr v → nxL (a :: r) = some (v,3)) ∧ (¬ (2048 ≤ v ∧ okVr v) → nxL (a :: r) = none) := by
 obtain ⟨b,r1,rfl,hb,eb⟩ := tl_pos (r := r) (h 1 (by omega) (by omega));obtain ⟨c,r',rfl,hc,ec⟩ := tl_pos (r := r1) (h 2 (by omega) (by omega));have hl := three_lt h1 hb hc;have hb' := hb;have hc' := hc;simp only [ctU,Bool.and_eq_true,decide_eq_true_eq] at hb' hc';refine ⟨three a b c,?_,by omega,?_,?_⟩
 ·show 64 * (64 * ((a.toNat : Int) - 224) + tlL (b :: c :: r')) + tlL (c :: r') = _
  rw [eb,ec]; simp only [three]; omega
 ·rintro ⟨g,g2⟩;simp only [nxL];rw [if_neg (by omega),if_neg (by omega),if_pos ⟨h0,h1⟩,if_pos ⟨hb,hc,g,by simp only [okVr] at g2; omega⟩]
 ·intro g;simp only [nxL];rw [if_neg (by omega),if_neg (by omega),if_pos ⟨h0,h1⟩,if_neg (fun x => g ⟨x.2.2.1,by simp only [okVr]; omega⟩)]
theorem good_4 {a : UInt8} {r : List UInt8} (h0 : 240 ≤ a.toNat) (h1 : a.toNat < 248) (h : ∀ m,1 ≤ m → m < 4 → 0 ≤ tlL ((a :: r).drop m)) :
  ∃ v : Nat,accv ((a.toNat : Int) - 240) (a :: r) 3 = v ∧ v ≤ 1000000000 ∧ (65536 ≤ v ∧ okVr v → nxL (a :: r) = some (v,4)) ∧ (¬ (65536 ≤ v ∧ okVr v) → nxL (a :: r) = none) := by
 obtain ⟨b,r1,rfl,hb,eb⟩ := tl_pos (r := r) (h 1 (by omega) (by omega));obtain ⟨c,r2,rfl,hc,ec⟩ := tl_pos (r := r1) (h 2 (by omega) (by omega));obtain ⟨d,r',rfl,hd,ed⟩ := tl_pos (r := r2) (h 3 (by omega) (by omega));have hb' := hb;have hc' := hc;have hd' := hd;simp only [ctU,Bool.and_eq_true,decide_eq_true_eq] at hb' hc' hd';refine ⟨four a b c d,?_,by simp only [four]; omega,?_,?_⟩
 ·show 64 * (64 * (64 * ((a.toNat : Int) - 240) + tlL (b :: c :: d :: r')) + tlL (c :: d :: r')) + tlL (d :: r') = _
  rw [eb,ec,ed]; simp only [four]; omega
 ·rintro ⟨g,g2⟩;simp only [nxL];rw [if_neg (by omega),if_neg (by omega),if_neg (by omega),if_pos ⟨h0,h1⟩,if_pos ⟨hb,hc,hd,g,by simp only [okVr] at g2; omega⟩]
 ·intro g;simp only [nxL];rw [if_neg (by omega),if_neg (by omega),if_neg (by omega),if_pos ⟨h0,h1⟩,if_neg (fun x => g ⟨x.2.2.2.1,by simp only [okVr]; omega⟩)]
theorem accv_bd (v0 : Int) (l : List UInt8) (h0 : 0 ≤ v0) (h1 : v0 ≤ 31) (k : Nat) (hk : k ≤ 3) (h : ∀ m,1 ≤ m → m < k + 1 → 0 ≤ tlL (l.drop m)) : 0 ≤ accv v0 l k ∧ accv v0 l k ≤ 10000000 := by
 have b1 := tl_bd (l.drop 1);have b2 := tl_bd (l.drop 2);have b3 := tl_bd (l.drop 3)
 obtain rfl | rfl | rfl | rfl : k = 0 ∨ k = 1 ∨ k = 2 ∨ k = 3 := by omega
 ·simp only [accv]; omega
 ·have := h 1 (by omega) (by omega); simp only [accv,Nat.zero_add,Nat.reduceAdd]; omega
 ·have := h 1 (by omega) (by omega); have := h 2 (by omega) (by omega); simp only [accv,Nat.zero_add,Nat.reduceAdd]; omega
 ·have := h 1 (by omega) (by omega); have := h 2 (by omega) (by omega); have := h 3 (by omega) (by omega); simp only [accv,Nat.zero_add,Nat.reduceAdd]; omega
theorem rest_at (s : ByteArray) (i m : Nat) : s.data.toList.drop ((i : Int) + (m : Int)).toNat = (s.data.toList.drop i).drop m := by
 rw [List.drop_drop]; congr 1
theorem rnext_lead2 (s : ByteArray) (i : Nat) (w : World) (hs : s.size ≤ 140737488351232) (h : i < s.size) (h0 : 192 ≤ (s[i].toNat : Int)) (h1 : (s[i].toNat : Int) < 224) :
  Calls Try.prog 66 #[.string s,.int .i64 (i : Int)] w fun e w' => e = .returned (nxV (nxL (atL s i))) ∧ w' = w := by
 have hl0 : Hid (atL s i = s[i] :: s.data.toList.drop (i + 1)) := by rw [atL_in s i (by omega),Int.toNat_natCast,drop_cons s i h]; rfl
 have hl1 : Hid (atL s i = s.data.toList.drop i) := by rw [atL_in s i (by omega),Int.toNat_natCast]; rfl
 generalize atL s i = l at *
 have hd1 : decide (s.size ≤ i) = false := by simp; omega
 have hd2 : decide ((i : Int) < 0) = false := by simp
 have hd3 : decide ((s[i].toNat : Int) < 128) = false := by simp; omega
 go_enter Try.func66,Try.ntmps66
 go_wp2
 go_loop [9,11] (fun v j => ∃ m : Nat,1 ≤ m ∧ m ≤ 2 ∧ j = .int .i64 m ∧ v = .int .i64 (accv ((s[i].toNat : Int) - 192) l (m - 1)) ∧ Hid (∀ q,1 ≤ q → q < m → 0 ≤ tlL (l.drop q))) (fun _ j => 2 - (intOf j).toNat)
 case atStart => exact ⟨1,by omega,by omega,rfl,rfl,by intro q; omega⟩
 case round =>
  obtain ⟨m,hm1,hm2,rfl,rfl,H⟩ := hrel;have hbd := accv_bd ((s[i].toNat : Int) - 192) l (by omega) (by omega) (m - 1) (by omega) (fun q a b => H.out q a (by omega))
  by_cases hlt : m < 2
  ·have ht := tl_bd (l.drop m)
   have HT : Hid (tlL (s.data.toList.drop ((i : Int) + (m : Int)).toNat) = tlL (l.drop m)) := by rw [rest_at,← hl1.out]; rfl
   have HS : Hid (64 * accv ((s[i].toNat : Int) - 192) l (m - 1) + tlL (l.drop m) = accv ((s[i].toNat : Int) - 192) l m) := by
    obtain ⟨k,rfl⟩ : ∃ k,m = k + 1 := ⟨m - 1,by omega⟩
    rfl
   have HB : Hid (tlL (l.drop m) < 0 → nxL l = none) := fun hh => by
    have hx := hh;rw [hl0.out] at hx ⊢;exact bad_2 (by omega) (by omega) m hm1 hlt hx
   have HN : Hid (0 ≤ tlL (l.drop m) → ∀ q,1 ≤ q → q < m + 1 → 0 ≤ tlL (l.drop q)) := fun hh q a b => by
    by_cases e : q = m
    ·rw [e]; exact hh
    ·exact H.out q a (by omega)
   generalize accv ((s[i].toNat : Int) - 192) l (m - 1) = v at *;go_wp2_with fail;refine (tail_any s _ _ hs (by omega)).mono ?_;rintro e w' ⟨rfl,rfl⟩;rw [HT.out];generalize tlL (l.drop m) = t at *
   by_cases hneg : t < 0
   ·go_wp2
    go_ret3
    exact ⟨ret_none (HB.out hneg),rfl⟩
   ·go_wp2
    go_round
    case rel => exact ⟨m + 1,by omega,by omega,by go_num,by rw [HS.out]; rfl,HN.out (by omega)⟩
    case measure => simp [intOf]; omega
  ·obtain rfl : m = 2 := by omega
   obtain ⟨v,ev,hv,hyes,hno⟩ : ∃ v : Nat,accv ((s[i].toNat : Int) - 192) l (2 - 1) = v ∧ v ≤ 1000000000 ∧ (128 ≤ v ∧ okVr v → nxL l = some (v,2)) ∧ (¬ (128 ≤ v ∧ okVr v) → nxL l = none) := by
    have hg := H.out;rw [hl0.out] at hg ⊢;exact good_2 (by omega) (by omega) hg
   rw [ev];have HY : Hid (128 ≤ v ∧ okVr v → nxL l = some (v,2)) := hyes;have HNO : Hid (¬ (128 ≤ v ∧ okVr v) → nxL l = none) := hno;clear hyes hno ev hbd H
   go_wp2
   all_goals
    go_ret3
    first
    | exact ⟨ret_none (HNO.out (by simp only [okVr]; omega)),rfl⟩
    | exact ⟨ret_some _ _ (HY.out (by simp only [okVr]; omega)) rfl rfl,rfl⟩
theorem rnext_lead3 (s : ByteArray) (i : Nat) (w : World) (hs : s.size ≤ 140737488351232) (h : i < s.size) (h0 : 224 ≤ (s[i].toNat : Int)) (h1 : (s[i].toNat : Int) < 240) :
  Calls Try.prog 66 #[.string s,.int .i64 (i : Int)] w fun e w' => e = .returned (nxV (nxL (atL s i))) ∧ w' = w := by
 have hl0 : Hid (atL s i = s[i] :: s.data.toList.drop (i + 1)) := by rw [atL_in s i (by omega),Int.toNat_natCast,drop_cons s i h]; rfl
 have hl1 : Hid (atL s i = s.data.toList.drop i) := by rw [atL_in s i (by omega),Int.toNat_natCast]; rfl
 generalize atL s i = l at *
 have hd1 : decide (s.size ≤ i) = false := by simp; omega
 have hd2 : decide ((i : Int) < 0) = false := by simp
 have hd3 : decide ((s[i].toNat : Int) < 128) = false := by simp; omega
 go_enter Try.func66,Try.ntmps66
 go_wp2
 go_loop [9,11] (fun v j => ∃ m : Nat,1 ≤ m ∧ m ≤ 3 ∧ j = .int .i64 m ∧ v = .int .i64 (accv ((s[i].toNat : Int) - 224) l (m - 1)) ∧ Hid (∀ q,1 ≤ q → q < m → 0 ≤ tlL (l.drop q))) (fun _ j => 3 - (intOf j).toNat)
 case atStart => exact ⟨1,by omega,by omega,rfl,rfl,by intro q; omega⟩
 case round =>
  obtain ⟨m,hm1,hm2,rfl,rfl,H⟩ := hrel;have hbd := accv_bd ((s[i].toNat : Int) - 224) l (by omega) (by omega) (m - 1) (by omega) (fun q a b => H.out q a (by omega))
  by_cases hlt : m < 3
  ·have ht := tl_bd (l.drop m)
   have HT : Hid (tlL (s.data.toList.drop ((i : Int) + (m : Int)).toNat) = tlL (l.drop m)) := by rw [rest_at,← hl1.out]; rfl
   have HS : Hid (64 * accv ((s[i].toNat : Int) - 224) l (m - 1) + tlL (l.drop m) = accv ((s[i].toNat : Int) - 224) l m) := by
    obtain ⟨k,rfl⟩ : ∃ k,m = k + 1 := ⟨m - 1,by omega⟩
    rfl
   have HB : Hid (tlL (l.drop m) < 0 → nxL l = none) := fun hh => by
    have hx := hh;rw [hl0.out] at hx ⊢;exact bad_3 (by omega) (by omega) m hm1 hlt hx
   have HN : Hid (0 ≤ tlL (l.drop m) → ∀ q,1 ≤ q → q < m + 1 → 0 ≤ tlL (l.drop q)) := fun hh q a b => by
    by_cases e : q = m
    ·rw [e]; exact hh
    ·exact H.out q a (by omega)
   generalize accv ((s[i].toNat : Int) - 224) l (m - 1) = v at *;go_wp2_with fail;refine (tail_any s _ _ hs (by omega)).mono ?_;rintro e w' ⟨rfl,rfl⟩;rw [HT.out];generalize tlL (l.drop m) = t at *
   by_cases hneg : t < 0
   ·go_wp2
    go_ret3
    exact ⟨ret_none (HB.out hneg),rfl⟩
   ·go_wp2
    go_round
    case rel => exact ⟨m + 1,by omega,by omega,by go_num,by rw [HS.out]; rfl,HN.out (by omega)⟩
    case measure => simp [intOf]; omega
  ·obtain rfl : m = 3 := by omega
   obtain ⟨v,ev,hv,hyes,hno⟩ : ∃ v : Nat,accv ((s[i].toNat : Int) - 224) l (3 - 1) = v ∧ v ≤ 1000000000 ∧ (2048 ≤ v ∧ okVr v → nxL l = some (v,3)) ∧ (¬ (2048 ≤ v ∧ okVr v) → nxL l = none) := by
    have hg := H.out;rw [hl0.out] at hg ⊢;exact good_3 (by omega) (by omega) hg
   rw [ev];have HY : Hid (2048 ≤ v ∧ okVr v → nxL l = some (v,3)) := hyes;have HNO : Hid (¬ (2048 ≤ v ∧ okVr v) → nxL l = none) := hno;clear hyes hno ev hbd H
   go_wp2
   all_goals
    go_ret3
    first
    | exact ⟨ret_none (HNO.out (by simp only [okVr]; omega)),rfl⟩
    | exact ⟨ret_some _ _ (HY.out (by simp only [okVr]; omega)) rfl rfl,rfl⟩
theorem rnext_lead4 (s : ByteArray) (i : Nat) (w : World) (hs : s.size ≤ 140737488351232) (h : i < s.size) (h0 : 240 ≤ (s[i].toNat : Int)) (h1 : (s[i].toNat : Int) < 248) :
  Calls Try.prog 66 #[.string s,.int .i64 (i : Int)] w fun e w' => e = .returned (nxV (nxL (atL s i))) ∧ w' = w := by
 have hl0 : Hid (atL s i = s[i] :: s.data.toList.drop (i + 1)) := by rw [atL_in s i (by omega),Int.toNat_natCast,drop_cons s i h]; rfl
 have hl1 : Hid (atL s i = s.data.toList.drop i) := by rw [atL_in s i (by omega),Int.toNat_natCast]; rfl
 generalize atL s i = l at *
 have hd1 : decide (s.size ≤ i) = false := by simp; omega
 have hd2 : decide ((i : Int) < 0) = false := by simp
 have hd3 : decide ((s[i].toNat : Int) < 128) = false := by simp; omega
 go_enter Try.func66,Try.ntmps66
 go_wp2
 go_loop [9,11] (fun v j => ∃ m : Nat,1 ≤ m ∧ m ≤ 4 ∧ j = .int .i64 m ∧ v = .int .i64 (accv ((s[i].toNat : Int) - 240) l (m - 1)) ∧ Hid (∀ q,1 ≤ q → q < m → 0 ≤ tlL (l.drop q))) (fun _ j => 4 - (intOf j).toNat)
 case atStart => exact ⟨1,by omega,by omega,rfl,rfl,by intro q; omega⟩
 case round =>
  obtain ⟨m,hm1,hm2,rfl,rfl,H⟩ := hrel;have hbd := accv_bd ((s[i].toNat : Int) - 240) l (by omega) (by omega) (m - 1) (by omega) (fun q a b => H.out q a (by omega))
  by_cases hlt : m < 4
  ·have ht := tl_bd (l.drop m)
   have HT : Hid (tlL (s.data.toList.drop ((i : Int) + (m : Int)).toNat) = tlL (l.drop m)) := by rw [rest_at,← hl1.out]; rfl
   have HS : Hid (64 * accv ((s[i].toNat : Int) - 240) l (m - 1) + tlL (l.drop m) = accv ((s[i].toNat : Int) - 240) l m) := by
    obtain ⟨k,rfl⟩ : ∃ k,m = k + 1 := ⟨m - 1,by omega⟩
    rfl
   have HB : Hid (tlL (l.drop m) < 0 → nxL l = none) := fun hh => by
    have hx := hh;rw [hl0.out] at hx ⊢;exact bad_4 (by omega) (by omega) m hm1 hlt hx
   have HN : Hid (0 ≤ tlL (l.drop m) → ∀ q,1 ≤ q → q < m + 1 → 0 ≤ tlL (l.drop q)) := fun hh q a b => by
    by_cases e : q = m
    ·rw [e]; exact hh
    ·exact H.out q a (by omega)
   generalize accv ((s[i].toNat : Int) - 240) l (m - 1) = v at *;go_wp2_with fail;refine (tail_any s _ _ hs (by omega)).mono ?_;rintro e w' ⟨rfl,rfl⟩;rw [HT.out];generalize tlL (l.drop m) = t at *
   by_cases hneg : t < 0
   ·go_wp2
    go_ret3
    exact ⟨ret_none (HB.out hneg),rfl⟩
   ·go_wp2
    go_round
    case rel => exact ⟨m + 1,by omega,by omega,by go_num,by rw [HS.out]; rfl,HN.out (by omega)⟩
    case measure => simp [intOf]; omega
  ·obtain rfl : m = 4 := by omega
   obtain ⟨v,ev,hv,hyes,hno⟩ : ∃ v : Nat,accv ((s[i].toNat : Int) - 240) l (4 - 1) = v ∧ v ≤ 1000000000 ∧ (65536 ≤ v ∧ okVr v → nxL l = some (v,4)) ∧ (¬ (65536 ≤ v ∧ okVr v) → nxL l = none) := by
    have hg := H.out;rw [hl0.out] at hg ⊢;exact good_4 (by omega) (by omega) hg
   rw [ev];have HY : Hid (65536 ≤ v ∧ okVr v → nxL l = some (v,4)) := hyes;have HNO : Hid (¬ (65536 ≤ v ∧ okVr v) → nxL l = none) := hno;clear hyes hno ev hbd H
   go_wp2
   all_goals
    go_ret3
    first
    | exact ⟨ret_none (HNO.out (by simp only [okVr]; omega)),rfl⟩
    | exact ⟨ret_some _ _ (HY.out (by simp only [okVr]; omega)) rfl rfl,rfl⟩
theorem rnext_any (s : ByteArray) (i : Int) (w : World) (hs : s.size ≤ 140737488351232) :
  Calls Try.prog 66 #[.string s,.int .i64 i] w fun e w' => e = .returned (nxV (nxL (atL s i))) ∧ w' = w := by
 by_cases h : i < 0 ∨ (s.size : Int) ≤ i
 ·exact rnext_out s i w h
 ·obtain ⟨n,rfl⟩ := Int.eq_ofNat_of_zero_le (a := i) (by omega)
  have hn : n < s.size := by omega
  by_cases h1 : (s[n].toNat : Int) < 128
  ·exact rnext_lead1 s n w hs hn h1
  ·by_cases h2 : (s[n].toNat : Int) < 192 ∨ 248 ≤ (s[n].toNat : Int)
   ·exact rnext_lead0 s n w hs hn (by omega) h2
   ·by_cases h3 : (s[n].toNat : Int) < 224
    ·exact rnext_lead2 s n w hs hn (by omega) h3
    ·by_cases h4 : (s[n].toNat : Int) < 240
     ·exact rnext_lead3 s n w hs hn (by omega) h4
     ·exact rnext_lead4 s n w hs hn (by omega) (by omega)
theorem rdigit_any (r : Int) (w : World) :
  Calls Try.prog 47 #[.int .i32 r] w fun e w' => e = .returned (.bool (digB r)) ∧ w' = w := by
 go_enter Try.func47,Try.ntmps47
 go_wp2
 all_goals
  go_ret;exact ⟨ret_bool (by simp [digB]; try omega),rfl⟩
theorem rletter_any (r : Int) (w : World) :
  Calls Try.prog 45 #[.int .i32 r] w fun e w' => e = .returned (.bool (letB r)) ∧ w' = w := by
 go_enter Try.func45,Try.ntmps45
 go_wp2
 all_goals
  go_ret;refine ⟨ret_bool ?_,rfl⟩;rw [Bool.eq_iff_iff]
  simp [letB]
  try omega
end
end Go.Proofs.Ytdkolhfpfimeoaa

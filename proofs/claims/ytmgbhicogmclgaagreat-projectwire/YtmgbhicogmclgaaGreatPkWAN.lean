/- Part 14 of what the proof stands on. -/
import Derived.Test.YtmgbhicogmclgaaGreatPkWAM
import Derived.Laws.ResultCell
import Derived.Laws.CopyRow
import Derived.Laws.IdiomCopy
import Derived.RegionTactic
import Derived.ChangeAlike
namespace Go.Proofs.YtmgbhicogmclgaaGreat
set_option maxHeartbeats 8000000
set_option linter.unusedVariables false
set_option linter.unusedSimpArgs false
set_option maxRecDepth 20000
open Go.ChangeShapes Go.WideShapes Go.ChangeAt Go.RowKit
theorem msgOf_name {s : ScS} {nm : ByteArray} {m : MsS} (h : msgOf s nm = some m) : m.name = nm := by simpa using List.find?_some h
theorem rvalue_step (s : ScS) (sn : ByteArray) (ma ea ta : Option Addr) (mn mc en ec tn tc : Nat) (d n : Nat) (hd : d + n = 10)
  (IH : d < 10 → ∀ (m : MsS) vf vr v ns w,msgOf s m.name = some m → RowG w vf 5 (flRows m.fields) → RowG w vr 1 (inRows m.reserved) → ByS w v ns → ns.length ≤ 6000 → ScIn w (.agg #[.string sn,.slice ma mn mc,.slice ea en ec,.slice ta tn tc]) s → Calls Tryz.prog 32 #[.agg #[.string sn,.slice ma mn mc,.slice ea en ec,.slice ta tn tc],.agg #[.string m.name,vf,vr],v,.int .i64 ((d : Int) + 1)] w (DtrP (n + 1) (decM n s m.name ns) w))
  (f : FlS) (r : Fd) (w : World) (hs : ScIn w (.agg #[.string sn,.slice ma mn mc,.slice ea en ec,.slice ta tn tc]) s) (h64 : Is64 r.n) (hsz : r.b.size ≤ 6000) (hw : r.wire = 0 ∨ r.wire = 1) (hk : 1 ≤ f.kind ∧ f.kind ≤ 7) (hm : f.kind = 7 → (msgOf s f.tname).isSome = true) :
  Calls Tryz.prog 62 #[.agg #[.string sn,.slice ma mn mc,.slice ea en ec,.slice ta tn tc],.agg #[.string f.name,.int .i64 f.tag,.int .i64 f.label,.int .i64 f.kind,.string f.tname],.agg #[.int .i64 r.tag,.int .i64 r.wire,.int .i64 r.n,.string r.b],.int .i64 (d : Int)] w (DtrP (n + 1) (treeD (decM n s) f r) w) := by
 obtain ⟨fn,ft,fl,k,tnm⟩ := f;obtain ⟨rt,rw,rn,rb⟩ := r;obtain ⟨R,hR⟩ : ∃ R,treeD (decM n s) ⟨fn,ft,fl,k,tnm⟩ ⟨rt,rw,rn,rb⟩ = R := ⟨_,rfl⟩
 have HV : Hid ((if rw ≠ wirK k then (tr0,8) else if (k = 3 ∨ k = 6) ∧ nmrB k rn = false then (tr0,11) else if k = 4 ∧ validB rb.data.toList = false then (tr0,9) else if k = 7 then decM n s tnm (bytesN rb) else (leafD ⟨rt,rw,rn,rb⟩,0)) = R) := hid (by
  have := hR; simp only [treeD] at this; exact this)
 rw [hR];clear hR;simp only at hs h64 hsz hw hk hm ⊢;have HS : Hid (ScIn w (.agg #[.string sn,.slice ma mn mc,.slice ea en ec,.slice ta tn tc]) s) := hs;have HI : Hid (d < 10 → ∀ (m : MsS) vf vr v ns w,msgOf s m.name = some m → RowG w vf 5 (flRows m.fields) → RowG w vr 1 (inRows m.reserved) → ByS w v ns → ns.length ≤ 6000 → ScIn w (.agg #[.string sn,.slice ma mn mc,.slice ea en ec,.slice ta tn tc]) s → Calls Tryz.prog 32 #[.agg #[.string sn,.slice ma mn mc,.slice ea en ec,.slice ta tn tc],.agg #[.string m.name,vf,vr],v,.int .i64 ((d : Int) + 1)] w (DtrP (n + 1) (decM n s m.name ns) w)) := IH
 have hd10 : d ≤ 10 := by omega
 have HD : Hid (d + n = 10) := hd;have HSZ : Hid (rb.size ≤ 6000) := hsz;have H64 : Hid (Is64 rn) := h64;have HW : Hid (rw = 0 ∨ rw = 1) := hw;have HK : Hid (1 ≤ k ∧ k ≤ 7) := hk;have HM : Hid (k = 7 → (msgOf s tnm).isSome = true) := hm;clear hs IH h64 hsz hw hk hm hd;obtain ⟨BS,BF,BR,BT,hbw⟩ := dblk4 w #[.string sn,.slice ma mn mc,.slice ea en ec,.slice ta tn tc] #[.string fn,.int .i64 ft,.int .i64 fl,.int .i64 k,.string tnm] #[.int .i64 rt,.int .i64 rw,.int .i64 rn,.string rb] #[.int .i64 0,.int .i64 0,.string ⟨#[]⟩,.slice none 0 0,.slice none 0 0] 26 56 79 30;obtain ⟨K,hK⟩ : ∃ z,kindT k = z := ⟨_,rfl⟩;have HKK : Hid (kindT k = K) := hK
 have HKC : Hid (∀ W,Calls Tryz.prog 89 #[.agg #[.int .i64 k,.string tnm]] W fun e w' => e = .returned (.int .i64 K) ∧ Below W.heap.size W w') := fun W => by
  have h1 := rkind_any k tnm W HK.out;rw [hK] at h1;exact h1
 clear hK
 go_enter Tryz.func62,Tryz.ntmps62
 go_wp2_with fail;obtain ⟨b0,hb0⟩ : ∃ z,w.heap.size = z := ⟨_,rfl⟩;have HBZ : Hid (w.heap.size = b0) := hb0;generalize ((((w.alloc (Obj.cells #[.string sn,.slice ma mn mc,.slice ea en ec,.slice ta tn tc] 26)).alloc (Obj.cells #[.string fn,.int .i64 ft,.int .i64 fl,.int .i64 k,.string tnm] 56)).alloc (Obj.cells #[.int .i64 rt,.int .i64 rw,.int .i64 rn,.string rb] 79)).alloc (Obj.cells #[.int .i64 0,.int .i64 0,.string ⟨#[]⟩,.slice none 0 0,.slice none 0 0] 30)) = WA at *;rw [hb0] at BS BF BR BT
 try simp only [hb0]
 clear hb0;have HBT : Hid (Blk WA (b0 + 3) #[.int .i64 0,.int .i64 0,.string ⟨#[]⟩,.slice none 0 0,.slice none 0 0] 30) := BT
 have FIN : Hid (∀ (W : World) (x0 x1 x2 x3 x4 : Value) (bs : List Nat) (y : Int),Below WA.heap.size WA W → TrO (n + 1) w.heap.size W [x0,x1,x2,x3,x4] R.1 bs → Apt w.heap.size W bs → b0 + 3 ∉ bs → R.2 = y → DtrP (n + 1) R w (.returned (.tuple #[.agg #[x0,x1,x2,x3,x4],.int .i64 y])) (set5 W (b0 + 3) 0 x0 x1 x2 x3 x4)) := fun W x0 x1 x2 x3 x4 bs y hW h1 h2 h3 h4 =>
  DtrP.done (hbw.trans (hW.mono hbw.size)) (by have := HBZ.out; omega) h1 h2 h3 h4
 have ZFIN : Hid (∀ (W : World) (y : Int),Below WA.heap.size WA W → R = (tr0,y) → DtrP (n + 1) R w (.returned (.tuple #[.agg #[.int .i64 0,.int .i64 0,.string ⟨#[]⟩,.slice none 0 0,.slice none 0 0],.int .i64 y])) (set5 W (b0 + 3) 0 (.int .i64 0) (.int .i64 0) (.string ⟨#[]⟩) (.slice none 0 0) (.slice none 0 0))) := fun W y hW hR =>
  FIN.out W _ _ _ _ _ [] y hW (by rw [hR]; exact TrO.zeroO n _ W) (Apt.nil _ _) (by simp) (by rw [hR])
 refine (HKC.out _).mono ?_;rintro e W1 ⟨rfl,hW1⟩;clear HKC;have BS1 := BS.below hW1;obtain ⟨s0,s1,s2,s3⟩ := cl4 BS1;clear BS1;have BF1 := BF.below hW1;obtain ⟨f0,f1,f2,f3,f4⟩ := cl5 BF1;clear BF1;have BR1 := BR.below hW1;obtain ⟨q0,q1,q2,q3⟩ := cl4 BR1;clear BR1;have BT1 := BT.below hW1;obtain ⟨t0,t1,t2,t3,t4⟩ := cl5 BT1;obtain ⟨z0,z1,z2,z3,z4⟩ := fz5 BT1;clear BT1
 have hkc : k = 1 ∨ k = 2 ∨ k = 3 ∨ k = 4 ∨ k = 5 ∨ k = 6 ∨ k = 7 := by have := HK.out; omega
 rcases hkc with rfl | rfl | rfl | rfl | rfl | rfl | rfl
 ·obtain rfl : K = 1 := HKK.out.symm.trans (by decide)
  rcases HW.out with rfl | rfl
  ·have HX : Hid (R = (⟨1,rn,⟨#[]⟩,[],[]⟩,0)) := hid (by rw [← HV.out,if_neg (by decide),if_neg (by simp),if_neg (by simp),if_neg (by decide)]; rfl);go_wp2_with fail;refine bodyPost_ret (results_two rfl _ _ _ ⟨b0 + 3,0,none⟩ (.agg #[.int .i64 1,.int .i64 rn,.string ⟨#[]⟩,.slice none 0 0,.slice none 0 0]) (by go_simp) (by go_simp)) rfl ?_;exact FIN.out W1 _ _ _ _ _ [] _ hW1 (by rw [HX.out]; exact TrO.leafO n _ _ ⟨1,rn,⟨#[]⟩,[],[]⟩ rfl rfl is64_1 H64.out (show (0 : Nat) ≤ 140737488351232 by omega)) (Apt.nil _ _) (by simp) (by rw [HX.out])
  ·have HX : Hid (R = (tr0,8)) := hid (by rw [← HV.out,if_pos (by decide)]);go_wp2_with fail;refine bodyPost_ret (results_two rfl _ _ _ ⟨b0 + 3,0,none⟩ (.agg #[.int .i64 0,.int .i64 0,.string ⟨#[]⟩,.slice none 0 0,.slice none 0 0]) (by go_simp) (by go_simp)) rfl ?_;exact ZFIN.out W1 _ hW1 HX.out
 ·obtain rfl : K = 1 := HKK.out.symm.trans (by decide)
  rcases HW.out with rfl | rfl
  ·have HX : Hid (R = (⟨1,rn,⟨#[]⟩,[],[]⟩,0)) := hid (by rw [← HV.out,if_neg (by decide),if_neg (by simp),if_neg (by simp),if_neg (by decide)]; rfl)
   have hR : nmrB 2 rn = true := by simp [nmrB]
   have HN : Hid (Calls Tryz.prog 90 #[.agg #[.int .i64 2,.string tnm],.int .i64 rn] W1 fun e w' => e = .returned (.bool true) ∧ Below W1.heap.size W1 w') := (by have h1 := rnumber_any 2 rn tnm W1; rw [hR] at h1; exact h1 : Calls Tryz.prog _ _ W1 _);clear hR;go_wp2_with fail;refine HN.out.mono ?_;rintro e W2 ⟨rfl,hb2⟩;have hW2 : Below WA.heap.size WA W2 := hW1.trans (hb2.mono hW1.size);clear HN hb2;clear s0 s1 s2 s3 f0 f1 f2 f3 f4 q0 q1 q2 q3 t0 t1 t2 t3 t4 z0 z1 z2 z3 z4;have BR2 := BR.below hW2;obtain ⟨q0,q1,q2,q3⟩ := cl4 BR2;clear BR2;have BF2 := BF.below hW2;obtain ⟨f0,f1,f2,f3,f4⟩ := cl5 BF2;clear BF2;have BT2 := BT.below hW2;obtain ⟨t0,t1,t2,t3,t4⟩ := cl5 BT2;obtain ⟨z0,z1,z2,z3,z4⟩ := fz5 BT2;clear BT2;go_wp2_with fail;refine bodyPost_ret (results_two rfl _ _ _ ⟨b0 + 3,0,none⟩ (.agg #[.int .i64 1,.int .i64 rn,.string ⟨#[]⟩,.slice none 0 0,.slice none 0 0]) (by go_simp) (by go_simp)) rfl ?_;exact FIN.out W2 _ _ _ _ _ [] _ hW2 (by rw [HX.out]; exact TrO.leafO n _ _ ⟨1,rn,⟨#[]⟩,[],[]⟩ rfl rfl is64_1 H64.out (show (0 : Nat) ≤ 140737488351232 by omega)) (Apt.nil _ _) (by simp) (by rw [HX.out])
  ·have HX : Hid (R = (tr0,8)) := hid (by rw [← HV.out,if_pos (by decide)]);go_wp2_with fail;refine bodyPost_ret (results_two rfl _ _ _ ⟨b0 + 3,0,none⟩ (.agg #[.int .i64 0,.int .i64 0,.string ⟨#[]⟩,.slice none 0 0,.slice none 0 0]) (by go_simp) (by go_simp)) rfl ?_;exact ZFIN.out W1 _ hW1 HX.out
 ·obtain rfl : K = 1 := HKK.out.symm.trans (by decide)
  rcases HW.out with rfl | rfl
  ·cases hR : nmrB 3 rn with
   | false =>
    have HX : Hid (R = (tr0,11)) := hid (by rw [← HV.out,if_neg (by decide),if_pos ⟨by decide,hR⟩]);have HN : Hid (Calls Tryz.prog 90 #[.agg #[.int .i64 3,.string tnm],.int .i64 rn] W1 fun e w' => e = .returned (.bool false) ∧ Below W1.heap.size W1 w') := (by have h1 := rnumber_any 3 rn tnm W1; rw [hR] at h1; exact h1 : Calls Tryz.prog _ _ W1 _);clear hR;go_wp2_with fail;refine HN.out.mono ?_;rintro e W2 ⟨rfl,hb2⟩;have hW2 : Below WA.heap.size WA W2 := hW1.trans (hb2.mono hW1.size);clear HN hb2;clear s0 s1 s2 s3 f0 f1 f2 f3 f4 q0 q1 q2 q3 t0 t1 t2 t3 t4 z0 z1 z2 z3 z4;have BR2 := BR.below hW2;obtain ⟨q0,q1,q2,q3⟩ := cl4 BR2;clear BR2;have BF2 := BF.below hW2;obtain ⟨f0,f1,f2,f3,f4⟩ := cl5 BF2;clear BF2;have BT2 := BT.below hW2;obtain ⟨t0,t1,t2,t3,t4⟩ := cl5 BT2;obtain ⟨z0,z1,z2,z3,z4⟩ := fz5 BT2;clear BT2;go_wp2_with fail;refine bodyPost_ret (results_two rfl _ _ _ ⟨b0 + 3,0,none⟩ (.agg #[.int .i64 0,.int .i64 0,.string ⟨#[]⟩,.slice none 0 0,.slice none 0 0]) (by go_simp) (by go_simp)) rfl ?_;exact ZFIN.out W2 _ hW2 HX.out
   | true =>
    have HX : Hid (R = (⟨1,rn,⟨#[]⟩,[],[]⟩,0)) := hid (by rw [← HV.out,if_neg (by decide),if_neg (by rw [hR]; simp),if_neg (by simp),if_neg (by decide)]; rfl);have HN : Hid (Calls Tryz.prog 90 #[.agg #[.int .i64 3,.string tnm],.int .i64 rn] W1 fun e w' => e = .returned (.bool true) ∧ Below W1.heap.size W1 w') := (by have h1 := rnumber_any 3 rn tnm W1; rw [hR] at h1; exact h1 : Calls Tryz.prog _ _ W1 _);clear hR;go_wp2_with fail;refine HN.out.mono ?_;rintro e W2 ⟨rfl,hb2⟩;have hW2 : Below WA.heap.size WA W2 := hW1.trans (hb2.mono hW1.size);clear HN hb2;clear s0 s1 s2 s3 f0 f1 f2 f3 f4 q0 q1 q2 q3 t0 t1 t2 t3 t4 z0 z1 z2 z3 z4;have BR2 := BR.below hW2;obtain ⟨q0,q1,q2,q3⟩ := cl4 BR2;clear BR2;have BF2 := BF.below hW2;obtain ⟨f0,f1,f2,f3,f4⟩ := cl5 BF2;clear BF2;have BT2 := BT.below hW2;obtain ⟨t0,t1,t2,t3,t4⟩ := cl5 BT2;obtain ⟨z0,z1,z2,z3,z4⟩ := fz5 BT2;clear BT2;go_wp2_with fail;refine bodyPost_ret (results_two rfl _ _ _ ⟨b0 + 3,0,none⟩ (.agg #[.int .i64 1,.int .i64 rn,.string ⟨#[]⟩,.slice none 0 0,.slice none 0 0]) (by go_simp) (by go_simp)) rfl ?_;exact FIN.out W2 _ _ _ _ _ [] _ hW2 (by rw [HX.out]; exact TrO.leafO n _ _ ⟨1,rn,⟨#[]⟩,[],[]⟩ rfl rfl is64_1 H64.out (show (0 : Nat) ≤ 140737488351232 by omega)) (Apt.nil _ _) (by simp) (by rw [HX.out])
  ·have HX : Hid (R = (tr0,8)) := hid (by rw [← HV.out,if_pos (by decide)]);go_wp2_with fail;refine bodyPost_ret (results_two rfl _ _ _ ⟨b0 + 3,0,none⟩ (.agg #[.int .i64 0,.int .i64 0,.string ⟨#[]⟩,.slice none 0 0,.slice none 0 0]) (by go_simp) (by go_simp)) rfl ?_;exact ZFIN.out W1 _ hW1 HX.out
 ·obtain rfl : K = 2 := HKK.out.symm.trans (by decide)
  rcases HW.out with rfl | rfl
  ·have HX : Hid (R = (tr0,8)) := hid (by rw [← HV.out,if_pos (by decide)]);go_wp2_with fail;refine bodyPost_ret (results_two rfl _ _ _ ⟨b0 + 3,0,none⟩ (.agg #[.int .i64 0,.int .i64 0,.string ⟨#[]⟩,.slice none 0 0,.slice none 0 0]) (by go_simp) (by go_simp)) rfl ?_;exact ZFIN.out W1 _ hW1 HX.out
  ·cases hR : validB rb.data.toList with
   | false =>
    have HX : Hid (R = (tr0,9)) := hid (by rw [← HV.out,if_neg (by decide),if_neg (by simp),if_pos ⟨rfl,hR⟩]);have HN : Hid (Calls Tryz.prog 91 #[.string rb] W1 fun e w' => e = .returned (.bool false) ∧ Below W1.heap.size W1 w') := (by have h1 := rvalidB_any rb W1 HSZ.out; rw [hR] at h1; exact h1 : Calls Tryz.prog _ _ W1 _);clear hR;go_wp2_with fail;refine HN.out.mono ?_;rintro e W2 ⟨rfl,hb2⟩;have hW2 : Below WA.heap.size WA W2 := hW1.trans (hb2.mono hW1.size);clear HN hb2;clear s0 s1 s2 s3 f0 f1 f2 f3 f4 q0 q1 q2 q3 t0 t1 t2 t3 t4 z0 z1 z2 z3 z4;have BR2 := BR.below hW2;obtain ⟨q0,q1,q2,q3⟩ := cl4 BR2;clear BR2;have BF2 := BF.below hW2;obtain ⟨f0,f1,f2,f3,f4⟩ := cl5 BF2;clear BF2;have BT2 := BT.below hW2;obtain ⟨t0,t1,t2,t3,t4⟩ := cl5 BT2;obtain ⟨z0,z1,z2,z3,z4⟩ := fz5 BT2;clear BT2;go_wp2_with fail;refine bodyPost_ret (results_two rfl _ _ _ ⟨b0 + 3,0,none⟩ (.agg #[.int .i64 0,.int .i64 0,.string ⟨#[]⟩,.slice none 0 0,.slice none 0 0]) (by go_simp) (by go_simp)) rfl ?_;exact ZFIN.out W2 _ hW2 HX.out
   | true =>
    have HX : Hid (R = (⟨2,0,rb,[],[]⟩,0)) := hid (by rw [← HV.out,if_neg (by decide),if_neg (by simp),if_neg (by rw [hR]; simp),if_neg (by decide)]; rfl);have HN : Hid (Calls Tryz.prog 91 #[.string rb] W1 fun e w' => e = .returned (.bool true) ∧ Below W1.heap.size W1 w') := (by have h1 := rvalidB_any rb W1 HSZ.out; rw [hR] at h1; exact h1 : Calls Tryz.prog _ _ W1 _);clear hR;go_wp2_with fail;refine HN.out.mono ?_;rintro e W2 ⟨rfl,hb2⟩;have hW2 : Below WA.heap.size WA W2 := hW1.trans (hb2.mono hW1.size);clear HN hb2;clear s0 s1 s2 s3 f0 f1 f2 f3 f4 q0 q1 q2 q3 t0 t1 t2 t3 t4 z0 z1 z2 z3 z4;have BR2 := BR.below hW2;obtain ⟨q0,q1,q2,q3⟩ := cl4 BR2;clear BR2;have BF2 := BF.below hW2;obtain ⟨f0,f1,f2,f3,f4⟩ := cl5 BF2;clear BF2;have BT2 := BT.below hW2;obtain ⟨t0,t1,t2,t3,t4⟩ := cl5 BT2;obtain ⟨z0,z1,z2,z3,z4⟩ := fz5 BT2;clear BT2;go_wp2_with fail;refine bodyPost_ret (results_two rfl _ _ _ ⟨b0 + 3,0,none⟩ (.agg #[.int .i64 2,.int .i64 0,.string rb,.slice none 0 0,.slice none 0 0]) (by go_simp) (by go_simp)) rfl ?_;exact FIN.out W2 _ _ _ _ _ [] _ hW2 (by rw [HX.out]; exact TrO.leafO n _ _ ⟨2,0,rb,[],[]⟩ rfl rfl is64_2 is64_0 (Nat.le_trans HSZ.out (by omega))) (Apt.nil _ _) (by simp) (by rw [HX.out])
 ·obtain rfl : K = 2 := HKK.out.symm.trans (by decide)
  rcases HW.out with rfl | rfl
  ·have HX : Hid (R = (tr0,8)) := hid (by rw [← HV.out,if_pos (by decide)]);go_wp2_with fail;refine bodyPost_ret (results_two rfl _ _ _ ⟨b0 + 3,0,none⟩ (.agg #[.int .i64 0,.int .i64 0,.string ⟨#[]⟩,.slice none 0 0,.slice none 0 0]) (by go_simp) (by go_simp)) rfl ?_;exact ZFIN.out W1 _ hW1 HX.out
  ·have HX : Hid (R = (⟨2,0,rb,[],[]⟩,0)) := hid (by rw [← HV.out,if_neg (by decide),if_neg (by simp),if_neg (by simp),if_neg (by decide)]; rfl);go_wp2_with fail;refine bodyPost_ret (results_two rfl _ _ _ ⟨b0 + 3,0,none⟩ (.agg #[.int .i64 2,.int .i64 0,.string rb,.slice none 0 0,.slice none 0 0]) (by go_simp) (by go_simp)) rfl ?_;exact FIN.out W1 _ _ _ _ _ [] _ hW1 (by rw [HX.out]; exact TrO.leafO n _ _ ⟨2,0,rb,[],[]⟩ rfl rfl is64_2 is64_0 (Nat.le_trans HSZ.out (by omega))) (Apt.nil _ _) (by simp) (by rw [HX.out])
 ·obtain rfl : K = 1 := HKK.out.symm.trans (by decide)
  rcases HW.out with rfl | rfl
  ·cases hR : nmrB 6 rn with
   | false =>
    have HX : Hid (R = (tr0,11)) := hid (by rw [← HV.out,if_neg (by decide),if_pos ⟨by decide,hR⟩]);have HN : Hid (Calls Tryz.prog 90 #[.agg #[.int .i64 6,.string tnm],.int .i64 rn] W1 fun e w' => e = .returned (.bool false) ∧ Below W1.heap.size W1 w') := (by have h1 := rnumber_any 6 rn tnm W1; rw [hR] at h1; exact h1 : Calls Tryz.prog _ _ W1 _);clear hR;go_wp2_with fail;refine HN.out.mono ?_;rintro e W2 ⟨rfl,hb2⟩;have hW2 : Below WA.heap.size WA W2 := hW1.trans (hb2.mono hW1.size);clear HN hb2;clear s0 s1 s2 s3 f0 f1 f2 f3 f4 q0 q1 q2 q3 t0 t1 t2 t3 t4 z0 z1 z2 z3 z4;have BR2 := BR.below hW2;obtain ⟨q0,q1,q2,q3⟩ := cl4 BR2;clear BR2;have BF2 := BF.below hW2;obtain ⟨f0,f1,f2,f3,f4⟩ := cl5 BF2;clear BF2;have BT2 := BT.below hW2;obtain ⟨t0,t1,t2,t3,t4⟩ := cl5 BT2;obtain ⟨z0,z1,z2,z3,z4⟩ := fz5 BT2;clear BT2;go_wp2_with fail;refine bodyPost_ret (results_two rfl _ _ _ ⟨b0 + 3,0,none⟩ (.agg #[.int .i64 0,.int .i64 0,.string ⟨#[]⟩,.slice none 0 0,.slice none 0 0]) (by go_simp) (by go_simp)) rfl ?_;exact ZFIN.out W2 _ hW2 HX.out
   | true =>
    have HX : Hid (R = (⟨1,rn,⟨#[]⟩,[],[]⟩,0)) := hid (by rw [← HV.out,if_neg (by decide),if_neg (by rw [hR]; simp),if_neg (by simp),if_neg (by decide)]; rfl);have HN : Hid (Calls Tryz.prog 90 #[.agg #[.int .i64 6,.string tnm],.int .i64 rn] W1 fun e w' => e = .returned (.bool true) ∧ Below W1.heap.size W1 w') := (by have h1 := rnumber_any 6 rn tnm W1; rw [hR] at h1; exact h1 : Calls Tryz.prog _ _ W1 _);clear hR;go_wp2_with fail;refine HN.out.mono ?_;rintro e W2 ⟨rfl,hb2⟩;have hW2 : Below WA.heap.size WA W2 := hW1.trans (hb2.mono hW1.size);clear HN hb2;clear s0 s1 s2 s3 f0 f1 f2 f3 f4 q0 q1 q2 q3 t0 t1 t2 t3 t4 z0 z1 z2 z3 z4;have BR2 := BR.below hW2;obtain ⟨q0,q1,q2,q3⟩ := cl4 BR2;clear BR2;have BF2 := BF.below hW2;obtain ⟨f0,f1,f2,f3,f4⟩ := cl5 BF2;clear BF2;have BT2 := BT.below hW2;obtain ⟨t0,t1,t2,t3,t4⟩ := cl5 BT2;obtain ⟨z0,z1,z2,z3,z4⟩ := fz5 BT2;clear BT2;go_wp2_with fail;refine bodyPost_ret (results_two rfl _ _ _ ⟨b0 + 3,0,none⟩ (.agg #[.int .i64 1,.int .i64 rn,.string ⟨#[]⟩,.slice none 0 0,.slice none 0 0]) (by go_simp) (by go_simp)) rfl ?_;exact FIN.out W2 _ _ _ _ _ [] _ hW2 (by rw [HX.out]; exact TrO.leafO n _ _ ⟨1,rn,⟨#[]⟩,[],[]⟩ rfl rfl is64_1 H64.out (show (0 : Nat) ≤ 140737488351232 by omega)) (Apt.nil _ _) (by simp) (by rw [HX.out])
  ·have HX : Hid (R = (tr0,8)) := hid (by rw [← HV.out,if_pos (by decide)]);go_wp2_with fail;refine bodyPost_ret (results_two rfl _ _ _ ⟨b0 + 3,0,none⟩ (.agg #[.int .i64 0,.int .i64 0,.string ⟨#[]⟩,.slice none 0 0,.slice none 0 0]) (by go_simp) (by go_simp)) rfl ?_;exact ZFIN.out W1 _ hW1 HX.out
 ·obtain rfl : K = 3 := HKK.out.symm.trans (by decide)
  rcases HW.out with rfl | rfl
  ·have HX : Hid (R = (tr0,8)) := hid (by rw [← HV.out,if_pos (by decide)]);go_wp2_with fail;refine bodyPost_ret (results_two rfl _ _ _ ⟨b0 + 3,0,none⟩ (.agg #[.int .i64 0,.int .i64 0,.string ⟨#[]⟩,.slice none 0 0,.slice none 0 0]) (by go_simp) (by go_simp)) rfl ?_;exact ZFIN.out W1 _ hW1 HX.out
  ·have HX : Hid (R = decM n s tnm (bytesN rb)) := hid (by rw [← HV.out,if_neg (by decide),if_neg (by simp),if_neg (by simp),if_pos rfl])
   by_cases hdd : d = 10
   ·subst hdd
    have HX2 : Hid (R = (tr0,10)) := hid (by
     have h1 : n = 0 := by have := HD.out; omega
     rw [HX.out,h1]; rfl)
    clear HX;go_wp2_with fail;refine bodyPost_ret (results_two rfl _ _ _ ⟨b0 + 3,0,none⟩ (.agg #[.int .i64 0,.int .i64 0,.string ⟨#[]⟩,.slice none 0 0,.slice none 0 0]) (by go_simp) (by go_simp)) rfl ?_;exact ZFIN.out W1 _ hW1 HX2.out
   have hdl : d < 10 := by omega
   have dge : ((d : Int) ≥ 10) = False := by simp; omega
   have dgd : decide ((10 : Int) ≤ (d : Int)) = false := by simp; omega
   obtain ⟨m,hmm⟩ := Option.isSome_iff_exists.1 (HM.out rfl);have hnm : m.name = tnm := msgOf_name hmm;have hw1 : Below w.heap.size w W1 := hbw.trans (hW1.mono hbw.size)
   have HMC : Hid (Calls Tryz.prog 25 #[.agg #[.string sn,.slice ma mn mc,.slice ea en ec,.slice ta tn tc],.string tnm] W1 fun e w' => ∃ vf vr,e = .returned (.tuple #[.agg #[.string m.name,vf,vr],.bool true]) ∧ RowG w vf 5 (flRows m.fields) ∧ RowG w vr 1 (inRows m.reserved) ∧ Below W1.heap.size W1 w') := (by
    obtain ⟨vm,ve,vt,e1,e2, -⟩ := HS.out;simp only [Value.agg.injEq,Array.mk.injEq,List.cons.injEq,Value.string.injEq,and_true,true_and] at e1;obtain ⟨-,rfl, -, -⟩ := e1;have h1 := r7messageW_any (snm := sn) (nm := tnm) (ae := ea) (at' := ta) (E := en) (ce := ec) (T := tn) (ct := tc) hw1 e2;have h2 : (s.msgs.find? fun m => decide (m.name = tnm)) = some m := hmm;rw [h2] at h1
    exact h1 : Calls Tryz.prog _ _ W1 _)
   have HMM : Hid (msgOf s m.name = some m) := hid (by rw [hnm]; exact hmm);have HNM : Hid (m.name = tnm) := hnm;clear hmm hnm hdd;go_wp2_with fail;refine HMC.out.mono ?_;rintro e W2 ⟨vf,vr,rfl,hvf,hvr,hb2⟩;have hW2 : Below WA.heap.size WA W2 := hW1.trans (hb2.mono hW1.size);clear HMC;obtain ⟨fa,fc,hvf0,u1,u2, -⟩ := hvf.open;obtain ⟨ra,rc,hvr0,u3,u4, -⟩ := hvr.open;have hw2 : Below w.heap.size w W2 := hbw.trans (hW2.mono hbw.size);have HVF : Hid (RowG W2 vf 5 (flRows m.fields)) := hvf.below hw2;have HVR : Hid (RowG W2 vr 1 (inRows m.reserved)) := hvr.below hw2;obtain ⟨FN,hFN⟩ : ∃ z,(flRows m.fields).length = z := ⟨_,rfl⟩;obtain ⟨RN,hRN⟩ : ∃ z,(inRows m.reserved).length = z := ⟨_,rfl⟩;rw [hFN] at hvf0;rw [hRN] at hvr0;subst hvf0;subst hvr0;clear hFN hRN u1 u2 u3 u4 hvf hvr hb2 hw1;clear s0 s1 s2 s3 f0 f1 f2 f3 f4 q0 q1 q2 q3 t0 t1 t2 t3 t4 z0 z1 z2 z3 z4;have BS2 := BS.below hW2;obtain ⟨s0,s1,s2,s3⟩ := cl4 BS2;clear BS2;have BF2 := BF.below hW2;obtain ⟨f0,f1,f2,f3,f4⟩ := cl5 BF2;clear BF2;have BR2 := BR.below hW2;obtain ⟨q0,q1,q2,q3⟩ := cl4 BR2;clear BR2;have BT2 := BT.below hW2;obtain ⟨t0,t1,t2,t3,t4⟩ := cl5 BT2;obtain ⟨z0,z1,z2,z3,z4⟩ := fz5 BT2;clear BT2;have hW3 : Below WA.heap.size WA (W2.alloc (Obj.cells #[.string m.name,.slice fa FN fc,.slice ra RN rc] 52)) := hW2.trans ((bra _).mono hW2.size);have h23 : Below W2.heap.size W2 (W2.alloc (Obj.cells #[.string m.name,.slice fa FN fc,.slice ra RN rc] 52)) := (Below.refl _ W2).alloc (Nat.le_refl _) _;have BM := Blk.new W2 #[.string m.name,.slice fa FN fc,.slice ra RN rc] 52;obtain ⟨W3,hzz⟩ : ∃ z,W2.alloc (Obj.cells #[.string m.name,.slice fa FN fc,.slice ra RN rc] 52) = z := ⟨_,rfl⟩;rw [hzz] at hW3 h23 BM;obtain ⟨m0,m1,m2⟩ := cl3 BM;clear BM;clear s0 s1 s2 s3 f0 f1 f2 f3 f4 q0 q1 q2 q3 t0 t1 t2 t3 t4 z0 z1 z2 z3 z4;have BS3 := BS.below hW3;obtain ⟨s0,s1,s2,s3⟩ := cl4 BS3;clear BS3;have BR3 := BR.below hW3;obtain ⟨q0,q1,q2,q3⟩ := cl4 BR3;clear BR3;have BT3 := BT.below hW3;obtain ⟨t0,t1,t2,t3,t4⟩ := cl5 BT3;obtain ⟨z0,z1,z2,z3,z4⟩ := fz5 BT3;clear BT3;obtain ⟨cap,WB,hcv,hby,hbB⟩ := conv_bytes W3 rb (Nat.le_trans HSZ.out (by omega));have hWB : Below WA.heap.size WA WB := hW3.trans (hbB.mono hW3.size);have hwB : Below w.heap.size w WB := hbw.trans (hWB.mono hbw.size);have h2B : Below W2.heap.size W2 WB := h23.trans (hbB.mono h23.size)
   have HN : Hid (Calls Tryz.prog 32 #[.agg #[.string sn,.slice ma mn mc,.slice ea en ec,.slice ta tn tc],.agg #[.string m.name,.slice fa FN fc,.slice ra RN rc],.slice (some ⟨W3.heap.size,0,none⟩) rb.size cap,.int .i64 ((d : Int) + 1)] WB (DtrP (n + 1) R WB)) := (by
    have h1 := HI.out hdl m _ _ _ _ WB HMM.out (HVF.out.below h2B) (HVR.out.below h2B) hby (by rw [bytesN_len]; exact HSZ.out) (HS.out.below hwB);rw [HNM.out,← HX.out] at h1;rw [HNM.out]
    exact h1 : Calls Tryz.prog _ _ WB _)
   have hwr : IntKind.i64.wrap ((d : Int) + 1) = (d : Int) + 1 := by rw [IntKind.wrap_i64]; omega
   clear hby hbB hwB h2B h23 HI HX HVF HVR HMM HNM;go_wp2_with fail;refine HN.out.mono ?_;rintro e W4 ⟨r',bs,rfl,ht,hap,hb2⟩;have hW4 : Below WA.heap.size WA W4 := hWB.trans (hb2.mono hWB.size);obtain ⟨a1,n1,c1,a2,n2,c2,rfl⟩ := ht.open;have hle : w.heap.size ≤ WB.heap.size := (hbw.trans (hWB.mono hbw.size)).size;have HTT : Hid (TrO (n + 1) w.heap.size W4 [.int .i64 R.1.kind,.int .i64 R.1.n,.string R.1.s,.slice a1 n1 c1,.slice a2 n2 c2] R.1 bs) := ht.base hle;have HAP : Hid (Apt w.heap.size W4 bs) := ⟨hap.1,fun k hk => ⟨Nat.le_trans hle (hap.2 k hk).1,(hap.2 k hk).2⟩⟩
   have HNB : Hid (b0 + 3 ∉ bs) := fun e => by have h1 := (hap.2 _ e).1; have h2 := hWB.size; have h3 := HBT.out.lt; omega
   clear HN hb2 hcv ht hap hle m0 m1 m2 hzz;clear s0 s1 s2 s3 q0 q1 q2 q3 t0 t1 t2 t3 t4 z0 z1 z2 z3 z4;have BT4 := BT.below hW4;obtain ⟨t0,t1,t2,t3,t4⟩ := cl5 BT4;obtain ⟨z0,z1,z2,z3,z4⟩ := fz5 BT4;clear BT4;obtain ⟨R1,R2⟩ := R;obtain ⟨K,N,S,E,Q⟩ := R1;go_wp2_with fail;refine bodyPost_ret (results_two rfl _ _ _ ⟨b0 + 3,0,none⟩ (.agg #[.int .i64 K,.int .i64 N,.string S,.slice a1 n1 c1,.slice a2 n2 c2]) (by go_simp) (by go_simp)) rfl ?_;exact FIN.out W4 _ _ _ _ _ bs _ hW4 HTT.out HAP.out HNB.out rfl
theorem rawCells_snoc (acc : List Fd) (r : Fd) : (acc ++ [r]).length = acc.length + 1 ∧ rawCells (acc ++ [r]) = rawCells acc ++ r.cells := by
 constructor
 ·simp
 ·rw [rawCells_app,rawCells_cons,rawCells_nil,List.append_nil]
theorem rzig_any (n : Int) (w : World) (h1 : -9223372036854775808 ≤ n) (h2 : n ≤ 9223372036854775807) :
  Calls Tryz.prog 119 #[.int .i64 n] w fun e w' => e = .returned (.int .u64 (zigN n)) ∧ w' = w := by
 by_cases h : n < 0
 all_goals
  go_enter Tryz.func119,Tryz.ntmps119
  go_wp2
  go_ret;refine ⟨vret_int ?_,rfl⟩;unfold zigN
  first
   | (rw [if_pos ‹_›]; omega)
   | (rw [if_neg (by omega)]; try omega)
theorem rput_any (v : Nat) (w : World) (hv : v < 18446744073709551616) :
  Calls Tryz.prog 118 #[.int .u64 (v : Int)] w fun e w' => ∃ r,e = .returned r ∧
   w'.ownsRow w.heap.size 5 1 r (digs v).length (byteCells (digs v)) ∧ Below w.heap.size w w' := by
 obtain ⟨i0,hi,hz0,hz1,hz2⟩ := info_parts infoByte;have hd := (digs_len64 v hv).2
 go_enter Tryz.func118,Tryz.ntmps118
 go_wp2_with fail
 go_loopw [0,3] (fun vv out wr => ∃ (v' : Nat) (acc : List Nat),vv = .int .u64 (v' : Int) ∧ v' < 18446744073709551616 ∧ acc.length + (digs v').length ≤ 10 ∧ Hid (acc ++ digs v' = digs v) ∧ Hid (wr.ownsRow w.heap.size 5 1 out acc.length (byteCells acc)) ∧ Below w.heap.size w wr)
  (fun vv _ _ => (intOf vv).toNat)
 case atStart => exact ⟨v,[],rfl,hv,by simpa using hd,rfl,World.ownsRow_nil _ _ _ _,Below.refl _ _⟩
 case round =>
  obtain ⟨v',acc,rfl,hv',hacc,HD,HP,hbel⟩ := hrel;have hws := hbel.size;have hown := HP.out;clear HP
  by_cases h : v' < 128
  ·have HE : Hid (acc ++ [v'] = digs v) := by show _ = _; rw [← HD.out,digs_small h]
   have hlen : acc.length ≤ 9 := by rw [digs_small h] at hacc; simp at hacc; omega
   clear HD hacc
   go_wp2_with (first
    | (at_builtin; refine wpList_append_own _ rfl _ _ 43 rfl w.heap.size 5 i0 (.int .u8 0) 1 1 Tryz.underlying43 hi hz0 hz1 hz2 rfl (by decide) _ _ _ rfl (hown.alloc _) ⟨wr.heap.size,0,none⟩ 1 1 [.int .u8 (v' : Int)] rfl rfl ?c1 ?c2 ?c3 ?c4 ?c5 ?_)
    | fail)
   case c1 =>
    intro j u hj
    match j,hj with
    | 0,hj => simp at hj; subst hj; simp [Addr.add]
   case c2 => intro u hu; simp at hu; subst hu; rfl
   case c3 => unfold maxLen; omega
   case c4 => omega
   case c5 => simp; omega
   intro r w2 hown' hgrow _;have hb2 : Below w.heap.size w w2 := (hbel.alloc hws _).grown hgrow (by simp; omega) (fun k hk => (hown.lt k hk).1);have HO : Hid (w2.ownsRow w.heap.size 5 1 r (acc ++ [v']).length (byteCells (acc ++ [v']))) := own_step (ns := []) (acc := acc) hown' rfl rfl (Nat.le_refl _);clear hown hown' hgrow;go_wp2_with fail;go_ret;exact ⟨_,rfl,by rw [← HE.out]; exact HO.out,hb2⟩
  ·have HE : Hid (acc ++ [v' % 128 + 128] ++ digs (v' / 128) = digs v) := by show _ = _; rw [← HD.out,digs_big h]; simp
   have hlen : acc.length ≤ 9 := by have := List.length_pos_iff.2 (digs_ne v'); omega
   have hacc' : (acc ++ [v' % 128 + 128]).length + (digs (v' / 128)).length ≤ 10 := by rw [digs_big h] at hacc; simp at hacc ⊢; omega
   clear HD hacc;obtain ⟨c,hc⟩ : ∃ c,v' % 128 + 128 = c := ⟨_,rfl⟩
   have hci : (v' : Int) % 128 + 128 = (c : Int) := by omega
   rw [hc] at HE hacc';clear hc
   go_wp2_with (first
    | (at_builtin; refine wpList_append_own _ rfl _ _ 43 rfl w.heap.size 5 i0 (.int .u8 0) 1 1 Tryz.underlying43 hi hz0 hz1 hz2 rfl (by decide) _ _ _ rfl (hown.alloc _) ⟨wr.heap.size,0,none⟩ 1 1 [.int .u8 (c : Int)] rfl rfl ?c1 ?c2 ?c3 ?c4 ?c5 ?_)
    | fail)
   case c1 =>
    intro j u hj
    match j,hj with
    | 0,hj => simp at hj; subst hj; simp [Addr.add]
   case c2 => intro u hu; simp at hu; subst hu; rfl
   case c3 => unfold maxLen; omega
   case c4 => omega
   case c5 => simp; omega
   intro r w2 hown' hgrow _;have hb2 : Below w.heap.size w w2 := (hbel.alloc hws _).grown hgrow (by simp; omega) (fun k hk => (hown.lt k hk).1);have HO : Hid (w2.ownsRow w.heap.size 5 1 r (acc ++ [c]).length (byteCells (acc ++ [c]))) := own_step (ns := []) (acc := acc) hown' rfl rfl (Nat.le_refl _);clear hown hown' hgrow hci;go_wp2_with fail
   go_roundw
   case rel => exact ⟨v' / 128,acc ++ [c],by go_num,by omega,hacc',HE,HO,hb2⟩
   case measure => simp [intOf]; omega
theorem rzag_any (v : Int) (w : World) (h1 : 0 ≤ v) (h2 : v < 18446744073709551616) :
  Calls Tryz.prog 98 #[.int .u64 v] w fun e w' => e = .returned (.int .i64 (zagN v)) ∧ w' = w := by
 go_enter Tryz.func98,Tryz.ntmps98
 go_wp2
 ·go_ret;refine ⟨vret_int ?_,rfl⟩
  have hb' : v % 2 = 0 := by simpa using ‹(v % 2 == 0) = true›
  unfold zagN; rw [if_pos (by omega)]
 ·go_ret;refine ⟨vret_int ?_,rfl⟩
  have hb' : ¬ v % 2 = 0 := by simpa using ‹(v % 2 == 0) = false›
  unfold zagN; rw [if_neg (by omega)]
theorem rget_out (a : Option Addr) (len cap : Nat) (at' : Int) (w : World) (h : at' < 0 ∨ (len : Int) < at') :
  Calls Tryz.prog 97 #[.slice a len cap,.int .i64 at'] w fun e w' => e = .returned (.tuple #[.int .u64 0,.int .i64 0,.int .i64 1]) ∧ w' = w := by
 rcases h with h | h
 ·go_enter Tryz.func97,Tryz.ntmps97
  go_wp2_with fail
  go_ret3
  exact ⟨rfl,rfl⟩
 ·by_cases h0 : at' < 0
  all_goals
   go_enter Tryz.func97,Tryz.ntmps97
   go_wp2_with fail
   go_ret3
   exact ⟨rfl,rfl⟩
theorem add_walk (v d k : Nat) (hv : v < 128 ^ k) (hd : d < 128) (hk : k ≤ 8 ∨ (k = 9 ∧ d ≤ 1)) : IntKind.u64.wrap ((d : Int) * 2 ^ (7 * k)) = ((d * 128 ^ k : Nat) : Int) ∧ v + d * 128 ^ k < 18446744073709551616 := by
 obtain ⟨h1,h2,h3,h4⟩ := or_add v d k hv hd hk
 have e : (d : Int) * 2 ^ (7 * k) = ((d * 128 ^ k : Nat) : Int) := by
  rw [show (128 : Nat) ^ k = 2 ^ (7 * k) by rw [Nat.pow_mul]]
  push_cast
  rfl
 refine ⟨by rw [e,IntKind.wrap_u64,Int.emod_eq_of_lt (by omega) (by omega)],?_⟩
 rcases hk with h | ⟨rfl,h⟩
 ·have := Nat.pow_le_pow_right (n := 128) (by decide) (show k + 1 ≤ 9 by omega)
  have h9 : (128 : Nat) ^ 9 = 9223372036854775808 := by decide
  omega
 ·have h9 : (128 : Nat) ^ 9 = 9223372036854775808 := by decide
  rw [h9] at hv ⊢
  omega
theorem rget_in (g off : Nat) (ns : List Nat) (cap p : Nat) (w : World) (hc : ns.length ≤ cap) (hm : cap ≤ maxLen) (hp : p ≤ ns.length) (hl : ns.length ≤ 140737488355328)
  (hh : ∀ j,j < ns.length → w.cell? ⟨g,off + j,none⟩ = some (.int .u8 ((ns.getD j 0 : Nat) : Int))) (hb : ∀ n ∈ ns,n < 256) :
  Calls Tryz.prog 97 #[.slice (some ⟨g,off,none⟩) ns.length cap,.int .i64 (p : Int)] w fun e w' => e = .returned (getV (getF (ns.drop p) 0 0 p)) ∧ w' = w := by
 have HH : Hid (∀ j,j < ns.length → w.cell? ⟨g,off + j,none⟩ = some (.int .u8 ((ns.getD j 0 : Nat) : Int))) := hh;have HB : Hid (∀ n ∈ ns,n < 256) := hb;unfold maxLen at hm
 have hd0 : decide ((p : Int) < 0) = false := by simp
 clear hh hb
 go_enter Tryz.func97,Tryz.ntmps97
 go_wp2_with fail
 go_loop [7,8] (fun vv iv => ∃ k v : Nat,iv = .int .i64 (k : Int) ∧ vv = .int .u64 (v : Int) ∧ k ≤ 9 ∧ p + k ≤ ns.length ∧ v < 128 ^ k ∧ Hid (getF (ns.drop p) 0 0 p = getF (ns.drop (p + k)) k v p))
  (fun _ iv => ns.length - p - (intOf iv).toNat)
 case atStart => exact ⟨0,0,rfl,rfl,by omega,by omega,by decide,rfl⟩
 case round =>
  obtain ⟨k,v,rfl,rfl,hk,hpk,hv,HG⟩ := hrel
  by_cases hlt : p + k < ns.length
  ·have hcell := HH.out (p + k) hlt;have hc256 : ns.getD (p + k) 0 < 256 := HB.out _ (by rw [List.getD_eq_getElem?_getD,List.getElem?_eq_getElem hlt,Option.getD_some]; exact List.getElem_mem hlt)
   have HD : Hid (ns.drop (p + k) = ns.getD (p + k) 0 :: ns.drop (p + k + 1)) := by show _ = _; rw [List.drop_eq_getElem_cons hlt,List.getD_eq_getElem?_getD,List.getElem?_eq_getElem hlt,Option.getD_some]
   have HG' : Hid (getF (ns.drop p) 0 0 p = getF (ns.getD (p + k) 0 :: ns.drop (p + k + 1)) k v p) := by show _ = _; rw [HG.out,HD.out]
   clear HD HG;generalize ns.getD (p + k) 0 = c at *
   by_cases h9 : k = 9 ∧ 1 < c
   ·have HX : Hid (getF (ns.drop p) 0 0 p = (0,0,3)) := by show _ = _; rw [HG'.out]; exact getF_ten _ _ _ h9.1 h9.2
    obtain ⟨rfl,hc1⟩ := h9;clear HG';go_wp2_with fail
    go_ret3
    exact ⟨ret_get HX.out rfl rfl rfl,rfl⟩
   ·by_cases hk9 : k = 9
    ·subst hk9
     have h9p : (128 : Nat) ^ 9 = 9223372036854775808 := by decide
     rw [h9p] at hv
     obtain rfl | rfl : c = 0 ∨ c = 1 := by omega
     ·have HX : Hid (getF (ns.drop p) 0 0 p = (0,0,3)) := by show _ = _; rw [HG'.out]; exact getF_zero _ _ _ (by omega) rfl (by omega)
      clear HG' h9p;go_wp2_with fail
      go_ret3
      exact ⟨ret_get HX.out rfl rfl rfl,rfl⟩
     ·have HX : Hid (getF (ns.drop p) 0 0 p = (v + 1 * 9223372036854775808,p + 9 + 1,0)) := by show _ = _; rw [HG'.out,← h9p]; exact getF_end _ _ _ (by omega) (by omega) (by omega)
      clear HG' h9p;go_wp2_with fail
      go_ret3
      exact ⟨ret_get HX.out (by omega) (by omega) rfl,rfl⟩
    ·have hk8 : k ≤ 8 := by omega
     obtain ⟨d,hd⟩ : ∃ d,c % 128 = d := ⟨_,rfl⟩
     have hd128 : d < 128 := by omega
     obtain ⟨hsh,hsum⟩ := add_walk v d k hv hd128 (.inl hk8);have hs := (or_add v d k hv hd128 (.inl hk8)).2.2.1
     have h9i : ((k : Int) == 9) = false := by simp; omega
     have hrem : (c : Int) % 128 = (d : Int) := by omega
     by_cases hc128 : 128 ≤ c
     ·have HX : Hid (getF (ns.drop p) 0 0 p = getF (ns.drop (p + (k + 1))) (k + 1) (v + d * 128 ^ k) p) := by show _ = _; rw [HG'.out,← hd,← Nat.add_assoc]; exact getF_on _ _ _ (by omega) hc128
      clear HG' hd;generalize d * 128 ^ k = t at *;have HS : Hid (v + t < 128 ^ (k + 1)) := hs;clear hs;go_wp2_with fail
      go_round
      case rel => exact ⟨k + 1,v + t,by go_num,by go_num,by omega,by omega,HS.out,HX⟩
      case measure => simp [intOf]; omega
     ·by_cases hz : c = 0 ∧ 0 < k
      ·have HX : Hid (getF (ns.drop p) 0 0 p = (0,0,3)) := by show _ = _; rw [HG'.out]; exact getF_zero _ _ _ (by omega) hz.1 hz.2
       obtain ⟨rfl,hk0⟩ := hz
       obtain rfl : d = 0 := by omega
       clear HG' hd hs hrem;generalize 0 * 128 ^ k = t at *;go_wp2_with fail
       go_ret3
       exact ⟨ret_get HX.out rfl rfl rfl,rfl⟩
      ·have HX : Hid (getF (ns.drop p) 0 0 p = (v + d * 128 ^ k,p + k + 1,0)) := by show _ = _; rw [HG'.out,← hd,Nat.mod_eq_of_lt (by omega)]; exact getF_end _ _ _ (by omega) (by omega) hz
       by_cases hc0 : c = 0
       ·subst hc0
        obtain rfl : k = 0 := by omega
        obtain rfl : d = 0 := by omega
        obtain rfl : v = 0 := by simp at hv; omega
        have hcell' : w.cell? ⟨g,off + p,none⟩ = some (.int .u8 0) := hcell;clear HG' hd hs hrem hsh hsum hcell h9i hv hc256;go_wp2_with fail
        go_ret3
        exact ⟨ret_get HX.out rfl (by omega) rfl,rfl⟩
       ·clear HG' hd hs hz;generalize d * 128 ^ k = t at *;go_wp2_with fail
        go_ret3
        exact ⟨ret_get HX.out (by omega) (by omega) rfl,rfl⟩
  ·have HX : Hid (getF (ns.drop p) 0 0 p = (0,0,2)) := by
    show _ = _
    rw [HG.out,List.drop_of_length_le (by omega)]
    rfl
   clear HG;go_wp2_with fail
   go_ret3
   exact ⟨ret_get HX.out rfl rfl rfl,rfl⟩
theorem rget_zero (a : Option Addr) (cap : Nat) (w : World) :
  Calls Tryz.prog 97 #[.slice a 0 cap,.int .i64 0] w fun e w' => e = .returned (getV (0,0,2)) ∧ w' = w := by
 go_enter Tryz.func97,Tryz.ntmps97
 go_wp2_with fail
 go_loop [8] (fun iv => iv = .int .i64 0) (fun _ => 0)
 case atStart => rfl
 case round =>
  subst hrel;go_wp2_with fail
  go_ret3
  exact ⟨rfl,rfl⟩
theorem rget_any (a : Option Addr) (ns : List Nat) (cap : Nat) (at' : Int) (w : World) (ha : ns = [] ∨ ∃ g off,a = some ⟨g,off,none⟩) (hc : ns.length ≤ cap) (hm : cap ≤ maxLen) (hl : ns.length ≤ 140737488355328) (hh : Holds w a ns) (hb : ∀ n ∈ ns,n < 256) :
  Calls Tryz.prog 97 #[.slice a ns.length cap,.int .i64 at'] w fun e w' => e = .returned (getV (getR ns at')) ∧ w' = w := by
 by_cases ho : at' < 0 ∨ (ns.length : Int) < at'
 ·rw [getR_out ho]; exact rget_out a ns.length cap at' w ho
 ·obtain ⟨p,rfl⟩ := Int.eq_ofNat_of_zero_le (a := at') (by omega);rw [getR_in (by omega)]
  rcases ha with rfl | ⟨g,off,rfl⟩
  ·obtain rfl : p = 0 := by simp at ho; omega
   exact rget_zero a cap w
  ·exact rget_in g off ns cap p w hc hm (by omega) hl (fun j hj => hh.at j hj) hb
theorem rrget_any (a : Option Addr) (ns : List Nat) (N cap : Nat) (w : World) (hN : ns.length = N) (hh : Holds w a ns) (hlt : ∀ n ∈ ns,n < 256) (hc : N ≤ cap) (hm : cap ≤ maxLen) (hadr : ns = [] ∨ ∃ g off,a = some ⟨g,off,none⟩) :
  Calls Tryz.prog 61 #[.slice a N cap] w fun e w' => ∃ v,e = .returned (.tuple #[v,.int .i64 ((getL ns).2 : Int)]) ∧ w'.ownsRow w.heap.size 79 4 v (getL ns).1.length (rawCells (getL ns).1) ∧ Below w.heap.size w w' := by
 have HM : Hid (cap ≤ maxLen) := hm;unfold maxLen at hm;obtain ⟨R,hR⟩ : ∃ R,getL ns = R := ⟨_,rfl⟩;rw [hR]
 by_cases hbig : 4096 < N
 ·have : R = ([],4) := by rw [← hR,getL,if_pos (by omega)]
  subst this;clear hR hh hlt
  go_enter Tryz.func61,Tryz.ntmps61
  go_wp2_with fail
  go_ret2
  exact ⟨_,rfl,World.ownsRow_nil _ _ _ _,Below.refl _ _⟩
 ·have HR : Hid (joinA [] (getA ns 0) = R) := by
   show _ = _
   rw [joinA_nil _ (getA_nil ns 0),← hR,getL,if_neg (by omega)]
  have HN : Hid (ns.length = N) := hN;have HH : Hid (Holds w a ns) := hh;have HT : Hid (∀ n ∈ ns,n < 256) := hlt;have HA : Hid (ns = [] ∨ ∃ g off,a = some ⟨g,off,none⟩) := hadr;obtain ⟨i0,hi,hz0,hz1,hz2⟩ := info_parts infoRaw;clear hR hN hh hlt hadr
  go_enter Tryz.func61,Tryz.ntmps61
  go_wp2_with fail
  go_loopw [4,5] (fun out pv wr => ∃ (acc : List Fd) (p : Nat),pv = .int .i64 (p : Int) ∧ p ≤ N ∧ acc.length ≤ p ∧ Hid (joinA acc (getA ns p) = R) ∧ Hid (wr.ownsRow w.heap.size 79 4 out acc.length (rawCells acc)) ∧ Below w.heap.size w wr)
   (fun _ pv _ => N - (intOf pv).toNat)
  case atStart => exact ⟨[],0,rfl,by omega,by simp,HR,World.ownsRow_nil _ _ _ _,Below.refl _ _⟩
  case round =>
   obtain ⟨acc,p,rfl,hp,hacc,HJ,HO,hbel⟩ := hrel;have hws := hbel.size
   by_cases hpn : p < N
   ·rcases HA.out with h0 | ⟨g,off,rfl⟩
    ·exact absurd hpn (by have := HN.out; rw [h0] at this; simp at this; omega)
    have HG : Hid (∀ W q,Below w.heap.size w W → q ≤ N → Calls Tryz.prog 97 #[.slice (some ⟨g,off,none⟩) N cap,.int .i64 (q : Int)] W fun e w' => e = .returned (getV (getF (ns.drop q) 0 0 q)) ∧ w' = W) := fun W q hW hq => by
     have := rget_any (some ⟨g,off,none⟩) ns cap (q : Int) W (.inr ⟨_,_,rfl⟩) (by rw [HN.out]; exact hc) HM.out (by rw [HN.out]; omega) (HH.out.below hW) HT.out;rw [getR_in (by rw [HN.out]; exact hq),HN.out] at this;exact this
    have HC : Hid (∀ W q v,Below w.heap.size w W → q + v ≤ N → ∀ c,(convert 43 9 (.slice (some ⟨g,off + q,none⟩) v c)).run Tryz.prog W = .ok (.string (strN ((ns.drop q).take v))) W) := fun W q v hW hq c => by
     have hl' : ((ns.drop q).take v).length = v := by have := HN.out; simp; omega
     have := conv_holds W (some ⟨g,off + q,none⟩) ((ns.drop q).take v) c (fun h => by cases h) (Holds.of fun j hj => by
      have := (HH.out.below hW).at (q + j) (by rw [HN.out]; omega);rw [← Nat.add_assoc] at this;rw [this]
      simp [List.getD_eq_getElem?_getD,List.getElem?_take,List.getElem?_drop,show j < v by omega])
     rw [hl'] at this;exact this
    obtain ⟨⟨h,q1,e1⟩,g1⟩ : ∃ x,getF (ns.drop p) 0 0 p = x := ⟨_,rfl⟩;have hg1 := HG.out wr p hbel (by omega);rw [g1] at hg1;simp only [getV] at hg1;have G1 : Hid (getF (ns.drop p) 0 0 p = (h,q1,e1)) := g1
    have hh64 : e1 = 0 → p < q1 ∧ q1 ≤ N ∧ h < 18446744073709551616 := by
     rintro rfl;have := getF_at_bd g1 HT.out (by rw [HN.out]; omega);rw [HN.out] at this;exact this
    clear g1
    by_cases he1 : e1 = 0
    ·subst he1;obtain ⟨hq1,hq2,hh64⟩ := hh64 rfl
     by_cases ht : h / 2 = 0 ∨ 500 < h / 2
     ·have HX : Hid (nextN ns p = (fd0,0,7)) := next_tag G1.out ht;clear G1
      have hR : R = ([],7) := by rw [← HJ.out,getA_err (by rw [HN.out]; exact hpn) HX.out (by omega),joinA,if_neg (by first | (simp; done) | (simp; omega))]
      subst hR;clear HJ HX HR HO
      by_cases ht0 : h / 2 = 0
      ·have hd : decide ((h : Int) / 2 < 1) = true := by simp; omega
       go_wp2_with fail;refine hg1.mono ?_;rintro e w1 ⟨rfl,rfl⟩;clear hg1;go_wp2_with fail
       go_ret2
       exact ⟨_,rfl,World.ownsRow_nil _ _ _ _,hbel⟩
      ·have hd : decide ((h : Int) / 2 < 1) = false := by simp; omega
       have hd5 : decide (500 < (h : Int) / 2) = true := by simp; omega
       go_wp2_with fail;refine hg1.mono ?_;rintro e w1 ⟨rfl,rfl⟩;clear hg1;go_wp2_with fail
       go_ret2
       exact ⟨_,rfl,World.ownsRow_nil _ _ _ _,hbel⟩
     ·have hd : decide ((h : Int) / 2 < 1) = false := by simp; omega
      have hd5 : decide (500 < (h : Int) / 2) = false := by simp; omega
      obtain ⟨⟨v,q2,e2⟩,g2⟩ : ∃ x,getF (ns.drop q1) 0 0 q1 = x := ⟨_,rfl⟩;have hg2 := HG.out wr q1 hbel (by omega);rw [g2] at hg2;simp only [getV] at hg2;have G2 : Hid (getF (ns.drop q1) 0 0 q1 = (v,q2,e2)) := g2
      have hv64 : e2 = 0 → q1 < q2 ∧ q2 ≤ N ∧ v < 18446744073709551616 := by
       rintro rfl;have := getF_at_bd g2 HT.out (by rw [HN.out]; omega);rw [HN.out] at this;exact this
      clear g2
      by_cases he2 : e2 = 0
      ·subst he2;obtain ⟨hq3,hq4,hv64⟩ := hv64 rfl;obtain ⟨m,hm2⟩ : ∃ m,h % 2 = m := ⟨_,rfl⟩
       have hmi : (h : Int) % 2 = (m : Int) := by omega
       obtain ⟨t,ht2⟩ : ∃ t,h / 2 = t := ⟨_,rfl⟩
       have hti : (h : Int) / 2 = (t : Int) := by omega
       have hdt : decide ((t : Int) < 1) = false := by simp; omega
       have hdt5 : decide (500 < (t : Int)) = false := by simp; omega
       have ht500 : t ≤ 500 := by omega
       clear hd hd5
       by_cases hw : m = 0
       ·subst hw
        have HX : Hid (nextN ns p = (⟨(t : Nat),0,zagN v,⟨#[]⟩⟩,q2,0)) := by
         show _ = _
         rw [next_num G1.out ht G2.out hm2,ht2]
        clear G1 G2 hm2 ht2
        have HJ2 : Hid (joinA (acc ++ [⟨(t : Nat),0,zagN v,⟨#[]⟩⟩]) (getA ns (q2)) = R) := by
         show _ = _
         rw [← joinA_join,← getA_on (by rw [HN.out]; exact hpn) HX.out HT.out];exact HJ.out
        clear HJ HX;go_wp2_with fail;refine hg1.mono ?_;rintro e w1 ⟨rfl,rfl⟩;clear hg1;go_wp2_with fail;refine hg2.mono ?_;rintro e w1 ⟨rfl,rfl⟩;clear hg2;go_wp2_with fail;refine (rzag_any v _ (by omega) (by omega)).mono ?_;rintro e w1 ⟨rfl,rfl⟩;have hz := zagN_bd v (by omega) (by omega);generalize zagN v = z at *;have hcv := hz
        go_wp2_with (first
         | (at_builtin; refine wpList_append_own _ rfl _ _ 28 rfl w.heap.size 79 i0 _ 4 40 Tryz.underlying28 hi hz0 hz1 hz2 rfl (by decide) _ _ _ rfl ((HO.out.alloc _).alloc _) ⟨w1.heap.size + 1,0,none⟩ 1 1 (Fd.cells ⟨(t : Int),0,z,⟨#[]⟩⟩) rfl rfl ?c1 ?c2 ?c3 ?c4 ?c5 ?_)
         | fail)
        case c1 =>
         intro j u hj
         match j,hj with
         | 0,hj | 1,hj | 2,hj | 3,hj => simp [Fd.cells] at hj; subst hj; simp [Addr.add]
        case c2 => intro u hu; simp [Fd.cells] at hu; rcases hu with rfl | rfl | rfl | rfl <;> rfl
        case c3 => unfold maxLen; omega
        case c4 => omega
        case c5 => simp; omega
        intro vv w2 ho2 hg2 _;have hb2 : Below w.heap.size w w2 := ((hbel.alloc hws _).alloc (by simp; omega) _).grown hg2 (by simp; omega) (fun k hk => (HO.out.lt k hk).1)
        have HO2 : Hid (w2.ownsRow w.heap.size 79 4 vv (acc ++ [(⟨(t : Int),0,z,⟨#[]⟩⟩ : Fd)]).length (rawCells (acc ++ [⟨(t : Int),0,z,⟨#[]⟩⟩]))) := by
         show World.ownsRow _ _ _ _ _ _ _
         rw [(rawCells_snoc acc _).1,(rawCells_snoc acc _).2];exact ho2
        have hlen : (acc ++ [(⟨(t : Int),0,z,⟨#[]⟩⟩ : Fd)]).length ≤ q2 := by simp; omega
        clear HO ho2 hg2 hbel hcv;go_wp2_with fail
        go_roundw
        case rel => exact ⟨acc ++ [⟨(t : Int),0,z,⟨#[]⟩⟩],q2,by first | rfl | go_num,by omega,hlen,HJ2,HO2,hb2⟩
        case measure => simp [intOf]; omega
       ·obtain rfl : m = 1 := by omega
        by_cases hs : N - q2 < v
        ·have HX : Hid (nextN ns p = (fd0,0,2)) := next_short G1.out ht G2.out (by omega) (by rw [HN.out]; exact hs);clear G1 G2 hm2 ht2
         have hR : R = ([],2) := by rw [← HJ.out,getA_err (by rw [HN.out]; exact hpn) HX.out (by omega),joinA,if_neg (by first | (simp; done) | (simp; omega))]
         subst hR;clear HJ HX HR HO
         have hdv : decide ((N : Int) - (q2 : Int) < (v : Int)) = true := by simp; omega
         have hb2 : ∀ o,Below w.heap.size w (wr.alloc o) := fun o => hbel.alloc hws o
         go_wp2_with fail;refine hg1.mono ?_;rintro e w1 ⟨rfl,rfl⟩;clear hg1;go_wp2_with fail;refine hg2.mono ?_;rintro e w1 ⟨rfl,rfl⟩;clear hg2;go_wp2_with fail
         go_ret2
         exact ⟨_,rfl,World.ownsRow_nil _ _ _ _,hb2 _⟩
        ·have HX : Hid (nextN ns p = (⟨(t : Nat),1,0,strN ((ns.drop q2).take v)⟩,q2 + v,0)) := by
          show _ = _
          rw [next_text G1.out ht G2.out (by omega) (by rw [HN.out]; omega),ht2]
         clear G1 G2 hm2 ht2
         have hdv : decide ((N : Int) - (q2 : Int) < (v : Int)) = false := by simp; omega
         obtain ⟨S,hS⟩ : ∃ S,strN ((ns.drop q2).take v) = S := ⟨_,rfl⟩;rw [hS] at HX
         have HJ2 : Hid (joinA (acc ++ [⟨(t : Nat),1,0,S⟩]) (getA ns (q2 + v)) = R) := by
          show _ = _
          rw [← joinA_join,← getA_on (by rw [HN.out]; exact hpn) HX.out HT.out];exact HJ.out
         clear HJ HX
         by_cases hqc : q2 = cap
         ·obtain rfl : v = 0 := by omega
          have hS0 : strN [] = S := by rw [← hS]; simp
          have hcv : ∀ o1 c,(convert 43 9 (.slice (some ⟨g,off,none⟩) 0 c)).run Tryz.prog (wr.alloc o1) = .ok (.string S) (wr.alloc o1) := fun o1 c => by
           have := conv_holds (wr.alloc o1) (some ⟨g,off,none⟩) [] c (fun h => by cases h) Holds.nil;rw [hS0] at this;exact this
          clear hS hS0;subst hqc;go_wp2_with fail;refine hg1.mono ?_;rintro e w1 ⟨rfl,rfl⟩;clear hg1;go_wp2_with fail;refine hg2.mono ?_;rintro e w1 ⟨rfl,rfl⟩;clear hg2
          go_wp2_with (first
           | (at_builtin; refine wpList_append_own _ rfl _ _ 28 rfl w.heap.size 79 i0 _ 4 40 Tryz.underlying28 hi hz0 hz1 hz2 rfl (by decide) _ _ _ rfl ((HO.out.alloc _).alloc _) ⟨w1.heap.size + 1,0,none⟩ 1 1 (Fd.cells ⟨(t : Int),1,0,S⟩) rfl rfl ?c1 ?c2 ?c3 ?c4 ?c5 ?_)
           | fail)
          case c1 =>
           intro j u hj
           match j,hj with
           | 0,hj | 1,hj | 2,hj | 3,hj => simp [Fd.cells] at hj; subst hj; simp [Addr.add]
          case c2 => intro u hu; simp [Fd.cells] at hu; rcases hu with rfl | rfl | rfl | rfl <;> rfl
          case c3 => unfold maxLen; omega
          case c4 => omega
          case c5 => simp; omega
          intro vv w2 ho2 hg2 _;have hb2 : Below w.heap.size w w2 := ((hbel.alloc hws _).alloc (by simp; omega) _).grown hg2 (by simp; omega) (fun k hk => (HO.out.lt k hk).1)
          have HO2 : Hid (w2.ownsRow w.heap.size 79 4 vv (acc ++ [(⟨(t : Int),1,0,S⟩ : Fd)]).length (rawCells (acc ++ [⟨(t : Int),1,0,S⟩]))) := by
           show World.ownsRow _ _ _ _ _ _ _
           rw [(rawCells_snoc acc _).1,(rawCells_snoc acc _).2];exact ho2
          have hlen : (acc ++ [(⟨(t : Int),1,0,S⟩ : Fd)]).length ≤ q2 + 0 := by simp; omega
          clear HO ho2 hg2 hbel hcv;go_wp2_with fail
          go_roundw
          case rel => exact ⟨acc ++ [⟨(t : Int),1,0,S⟩],q2 + 0,by first | rfl | go_num,by omega,hlen,HJ2,HO2,hb2⟩
          case measure => simp [intOf]; omega
         ·have hcv : ∀ o1 c,(convert 43 9 (.slice (some ⟨g,off + q2,none⟩) v c)).run Tryz.prog (wr.alloc o1) = .ok (.string S) (wr.alloc o1) := fun o1 c => by
           have := HC.out (wr.alloc o1) q2 v (hbel.alloc hws o1) (by omega) c;rw [hS] at this;exact this
          clear hS;go_wp2_with fail;refine hg1.mono ?_;rintro e w1 ⟨rfl,rfl⟩;clear hg1;go_wp2_with fail;refine hg2.mono ?_;rintro e w1 ⟨rfl,rfl⟩;clear hg2
          go_wp2_with (first
           | (at_builtin; refine wpList_append_own _ rfl _ _ 28 rfl w.heap.size 79 i0 _ 4 40 Tryz.underlying28 hi hz0 hz1 hz2 rfl (by decide) _ _ _ rfl ((HO.out.alloc _).alloc _) ⟨w1.heap.size + 1,0,none⟩ 1 1 (Fd.cells ⟨(t : Int),1,0,S⟩) rfl rfl ?c1 ?c2 ?c3 ?c4 ?c5 ?_)
           | fail)
          case c1 =>
           intro j u hj
           match j,hj with
           | 0,hj | 1,hj | 2,hj | 3,hj => simp [Fd.cells] at hj; subst hj; simp [Addr.add]
          case c2 => intro u hu; simp [Fd.cells] at hu; rcases hu with rfl | rfl | rfl | rfl <;> rfl
          case c3 => unfold maxLen; omega
          case c4 => omega
          case c5 => simp; omega
          intro vv w2 ho2 hg2 _;have hb2 : Below w.heap.size w w2 := ((hbel.alloc hws _).alloc (by simp; omega) _).grown hg2 (by simp; omega) (fun k hk => (HO.out.lt k hk).1)
          have HO2 : Hid (w2.ownsRow w.heap.size 79 4 vv (acc ++ [(⟨(t : Int),1,0,S⟩ : Fd)]).length (rawCells (acc ++ [⟨(t : Int),1,0,S⟩]))) := by
           show World.ownsRow _ _ _ _ _ _ _
           rw [(rawCells_snoc acc _).1,(rawCells_snoc acc _).2];exact ho2
          have hlen : (acc ++ [(⟨(t : Int),1,0,S⟩ : Fd)]).length ≤ q2 + v := by simp; omega
          clear HO ho2 hg2 hbel hcv;go_wp2_with fail
          go_roundw
          case rel => exact ⟨acc ++ [⟨(t : Int),1,0,S⟩],q2 + v,by first | rfl | go_num,by omega,hlen,HJ2,HO2,hb2⟩
          case measure => simp [intOf]; omega
      ·have HX : Hid (nextN ns p = (fd0,0,e2)) := next_e2 G1.out ht G2.out he2;clear G1 G2 hv64
       have hR : R = ([],e2) := by rw [← HJ.out,getA_err (by rw [HN.out]; exact hpn) HX.out (by omega),joinA,if_neg (by first | (simp; done) | (simp; omega))]
       subst hR;clear HJ HX HR HO
       have hne : ((e2 : Int) != 0) = true := by simp; omega
       go_wp2_with fail;refine hg1.mono ?_;rintro e w1 ⟨rfl,rfl⟩;clear hg1;go_wp2_with fail;refine hg2.mono ?_;rintro e w1 ⟨rfl,rfl⟩;clear hg2;go_wp2_with fail
       go_ret2
       exact ⟨_,rfl,World.ownsRow_nil _ _ _ _,hbel⟩
    ·have HX : Hid (nextN ns p = (fd0,0,e1)) := next_e1 G1.out he1;clear G1 hh64
     have hR : R = ([],e1) := by rw [← HJ.out,getA_err (by rw [HN.out]; exact hpn) HX.out (by omega),joinA,if_neg (by first | (simp; done) | (simp; omega))]
     subst hR;clear HJ HX HR HO
     have hne : ((e1 : Int) != 0) = true := by simp; omega
     go_wp2_with fail;refine hg1.mono ?_;rintro e w1 ⟨rfl,rfl⟩;clear hg1;go_wp2_with fail
     go_ret2
     exact ⟨_,rfl,World.ownsRow_nil _ _ _ _,hbel⟩
   ·have hR : R = (acc,0) := by rw [← HJ.out,getA_end (by rw [HN.out]; omega),joinA,if_pos rfl,List.append_nil]
    subst hR;clear HJ HR;go_wp2_with fail
    go_ret2
    exact ⟨_,rfl,HO.out,hbel⟩
theorem rrising_any (a : Option Addr) (rs : List Fd) (N cap : Nat) (w : World) (hN : rs.length = N) (hadr : rs = [] ∨ ∃ g off,a = some ⟨g,off,none⟩) (hc : N ≤ cap) (hm : cap ≤ maxLen) (hh : HoldsR w a rs) :
  Calls Tryz.prog 115 #[.slice a N cap] w fun e w' => e = .returned (.bool (risesB rs)) ∧ Below w.heap.size w w' := by
 have HN : Hid (rs.length = N) := hN;have HA : Hid (rs = [] ∨ ∃ g off,a = some ⟨g,off,none⟩) := hadr;have HH : Hid (HoldsR w a rs) := hh;obtain ⟨R,hR⟩ : ∃ R,risesB rs = R := ⟨_,rfl⟩;rw [hR];have HR : Hid (risesB rs = R) := hR;unfold maxLen at hm;clear hN hadr hh hR
 go_enter Tryz.func115,Tryz.ntmps115
 go_wp2_with fail
 go_loopw [3] (fun iv wr => ∃ i : Nat,iv = .int .i64 ((i : Int) + 1) ∧ i ≤ N ∧ Hid (∀ j x y,j < i → rs[j]? = some x → rs[j + 1]? = some y → x.tag ≤ y.tag) ∧ Below w.heap.size w wr) (fun iv _ => N + 1 - (intOf iv).toNat)
 case atStart => exact ⟨0,rfl,by omega,(fun j x y hj => absurd hj (by omega) : ∀ j x y,j < 0 → rs[j]? = some x → rs[j + 1]? = some y → x.tag ≤ y.tag),Below.refl _ _⟩
 case round =>
  obtain ⟨i,rfl,hi,HT,hbel⟩ := hrel
  by_cases hlt : i + 1 < N
  ·have hr : rs[i]? = some (rs[i]'(by rw [HN.out]; omega)) := List.getElem?_eq_getElem _;generalize rs[i]'(by rw [HN.out]; omega) = r at hr;have hs : rs[i + 1]? = some (rs[i + 1]'(by rw [HN.out]; exact hlt)) := List.getElem?_eq_getElem _;generalize rs[i + 1]'(by rw [HN.out]; exact hlt) = s at hs
   rcases HA.out with h0 | ⟨g,off,rfl⟩
   ·exact absurd hlt (by have := HN.out; rw [h0] at this; simp at this; omega)
   obtain ⟨p0, -, -, -⟩ := (HH.out.below hbel).at hr;obtain ⟨q0, -, -, -⟩ := (HH.out.below hbel).at hs;have HK : Hid (rs[i]? = some r) := hr;have HK2 : Hid (rs[i + 1]? = some s) := hs;obtain ⟨x,hx⟩ : ∃ q,r.tag = q := ⟨_,rfl⟩;obtain ⟨y,hy⟩ : ∃ q,s.tag = q := ⟨_,rfl⟩;rw [hx] at p0;rw [hy] at q0;have HX : Hid (r.tag = x) := hx;have HY : Hid (s.tag = y) := hy
   have hlti : (i : Int) + 1 < (N : Int) := by omega
   clear hr hs hx hy
   by_cases hle : y < x
   ·have hd : decide (y < x) = true := by simp [hle]
    obtain rfl : R = false := by rw [← HR.out]; exact rises_break i r s HK.out HK2.out (by rw [HX.out,HY.out]; exact hle)
    clear HT HK HK2 HX HY HR;go_wp2_with fail
    go_quiet (fail)
    have hbn := below_drewN nq hbel;clear p0 q0 hbel;go_wp2_with fail;go_ret;exact ⟨rfl,hbn⟩
   ·have hd : decide (y < x) = false := by simp; omega
    have HT2 : Hid (∀ j u v,j < i + 1 → rs[j]? = some u → rs[j + 1]? = some v → u.tag ≤ v.tag) := fun j u v hj hu hv => by
     by_cases hji : j = i
     ·subst hji;rw [HK.out] at hu;rw [HK2.out] at hv
      obtain rfl : r = u := by simpa using hu
      obtain rfl : s = v := by simpa using hv
      rw [HX.out,HY.out]; omega
     ·exact HT.out j u v (by omega) hu hv
    clear HT HK HK2 HX HY;go_wp2_with fail
    go_quiet (fail)
    have hbn := below_drewN nq hbel;clear p0 q0 hbel;go_wp2_with fail
    go_roundw
    case rel => exact ⟨i + 1,by go_num,by omega,HT2,hbn⟩
    case measure => simp [intOf]; omega
  ·obtain rfl : R = true := by
    rw [← HR.out];refine rises_steps fun j x y hx hy => HT.out j x y ?_ hx hy
    have := (List.getElem?_eq_some_iff.1 hy).1;rw [HN.out] at this
    omega
   have hnl : ¬ (i : Int) + 1 < (N : Int) := by omega
   clear HT HR;go_wp2_with fail;go_ret;exact ⟨rfl,hbel⟩
def insA (rs : List Fd) : List Fd := rs.foldl (fun m x => mergeF m [x]) []
theorem insA_snoc (rs : List Fd) (x : Fd) : insA (rs ++ [x]) = mergeF (insA rs) [x] := by simp [insA]
theorem ins_all : ∀ (rs m : List Fd),Rises m → Rises (rs.foldl (fun m x => mergeF m [x]) m) ∧ (rs.foldl (fun m x => mergeF m [x]) m).length = m.length + rs.length ∧ ∀ t : Int,(rs.foldl (fun m x => mergeF m [x]) m).filter (fun x => x.tag == t) = m.filter (fun x => x.tag == t) ++ rs.filter (fun x => x.tag == t)
 | [],m,h => ⟨h,by simp,fun t => by simp⟩
 | x :: rs,m,h => by
  obtain ⟨h1,h2,h3⟩ := ins_all rs (mergeF m [x]) (mergeF_rises _ _ h (by simp [Rises]));refine ⟨h1,?_,fun t => ?_⟩
  ·rw [List.foldl_cons,h2,mergeF_len]; simp; omega
  ·rw [List.foldl_cons,h3 t,mergeF_filter t _ _ h,List.append_assoc,← List.filter_append]
   rfl
theorem insA_all (rs : List Fd) : Rises (insA rs) ∧ (insA rs).length = rs.length ∧ ∀ t : Int,(insA rs).filter (fun x => x.tag == t) = rs.filter (fun x => x.tag == t) := by
 obtain ⟨h1,h2,h3⟩ := ins_all rs [] (by simp [Rises]);unfold insA;exact ⟨h1,by simpa using h2,fun t => by simpa using h3 t⟩
theorem insA_sortF (rs : List Fd) : insA rs = sortF rs := by
 have h1 := insA_all rs;have h2 := sortF_all _ rs (Nat.le_refl _)
 exact rises_uniq _ _ h1.1 h2.1 fun t => by rw [h1.2.2 t,h2.2.2.2 t]
theorem insA_at {m p q : List Fd} {x : Fd} (hm : m = p ++ q) (hr : Rises m) (hq : ∀ y ∈ q,x.tag < y.tag) (hp : ∀ y,p.getLast? = some y → y.tag ≤ x.tag) : mergeF m [x] = p ++ x :: q := by
 have hall : ∀ y ∈ p,y.tag ≤ x.tag := by
  intro y hy
  rcases List.eq_nil_or_concat p with rfl | ⟨p',z,rfl⟩
  ·simp at hy
  ·have hz := hp z (by simp);rw [List.concat_eq_append,List.mem_append] at hy
   rcases hy with hy | hy
   ·have hr' : Rises (p' ++ [z]) := by
     rw [hm,List.concat_eq_append] at hr;exact hr.sublist (List.sublist_append_left _ _)
    have := (List.pairwise_append.1 hr').2.2 y hy z (by simp)
    omega
   ·obtain rfl : y = z := by simpa using hy
    exact hz
 have hu : upN m x.tag = p.length := by
  refine upN_step (fun j y hj hy => hall y ?_) ?_
  ·rw [hm,List.getElem?_append_left hj] at hy;exact List.mem_of_getElem? hy
  ·cases q with
   | nil => left; rw [hm]; simp
   | cons z q => right; exact ⟨z,by rw [hm]; simp,by have := hq z (by simp); omega⟩
 rw [mergeF,hu,hm]
 simp [mergeF]
theorem swap_own {w : World} {B g n cap : Nat} {p q : List Fd} {y x : Fd} (h : w.ownsRow B 79 4 (.slice (some ⟨g,0,none⟩) n cap) n (rawCells (p ++ y :: x :: q))) (o : Nat) (ho : o = p.length * 4) (o2 : Nat) (ho2 : o2 = o + 4) :
  ((((((((w.setCell ⟨g,o,none⟩ (.int .i64 x.tag)).setCell ⟨g,o + 1,none⟩ (.int .i64 x.wire)).setCell ⟨g,o + 2,none⟩ (.int .i64 x.n)).setCell ⟨g,o + 3,none⟩ (.string x.b)).setCell ⟨g,o2,none⟩ (.int .i64 y.tag)).setCell ⟨g,o2 + 1,none⟩ (.int .i64 y.wire)).setCell ⟨g,o2 + 2,none⟩ (.int .i64 y.n)).setCell ⟨g,o2 + 3,none⟩ (.string y.b)).ownsRow B 79 4 (.slice (some ⟨g,0,none⟩) n cap) n (rawCells (p ++ x :: y :: q)) := by
 have s1 := (h.stored o (.int .i64 x.tag)).1;have s2 := (s1.stored (o + 1) (.int .i64 x.wire)).1;have s3 := (s2.stored (o + 2) (.int .i64 x.n)).1;have s4 := (s3.stored (o + 3) (.string x.b)).1;have s5 := (s4.stored o2 (.int .i64 y.tag)).1;have s6 := (s5.stored (o2 + 1) (.int .i64 y.wire)).1;have s7 := (s6.stored (o2 + 2) (.int .i64 y.n)).1;have s8 := (s7.stored (o2 + 3) (.string y.b)).1
 have e : rawCells (p ++ x :: y :: q) = ((((((((rawCells (p ++ y :: x :: q)).set o (.int .i64 x.tag)).set (o + 1) (.int .i64 x.wire)).set (o + 2) (.int .i64 x.n)).set (o + 3) (.string x.b)).set o2 (.int .i64 y.tag)).set (o2 + 1) (.int .i64 y.wire)).set (o2 + 2) (.int .i64 y.n)).set (o2 + 3) (.string y.b) := by
  have hl : (rawCells p).length = p.length * 4 := rawCells_len p;rw [ho2,ho,← hl,rawCells_app,rawCells_app,rawCells_cons,rawCells_cons,rawCells_cons,rawCells_cons];generalize rawCells p = D;generalize rawCells q = E
  have sb : ∀ (l : List Value) (j : Nat) (v : Value),(D ++ l).set (D.length + j) v = D ++ l.set j v := fun l j v => by rw [List.set_append,if_neg (by omega),Nat.add_sub_cancel_left]
  have s0 : ∀ (l : List Value) (v : Value),(D ++ l).set D.length v = D ++ l.set 0 v := fun l v => sb l 0 v
  simp only [Nat.add_assoc,s0,sb,Fd.cells]
  simp
 rw [e];exact s8
theorem below_set {B g : Nat} {w W : World} (h : Below B w W) (hg : B ≤ g) (o : Nat) (v : Value) : Below B w (W.setCell ⟨g,o,none⟩ v) :=
 h.trans ⟨rfl,rfl,rfl,by simp,fun k hk => heap_setCell_other W ⟨g,o,none⟩ k v (by show k ≠ g; omega)⟩
theorem rsorted_any (a : Option Addr) (rs : List Fd) (N cap : Nat) (w : World) (hN : rs.length = N) (hl : N ≤ 1000000) (hadr : rs = [] ∨ ∃ g off,a = some ⟨g,off,none⟩) (hc : N ≤ cap) (hm : cap ≤ maxLen) (hh : HoldsR w a rs) :
  Calls Tryz.prog 64 #[.slice a N cap] w fun e w' => ∃ v,e = .returned v ∧ w'.ownsRow w.heap.size 79 4 v N (rawCells (sortF rs)) ∧ Below w.heap.size w w' := by
 obtain ⟨i0,hi0,hz0,hz1,hz2⟩ := info_parts infoRaw;have HN : Hid (rs.length = N) := hN;have HADR : Hid (rs = [] ∨ ∃ g off,a = some ⟨g,off,none⟩) := hadr;have HH : Hid (HoldsR w a rs) := hh;unfold maxLen at hm;clear hN hadr hh
 go_enter Tryz.func64,Tryz.ntmps64
 go_wp2_with fail
 go_loopw [3,4] (fun mv iv wr => ∃ i : Nat,iv = .int .i64 (i : Int) ∧ i ≤ N ∧ Hid (wr.ownsRow w.heap.size 79 4 mv i (rawCells (insA (rs.take i)))) ∧ Below w.heap.size w wr) (fun _ iv _ => N - (intOf iv).toNat)
 case atStart => exact ⟨0,rfl,by omega,by rw [List.take_zero]; exact World.ownsRow_nil _ _ _ _,Below.refl _ _⟩
 case round =>
  obtain ⟨i,rfl,hi,HO,hbel⟩ := hrel;have hws := hbel.size
  by_cases hlt : i < N
  ·have hr : rs[i]? = some (rs[i]'(by rw [HN.out]; exact hlt)) := List.getElem?_eq_getElem _;generalize rs[i]'(by rw [HN.out]; exact hlt) = r at hr
   rcases HADR.out with h0 | ⟨g,off,rfl⟩
   ·exact absurd hlt (by have := HN.out; rw [h0] at this; simp at this; omega)
   obtain ⟨p0,p1,p2,p3⟩ := (HH.out.below hbel).at hr
   have HNX : Hid (insA (rs.take (i + 1)) = mergeF (insA (rs.take i)) [r]) := by
    show _ = _
    rw [List.take_add_one,hr];exact insA_snoc _ _
   have hML := insA_all (rs.take i);obtain ⟨M,hM⟩ : ∃ M,insA (rs.take i) = M := ⟨_,rfl⟩;rw [hM] at HNX HO hML;have HRI : Hid (Rises M) := hML.1
   have HMLn : Hid (M.length = i) := by show _ = _; rw [hML.2.1,List.length_take,HN.out]; omega
   clear hr hM hML;obtain ⟨aM,cM,hv, -⟩ := own_openR HO.out;have e0 := HMLn.out;rw [e0] at hv;subst hv;clear e0;obtain ⟨t,kk,nn,bb⟩ := r;simp only at p0 p1 p2 p3
   go_wp2_with (first
    | (at_builtin; refine wpList_append_own _ rfl _ _ 28 rfl w.heap.size 79 i0 _ 4 40 Tryz.underlying28 hi0 hz0 hz1 hz2 rfl (by decide) _ _ _ rfl (HO.out.alloc _) ⟨_,0,none⟩ 1 1 (Fd.cells ⟨t,kk,nn,bb⟩) rfl rfl ?c1 ?c2 ?c3 ?c4 ?c5 ?_)
    | fail)
   case c1 =>
    intro j u hj
    match j,hj with
    | 0,hj | 1,hj | 2,hj | 3,hj => simp [Fd.cells] at hj; subst hj; simp [Addr.add]
   case c2 => intro u hu; simp [Fd.cells] at hu; rcases hu with rfl | rfl | rfl | rfl <;> rfl
   case c3 => unfold maxLen; omega
   case c4 => omega
   case c5 => simp; omega
   intro v w8 ho8 hg8 _;have hb8 : Below w.heap.size w w8 := (hbel.alloc hws _).grown hg8 (by simp; omega) (fun k hk => (HO.out.lt k hk).1)
   have ho8' : w8.ownsRow w.heap.size 79 4 v (i + 1) (rawCells (M ++ [⟨t,kk,nn,bb⟩])) := by
    rw [(rawCells_snoc M _).2];exact ho8
   obtain ⟨a9,c9,hv9, -,h91 | ⟨g9,rfl, -, -⟩,h92,h93, -⟩ := own_openR ho8'
   ·exact absurd h91.2.1 (by simp)
   rw [show (M ++ [(⟨t,kk,nn,bb⟩ : Fd)]).length = i + 1 by rw [List.length_append,HMLn.out]; rfl] at hv9 h92;subst hv9;unfold maxLen at h93;have HO8 : Hid (w8.ownsRow w.heap.size 79 4 (.slice (some ⟨g9,0,none⟩) (i + 1) c9) (i + 1) (rawCells (M ++ [⟨t,kk,nn,bb⟩]))) := ho8';clear HO ho8 ho8' hg8 hbel p0 p1 p2 p3;go_wp2_with fail
   go_loopw [5] (fun kv wi => ∃ (p q : List Fd) (k : Nat),kv = .int .i64 (k : Int) ∧ k ≤ i ∧ Hid (p.length = k) ∧ Hid (M = p ++ q) ∧ Hid (∀ y ∈ q,t < y.tag) ∧ Hid (wi.ownsRow w.heap.size 79 4 (.slice (some ⟨g9,0,none⟩) (i + 1) c9) (i + 1) (rawCells (p ++ ⟨t,kk,nn,bb⟩ :: q))) ∧ Below w.heap.size w wi) (fun kv _ => (intOf kv).toNat)
   case atStart => exact ⟨M,[],i,rfl,Nat.le_refl _,HMLn,(by simp : M = M ++ []),(by simp : ∀ y ∈ ([] : List Fd),t < y.tag),HO8,hb8⟩
   case round =>
    obtain ⟨p,q,k,rfl,hki,HPL,HMP,HQ,HOW,hbi⟩ := hrel
    cases k with
    | zero =>
     obtain rfl : p = [] := List.eq_nil_of_length_eq_zero HPL.out
     have HEND : Hid (insA (rs.take (i + 1)) = [] ++ ⟨t,kk,nn,bb⟩ :: q) := by show _ = _; rw [HNX.out]; exact insA_at HMP.out HRI.out HQ.out (by simp)
     clear HPL HMP HQ HNX HRI HMLn HO8;go_wp2_with fail
     go_quiet (fail)
     have hbn := below_drewN nq hbi;go_wp2_with fail
     go_roundw
     case rel => exact ⟨i + 1,by go_num,by omega,by rw [HEND.out]; exact HOW.out,hbn⟩
     case measure => simp [intOf]; omega
    | succ j =>
     have hwj : IntKind.i64.wrap (j : Int) = (j : Int) := by rw [IntKind.wrap_i64]; omega
     obtain ⟨p',y,rfl⟩ : ∃ p' y,p = p' ++ [y] := by
      rcases List.eq_nil_or_concat p with h | ⟨p',y,h⟩
      ·have := HPL.out; rw [h] at this; simp at this
      ·exact ⟨p',y,by rw [h,List.concat_eq_append]⟩
     have HPL' : Hid (p'.length = j) := by show _ = _; have := HPL.out; simpa using this
     have hre : p' ++ [y] ++ ⟨t,kk,nn,bb⟩ :: q = p' ++ y :: ⟨t,kk,nn,bb⟩ :: q := by simp
     rw [hre] at HOW
     have hH : HoldsR wr (some ⟨g9,0,none⟩) (p' ++ y :: ⟨t,kk,nn,bb⟩ :: q) := by
      intro b hb jj u hu
      obtain rfl : ⟨g9,0,none⟩ = b := by simpa using hb
      exact HOW.out.cells (g := g9) rfl jj u hu
     obtain ⟨c0,c1,c2,c3⟩ := hH.at (i := j) (r := y) (by rw [List.getElem?_append_right (by rw [HPL'.out]; exact Nat.le_refl _),HPL'.out]; simp);obtain ⟨d0,d1,d2,d3⟩ := hH.at (i := j + 1) (r := ⟨t,kk,nn,bb⟩) (by rw [List.getElem?_append_right (by rw [HPL'.out]; omega),HPL'.out]; simp);simp only [Nat.zero_add] at c0 c1 c2 c3 d0 d1 d2 d3;have fz : ∀ o,wr.frozen? ⟨g9,o,none⟩ = false := fun o => HOW.out.frozenAt o
     obtain ⟨yt,yk,yn,yb⟩ := y;simp only at c0 c1 c2 c3;clear hH hre HPL HO8
     by_cases hyt : t < yt
     ·have hd : decide (t < yt) = true := by simp [hyt]
      have HQ2 : Hid (∀ z ∈ (⟨yt,yk,yn,yb⟩ : Fd) :: q,t < z.tag) := by
       intro z hz
       rcases List.mem_cons.1 hz with rfl | hz
       ·exact hyt
       ·exact HQ.out z hz
      have HMP2 : Hid (M = p' ++ ⟨yt,yk,yn,yb⟩ :: q) := by show _ = _; rw [HMP.out]; simp
      clear HQ HMP;go_wp2_with fail
      go_quiet (fail)
      go_wp2_with fail
      go_region
      have hg9 : w.heap.size ≤ g9 := (HOW.out.lt g9 rfl).1;have hsw := swap_own (w := wr.drewN (nq + 1)) (p := p') (q := q) (y := ⟨yt,yk,yn,yb⟩) (x := ⟨t,kk,nn,bb⟩) HOW.out (j * 4) (by rw [HPL'.out]) ((j + 1) * 4) (by omega);have hbs := (below_set (below_set (below_set (below_set (below_set (below_set (below_set (below_set (below_drewN (nq + 1) hbi) hg9 (j * 4) (.int .i64 t)) hg9 (j * 4 + 1) (.int .i64 kk)) hg9 (j * 4 + 2) (.int .i64 nn)) hg9 (j * 4 + 3) (.string bb)) hg9 ((j + 1) * 4) (.int .i64 yt)) hg9 ((j + 1) * 4 + 1) (.int .i64 yk)) hg9 ((j + 1) * 4 + 2) (.int .i64 yn)) hg9 ((j + 1) * 4 + 3) (.string yb));simp only at hsw;generalize ((((((((wr.drewN (nq + 1)).setCell ⟨g9,j * 4,none⟩ (.int .i64 t)).setCell ⟨g9,j * 4 + 1,none⟩ (.int .i64 kk)).setCell ⟨g9,j * 4 + 2,none⟩ (.int .i64 nn)).setCell ⟨g9,j * 4 + 3,none⟩ (.string bb)).setCell ⟨g9,(j + 1) * 4,none⟩ (.int .i64 yt)).setCell ⟨g9,(j + 1) * 4 + 1,none⟩ (.int .i64 yk)).setCell ⟨g9,(j + 1) * 4 + 2,none⟩ (.int .i64 yn)).setCell ⟨g9,(j + 1) * 4 + 3,none⟩ (.string yb) = w9 at *;have HSW : Hid (w9.ownsRow w.heap.size 79 4 (.slice (some ⟨g9,0,none⟩) (i + 1) c9) (i + 1) (rawCells (p' ++ ⟨t,kk,nn,bb⟩ :: (⟨yt,yk,yn,yb⟩ : Fd) :: q))) := hsw;clear c0 c1 c2 c3 d0 d1 d2 d3 fz HOW hsw;go_wp2_with fail
      go_roundw
      case rel => exact ⟨p',⟨yt,yk,yn,yb⟩ :: q,j,by first | rfl | go_num,by omega,HPL',HMP2,HQ2,HSW,hbs⟩
      case measure => simp [intOf]
     ·have hd : decide (t < yt) = false := by simp; omega
      have HEND : Hid (insA (rs.take (i + 1)) = (p' ++ [⟨yt,yk,yn,yb⟩]) ++ ⟨t,kk,nn,bb⟩ :: q) := by
       show _ = _
       rw [HNX.out];exact insA_at HMP.out HRI.out HQ.out (by intro z hz; simp at hz; subst hz; simp; omega)
      have HOW2 : Hid (wr.ownsRow w.heap.size 79 4 (.slice (some ⟨g9,0,none⟩) (i + 1) c9) (i + 1) (rawCells ((p' ++ [⟨yt,yk,yn,yb⟩]) ++ ⟨t,kk,nn,bb⟩ :: q))) := by
       show World.ownsRow _ _ _ _ _ _ _
       have := HOW.out
       simpa using this
      clear HQ HMP HNX HRI HMLn HOW;go_wp2_with fail
      go_quiet (fail)
      have hbn := below_drewN nq hbi;clear c0 c1 c2 c3 d0 d1 d2 d3 fz;go_wp2_with fail
      go_roundw
      case rel => exact ⟨i + 1,by go_num,by omega,by rw [HEND.out]; exact HOW2.out,hbn⟩
      case measure => simp [intOf]; omega
  ·obtain rfl : N = i := by omega
   have h1 := HO.out;rw [List.take_of_length_le (by rw [HN.out]; exact Nat.le_refl _),insA_sortF] at h1;have HF := (show Hid _ from h1);clear h1 HO;go_wp2_with fail;go_ret;exact ⟨_,rfl,HF.out,hbel⟩
theorem own_adr {B : Nat} {w : World} {a : Option Addr} {cap : Nat} {ns : List Nat} (h : (a = none ∧ ns = [] ∧ cap = 0) ∨ ∃ g,a = some ⟨g,0,none⟩ ∧ B ≤ g ∧ g < w.heap.size) : ns = [] ∨ ∃ g off,a = some ⟨g,off,none⟩ := by
 rcases h with h | ⟨g,h,_⟩
 ·exact .inl h.2.1
 ·exact .inr ⟨g,0,h⟩
theorem own_nil {B : Nat} {w : World} {a : Option Addr} {cap : Nat} {ns : List Nat} (h : (a = none ∧ ns = [] ∧ cap = 0) ∨ ∃ g,a = some ⟨g,0,none⟩ ∧ B ≤ g ∧ g < w.heap.size) : a = none → ns = [] := by
 rcases h with h | ⟨g,h,_⟩
 ·exact fun _ => h.2.1
 ·exact fun e => by rw [h] at e; cases e
theorem own_adrR {B : Nat} {w : World} {a : Option Addr} {cap : Nat} {rs : List Fd} (h : (a = none ∧ rs = [] ∧ cap = 0) ∨ ∃ g,a = some ⟨g,0,none⟩ ∧ B ≤ g ∧ g < w.heap.size) : rs = [] ∨ ∃ g off,a = some ⟨g,off,none⟩ := by
 rcases h with h | ⟨g,h,_⟩
 ·exact .inl h.2.1
 ·exact .inr ⟨g,0,h⟩
theorem conv_own {B : Nat} {w : World} {r : Value} {n : Nat} {ns : List Nat} (ho : w.ownsRow B 5 1 r n (byteCells ns)) : (convert 43 9 r).run Tryz.prog w = .ok (.string (strN ns)) w := by
 obtain ⟨a,cap,rfl, -,h1,h2,h3,h4⟩ := own_open ho;exact conv_holds w a ns cap (own_nil h1) h4
end Go.Proofs.YtmgbhicogmclgaaGreat

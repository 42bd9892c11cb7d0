/- EncodeAll answers true at every tree. -/
import Derived.Test.YtkmdaopmmfdpgaaPkN
import Derived.Test.YtkmdaopmmfdpgaaPkH
import Derived.Test.YtkmdaopmmfdpgaaPkJ
import Derived.Test.YtkmdaopmmfdpgaaPkG
import Derived.Test.YtkmdaopmmfdpgaaPkO
import Derived.Test.YtkmdaopmmfdpgaaPkK
namespace Go.Proofs.Ytkmdaopmmfdpgaa
open Go.ChangeShapes Go.WideShapes Go.ChangeAt Go.RowKit
set_option linter.unusedVariables false
set_option linter.unusedSimpArgs false
set_option maxRecDepth 20000

theorem bytes_refl (a : ByteArray) : (a.toList == a.toList) = true := by simp
/-- SameRaws of two slices that hold the same. -/
theorem sameAt_any {B B' : Nat} {w : World} {v1 v2 : Value} {l : List Fd} (h1 : RawsAt B w v1 l) (h2 : RawsAt B' w v2 l) (hl : FdsOk l) :
    Calls Try.prog 16 #[v1, v2] w fun e w' => e = .returned (.bool true) ∧ Below w.heap.size w w' := by
  obtain ⟨a, c, rfl, a1, a2, a3, a4⟩ := h1
  obtain ⟨b, d, rfl, b1, b2, b3, b4⟩ := h2
  exact same_any a b l l.length c d w rfl (own_adrR a1) (own_adrR b1) a2 b2 a3 b3 hl.1 a4 b4
set_option maxHeartbeats 1000000 in
theorem encodeAll_walk (v : Value) (n : Nat) (t : Tr) (w : World) (h : TrIn n w v t) :
    Calls Try.prog 3 #[v] w fun e w' => e = .returned (.bool true) ∧ Below w.heap.size w w' := by
  have HS : Hid (∀ W, Below w.heap.size w W → Calls Try.prog 9 #[v] W fun e w' => SmallP t v W e ∧ Below W.heap.size W w') := fun W hW => small_any n t v W (h.below hW)
  obtain ⟨m, ve, vr, -, rfl, -, -, -, -, ra, ea⟩ := h.open
  obtain ⟨pe, ce, rfl, e1, e2, -⟩ := ea.open
  obtain ⟨pr, cr, rfl, e3, e4, -⟩ := rest_holds ra
  unfold maxLen at e2 e4
  have HEA : Hid (EnsIn m w (.slice pe t.es.length ce) t.es) := ea
  have HRA : Hid (RowG w (.slice pr t.rest.length cr) 4 (fdRows t.rest)) := ra
  clear ea ra h
  obtain ⟨Ke, hKe⟩ : ∃ z, t.es.length = z := ⟨_, rfl⟩
  obtain ⟨Kr, hKr⟩ : ∃ z, t.rest.length = z := ⟨_, rfl⟩
  obtain ⟨K, hK⟩ : ∃ z, t.kind = z := ⟨_, rfl⟩
  obtain ⟨N, hN⟩ : ∃ z, t.n = z := ⟨_, rfl⟩
  obtain ⟨S, hS⟩ : ∃ z, t.s = z := ⟨_, rfl⟩
  have HK : Hid (t.es.length = Ke ∧ t.rest.length = Kr ∧ t.kind = K) := ⟨hKe, hKr, hK⟩
  rw [hKe] at HEA e1
  rw [hKr] at HRA e3
  rw [hKe, hKr, hK, hN, hS] at HS ⊢
  clear hK hN hS hKe hKr
  have al : Below w.heap.size w (w.alloc (Obj.cells #[.int .i64 K, .int .i64 N, .string S, .slice pe Ke ce, .slice pr Kr cr] 25)) := (Below.refl _ _).alloc (Nat.le_refl _) _
  have HB : Hid (Blk (w.alloc (Obj.cells #[.int .i64 K, .int .i64 N, .string S, .slice pe Ke ce, .slice pr Kr cr] 25)) w.heap.size #[.int .i64 K, .int .i64 N, .string S, .slice pe Ke ce, .slice pr Kr cr] 25) := Blk.new w _ _
  go_enter Try.func3, Try.ntmps3
  go_wp2_with fail
  refine (HS.out _ al).mono ?_
  rintro e w1 ⟨⟨R, rfl, hR⟩, hb1⟩
  have hbw1 : Below w.heap.size w w1 := al.trans (hb1.mono al.size)
  have HB1 : Hid (Blk w1 w.heap.size #[.int .i64 K, .int .i64 N, .string S, .slice pe Ke ce, .slice pr Kr cr] 25) := HB.out.below hb1
  have HRR : Hid (R = true → SmN 14 t ∧ cntN 14 t ≤ 200 ∧ TrIn 14 w1 (.agg #[.int .i64 K, .int .i64 N, .string S, .slice pe Ke ce, .slice pr Kr cr]) t) := fun hr => ⟨(hR hr).1, (hR hr).2.1, (hR hr).2.2.below hb1⟩
  clear hR hb1 al HB HS
  cases R with
  | false =>
    go_wp2_with fail
    refine (eawake_any _).mono ?_
    rintro e w2 ⟨rfl, hw2⟩
    have hbw2 : Below w.heap.size w w2 := hbw1.trans (hw2.mono hbw1.size)
    go_wp2_with fail
    go_ret
    exact ⟨rfl, hbw2⟩
  | true =>
    obtain ⟨s1, s2, s3⟩ := HRR.out rfl
    have HS1 : Hid (SmN 14 t ∧ cntN 14 t ≤ 200) := ⟨s1, s2⟩
    have HC : Hid (Calls Try.prog 11 #[.agg #[.int .i64 K, .int .i64 N, .string S, .slice pe Ke ce, .slice pr Kr cr]] w1 (CopyP 14 t w1)) := copy_any 14 t _ w1 s3 s1
    have HT1 : Hid (TrIn 14 w1 (.agg #[.int .i64 K, .int .i64 N, .string S, .slice pe Ke ce, .slice pr Kr cr]) t) := s3
    have BT1 := HB1.out
    have q0 := (BT1.cell 0).trans rfl
    have q1 := (BT1.cell 1).trans rfl
    have q2 := (BT1.cell 2).trans rfl
    have q3 := (BT1.cell 3).trans rfl
    have q4 := (BT1.cell 4).trans rfl
    clear s1 s2 s3 HRR
    go_wp2_with fail
    refine HC.out.mono ?_
    rintro e w2 ⟨xv, bs, rfl, hX, hb2⟩
    have hbw2 : Below w.heap.size w w2 := hbw1.trans (hb2.mono hbw1.size)
    obtain ⟨m2, xe, xf, xr, xg, -, hxv, -⟩ := hX.trW.open
    obtain ⟨XE, hXE⟩ : ∃ z, t.es.length = z := ⟨_, rfl⟩
    obtain ⟨XR, hXR⟩ : ∃ z, t.rest.length = z := ⟨_, rfl⟩
    obtain ⟨KK, hKK⟩ : ∃ z, t.kind = z := ⟨_, rfl⟩
    obtain ⟨NN, hNN⟩ : ∃ z, t.n = z := ⟨_, rfl⟩
    obtain ⟨SS, hSS⟩ : ∃ z, t.s = z := ⟨_, rfl⟩
    rw [hXE, hXR, hKK, hNN, hSS] at hxv
    subst hxv
    have HXW : Hid (TrW 14 w2 (.agg #[.int .i64 KK, .int .i64 NN, .string SS, .slice xe XE xf, .slice xr XR xg]) t) := hX.trW
    have HT2 : Hid (TrIn 14 w2 (.agg #[.int .i64 K, .int .i64 N, .string S, .slice pe Ke ce, .slice pr Kr cr]) t) := HT1.out.below hb2
    obtain ⟨w3, hw3⟩ : ∃ z, z = w2.alloc (Obj.cells #[.int .i64 KK, .int .i64 NN, .string SS, .slice xe XE xf, .slice xr XR xg] 25) := ⟨_, rfl⟩
    have al3 : Below w2.heap.size w2 w3 := by rw [hw3]; exact (Below.refl _ _).alloc (Nat.le_refl _) _
    have BX3 : Blk w3 w2.heap.size #[.int .i64 KK, .int .i64 NN, .string SS, .slice xe XE xf, .slice xr XR xg] 25 := by rw [hw3]; exact Blk.new w2 _ _
    have BT3 := (BT1.below hb2).below al3
    have HXW3 : Hid (TrW 14 w3 (.agg #[.int .i64 KK, .int .i64 NN, .string SS, .slice xe XE xf, .slice xr XR xg]) t) := HXW.out.cel (Cel.ofBelow al3)
    have HT3 : Hid (TrIn 14 w3 (.agg #[.int .i64 K, .int .i64 N, .string S, .slice pe Ke ce, .slice pr Kr cr]) t) := HT2.out.below al3
    have hbw3 : Below w.heap.size w w3 := hbw2.trans (al3.mono hbw2.size)
    have HEC : Hid (∀ W, Below w3.heap.size w3 W → Calls Try.prog 12 #[.agg #[.int .i64 KK, .int .i64 NN, .string SS, .slice xe XE xf, .slice xr XR xg]] W (EncP (encA 14 t) W)) := fun W hW => encode_any (HXW3.out.cel (Cel.ofBelow hW)) (by omega) (by have := HS1.out.2; omega) HS1.out.1
    have HRC : Hid (∀ W, Below w3.heap.size w3 W → Calls Try.prog 14 #[.agg #[.int .i64 KK, .int .i64 NN, .string SS, .slice xe XE xf, .slice xr XR xg]] W (RwsP (rawsA 14 t) W)) := fun W hW => eraws_any (HXW3.out.cel (Cel.ofBelow hW)) (by omega) (by have := HS1.out.2; omega) HS1.out.1
    have HLC : Hid (∀ W, Below w3.heap.size w3 W → Calls Try.prog 17 #[.agg #[.int .i64 KK, .int .i64 NN, .string SS, .slice xe XE xf, .slice xr XR xg]] W fun e w' => e = .returned (.int .i64 ((encA 14 t).1.length : Int)) ∧ Below W.heap.size W w') := fun W hW => elen_any (HXW3.out.cel (Cel.ofBelow hW)) (by omega) (by have := HS1.out.2; omega) HS1.out.1
    have HFC : Hid (∀ W, Below w3.heap.size w3 W → Calls Try.prog 13 #[.agg #[.int .i64 K, .int .i64 N, .string S, .slice pe Ke ce, .slice pr Kr cr]] W (EncP (encA 14 t) W)) := fun W hW => rEncode_any 14 t _ W (HT3.out.below hW) HS1.out.1 (by decide)
    have HGC : Hid (∀ W, Below w3.heap.size w3 W → Calls Try.prog 15 #[.agg #[.int .i64 K, .int .i64 N, .string S, .slice pe Ke ce, .slice pr Kr cr]] W (RwsP (rawsA 14 t) W)) := fun W hW => rRaws_any 14 t _ W (HT3.out.below hW) HS1.out.1 (by decide)
    have HSC : Hid (∀ W, Below w3.heap.size w3 W → Calls Try.prog 18 #[.agg #[.int .i64 KK, .int .i64 NN, .string SS, .slice xe XE xf, .slice xr XR xg], .agg #[.int .i64 K, .int .i64 N, .string S, .slice pe Ke ce, .slice pr Kr cr]] W fun e w' => e = .returned (.bool true) ∧ Below W.heap.size W w') := fun W hW => by
      refine (rsame_any 14 14 t t _ _ W ((hX.tr.below al3).below hW) (HT3.out.below hW)).mono ?_
      rintro e w' ⟨⟨R, rfl, hR⟩, hb⟩
      exact ⟨by rw [hR.2 rfl], hb⟩
    clear hXE hXR hKK hNN hSS hX hb2 HC hbw1 HB1 HXW HT1 HT2 al3 BT1 hbw2 q0 q1 q2 q3 q4
    have x0 := (BX3.cell 0).trans rfl
    have x1 := (BX3.cell 1).trans rfl
    have x2 := (BX3.cell 2).trans rfl
    have x3 := (BX3.cell 3).trans rfl
    have x4 := (BX3.cell 4).trans rfl
    go_wp2_with fail
    rw [← hw3]
    clear hw3
    refine Calls.mono (HEC.out _ (Below.refl _ _)) ?_
    rintro e w4 ⟨r4, rfl, ho4, hb4⟩
    have BT4 := BT3.below hb4
    have q0 := (BT4.cell 0).trans rfl
    have q1 := (BT4.cell 1).trans rfl
    have q2 := (BT4.cell 2).trans rfl
    have q3 := (BT4.cell 3).trans rfl
    have q4 := (BT4.cell 4).trans rfl
    clear x0 x1 x2 x3 x4
    go_wp2_with fail
    refine Calls.mono (HFC.out _ hb4) ?_
    rintro e w5 ⟨r5, rfl, ho5, hb5⟩
    have hb35 : Below w3.heap.size w3 w5 := hb4.trans (hb5.mono hb4.size)
    have ho4 := own_below ho4 hb5
    have BX5 := BX3.below hb35
    have x0 := (BX5.cell 0).trans rfl
    have x1 := (BX5.cell 1).trans rfl
    have x2 := (BX5.cell 2).trans rfl
    have x3 := (BX5.cell 3).trans rfl
    have x4 := (BX5.cell 4).trans rfl
    clear q0 q1 q2 q3 q4 BT4 hb4 hb5
    go_wp2_with fail
    refine Calls.mono (HRC.out _ hb35) ?_
    rintro e w6 ⟨r6, rfl, hra6, hok6, hb6⟩
    have hb36 : Below w3.heap.size w3 w6 := hb35.trans (hb6.mono hb35.size)
    have ho4 := own_below ho4 hb6
    have ho5 := own_below ho5 hb6
    have BT6 := BT3.below hb36
    have q0 := (BT6.cell 0).trans rfl
    have q1 := (BT6.cell 1).trans rfl
    have q2 := (BT6.cell 2).trans rfl
    have q3 := (BT6.cell 3).trans rfl
    have q4 := (BT6.cell 4).trans rfl
    clear x0 x1 x2 x3 x4 BX5 hb35 hb6
    go_wp2_with fail
    refine Calls.mono (HGC.out _ hb36) ?_
    rintro e w7 ⟨r7, rfl, hra7, hok7, hb7⟩
    have hb37 : Below w3.heap.size w3 w7 := hb36.trans (hb7.mono hb36.size)
    have ho4 := own_below ho4 hb7
    have ho5 := own_below ho5 hb7
    have hra6 := hra6.below hb7
    have hcv4 := conv_own ho4
    have hcv5 := conv_own ho5
    have HSR : Hid (Calls Try.prog 16 #[r6, r7] w7 fun e w' => e = .returned (.bool true) ∧ Below w7.heap.size w7 w') := sameAt_any hra6 hra7 hok6
    obtain ⟨g4, h4, rfl, -⟩ := own_open ho4
    obtain ⟨g5, h5, rfl, -, -, l5, l6, -⟩ := own_open ho5
    unfold maxLen at l6
    clear q0 q1 q2 q3 q4 BT6 hb36 hb7 ho4 ho5 hra6 hra7 hok6 hok7 HEC HRC HFC HGC
    generalize rawsA 14 t = Q1 at *
    generalize encA 14 t = Q2 at *
    obtain ⟨ns, er⟩ := Q2
    obtain ⟨rs, er'⟩ := Q1
    simp only at hcv4 hcv5 HLC l5 ⊢
    generalize strN ns = T at *
    have hTT := bytes_refl T
    generalize ns.length = L at *
    go_wp2_with fail
    refine Calls.mono HSR.out ?_
    rintro e w8 ⟨rfl, hb8⟩
    have hb38 : Below w3.heap.size w3 w8 := hb37.trans (hb8.mono hb37.size)
    have BX8 := BX3.below hb38
    have x0 := (BX8.cell 0).trans rfl
    have x1 := (BX8.cell 1).trans rfl
    have x2 := (BX8.cell 2).trans rfl
    have x3 := (BX8.cell 3).trans rfl
    have x4 := (BX8.cell 4).trans rfl
    clear HSR hb8 hb37 hcv4 hcv5
    go_wp2_with fail
    refine (HLC.out _ hb38).mono ?_
    rintro e w9 ⟨rfl, hb9⟩
    have hb39 : Below w3.heap.size w3 w9 := hb38.trans (hb9.mono hb38.size)
    have BX9 := BX3.below hb39
    have BT9 := BT3.below hb39
    clear x0 x1 x2 x3 x4 BX8 hb38 hb9
    have x0 := (BX9.cell 0).trans rfl
    have x1 := (BX9.cell 1).trans rfl
    have x2 := (BX9.cell 2).trans rfl
    have x3 := (BX9.cell 3).trans rfl
    have x4 := (BX9.cell 4).trans rfl
    have q0 := (BT9.cell 0).trans rfl
    have q1 := (BT9.cell 1).trans rfl
    have q2 := (BT9.cell 2).trans rfl
    have q3 := (BT9.cell 3).trans rfl
    have q4 := (BT9.cell 4).trans rfl
    go_wp2_with fail
    refine (HSC.out _ hb39).mono ?_
    rintro e w10 ⟨rfl, hb10⟩
    have hb310 : Below w3.heap.size w3 w10 := hb39.trans (hb10.mono hb39.size)
    have hbw10 : Below w.heap.size w w10 := hbw3.trans (hb310.mono hbw3.size)
    clear x0 x1 x2 x3 x4 q0 q1 q2 q3 q4 BX9 BT9 hb39 hb10 hb310
    go_wp2_with fail
    refine (eawake_any _).mono ?_
    rintro e w11 ⟨rfl, hw11⟩
    have hbw11 : Below w.heap.size w w11 := hbw10.trans (hw11.mono hbw10.size)
    go_wp2_with fail
    go_ret
    exact ⟨rfl, hbw11⟩
end Go.Proofs.Ytkmdaopmmfdpgaa

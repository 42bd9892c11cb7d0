/- EncodeFlat answers true at every tree. -/
import Derived.Test.YtkmdaopmmfdpgaaPkK
import Derived.Test.YtkmdaopmmfdpgaaPkH
import Derived.Test.YtkmdaopmmfdpgaaPkJ
import Derived.Test.YtkmdaopmmfdpgaaPkG
import Derived.Test.YtkmdaopmmfdpgaaPkO
import Derived.Test.YtkmdaopmmfdpgaaPkC
namespace Go.Proofs.Ytkmdaopmmfdpgaa
open Go.ChangeShapes Go.WideShapes Go.ChangeAt Go.RowKit
set_option linter.unusedVariables false
set_option linter.unusedSimpArgs false
set_option maxRecDepth 20000

theorem strN_inj {a b : List Nat} (ha : ∀ n ∈ a, n < 256) (hb : ∀ n ∈ b, n < 256) (h : strN a = strN b) : a = b := by
  rw [← bytesN_strN a ha, ← bytesN_strN b hb, h]
theorem bytes_neE {a b : ByteArray} (h : ¬ a = b) : (a.toList == b.toList) = false := by
  have := toList_ne h
  simpa using this
set_option maxHeartbeats 2000000 in
theorem encodeFlat_walk (v0 : Value) (n0 : Nat) (a : Tr) (v1 : Value) (n1 : Nat) (b : Tr) (w : World) (h0 : TrIn n0 w v0 a) (h1 : TrIn n1 w v1 b) :
    Calls Try.prog 5 #[v0, v1] w fun e w' => e = .returned (.bool true) ∧ Below w.heap.size w w' := by
  have HSA : Hid (∀ W, Below w.heap.size w W → Calls Try.prog 9 #[v0] W fun e w' => SmallP a v0 W e ∧ Below W.heap.size W w') := fun W hW => small_any n0 a v0 W (h0.below hW)
  have HSB : Hid (∀ W, Below w.heap.size w W → Calls Try.prog 9 #[v1] W fun e w' => SmallP b v1 W e ∧ Below W.heap.size W w') := fun W hW => small_any n1 b v1 W (h1.below hW)
  obtain ⟨m, ve, vr, -, rfl, -, -, -, -, ra, ea⟩ := h0.open
  obtain ⟨pe, ce, rfl, -⟩ := ea.open
  obtain ⟨pr, cr, rfl, e3, e4, -⟩ := rest_holds ra
  obtain ⟨m', ve', vr', -, rfl, -, -, -, -, rb, eb⟩ := h1.open
  obtain ⟨qe, de, rfl, -⟩ := eb.open
  obtain ⟨qr, dr, rfl, f3, f4, -⟩ := rest_holds rb
  unfold maxLen at e4 f4
  clear ea ra eb rb h0 h1
  obtain ⟨Ke, hKe⟩ : ∃ z, a.es.length = z := ⟨_, rfl⟩
  obtain ⟨Kr, hKr⟩ : ∃ z, a.rest.length = z := ⟨_, rfl⟩
  obtain ⟨Eb, hEb⟩ : ∃ z, b.es.length = z := ⟨_, rfl⟩
  obtain ⟨Rb, hRb⟩ : ∃ z, b.rest.length = z := ⟨_, rfl⟩
  have HLA : Hid (a.rest.length = Kr ∧ b.rest.length = Rb) := ⟨hKr, hRb⟩
  rw [hKr] at e3
  rw [hRb] at f3
  rw [hKe, hKr] at HSA
  rw [hEb, hRb] at HSB
  rw [hKe, hKr, hEb, hRb]
  generalize a.kind = K at *
  generalize a.n = N at *
  generalize a.s = S at *
  generalize b.kind = Kb at *
  generalize b.n = Nb at *
  generalize b.s = Sb at *
  clear hKe hKr hEb hRb
  have al : Below w.heap.size w ((w.alloc (Obj.cells #[.int .i64 K, .int .i64 N, .string S, .slice pe Ke ce, .slice pr Kr cr] 25)).alloc (Obj.cells #[.int .i64 Kb, .int .i64 Nb, .string Sb, .slice qe Eb de, .slice qr Rb dr] 25)) := ((Below.refl _ _).alloc (Nat.le_refl _) _).alloc (by simp) _
  have BA : Blk ((w.alloc (Obj.cells #[.int .i64 K, .int .i64 N, .string S, .slice pe Ke ce, .slice pr Kr cr] 25)).alloc (Obj.cells #[.int .i64 Kb, .int .i64 Nb, .string Sb, .slice qe Eb de, .slice qr Rb dr] 25)) w.heap.size #[.int .i64 K, .int .i64 N, .string S, .slice pe Ke ce, .slice pr Kr cr] 25 := (Blk.newAt rfl).up _
  have BB : Blk ((w.alloc (Obj.cells #[.int .i64 K, .int .i64 N, .string S, .slice pe Ke ce, .slice pr Kr cr] 25)).alloc (Obj.cells #[.int .i64 Kb, .int .i64 Nb, .string Sb, .slice qe Eb de, .slice qr Rb dr] 25)) (w.heap.size + 1) #[.int .i64 Kb, .int .i64 Nb, .string Sb, .slice qe Eb de, .slice qr Rb dr] 25 := Blk.newAt (by simp)
  go_enter Try.func5, Try.ntmps5
  go_wp2_with fail
  generalize ((w.alloc (Obj.cells #[.int .i64 K, .int .i64 N, .string S, .slice pe Ke ce, .slice pr Kr cr] 25)).alloc (Obj.cells #[.int .i64 Kb, .int .i64 Nb, .string Sb, .slice qe Eb de, .slice qr Rb dr] 25)) = Z at *
  obtain ⟨s, hs⟩ : ∃ s, w.heap.size = s := ⟨_, rfl⟩
  have HSZ : Hid (w.heap.size = s) := hs
  rw [hs] at BA BB
  simp only [hs]
  clear hs
  refine (HSA.out _ al).mono ?_
  rintro e w1 ⟨⟨R, rfl, hR⟩, hb1⟩
  have hbw1 : Below w.heap.size w w1 := al.trans (hb1.mono al.size)
  have HRR : Hid (R = true → SmN 14 a ∧ cntN 14 a ≤ 200 ∧ TrIn 14 w1 (.agg #[.int .i64 K, .int .i64 N, .string S, .slice pe Ke ce, .slice pr Kr cr]) a) := fun hr => ⟨(hR hr).1, (hR hr).2.1, (hR hr).2.2.below hb1⟩
  have BA1 := BA.below hb1
  have BB1 := BB.below hb1
  clear hR hb1 al HSA BA BB
  have p0 := (BA1.cell 0).trans rfl
  have p1 := (BA1.cell 1).trans rfl
  have p2 := (BA1.cell 2).trans rfl
  have p3 := (BA1.cell 3).trans rfl
  have p4 := (BA1.cell 4).trans rfl
  have q0 := (BB1.cell 0).trans rfl
  have q1 := (BB1.cell 1).trans rfl
  have q2 := (BB1.cell 2).trans rfl
  have q3 := (BB1.cell 3).trans rfl
  have q4 := (BB1.cell 4).trans rfl
  cases R with
  | false =>
    go_wp2_with fail
    refine (eawake_any _).mono ?_
    rintro e w2 ⟨rfl, hw2⟩
    have hbw2 : Below w.heap.size w w2 := hbw1.trans (hw2.mono hbw1.size)
    go_wp2_with fail
    go_ret
    exact ⟨rfl, hbw2⟩
  | true =>
    obtain ⟨s1, s2, s3⟩ := HRR.out rfl
    have HS1 : Hid (SmN 14 a ∧ cntN 14 a ≤ 200) := ⟨s1, s2⟩
    have HT1 : Hid (TrIn 14 w1 (.agg #[.int .i64 K, .int .i64 N, .string S, .slice pe Ke ce, .slice pr Kr cr]) a) := s3
    clear s1 s2 s3 HRR
    go_wp2_with fail
    refine (HSB.out _ hbw1).mono ?_
    rintro e w2 ⟨⟨R, rfl, hR⟩, hb2⟩
    have hbw2 : Below w.heap.size w w2 := hbw1.trans (hb2.mono hbw1.size)
    have HRR : Hid (R = true → SmN 14 b ∧ cntN 14 b ≤ 200 ∧ TrIn 14 w2 (.agg #[.int .i64 Kb, .int .i64 Nb, .string Sb, .slice qe Eb de, .slice qr Rb dr]) b) := fun hr => ⟨(hR hr).1, (hR hr).2.1, (hR hr).2.2.below hb2⟩
    have HT2 : Hid (TrIn 14 w2 (.agg #[.int .i64 K, .int .i64 N, .string S, .slice pe Ke ce, .slice pr Kr cr]) a) := HT1.out.below hb2
    have BA2 := BA1.below hb2
    have BB2 := BB1.below hb2
    clear hR hb2 hbw1 HSB BA1 BB1 HT1 p0 p1 p2 p3 p4 q0 q1 q2 q3 q4
    have p0 := (BA2.cell 0).trans rfl
    have p1 := (BA2.cell 1).trans rfl
    have p2 := (BA2.cell 2).trans rfl
    have p3 := (BA2.cell 3).trans rfl
    have p4 := (BA2.cell 4).trans rfl
    have q0 := (BB2.cell 0).trans rfl
    have q1 := (BB2.cell 1).trans rfl
    have q2 := (BB2.cell 2).trans rfl
    have q3 := (BB2.cell 3).trans rfl
    have q4 := (BB2.cell 4).trans rfl
    cases R with
    | false =>
      go_wp2_with fail
      refine (eawake_any _).mono ?_
      rintro e w3 ⟨rfl, hw3⟩
      have hbw3 : Below w.heap.size w w3 := hbw2.trans (hw3.mono hbw2.size)
      go_wp2_with fail
      go_ret
      exact ⟨rfl, hbw3⟩
    | true =>
      obtain ⟨s1, s2, s3⟩ := HRR.out rfl
      have HS2 : Hid (SmN 14 b ∧ cntN 14 b ≤ 200) := ⟨s1, s2⟩
      have HU2 : Hid (TrIn 14 w2 (.agg #[.int .i64 Kb, .int .i64 Nb, .string Sb, .slice qe Eb de, .slice qr Rb dr]) b) := s3
      clear s1 s2 s3 HRR
      have HD1 : Hid (Calls Try.prog 21 #[.agg #[.int .i64 K, .int .i64 N, .string S, .slice pe Ke ce, .slice pr Kr cr]] w2 fun e w' => e = .returned (.int .i64 (dpN 14 a : Nat)) ∧ Below w2.heap.size w2 w') := rDepth_any 14 a _ w2 HT2.out (by decide)
      obtain ⟨D1, hD1⟩ : ∃ z, dpN 14 a = z := ⟨_, rfl⟩
      have HE1 : Hid (dpN 14 a = D1) := hD1
      rw [hD1] at HD1
      clear hD1
      go_wp2_with fail
      refine HD1.out.mono ?_
      rintro e w3 ⟨rfl, hb3⟩
      have hbw3 : Below w.heap.size w w3 := hbw2.trans (hb3.mono hbw2.size)
      have HT3 : Hid (TrIn 14 w3 (.agg #[.int .i64 K, .int .i64 N, .string S, .slice pe Ke ce, .slice pr Kr cr]) a) := HT2.out.below hb3
      have HU3 : Hid (TrIn 14 w3 (.agg #[.int .i64 Kb, .int .i64 Nb, .string Sb, .slice qe Eb de, .slice qr Rb dr]) b) := HU2.out.below hb3
      have BA3 := BA2.below hb3
      have BB3 := BB2.below hb3
      clear hb3 hbw2 BA2 BB2 HT2 HU2 HD1 p0 p1 p2 p3 p4 q0 q1 q2 q3 q4
      have p0 := (BA3.cell 0).trans rfl
      have p1 := (BA3.cell 1).trans rfl
      have p2 := (BA3.cell 2).trans rfl
      have p3 := (BA3.cell 3).trans rfl
      have p4 := (BA3.cell 4).trans rfl
      have q0 := (BB3.cell 0).trans rfl
      have q1 := (BB3.cell 1).trans rfl
      have q2 := (BB3.cell 2).trans rfl
      have q3 := (BB3.cell 3).trans rfl
      have q4 := (BB3.cell 4).trans rfl
      by_cases hd1 : D1 = 1
      rotate_left
      · have d1 : ((D1 : Int) != 1) = true := by simp; omega
        clear hd1
        go_wp2_with fail
        refine (eawake_any _).mono ?_
        rintro e w4 ⟨rfl, hw4⟩
        have hbw4 : Below w.heap.size w w4 := hbw3.trans (hw4.mono hbw3.size)
        go_wp2_with fail
        go_ret
        exact ⟨rfl, hbw4⟩
      · subst hd1
        simp only [show ((1 : Nat) : Int) = 1 from rfl]
        have HD2 : Hid (Calls Try.prog 21 #[.agg #[.int .i64 Kb, .int .i64 Nb, .string Sb, .slice qe Eb de, .slice qr Rb dr]] w3 fun e w' => e = .returned (.int .i64 (dpN 14 b : Nat)) ∧ Below w3.heap.size w3 w') := rDepth_any 14 b _ w3 HU3.out (by decide)
        obtain ⟨D2, hD2⟩ : ∃ z, dpN 14 b = z := ⟨_, rfl⟩
        have HE2 : Hid (dpN 14 b = D2) := hD2
        rw [hD2] at HD2
        clear hD2
        go_wp2_with fail
        refine HD2.out.mono ?_
        rintro e w4 ⟨rfl, hb4⟩
        have hbw4 : Below w.heap.size w w4 := hbw3.trans (hb4.mono hbw3.size)
        have HT4 : Hid (TrIn 14 w4 (.agg #[.int .i64 K, .int .i64 N, .string S, .slice pe Ke ce, .slice pr Kr cr]) a) := HT3.out.below hb4
        have HU4 : Hid (TrIn 14 w4 (.agg #[.int .i64 Kb, .int .i64 Nb, .string Sb, .slice qe Eb de, .slice qr Rb dr]) b) := HU3.out.below hb4
        have BA4 := BA3.below hb4
        have BB4 := BB3.below hb4
        clear hb4 hbw3 BA3 BB3 HT3 HU3 HD2 p0 p1 p2 p3 p4 q0 q1 q2 q3 q4
        have p0 := (BA4.cell 0).trans rfl
        have p1 := (BA4.cell 1).trans rfl
        have p2 := (BA4.cell 2).trans rfl
        have p3 := (BA4.cell 3).trans rfl
        have p4 := (BA4.cell 4).trans rfl
        have q0 := (BB4.cell 0).trans rfl
        have q1 := (BB4.cell 1).trans rfl
        have q2 := (BB4.cell 2).trans rfl
        have q3 := (BB4.cell 3).trans rfl
        have q4 := (BB4.cell 4).trans rfl
        by_cases hd2 : D2 = 1
        rotate_left
        · have d2 : ((D2 : Int) != 1) = true := by simp; omega
          clear hd2
          go_wp2_with fail
          refine (eawake_any _).mono ?_
          rintro e w5 ⟨rfl, hw5⟩
          have hbw5 : Below w.heap.size w w5 := hbw4.trans (hw5.mono hbw4.size)
          go_wp2_with fail
          go_ret
          exact ⟨rfl, hbw5⟩
        · subst hd2
          simp only [show ((1 : Nat) : Int) = 1 from rfl]
          by_cases hk1 : Kr = 0
          rotate_left
          · have d3 : 0 < Kr := by omega
            clear hk1
            go_wp2_with fail
            refine (eawake_any _).mono ?_
            rintro e w5 ⟨rfl, hw5⟩
            have hbw5 : Below w.heap.size w w5 := hbw4.trans (hw5.mono hbw4.size)
            go_wp2_with fail
            go_ret
            exact ⟨rfl, hbw5⟩
          · subst hk1
            by_cases hk2 : Rb = 0
            rotate_left
            · have d4 : 0 < Rb := by omega
              clear hk2
              go_wp2_with fail
              refine (eawake_any _).mono ?_
              rintro e w5 ⟨rfl, hw5⟩
              have hbw5 : Below w.heap.size w w5 := hbw4.trans (hw5.mono hbw4.size)
              go_wp2_with fail
              go_ret
              exact ⟨rfl, hbw5⟩
            · subst hk2
              have HCA : Hid (Calls Try.prog 11 #[.agg #[.int .i64 K, .int .i64 N, .string S, .slice pe Ke ce, .slice pr 0 cr]] w4 (CopyP 14 a w4)) := copy_any 14 a _ w4 HT4.out HS1.out.1
              go_wp2_with fail
              refine HCA.out.mono ?_
              rintro e w5 ⟨xv, bs, rfl, hX, hb5⟩
              have hbw5 : Below w.heap.size w w5 := hbw4.trans (hb5.mono hbw4.size)
              have HU5 : Hid (TrIn 14 w5 (.agg #[.int .i64 Kb, .int .i64 Nb, .string Sb, .slice qe Eb de, .slice qr 0 dr]) b) := HU4.out.below hb5
              have HT5 : Hid (TrIn 14 w5 (.agg #[.int .i64 K, .int .i64 N, .string S, .slice pe Ke ce, .slice pr 0 cr]) a) := HT4.out.below hb5
              have BA5 := BA4.below hb5
              have BB5 := BB4.below hb5
              have HEC : Hid (Calls Try.prog 12 #[xv] w5 (EncP (encA 14 a) w5)) := encode_any hX.trW (by omega) (by have := HS1.out.2; omega) HS1.out.1
              have HGA : Hid ((encA 14 a).2 = 0 → getL (encA 14 a).1 = (sortF (fldsE 14 a), 0)) := fun h0 => enc_get hX.trW HS1.out.1 h0
              clear hX hb5 hbw4 BA4 BB4 HT4 HU4 HCA p0 p1 p2 p3 p4 q0 q1 q2 q3 q4
              go_wp2_with fail
              refine Calls.mono HEC.out ?_
              rintro e w6 ⟨r1, rfl, ho1, hb6⟩
              have hbw6 : Below w.heap.size w w6 := hbw5.trans (hb6.mono hbw5.size)
              have HU6 : Hid (TrIn 14 w6 (.agg #[.int .i64 Kb, .int .i64 Nb, .string Sb, .slice qe Eb de, .slice qr 0 dr]) b) := HU5.out.below hb6
              have HT6 : Hid (TrIn 14 w6 (.agg #[.int .i64 K, .int .i64 N, .string S, .slice pe Ke ce, .slice pr 0 cr]) a) := HT5.out.below hb6
              have BA6 := BA5.below hb6
              have BB6 := BB5.below hb6
              have HO1 : Hid (w6.ownsRow w5.heap.size 5 1 r1 (encA 14 a).1.length (byteCells (encA 14 a).1)) := ho1
              clear hb6 hbw5 BA5 BB5 HT5 HU5 HEC ho1
              have q0 := (BB6.cell 0).trans rfl
              have q1 := (BB6.cell 1).trans rfl
              have q2 := (BB6.cell 2).trans rfl
              have q3 := (BB6.cell 3).trans rfl
              have q4 := (BB6.cell 4).trans rfl
              have HCB : Hid (Calls Try.prog 11 #[.agg #[.int .i64 Kb, .int .i64 Nb, .string Sb, .slice qe Eb de, .slice qr 0 dr]] w6 (CopyP 14 b w6)) := copy_any 14 b _ w6 HU6.out HS2.out.1
              go_wp2_with fail
              refine HCB.out.mono ?_
              rintro e w7 ⟨yv, bs', rfl, hY, hb7⟩
              have hbw7 : Below w.heap.size w w7 := hbw6.trans (hb7.mono hbw6.size)
              have HU7 : Hid (TrIn 14 w7 (.agg #[.int .i64 Kb, .int .i64 Nb, .string Sb, .slice qe Eb de, .slice qr 0 dr]) b) := HU6.out.below hb7
              have HT7 : Hid (TrIn 14 w7 (.agg #[.int .i64 K, .int .i64 N, .string S, .slice pe Ke ce, .slice pr 0 cr]) a) := HT6.out.below hb7
              have BA7 := BA6.below hb7
              have BB7 := BB6.below hb7
              have HO17 := own_belowH HO1 hb7
              have HED : Hid (Calls Try.prog 12 #[yv] w7 (EncP (encA 14 b) w7)) := encode_any hY.trW (by omega) (by have := HS2.out.2; omega) HS2.out.1
              have HGB : Hid ((encA 14 b).2 = 0 → getL (encA 14 b).1 = (sortF (fldsE 14 b), 0)) := fun h0 => enc_get hY.trW HS2.out.1 h0
              clear hY hb7 hbw6 BA6 BB6 HT6 HU6 HCB HO1 q0 q1 q2 q3 q4
              go_wp2_with fail
              refine Calls.mono HED.out ?_
              rintro e w8 ⟨r2, rfl, ho2, hb8⟩
              have hbw8 : Below w.heap.size w w8 := hbw7.trans (hb8.mono hbw7.size)
              have HU8 : Hid (TrIn 14 w8 (.agg #[.int .i64 Kb, .int .i64 Nb, .string Sb, .slice qe Eb de, .slice qr 0 dr]) b) := HU7.out.below hb8
              have HT8 : Hid (TrIn 14 w8 (.agg #[.int .i64 K, .int .i64 N, .string S, .slice pe Ke ce, .slice pr 0 cr]) a) := HT7.out.below hb8
              have BA8 := BA7.below hb8
              have BB8 := BB7.below hb8
              have HO18 := own_belowH HO17 hb8
              have HO28 : Hid (w8.ownsRow w7.heap.size 5 1 r2 (encA 14 b).1.length (byteCells (encA 14 b).1)) := ho2
              have HIF : Hid ((encA 14 a).2 = 0 → (encA 14 b).2 = 0 → ((encA 14 a).1 = (encA 14 b).1 ↔ a = b)) := fun e1 e2 => flat_same HE1.out HE2.out (by decide) (List.eq_nil_of_length_eq_zero HLA.out.1) (List.eq_nil_of_length_eq_zero HLA.out.2) e1 e2 (HGA.out e1) (HGB.out e2)
              have HLT1 : Hid (∀ k ∈ (encA 14 a).1, k < 256) := encA_lt 14 a
              have HLT2 : Hid (∀ k ∈ (encA 14 b).1, k < 256) := encA_lt 14 b
              clear hb8 hbw7 BA7 BB7 HT7 HU7 HED HO17 ho2 HGA HGB
              generalize encA 14 a = E1 at *
              generalize encA 14 b = E2 at *
              obtain ⟨ns, e1⟩ := E1
              obtain ⟨ms, e2⟩ := E2
              simp only at HO18 HO28 HIF HLT1 HLT2 ⊢
              by_cases hz1 : e1 = 0
              rotate_left
              · have d5 : ((e1 : Int) != 0) = true := by simp; omega
                clear hz1
                go_wp2_with fail
                refine (eawake_any _).mono ?_
                rintro e w9 ⟨rfl, hw9⟩
                have hbw9 : Below w.heap.size w w9 := hbw8.trans (hw9.mono hbw8.size)
                go_wp2_with fail
                go_ret
                exact ⟨rfl, hbw9⟩
              · subst hz1
                by_cases hz2 : e2 = 0
                rotate_left
                · have d6 : ((e2 : Int) != 0) = true := by simp; omega
                  clear hz2
                  go_wp2_with fail
                  refine (eawake_any _).mono ?_
                  rintro e w9 ⟨rfl, hw9⟩
                  have hbw9 : Below w.heap.size w w9 := hbw8.trans (hw9.mono hbw8.size)
                  go_wp2_with fail
                  go_ret
                  exact ⟨rfl, hbw9⟩
                · subst hz2
                  simp only [show ((0 : Nat) : Int) = 0 from rfl]
                  have HI2 : Hid (ns = ms ↔ a = b) := HIF.out rfl rfl
                  have HI3 : Hid (strN ns = strN ms ↔ a = b) := ⟨fun h => HI2.out.1 (strN_inj HLT1.out HLT2.out h), fun h => by rw [HI2.out.2 h]⟩
                  have HCV : Hid (∀ W, Below w8.heap.size w8 W → (convert 29 9 r1).run Try.prog W = .ok (.string (strN ns)) W ∧ (convert 29 9 r2).run Try.prog W = .ok (.string (strN ms)) W) := fun W hW => ⟨conv_own (own_below HO18.out hW), conv_own (own_below HO28.out hW)⟩
                  have HSM : Hid (∀ W, Below w8.heap.size w8 W → Calls Try.prog 18 #[.agg #[.int .i64 K, .int .i64 N, .string S, .slice pe Ke ce, .slice pr 0 cr], .agg #[.int .i64 Kb, .int .i64 Nb, .string Sb, .slice qe Eb de, .slice qr 0 dr]] W fun e w' => SamT a b e ∧ Below W.heap.size W w') := fun W hW => rsame_any 14 14 a b _ _ W (HT8.out.below hW) (HU8.out.below hW)
                  clear HIF HI2 HLT1 HLT2 HO18 HO28 HT8 HU8
                  generalize strN ns = T1 at *
                  generalize strN ms = T2 at *
                  obtain ⟨Q, hQ, hQ2⟩ : ∃ Q : Bool, (T1.toList == T2.toList) = Q ∧ (Q = true ↔ a = b) := by
                    by_cases hT : T1 = T2
                    · refine ⟨true, by rw [hT]; simp, ?_⟩
                      exact ⟨fun _ => HI3.out.1 hT, fun _ => rfl⟩
                    · refine ⟨false, bytes_neE hT, ?_⟩
                      exact ⟨fun h => (by cases h), fun h => absurd (HI3.out.2 h) hT⟩
                  have HQ2 : Hid (Q = true ↔ a = b) := hQ2
                  have HBA : Hid (Blk w8 s #[.int .i64 K, .int .i64 N, .string S, .slice pe Ke ce, .slice pr 0 cr] 25) := BA8
                  have HBB : Hid (Blk w8 (s + 1) #[.int .i64 Kb, .int .i64 Nb, .string Sb, .slice qe Eb de, .slice qr 0 dr] 25) := BB8
                  clear hQ2 HI3 BA8 BB8
                  go_wp2_with fail
                  have hS : Below w8.heap.size w8 w8.drew := (Below.refl _ _).drew
                  refine wp_region_held_drew (S := fun w' => Below w8.heap.size w8 w') (by kernel_rfl) hS (fun hS => ?_)
                  refine rg_take 0 59 (r1) _ rfl rfl (by kernel_rfl) (by kernel_rfl) (by kernel_rfl) (fun _ _ _ h => h) (by rfl) (fun w' hw' => ?_) hS (listed' := #[true, false, false, false, false, false, false, false, false, false, false, false, false]) (by kernel_rfl) rfl ?_
                  · go_simp
                  simp only [List.setIfInBounds_toArray, List.set_cons_zero, List.set_cons_succ]
                  refine rg_take 1 60 (.string T1) _ rfl rfl (by kernel_rfl) (by kernel_rfl) (by kernel_rfl) (fun _ _ _ h => h) (by rfl) (fun w' hw' => ?_) hS (listed' := #[true, true, false, false, false, false, false, false, false, false, false, false, false]) (by kernel_rfl) rfl ?_
                  · have f0 := (HCV.out _ hw').1; go_simp
                  simp only [List.setIfInBounds_toArray, List.set_cons_zero, List.set_cons_succ]
                  refine rg_take 2 61 (r2) _ rfl rfl (by kernel_rfl) (by kernel_rfl) (by kernel_rfl) (fun _ _ _ h => h) (by rfl) (fun w' hw' => ?_) hS (listed' := #[true, true, true, false, false, false, false, false, false, false, false, false, false]) (by kernel_rfl) rfl ?_
                  · go_simp
                  simp only [List.setIfInBounds_toArray, List.set_cons_zero, List.set_cons_succ]
                  refine rg_take 3 62 (.string T2) _ rfl rfl (by kernel_rfl) (by kernel_rfl) (by kernel_rfl) (fun _ _ _ h => h) (by rfl) (fun w' hw' => ?_) hS (listed' := #[true, true, true, true, false, false, false, false, false, false, false, false, false]) (by kernel_rfl) rfl ?_
                  · have f0 := (HCV.out _ hw').2; go_simp
                  simp only [List.setIfInBounds_toArray, List.set_cons_zero, List.set_cons_succ]
                  refine rg_take 4 63 (.bool Q) _ rfl rfl (by kernel_rfl) (by kernel_rfl) (by kernel_rfl) (fun _ _ _ h => h) (by rfl) (fun w' hw' => ?_) hS (listed' := #[true, true, true, true, true, false, false, false, false, false, false, false, false]) (by kernel_rfl) rfl ?_
                  · go_simp
                  simp only [List.setIfInBounds_toArray, List.set_cons_zero, List.set_cons_succ]
                  refine rg_take 5 64 (.agg #[.int .i64 K, .int .i64 N, .string S, .slice pe Ke ce, .slice pr 0 cr]) _ rfl rfl (by kernel_rfl) (by kernel_rfl) (by kernel_rfl) (fun _ _ _ h => h) (by rfl) (fun w' hw' => ?_) hS (listed' := #[true, true, true, true, true, true, false, false, false, false, false, false, false]) (by kernel_rfl) rfl ?_
                  · have f0 := (HBA.out.below hw').cell 0; have f1 := (HBA.out.below hw').cell 1; have f2 := (HBA.out.below hw').cell 2; have f3 := (HBA.out.below hw').cell 3; have f4 := (HBA.out.below hw').cell 4; go_simp
                  simp only [List.setIfInBounds_toArray, List.set_cons_zero, List.set_cons_succ]
                  refine rg_take 6 65 (.agg #[.int .i64 Kb, .int .i64 Nb, .string Sb, .slice qe Eb de, .slice qr 0 dr]) _ rfl rfl (by kernel_rfl) (by kernel_rfl) (by kernel_rfl) (fun _ _ _ h => h) (by rfl) (fun w' hw' => ?_) hS (listed' := #[true, true, true, true, true, true, true, false, false, false, false, false, false]) (by kernel_rfl) rfl ?_
                  · have f0 := (HBB.out.below hw').cell 0; have f1 := (HBB.out.below hw').cell 1; have f2 := (HBB.out.below hw').cell 2; have f3 := (HBB.out.below hw').cell 3; have f4 := (HBB.out.below hw').cell 4; go_simp
                  simp only [List.setIfInBounds_toArray, List.set_cons_zero, List.set_cons_succ]
                  refine rg_call 7 66 18 #[.agg #[.int .i64 K, .int .i64 N, .string S, .slice pe Ke ce, .slice pr 0 cr], .agg #[.int .i64 Kb, .int .i64 Nb, .string Sb, .slice qe Eb de, .slice qr 0 dr]] rfl rfl (by kernel_rfl) (by rfl) (listed' := #[true, true, true, true, true, true, true, true, false, false, false, false, false]) (by kernel_rfl) (fun W => by go_simp) ?_
                  refine (HSM.out _ hS).mono ?_
                  rintro e W1 ⟨⟨Q', rfl, hQ'⟩, hbW1⟩
                  obtain rfl : Q' = Q := by have := HQ2.out; cases Q <;> cases Q' <;> simp_all
                  have hS0 := hS
                  have hS : Below w8.heap.size w8 W1 := hS0.trans (hbW1.mono hS0.size)
                  clear hS0 hbW1 hQ'
                  refine ⟨_, rfl, hS, ?_⟩
                  simp only [List.setIfInBounds_toArray, List.set_cons_zero, List.set_cons_succ]
                  refine rg_take 8 67 (.bool true) _ rfl rfl (by kernel_rfl) (by kernel_rfl) (by kernel_rfl) (fun _ _ _ h => h) (by rfl) (fun w' hw' => ?_) hS (listed' := #[true, true, true, true, true, true, true, true, true, false, false, false, false]) (by kernel_rfl) rfl ?_
                  · go_simp <;> simp
                  simp only [List.setIfInBounds_toArray, List.set_cons_zero, List.set_cons_succ]
                  refine rg_take 9 68 (.bool true) _ rfl rfl (by kernel_rfl) (by kernel_rfl) (by kernel_rfl) (fun _ _ _ h => h) (by rfl) (fun w' hw' => ?_) hS (listed' := #[true, true, true, true, true, true, true, true, true, true, false, false, false]) (by kernel_rfl) rfl ?_
                  · go_simp
                  simp only [List.setIfInBounds_toArray, List.set_cons_zero, List.set_cons_succ]
                  refine rg_call 10 69 10 #[] rfl rfl (by kernel_rfl) (by rfl) (listed' := #[true, true, true, true, true, true, true, true, true, true, true, false, false]) (by kernel_rfl) (fun W => by go_simp) ?_
                  refine (eawake_any _).mono ?_
                  rintro e W2 ⟨rfl, hbW2⟩
                  have hS0 := hS
                  have hS : Below w8.heap.size w8 W2 := hS0.trans (hbW2.mono hS0.size)
                  clear hS0 hbW2
                  refine ⟨_, rfl, hS, ?_⟩
                  simp only [List.setIfInBounds_toArray, List.set_cons_zero, List.set_cons_succ]
                  refine rg_take 11 70 (.bool true) _ rfl rfl (by kernel_rfl) (by kernel_rfl) (by kernel_rfl) (fun _ _ _ h => h) (by rfl) (fun w' hw' => ?_) hS (listed' := #[true, true, true, true, true, true, true, true, true, true, true, true, false]) (by kernel_rfl) rfl ?_
                  · go_simp
                  simp only [List.setIfInBounds_toArray, List.set_cons_zero, List.set_cons_succ]
                  refine rg_take 12 4 (.bool true) _ rfl rfl (by kernel_rfl) (by kernel_rfl) (by kernel_rfl) (fun _ _ _ h => h) (by rfl) (fun w' hw' => ?_) hS (listed' := #[true, true, true, true, true, true, true, true, true, true, true, true, true]) (by kernel_rfl) rfl ?_
                  · go_simp
                  simp only [List.setIfInBounds_toArray, List.set_cons_zero, List.set_cons_succ]
                  refine wpAnyH_done (by kernel_rfl) ?_ _
                  have hbe : Below w.heap.size w W2 := hbw8.trans (hS.mono hbw8.size)
                  clear hS
                  go_wp2_with fail
                  go_ret
                  exact ⟨rfl, hbe⟩
end Go.Proofs.Ytkmdaopmmfdpgaa

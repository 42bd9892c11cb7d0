/- ValueChecks answers true at every two trees. -/
import Derived.Test.YtgedelgdjcnogaaVsSameP
import Derived.Test.YtgedelgdjcnogaaVcCheck
import Derived.Test.YtgedelgdjcnogaaVrCheck
import Derived.Test.YtgedelgdjcnogaaTvOpen
import Derived.Test.YtgedelgdjcnogaaTvCopy
import Derived.Test.YtgedelgdjcnogaaTvSmall
import Derived.Test.YtgedelgdjcnogaaTvRSame
import Derived.Test.YtgedelgdjcnogaaVaTree
namespace Go.Proofs.Ytgedelgdjcnogaa
open Go.ChangeShapes Go.WideShapes Go.ChangeAt Go.RowKit
set_option linter.unusedVariables false
set_option linter.unusedSimpArgs false
set_option maxRecDepth 20000

theorem TrV.v2k {n B : Nat} {w : World} {v : Value} {t : Tr} {bs : List Nat} (h : TrV n B w v t bs) : TrV2 n w v t := by
  obtain ⟨r, h1, h2, _⟩ := h
  exact ⟨r, h1, h2.trQ⟩
theorem TrV.kpK {n B : Nat} {w w' : World} {v : Value} {t : Tr} {bs : List Nat} (h : TrV n B w v t bs) (hk : Kp (fun q => q < B) w w') : TrV n B w' v t bs := by
  obtain ⟨r, h1, h2, h3⟩ := h
  exact ⟨r, h1, h2.sm fun k hb => hk.block k (h3.2 k hb).2 (by have := (h3.2 k hb).1; omega), h3.mono hk.size⟩
theorem TrV.belowK {n B : Nat} {w w' : World} {v : Value} {t : Tr} {bs : List Nat} (h : TrV n B w v t bs) (hk : Below w.heap.size w w') : TrV n B w' v t bs := h.kpK (Kp.ofBelow hk)
def st5K (w : World) (g : Nat) (a b c d e : Value) : World := ((((w.setCell ⟨g, 0, none⟩ a).setCell ⟨g, 1, none⟩ b).setCell ⟨g, 2, none⟩ c).setCell ⟨g, 3, none⟩ d).setCell ⟨g, 4, none⟩ e
theorem Kp.st5K {S : Nat → Prop} {a w : World} {g : Nat} (h : Kp S a w) (hp : g < a.heap.size → S g) (x0 x1 x2 x3 x4 : Value) : Kp S a (st5K w g x0 x1 x2 x3 x4) :=
  Kp.setCell (p := ⟨g, 4, none⟩) (Kp.setCell (p := ⟨g, 3, none⟩) (Kp.setCell (p := ⟨g, 2, none⟩) (Kp.setCell (p := ⟨g, 1, none⟩) (Kp.setCell (p := ⟨g, 0, none⟩) h hp _) hp _) hp _) hp _) hp _
theorem Blk.st5K {w : World} {g : Nat} {y0 y1 y2 y3 y4 : Value} {t : TypeId} (h : Blk w g #[y0, y1, y2, y3, y4] t) (x0 x1 x2 x3 x4 : Value) : Blk (st5K w g x0 x1 x2 x3 x4) g #[x0, x1, x2, x3, x4] t :=
  ((((h.set 0 x0 (cs' := #[x0, y1, y2, y3, y4]) rfl).set 1 x1 (cs' := #[x0, x1, y2, y3, y4]) rfl).set 2 x2 (cs' := #[x0, x1, x2, y3, y4]) rfl).set 3 x3 (cs' := #[x0, x1, x2, x3, y4]) rfl).set 4 x4 rfl
theorem leaf_two {w4 W A C : World} {s t : Tr} {D1 D3 b13 b14 : Nat} {ds bs : List Nat} {u0 u1 u2 u3 u4 x0 x1 x2 x3 x4 : Value} (B13 : Blk W b13 #[.int .i64 0, .int .i64 0, .string ⟨#[]⟩, .slice none 0 0, .slice none 0 0] 25) (B14 : Blk W b14 #[.int .i64 0, .int .i64 0, .string ⟨#[]⟩, .slice none 0 0, .slice none 0 0] 25) (hne : b13 ≠ b14) (C1 : TrV 14 D1 A (.agg #[u0, u1, u2, u3, u4]) s ds) (F1 : Kp (fun q => q < D1) A W) (h1 : b13 < A.heap.size → b13 < D1) (h2 : b14 < A.heap.size → b14 < D1)
    (C3 : TrV 14 D3 C (.agg #[x0, x1, x2, x3, x4]) t bs) (F3 : Kp (fun q => q < D3) C W) (h3 : b13 < C.heap.size → b13 < D3) (h4 : b14 < C.heap.size → b14 < D3) (hS : Below w4.heap.size w4 W) (G13 : w4.heap.size ≤ b13) (G14 : w4.heap.size ≤ b14) :
    Below w4.heap.size w4 (st5K W b13 u0 u1 u2 u3 u4) ∧ Blk (st5K W b13 u0 u1 u2 u3 u4) b14 #[.int .i64 0, .int .i64 0, .string ⟨#[]⟩, .slice none 0 0, .slice none 0 0] 25 ∧ Hid (Blk (st5K (st5K W b13 u0 u1 u2 u3 u4) b14 x0 x1 x2 x3 x4) b13 #[u0, u1, u2, u3, u4] 25 ∧ Blk (st5K (st5K W b13 u0 u1 u2 u3 u4) b14 x0 x1 x2 x3 x4) b14 #[x0, x1, x2, x3, x4] 25 ∧ (∃ D ds, TrV 14 D (st5K (st5K W b13 u0 u1 u2 u3 u4) b14 x0 x1 x2 x3 x4) (.agg #[u0, u1, u2, u3, u4]) s ds) ∧ (∃ D ds, TrV 14 D (st5K (st5K W b13 u0 u1 u2 u3 u4) b14 x0 x1 x2 x3 x4) (.agg #[x0, x1, x2, x3, x4]) t ds) ∧ Below w4.heap.size w4 (st5K (st5K W b13 u0 u1 u2 u3 u4) b14 x0 x1 x2 x3 x4)) := by
  have kp6 : Kp (fun q => q = b13) W (st5K W b13 u0 u1 u2 u3 u4) := (Kp.refl (fun q => q = b13) W).st5K (fun _ => rfl) _ _ _ _ _
  have B136 := B13.st5K u0 u1 u2 u3 u4
  have B146 := B14.kp kp6 (Ne.symm hne)
  have hS6 : Below w4.heap.size w4 (st5K W b13 u0 u1 u2 u3 u4) := hS.trans (kp6.toBelow hS.size (fun k e => by rw [e]; exact G13))
  have kp7 : Kp (fun q => q = b14) (st5K W b13 u0 u1 u2 u3 u4) (st5K (st5K W b13 u0 u1 u2 u3 u4) b14 x0 x1 x2 x3 x4) := (Kp.refl (fun q => q = b14) _).st5K (fun _ => rfl) _ _ _ _ _
  exact ⟨hS6, B146, B136.kp kp7 hne, B146.st5K x0 x1 x2 x3 x4, ⟨D1, ds, C1.kpK ((F1.st5K h1 _ _ _ _ _).st5K h2 _ _ _ _ _)⟩, ⟨D3, bs, C3.kpK ((F3.st5K h3 _ _ _ _ _).st5K h4 _ _ _ _ _)⟩, hS6.trans (kp7.toBelow hS6.size (fun k e => by rw [e]; exact G14))⟩
theorem TrV.form5 {n B : Nat} {w : World} {v : Value} {t : Tr} {bs : List Nat} (h : TrV n B w v t bs) : ∃ pe ce pr cr, v = .agg #[.int .i64 t.kind, .int .i64 t.n, .string t.s, .slice pe t.es.length ce, .slice pr t.rest.length cr] := by
  obtain ⟨m, ve, vr, -, rfl, -, -, -, -, ra, ea⟩ := h.tr.open
  obtain ⟨pe, ce, rfl, -⟩ := RowP.open ea
  obtain ⟨pr, cr, rfl, -⟩ := rest_holds ra
  exact ⟨pe, ce, pr, cr, rfl⟩
set_option maxHeartbeats 8000000 in
theorem valueChecks_walk (va : Value) (na : Nat) (a : Tr) (vb : Value) (nb : Nat) (b : Tr) (w : World) (ha : TrIn na w va a) (hb : TrIn nb w vb b) :
    Calls Try.prog 3 #[va, vb] w fun e w' => e = .returned (.bool true) ∧ Below w.heap.size w w' := by
  have HS1 : Hid (∀ W, Below w.heap.size w W → Calls Try.prog 9 #[va] W fun e w' => SmallP a va W e ∧ Below W.heap.size W w') := fun W hW => small_any na a va W (ha.below hW)
  have HS2 : Hid (∀ W, Below w.heap.size w W → Calls Try.prog 9 #[vb] W fun e w' => SmallP b vb W e ∧ Below W.heap.size W w') := fun W hW => small_any nb b vb W (hb.below hW)
  obtain ⟨m, ve, vr, -, rfl, -, -, -, -, ra, ea⟩ := ha.open
  obtain ⟨pe, ce, rfl, -⟩ := RowP.open ea
  obtain ⟨pr, cr, rfl, -⟩ := rest_holds ra
  obtain ⟨m', ve', vr', -, rfl, -, -, -, -, rb, eb⟩ := hb.open
  obtain ⟨qe, de, rfl, -⟩ := RowP.open eb
  obtain ⟨qr, dr, rfl, -⟩ := rest_holds rb
  clear ea ra eb rb ha hb
  obtain ⟨Ke, hKe⟩ : ∃ z, a.es.length = z := ⟨_, rfl⟩
  obtain ⟨Kr, hKr⟩ : ∃ z, a.rest.length = z := ⟨_, rfl⟩
  obtain ⟨K, hK⟩ : ∃ z, a.kind = z := ⟨_, rfl⟩
  obtain ⟨N, hN⟩ : ∃ z, a.n = z := ⟨_, rfl⟩
  obtain ⟨S, hS⟩ : ∃ z, a.s = z := ⟨_, rfl⟩
  have HK : Hid (a.es.length = Ke ∧ a.rest.length = Kr ∧ a.kind = K ∧ a.n = N ∧ a.s = S) := ⟨hKe, hKr, hK, hN, hS⟩
  rw [hKe, hKr, hK, hN, hS] at HS1 ⊢
  clear hK hN hS hKe hKr
  obtain ⟨Eb, hKe⟩ : ∃ z, b.es.length = z := ⟨_, rfl⟩
  obtain ⟨Rb, hKr⟩ : ∃ z, b.rest.length = z := ⟨_, rfl⟩
  obtain ⟨Kb, hK⟩ : ∃ z, b.kind = z := ⟨_, rfl⟩
  obtain ⟨Nb, hN⟩ : ∃ z, b.n = z := ⟨_, rfl⟩
  obtain ⟨Sb, hS⟩ : ∃ z, b.s = z := ⟨_, rfl⟩
  have HKB : Hid (b.es.length = Eb ∧ b.rest.length = Rb ∧ b.kind = Kb ∧ b.n = Nb ∧ b.s = Sb) := ⟨hKe, hKr, hK, hN, hS⟩
  rw [hKe, hKr, hK, hN, hS] at HS2 ⊢
  clear hK hN hS hKe hKr
  have al : Below w.heap.size w ((w.alloc (Obj.cells #[.int .i64 K, .int .i64 N, .string S, .slice pe Ke ce, .slice pr Kr cr] 25)).alloc (Obj.cells #[.int .i64 Kb, .int .i64 Nb, .string Sb, .slice qe Eb de, .slice qr Rb dr] 25)) := ((Below.refl _ _).alloc (Nat.le_refl _) _).alloc (by simp) _
  have BA0 : Blk ((w.alloc (Obj.cells #[.int .i64 K, .int .i64 N, .string S, .slice pe Ke ce, .slice pr Kr cr] 25)).alloc (Obj.cells #[.int .i64 Kb, .int .i64 Nb, .string Sb, .slice qe Eb de, .slice qr Rb dr] 25)) w.heap.size #[.int .i64 K, .int .i64 N, .string S, .slice pe Ke ce, .slice pr Kr cr] 25 := (Blk.new w _ _).below ((Below.refl _ _).alloc (Nat.le_refl _) _)
  have BB0 : Blk ((w.alloc (Obj.cells #[.int .i64 K, .int .i64 N, .string S, .slice pe Ke ce, .slice pr Kr cr] 25)).alloc (Obj.cells #[.int .i64 Kb, .int .i64 Nb, .string Sb, .slice qe Eb de, .slice qr Rb dr] 25)) (w.heap.size + 1) #[.int .i64 Kb, .int .i64 Nb, .string Sb, .slice qe Eb de, .slice qr Rb dr] 25 := by
    have := Blk.new (w.alloc (Obj.cells #[.int .i64 K, .int .i64 N, .string S, .slice pe Ke ce, .slice pr Kr cr] 25)) #[.int .i64 Kb, .int .i64 Nb, .string Sb, .slice qe Eb de, .slice qr Rb dr] 25
    rwa [show (w.alloc (Obj.cells #[.int .i64 K, .int .i64 N, .string S, .slice pe Ke ce, .slice pr Kr cr] 25)).heap.size = w.heap.size + 1 from by simp] at this
  have HBA0 : Hid (Blk ((w.alloc (Obj.cells #[.int .i64 K, .int .i64 N, .string S, .slice pe Ke ce, .slice pr Kr cr] 25)).alloc (Obj.cells #[.int .i64 Kb, .int .i64 Nb, .string Sb, .slice qe Eb de, .slice qr Rb dr] 25)) w.heap.size #[.int .i64 K, .int .i64 N, .string S, .slice pe Ke ce, .slice pr Kr cr] 25) := BA0
  have HBB0 : Hid (Blk ((w.alloc (Obj.cells #[.int .i64 K, .int .i64 N, .string S, .slice pe Ke ce, .slice pr Kr cr] 25)).alloc (Obj.cells #[.int .i64 Kb, .int .i64 Nb, .string Sb, .slice qe Eb de, .slice qr Rb dr] 25)) (w.heap.size + 1) #[.int .i64 Kb, .int .i64 Nb, .string Sb, .slice qe Eb de, .slice qr Rb dr] 25) := BB0
  clear BA0 BB0
  go_enter Try.func3, Try.ntmps3
  go_wp2_with fail
  refine (HS1.out _ al).mono ?_
  rintro e w1 ⟨⟨R, rfl, hR⟩, hb1⟩
  have hbw1 : Below w.heap.size w w1 := al.trans (hb1.mono al.size)
  have BA1 : Blk w1 w.heap.size #[.int .i64 K, .int .i64 N, .string S, .slice pe Ke ce, .slice pr Kr cr] 25 := HBA0.out.below hb1
  have BB1 : Blk w1 (w.heap.size + 1) #[.int .i64 Kb, .int .i64 Nb, .string Sb, .slice qe Eb de, .slice qr Rb dr] 25 := HBB0.out.below hb1
  have HR1 : Hid (R = true → SmN 14 a ∧ cntN 14 a ≤ 200 ∧ TrIn 14 w1 (.agg #[.int .i64 K, .int .i64 N, .string S, .slice pe Ke ce, .slice pr Kr cr]) a) := fun hr => ⟨(hR hr).1, (hR hr).2.1, (hR hr).2.2.below hb1⟩
  clear hR hb1 al HBA0 HBB0 HS1
  cases R with
  | false =>
    clear BA1 BB1
    go_wp2_with fail
    refine (awake_any _).mono ?_
    rintro ee wz ⟨rfl, hwz⟩
    have hbz : Below w.heap.size w wz := hbw1.trans (hwz.mono hbw1.size)
    go_wp2_with fail
    go_ret
    exact ⟨rfl, hbz⟩
  | true =>
    obtain ⟨ga1, ga2, ga3⟩ := HR1.out rfl
    have HTA : Hid (TrIn 14 w1 (.agg #[.int .i64 K, .int .i64 N, .string S, .slice pe Ke ce, .slice pr Kr cr]) a) := ga3
    have HSA : Hid (SmN 14 a ∧ cntN 14 a ≤ 200) := ⟨ga1, ga2⟩
    clear ga1 ga2 ga3 HR1
    have t0 := (BB1.cell 0).trans rfl
    have t1 := (BB1.cell 1).trans rfl
    have t2 := (BB1.cell 2).trans rfl
    have t3 := (BB1.cell 3).trans rfl
    have t4 := (BB1.cell 4).trans rfl
    go_wp2_with fail
    clear t0 t1 t2 t3 t4
    refine (HS2.out _ hbw1).mono ?_
    rintro e w4 ⟨⟨R, rfl, hR⟩, hb4⟩
    have hbw4 : Below w.heap.size w w4 := hbw1.trans (hb4.mono hbw1.size)
    have BA4 : Blk w4 w.heap.size #[.int .i64 K, .int .i64 N, .string S, .slice pe Ke ce, .slice pr Kr cr] 25 := BA1.below hb4
    have BB4 : Blk w4 (w.heap.size + 1) #[.int .i64 Kb, .int .i64 Nb, .string Sb, .slice qe Eb de, .slice qr Rb dr] 25 := BB1.below hb4
    have HIA : Hid (TrIn 14 w4 (.agg #[.int .i64 K, .int .i64 N, .string S, .slice pe Ke ce, .slice pr Kr cr]) a) := HTA.out.below hb4
    have HR1 : Hid (R = true → SmN 14 b ∧ cntN 14 b ≤ 200 ∧ TrIn 14 w4 (.agg #[.int .i64 Kb, .int .i64 Nb, .string Sb, .slice qe Eb de, .slice qr Rb dr]) b) := fun hr => ⟨(hR hr).1, (hR hr).2.1, (hR hr).2.2.below hb4⟩
    clear hR hb4 HS2 BA1 BB1 HTA
    cases R with
    | false =>
      clear BA4 BB4
      go_wp2_with fail
      refine (awake_any _).mono ?_
      rintro ee wz ⟨rfl, hwz⟩
      have hbz : Below w.heap.size w wz := hbw4.trans (hwz.mono hbw4.size)
      go_wp2_with fail
      go_ret
      exact ⟨rfl, hbz⟩
    | true =>
      obtain ⟨ga1, ga2, ga3⟩ := HR1.out rfl
      have HIB : Hid (TrIn 14 w4 (.agg #[.int .i64 Kb, .int .i64 Nb, .string Sb, .slice qe Eb de, .slice qr Rb dr]) b) := ga3
      have HSB : Hid (SmN 14 b ∧ cntN 14 b ≤ 200) := ⟨ga1, ga2⟩
      clear ga1 ga2 ga3 HR1 hbw1
      obtain ⟨b0, hb0⟩ : ∃ z, w.heap.size = z := ⟨_, rfl⟩
      rw [hb0] at BA4 BB4
      simp only [hb0]
      have HB0 : Hid (w.heap.size = b0) := hb0
      clear hb0
      have HC1 : Hid (∀ W, Below w4.heap.size w4 W → Calls Try.prog 11 #[.agg #[.int .i64 K, .int .i64 N, .string S, .slice pe Ke ce, .slice pr Kr cr]] W (CopyP 14 a W)) := fun W hW => copy_any 14 a _ W (HIA.out.below hW) HSA.out.1
      have HC3 : Hid (∀ W, Below w4.heap.size w4 W → Calls Try.prog 11 #[.agg #[.int .i64 Kb, .int .i64 Nb, .string Sb, .slice qe Eb de, .slice qr Rb dr]] W (CopyP 14 b W)) := fun W hW => copy_any 14 b _ W (HIB.out.below hW) HSB.out.1
      go_upto_region 3 with fail
      go_cut [5, 6] from 16 to 20 (fun p5 p6 wx => ∃ (b13 b14 : Nat) (pe2 pr2 qe2 qr2 : Option Addr) (ce2 cr2 de2 dr2 : Nat), p5 = .pointer (some ⟨b13, 0, none⟩) ∧ p6 = .pointer (some ⟨b14, 0, none⟩) ∧ Hid (Blk wx b13 #[.int .i64 K, .int .i64 N, .string S, .slice pe2 Ke ce2, .slice pr2 Kr cr2] 25 ∧ Blk wx b14 #[.int .i64 Kb, .int .i64 Nb, .string Sb, .slice qe2 Eb de2, .slice qr2 Rb dr2] 25 ∧ (∃ D ds, TrV 14 D wx (.agg #[.int .i64 K, .int .i64 N, .string S, .slice pe2 Ke ce2, .slice pr2 Kr cr2]) a ds) ∧ (∃ D ds, TrV 14 D wx (.agg #[.int .i64 Kb, .int .i64 Nb, .string Sb, .slice qe2 Eb de2, .slice qr2 Rb dr2]) b ds) ∧ Below w4.heap.size w4 wx))
      case first =>
        refine M_region (T := fun W => Below w4.heap.size w4 W) (m := 7) (by kernel_rfl) ?_
        have hS : Below w4.heap.size w4 w4.drew := (Below.refl _ _).drew
        refine M_take 0 16 (.agg #[.int .i64 K, .int .i64 N, .string S, .slice pe Ke ce, .slice pr Kr cr]) _ rfl rfl (by kernel_rfl) (by kernel_rfl) (by kernel_rfl) (by kernel_rfl) (by kernel_rfl) (fun _ _ _ h => h) (by rfl) (fun w' hw' => ?_) hS (listed' := #[true, false, false, false, false, false, false, false]) (by kernel_rfl) rfl ?_
        · have f0 := ((BA4.below hw').cell 0).trans rfl; have f1 := ((BA4.below hw').cell 1).trans rfl; have f2 := ((BA4.below hw').cell 2).trans rfl; have f3 := ((BA4.below hw').cell 3).trans rfl; have f4 := ((BA4.below hw').cell 4).trans rfl; go_simp
        simp only [List.setIfInBounds_toArray, List.set_cons_zero, List.set_cons_succ]
        refine M_take 2 18 (.agg #[.int .i64 Kb, .int .i64 Nb, .string Sb, .slice qe Eb de, .slice qr Rb dr]) _ rfl rfl (by kernel_rfl) (by kernel_rfl) (by kernel_rfl) (by kernel_rfl) (by kernel_rfl) (fun _ _ _ h => h) (by rfl) (fun w' hw' => ?_) hS (listed' := #[true, false, true, false, false, false, false, false]) (by kernel_rfl) rfl ?_
        · have f0 := ((BB4.below hw').cell 0).trans rfl; have f1 := ((BB4.below hw').cell 1).trans rfl; have f2 := ((BB4.below hw').cell 2).trans rfl; have f3 := ((BB4.below hw').cell 3).trans rfl; have f4 := ((BB4.below hw').cell 4).trans rfl; go_simp
        simp only [List.setIfInBounds_toArray, List.set_cons_zero, List.set_cons_succ]
        generalize w4.drew = U0 at *
        refine M_fork3 1 4 5 17 5 6 11 #[.agg #[.int .i64 K, .int .i64 N, .string S, .slice pe Ke ce, .slice pr Kr cr]] (.pointer (some ⟨U0.heap.size, 0, none⟩)) (.pointer (some ⟨U0.heap.size, 0, none⟩)) (U0.alloc (Obj.cells #[.int .i64 0, .int .i64 0, .string ⟨#[]⟩, .slice none 0 0, .slice none 0 0] 25)) (U0.alloc (Obj.cells #[.int .i64 0, .int .i64 0, .string ⟨#[]⟩, .slice none 0 0, .slice none 0 0] 25)) rfl rfl rfl rfl rfl rfl (by kernel_rfl) (by rfl) (by rfl) (by rfl) (by go_simp) (by go_simp) (by go_simp) ?_ (hS.trans (((Below.refl _ _).alloc (Nat.le_refl _) _).mono hS.size)) ?_ (hS.trans (((Below.refl _ _).alloc (Nat.le_refl _) _).mono hS.size)) ?_
        · skip
          obtain ⟨D1, hD1⟩ : ∃ z, U0.heap.size = z := ⟨_, rfl⟩
          refine Calls.mono (HC1.out _ hS) ?_
          rintro ee U1 ⟨vq1, bs1, rfl, C1, hbU⟩
          obtain ⟨pe2, ce2, pr2, cr2, hvt⟩ := C1.form5
          rw [HK.out.1, HK.out.2.1, HK.out.2.2.1, HK.out.2.2.2.1, HK.out.2.2.2.2] at hvt
          subst hvt
          rw [hD1] at C1
          have hS0 := hS
          have hS : Below w4.heap.size w4 U1 := hS0.trans (hbU.mono hS0.size)
          have F1 : Kp (fun q => q < D1) U1 U1 := Kp.refl _ _
          clear hS0 hbU hD1
          refine ⟨_, rfl, hS, ?_⟩
          simp only [List.setIfInBounds_toArray, List.set_cons_zero, List.set_cons_succ]
          refine M_fork3 3 4 5 19 5 6 11 #[.agg #[.int .i64 Kb, .int .i64 Nb, .string Sb, .slice qe Eb de, .slice qr Rb dr]] (.pointer (some ⟨U1.heap.size, 0, none⟩)) (.pointer (some ⟨U1.heap.size, 0, none⟩)) (U1.alloc (Obj.cells #[.int .i64 0, .int .i64 0, .string ⟨#[]⟩, .slice none 0 0, .slice none 0 0] 25)) (U1.alloc (Obj.cells #[.int .i64 0, .int .i64 0, .string ⟨#[]⟩, .slice none 0 0, .slice none 0 0] 25)) rfl rfl rfl rfl rfl rfl (by kernel_rfl) (by rfl) (by rfl) (by rfl) (by go_simp) (by go_simp) (by go_simp) ?_ (hS.trans (((Below.refl _ _).alloc (Nat.le_refl _) _).mono hS.size)) ?_ (hS.trans (((Below.refl _ _).alloc (Nat.le_refl _) _).mono hS.size)) ?_
          · skip
            obtain ⟨D3, hD3⟩ : ∃ z, U1.heap.size = z := ⟨_, rfl⟩
            refine Calls.mono (HC3.out _ hS) ?_
            rintro ee U2 ⟨vq3, bs3, rfl, C3, hbU⟩
            obtain ⟨qe2, de2, qr2, dr2, hvt⟩ := C3.form5
            rw [HKB.out.1, HKB.out.2.1, HKB.out.2.2.1, HKB.out.2.2.2.1, HKB.out.2.2.2.2] at hvt
            subst hvt
            rw [hD3] at C3
            have hS0 := hS
            have hS : Below w4.heap.size w4 U2 := hS0.trans (hbU.mono hS0.size)
            replace F1 := F1.trans (Kp.ofBelow hbU)
            have F3 : Kp (fun q => q < D3) U2 U2 := Kp.refl _ _
            clear hS0 hbU hD3
            refine ⟨_, rfl, hS, ?_⟩
            simp only [List.setIfInBounds_toArray, List.set_cons_zero, List.set_cons_succ]
            refine M_forkAA 4 5 5 6 (.pointer (some ⟨U2.heap.size, 0, none⟩)) (.pointer (some ⟨U2.heap.size, 0, none⟩)) (U2.alloc (Obj.cells #[.int .i64 0, .int .i64 0, .string ⟨#[]⟩, .slice none 0 0, .slice none 0 0] 25)) (U2.alloc (Obj.cells #[.int .i64 0, .int .i64 0, .string ⟨#[]⟩, .slice none 0 0, .slice none 0 0] 25)) rfl rfl rfl rfl (by kernel_rfl) (by rfl) (by rfl) (by go_simp) (by go_simp) (hS.trans (((Below.refl _ _).alloc (Nat.le_refl _) _).mono hS.size)) ?_ (hS.trans (((Below.refl _ _).alloc (Nat.le_refl _) _).mono hS.size)) ?_
            · skip
              have hbU : Below U2.heap.size U2 (U2.alloc (Obj.cells #[.int .i64 0, .int .i64 0, .string ⟨#[]⟩, .slice none 0 0, .slice none 0 0] 25)) := (Below.refl _ _).alloc (Nat.le_refl _) _
              obtain ⟨b13, hbk⟩ : ∃ z, U2.heap.size = z := ⟨_, rfl⟩
              have B13 : Blk (U2.alloc (Obj.cells #[.int .i64 0, .int .i64 0, .string ⟨#[]⟩, .slice none 0 0, .slice none 0 0] 25)) b13 #[.int .i64 0, .int .i64 0, .string ⟨#[]⟩, .slice none 0 0, .slice none 0 0] 25 := by rw [← hbk]; exact Blk.new U2 _ _
              have G13 : w4.heap.size ≤ b13 := by rw [← hbk]; exact hS.size
              have HE41 : Hid (U1.heap.size ≤ b13) := (by rw [← hbk]; exact F1.size : U1.heap.size ≤ b13)
              have HE43 : Hid (U2.heap.size ≤ b13) := (by rw [← hbk]; exact F3.size : U2.heap.size ≤ b13)
              have hS0 := hS
              have hS : Below w4.heap.size w4 (U2.alloc (Obj.cells #[.int .i64 0, .int .i64 0, .string ⟨#[]⟩, .slice none 0 0, .slice none 0 0] 25)) := hS0.trans (hbU.mono hS0.size)
              replace F1 := F1.trans (Kp.ofBelow hbU)
              replace F3 := F3.trans (Kp.ofBelow hbU)
              clear hS0 hbU
              simp only [List.setIfInBounds_toArray, List.set_cons_zero, List.set_cons_succ]
              simp only [hbk]
              clear hbk
              generalize (U2.alloc (Obj.cells #[.int .i64 0, .int .i64 0, .string ⟨#[]⟩, .slice none 0 0, .slice none 0 0] 25)) = U3 at *
              refine M_run 5 6 (.pointer (some ⟨U3.heap.size, 0, none⟩)) (U3.alloc (Obj.cells #[.int .i64 0, .int .i64 0, .string ⟨#[]⟩, .slice none 0 0, .slice none 0 0] 25)) rfl rfl (by kernel_rfl) (by rfl) (listed' := #[true, true, true, true, true, true, false, false]) (by kernel_rfl) (by go_simp) (hS.trans (((Below.refl _ _).alloc (Nat.le_refl _) _).mono hS.size)) ?_
              have hbU : Below U3.heap.size U3 (U3.alloc (Obj.cells #[.int .i64 0, .int .i64 0, .string ⟨#[]⟩, .slice none 0 0, .slice none 0 0] 25)) := (Below.refl _ _).alloc (Nat.le_refl _) _
              obtain ⟨b14, hbk⟩ : ∃ z, U3.heap.size = z := ⟨_, rfl⟩
              have B14 : Blk (U3.alloc (Obj.cells #[.int .i64 0, .int .i64 0, .string ⟨#[]⟩, .slice none 0 0, .slice none 0 0] 25)) b14 #[.int .i64 0, .int .i64 0, .string ⟨#[]⟩, .slice none 0 0, .slice none 0 0] 25 := by rw [← hbk]; exact Blk.new U3 _ _
              have G14 : w4.heap.size ≤ b14 := by rw [← hbk]; exact hS.size
              have HNE : Hid (b13 ≠ b14) := (by have := B13.lt; omega : b13 ≠ b14)
              have HE51 : Hid (U1.heap.size ≤ b14) := (by rw [← hbk]; exact F1.size : U1.heap.size ≤ b14)
              have HE53 : Hid (U2.heap.size ≤ b14) := (by rw [← hbk]; exact F3.size : U2.heap.size ≤ b14)
              have hS0 := hS
              have hS : Below w4.heap.size w4 (U3.alloc (Obj.cells #[.int .i64 0, .int .i64 0, .string ⟨#[]⟩, .slice none 0 0, .slice none 0 0] 25)) := hS0.trans (hbU.mono hS0.size)
              replace F1 := F1.trans (Kp.ofBelow hbU)
              replace F3 := F3.trans (Kp.ofBelow hbU)
              replace B13 := B13.below hbU
              clear hS0 hbU
              simp only [List.setIfInBounds_toArray, List.set_cons_zero, List.set_cons_succ]
              simp only [hbk]
              clear hbk
              generalize (U3.alloc (Obj.cells #[.int .i64 0, .int .i64 0, .string ⟨#[]⟩, .slice none 0 0, .slice none 0 0] 25)) = U4 at *
              have k0 := (B13.cell 0).trans rfl
              have z0 := B13.froz 0
              have k1 := (B13.cell 1).trans rfl
              have z1 := B13.froz 1
              have k2 := (B13.cell 2).trans rfl
              have z2 := B13.froz 2
              have k3 := (B13.cell 3).trans rfl
              have z3 := B13.froz 3
              have k4 := (B13.cell 4).trans rfl
              have z4 := B13.froz 4
              obtain ⟨hS6, B146, HRR⟩ := leaf_two B13 B14 HNE.out C1 F1 (fun h => absurd HE41.out (by omega)) (fun h => absurd HE51.out (by omega)) C3 F3 (fun h => absurd HE43.out (by omega)) (fun h => absurd HE53.out (by omega)) hS G13 G14
              refine M_storeT 6 (st5K U4 b13 (.int .i64 K) (.int .i64 N) (.string S) (.slice pe2 Ke ce2) (.slice pr2 Kr cr2)) rfl rfl (by kernel_rfl) (by rfl) (listed' := #[true, true, true, true, true, true, true, false]) (by kernel_rfl) (by unfold st5K; go_simp) hS6 ?_
              clear k0 z0 k1 z1 k2 z2 k3 z3 k4 z4 hS B13 B14 F1 F3
              generalize (st5K U4 b13 (.int .i64 K) (.int .i64 N) (.string S) (.slice pe2 Ke ce2) (.slice pr2 Kr cr2)) = V6 at *
              have k0 := (B146.cell 0).trans rfl
              have z0 := B146.froz 0
              have k1 := (B146.cell 1).trans rfl
              have z1 := B146.froz 1
              have k2 := (B146.cell 2).trans rfl
              have z2 := B146.froz 2
              have k3 := (B146.cell 3).trans rfl
              have z3 := B146.froz 3
              have k4 := (B146.cell 4).trans rfl
              have z4 := B146.froz 4
              refine M_store 7 (st5K V6 b14 (.int .i64 Kb) (.int .i64 Nb) (.string Sb) (.slice qe2 Eb de2) (.slice qr2 Rb dr2)) rfl rfl (by kernel_rfl) (by rfl) (listed' := #[true, true, true, true, true, true, true, true]) (by kernel_rfl) (by unfold st5K; go_simp) (by kernel_rfl) ?_
              refine M_done (by kernel_rfl) ?_ _
              clear k0 z0 k1 z1 k2 z2 k3 z3 k4 z4 B146 hS6
              go_wp2_with fail
              go_meet
              exact ⟨b13, b14, pe2, pr2, qe2, qr2, ce2, cr2, de2, dr2, rfl, rfl, HRR⟩
            · skip
              have hbU : Below U2.heap.size U2 (U2.alloc (Obj.cells #[.int .i64 0, .int .i64 0, .string ⟨#[]⟩, .slice none 0 0, .slice none 0 0] 25)) := (Below.refl _ _).alloc (Nat.le_refl _) _
              obtain ⟨b14, hbk⟩ : ∃ z, U2.heap.size = z := ⟨_, rfl⟩
              have B14 : Blk (U2.alloc (Obj.cells #[.int .i64 0, .int .i64 0, .string ⟨#[]⟩, .slice none 0 0, .slice none 0 0] 25)) b14 #[.int .i64 0, .int .i64 0, .string ⟨#[]⟩, .slice none 0 0, .slice none 0 0] 25 := by rw [← hbk]; exact Blk.new U2 _ _
              have G14 : w4.heap.size ≤ b14 := by rw [← hbk]; exact hS.size
              have HE51 : Hid (U1.heap.size ≤ b14) := (by rw [← hbk]; exact F1.size : U1.heap.size ≤ b14)
              have HE53 : Hid (U2.heap.size ≤ b14) := (by rw [← hbk]; exact F3.size : U2.heap.size ≤ b14)
              have hS0 := hS
              have hS : Below w4.heap.size w4 (U2.alloc (Obj.cells #[.int .i64 0, .int .i64 0, .string ⟨#[]⟩, .slice none 0 0, .slice none 0 0] 25)) := hS0.trans (hbU.mono hS0.size)
              replace F1 := F1.trans (Kp.ofBelow hbU)
              replace F3 := F3.trans (Kp.ofBelow hbU)
              clear hS0 hbU
              simp only [List.setIfInBounds_toArray, List.set_cons_zero, List.set_cons_succ]
              simp only [hbk]
              clear hbk
              generalize (U2.alloc (Obj.cells #[.int .i64 0, .int .i64 0, .string ⟨#[]⟩, .slice none 0 0, .slice none 0 0] 25)) = U5 at *
              refine M_run 4 5 (.pointer (some ⟨U5.heap.size, 0, none⟩)) (U5.alloc (Obj.cells #[.int .i64 0, .int .i64 0, .string ⟨#[]⟩, .slice none 0 0, .slice none 0 0] 25)) rfl rfl (by kernel_rfl) (by rfl) (listed' := #[true, true, true, true, true, true, false, false]) (by kernel_rfl) (by go_simp) (hS.trans (((Below.refl _ _).alloc (Nat.le_refl _) _).mono hS.size)) ?_
              have hbU : Below U5.heap.size U5 (U5.alloc (Obj.cells #[.int .i64 0, .int .i64 0, .string ⟨#[]⟩, .slice none 0 0, .slice none 0 0] 25)) := (Below.refl _ _).alloc (Nat.le_refl _) _
              obtain ⟨b13, hbk⟩ : ∃ z, U5.heap.size = z := ⟨_, rfl⟩
              have B13 : Blk (U5.alloc (Obj.cells #[.int .i64 0, .int .i64 0, .string ⟨#[]⟩, .slice none 0 0, .slice none 0 0] 25)) b13 #[.int .i64 0, .int .i64 0, .string ⟨#[]⟩, .slice none 0 0, .slice none 0 0] 25 := by rw [← hbk]; exact Blk.new U5 _ _
              have G13 : w4.heap.size ≤ b13 := by rw [← hbk]; exact hS.size
              have HNE : Hid (b13 ≠ b14) := (by have := B14.lt; omega : b13 ≠ b14)
              have HE41 : Hid (U1.heap.size ≤ b13) := (by rw [← hbk]; exact F1.size : U1.heap.size ≤ b13)
              have HE43 : Hid (U2.heap.size ≤ b13) := (by rw [← hbk]; exact F3.size : U2.heap.size ≤ b13)
              have hS0 := hS
              have hS : Below w4.heap.size w4 (U5.alloc (Obj.cells #[.int .i64 0, .int .i64 0, .string ⟨#[]⟩, .slice none 0 0, .slice none 0 0] 25)) := hS0.trans (hbU.mono hS0.size)
              replace F1 := F1.trans (Kp.ofBelow hbU)
              replace F3 := F3.trans (Kp.ofBelow hbU)
              replace B14 := B14.below hbU
              clear hS0 hbU
              simp only [List.setIfInBounds_toArray, List.set_cons_zero, List.set_cons_succ]
              simp only [hbk]
              clear hbk
              generalize (U5.alloc (Obj.cells #[.int .i64 0, .int .i64 0, .string ⟨#[]⟩, .slice none 0 0, .slice none 0 0] 25)) = U6 at *
              have k0 := (B13.cell 0).trans rfl
              have z0 := B13.froz 0
              have k1 := (B13.cell 1).trans rfl
              have z1 := B13.froz 1
              have k2 := (B13.cell 2).trans rfl
              have z2 := B13.froz 2
              have k3 := (B13.cell 3).trans rfl
              have z3 := B13.froz 3
              have k4 := (B13.cell 4).trans rfl
              have z4 := B13.froz 4
              obtain ⟨hS6, B146, HRR⟩ := leaf_two B13 B14 HNE.out C1 F1 (fun h => absurd HE41.out (by omega)) (fun h => absurd HE51.out (by omega)) C3 F3 (fun h => absurd HE43.out (by omega)) (fun h => absurd HE53.out (by omega)) hS G13 G14
              refine M_storeT 6 (st5K U6 b13 (.int .i64 K) (.int .i64 N) (.string S) (.slice pe2 Ke ce2) (.slice pr2 Kr cr2)) rfl rfl (by kernel_rfl) (by rfl) (listed' := #[true, true, true, true, true, true, true, false]) (by kernel_rfl) (by unfold st5K; go_simp) hS6 ?_
              clear k0 z0 k1 z1 k2 z2 k3 z3 k4 z4 hS B13 B14 F1 F3
              generalize (st5K U6 b13 (.int .i64 K) (.int .i64 N) (.string S) (.slice pe2 Ke ce2) (.slice pr2 Kr cr2)) = V6 at *
              have k0 := (B146.cell 0).trans rfl
              have z0 := B146.froz 0
              have k1 := (B146.cell 1).trans rfl
              have z1 := B146.froz 1
              have k2 := (B146.cell 2).trans rfl
              have z2 := B146.froz 2
              have k3 := (B146.cell 3).trans rfl
              have z3 := B146.froz 3
              have k4 := (B146.cell 4).trans rfl
              have z4 := B146.froz 4
              refine M_store 7 (st5K V6 b14 (.int .i64 Kb) (.int .i64 Nb) (.string Sb) (.slice qe2 Eb de2) (.slice qr2 Rb dr2)) rfl rfl (by kernel_rfl) (by rfl) (listed' := #[true, true, true, true, true, true, true, true]) (by kernel_rfl) (by unfold st5K; go_simp) (by kernel_rfl) ?_
              refine M_done (by kernel_rfl) ?_ _
              clear k0 z0 k1 z1 k2 z2 k3 z3 k4 z4 B146 hS6
              go_wp2_with fail
              go_meet
              exact ⟨b13, b14, pe2, pr2, qe2, qr2, ce2, cr2, de2, dr2, rfl, rfl, HRR⟩
          · skip
            have hbU : Below U1.heap.size U1 (U1.alloc (Obj.cells #[.int .i64 0, .int .i64 0, .string ⟨#[]⟩, .slice none 0 0, .slice none 0 0] 25)) := (Below.refl _ _).alloc (Nat.le_refl _) _
            obtain ⟨b13, hbk⟩ : ∃ z, U1.heap.size = z := ⟨_, rfl⟩
            have B13 : Blk (U1.alloc (Obj.cells #[.int .i64 0, .int .i64 0, .string ⟨#[]⟩, .slice none 0 0, .slice none 0 0] 25)) b13 #[.int .i64 0, .int .i64 0, .string ⟨#[]⟩, .slice none 0 0, .slice none 0 0] 25 := by rw [← hbk]; exact Blk.new U1 _ _
            have G13 : w4.heap.size ≤ b13 := by rw [← hbk]; exact hS.size
            have HE41 : Hid (U1.heap.size ≤ b13) := (by rw [← hbk]; exact F1.size : U1.heap.size ≤ b13)
            have hS0 := hS
            have hS : Below w4.heap.size w4 (U1.alloc (Obj.cells #[.int .i64 0, .int .i64 0, .string ⟨#[]⟩, .slice none 0 0, .slice none 0 0] 25)) := hS0.trans (hbU.mono hS0.size)
            replace F1 := F1.trans (Kp.ofBelow hbU)
            clear hS0 hbU
            simp only [List.setIfInBounds_toArray, List.set_cons_zero, List.set_cons_succ]
            simp only [hbk]
            clear hbk
            generalize (U1.alloc (Obj.cells #[.int .i64 0, .int .i64 0, .string ⟨#[]⟩, .slice none 0 0, .slice none 0 0] 25)) = U7 at *
            refine M_fork 3 5 19 6 11 #[.agg #[.int .i64 Kb, .int .i64 Nb, .string Sb, .slice qe Eb de, .slice qr Rb dr]] (.pointer (some ⟨U7.heap.size, 0, none⟩)) (U7.alloc (Obj.cells #[.int .i64 0, .int .i64 0, .string ⟨#[]⟩, .slice none 0 0, .slice none 0 0] 25)) rfl rfl rfl rfl (by kernel_rfl) (by rfl) (by rfl) (by go_simp) (by go_simp) ?_ (hS.trans (((Below.refl _ _).alloc (Nat.le_refl _) _).mono hS.size)) ?_
            · skip
              obtain ⟨D3, hD3⟩ : ∃ z, U7.heap.size = z := ⟨_, rfl⟩
              have E43 : b13 < D3 := by have := B13.lt; omega
              refine Calls.mono (HC3.out _ hS) ?_
              rintro ee U8 ⟨vq3, bs3, rfl, C3, hbU⟩
              obtain ⟨qe2, de2, qr2, dr2, hvt⟩ := C3.form5
              rw [HKB.out.1, HKB.out.2.1, HKB.out.2.2.1, HKB.out.2.2.2.1, HKB.out.2.2.2.2] at hvt
              subst hvt
              rw [hD3] at C3
              have hS0 := hS
              have hS : Below w4.heap.size w4 U8 := hS0.trans (hbU.mono hS0.size)
              replace F1 := F1.trans (Kp.ofBelow hbU)
              replace B13 := B13.below hbU
              have F3 : Kp (fun q => q < D3) U8 U8 := Kp.refl _ _
              clear hS0 hbU hD3
              refine ⟨_, rfl, hS, ?_⟩
              simp only [List.setIfInBounds_toArray, List.set_cons_zero, List.set_cons_succ]
              refine M_run 5 6 (.pointer (some ⟨U8.heap.size, 0, none⟩)) (U8.alloc (Obj.cells #[.int .i64 0, .int .i64 0, .string ⟨#[]⟩, .slice none 0 0, .slice none 0 0] 25)) rfl rfl (by kernel_rfl) (by rfl) (listed' := #[true, true, true, true, true, true, false, false]) (by kernel_rfl) (by go_simp) (hS.trans (((Below.refl _ _).alloc (Nat.le_refl _) _).mono hS.size)) ?_
              have hbU : Below U8.heap.size U8 (U8.alloc (Obj.cells #[.int .i64 0, .int .i64 0, .string ⟨#[]⟩, .slice none 0 0, .slice none 0 0] 25)) := (Below.refl _ _).alloc (Nat.le_refl _) _
              obtain ⟨b14, hbk⟩ : ∃ z, U8.heap.size = z := ⟨_, rfl⟩
              have B14 : Blk (U8.alloc (Obj.cells #[.int .i64 0, .int .i64 0, .string ⟨#[]⟩, .slice none 0 0, .slice none 0 0] 25)) b14 #[.int .i64 0, .int .i64 0, .string ⟨#[]⟩, .slice none 0 0, .slice none 0 0] 25 := by rw [← hbk]; exact Blk.new U8 _ _
              have G14 : w4.heap.size ≤ b14 := by rw [← hbk]; exact hS.size
              have HNE : Hid (b13 ≠ b14) := (by have := B13.lt; omega : b13 ≠ b14)
              have HE51 : Hid (U1.heap.size ≤ b14) := (by rw [← hbk]; exact F1.size : U1.heap.size ≤ b14)
              have HE53 : Hid (U8.heap.size ≤ b14) := (by rw [← hbk]; exact F3.size : U8.heap.size ≤ b14)
              have hS0 := hS
              have hS : Below w4.heap.size w4 (U8.alloc (Obj.cells #[.int .i64 0, .int .i64 0, .string ⟨#[]⟩, .slice none 0 0, .slice none 0 0] 25)) := hS0.trans (hbU.mono hS0.size)
              replace F1 := F1.trans (Kp.ofBelow hbU)
              replace F3 := F3.trans (Kp.ofBelow hbU)
              replace B13 := B13.below hbU
              clear hS0 hbU
              simp only [List.setIfInBounds_toArray, List.set_cons_zero, List.set_cons_succ]
              simp only [hbk]
              clear hbk
              generalize (U8.alloc (Obj.cells #[.int .i64 0, .int .i64 0, .string ⟨#[]⟩, .slice none 0 0, .slice none 0 0] 25)) = U9 at *
              have k0 := (B13.cell 0).trans rfl
              have z0 := B13.froz 0
              have k1 := (B13.cell 1).trans rfl
              have z1 := B13.froz 1
              have k2 := (B13.cell 2).trans rfl
              have z2 := B13.froz 2
              have k3 := (B13.cell 3).trans rfl
              have z3 := B13.froz 3
              have k4 := (B13.cell 4).trans rfl
              have z4 := B13.froz 4
              obtain ⟨hS6, B146, HRR⟩ := leaf_two B13 B14 HNE.out C1 F1 (fun h => absurd HE41.out (by omega)) (fun h => absurd HE51.out (by omega)) C3 F3 (fun _ => E43) (fun h => absurd HE53.out (by omega)) hS G13 G14
              refine M_storeT 6 (st5K U9 b13 (.int .i64 K) (.int .i64 N) (.string S) (.slice pe2 Ke ce2) (.slice pr2 Kr cr2)) rfl rfl (by kernel_rfl) (by rfl) (listed' := #[true, true, true, true, true, true, true, false]) (by kernel_rfl) (by unfold st5K; go_simp) hS6 ?_
              clear k0 z0 k1 z1 k2 z2 k3 z3 k4 z4 hS B13 B14 F1 F3
              generalize (st5K U9 b13 (.int .i64 K) (.int .i64 N) (.string S) (.slice pe2 Ke ce2) (.slice pr2 Kr cr2)) = V6 at *
              have k0 := (B146.cell 0).trans rfl
              have z0 := B146.froz 0
              have k1 := (B146.cell 1).trans rfl
              have z1 := B146.froz 1
              have k2 := (B146.cell 2).trans rfl
              have z2 := B146.froz 2
              have k3 := (B146.cell 3).trans rfl
              have z3 := B146.froz 3
              have k4 := (B146.cell 4).trans rfl
              have z4 := B146.froz 4
              refine M_store 7 (st5K V6 b14 (.int .i64 Kb) (.int .i64 Nb) (.string Sb) (.slice qe2 Eb de2) (.slice qr2 Rb dr2)) rfl rfl (by kernel_rfl) (by rfl) (listed' := #[true, true, true, true, true, true, true, true]) (by kernel_rfl) (by unfold st5K; go_simp) (by kernel_rfl) ?_
              refine M_done (by kernel_rfl) ?_ _
              clear k0 z0 k1 z1 k2 z2 k3 z3 k4 z4 B146 hS6
              go_wp2_with fail
              go_meet
              exact ⟨b13, b14, pe2, pr2, qe2, qr2, ce2, cr2, de2, dr2, rfl, rfl, HRR⟩
            · skip
              have hbU : Below U7.heap.size U7 (U7.alloc (Obj.cells #[.int .i64 0, .int .i64 0, .string ⟨#[]⟩, .slice none 0 0, .slice none 0 0] 25)) := (Below.refl _ _).alloc (Nat.le_refl _) _
              obtain ⟨b14, hbk⟩ : ∃ z, U7.heap.size = z := ⟨_, rfl⟩
              have B14 : Blk (U7.alloc (Obj.cells #[.int .i64 0, .int .i64 0, .string ⟨#[]⟩, .slice none 0 0, .slice none 0 0] 25)) b14 #[.int .i64 0, .int .i64 0, .string ⟨#[]⟩, .slice none 0 0, .slice none 0 0] 25 := by rw [← hbk]; exact Blk.new U7 _ _
              have G14 : w4.heap.size ≤ b14 := by rw [← hbk]; exact hS.size
              have HNE : Hid (b13 ≠ b14) := (by have := B13.lt; omega : b13 ≠ b14)
              have HE51 : Hid (U1.heap.size ≤ b14) := (by rw [← hbk]; exact F1.size : U1.heap.size ≤ b14)
              have hS0 := hS
              have hS : Below w4.heap.size w4 (U7.alloc (Obj.cells #[.int .i64 0, .int .i64 0, .string ⟨#[]⟩, .slice none 0 0, .slice none 0 0] 25)) := hS0.trans (hbU.mono hS0.size)
              replace F1 := F1.trans (Kp.ofBelow hbU)
              replace B13 := B13.below hbU
              clear hS0 hbU
              simp only [List.setIfInBounds_toArray, List.set_cons_zero, List.set_cons_succ]
              simp only [hbk]
              clear hbk
              generalize (U7.alloc (Obj.cells #[.int .i64 0, .int .i64 0, .string ⟨#[]⟩, .slice none 0 0, .slice none 0 0] 25)) = U10 at *
              refine M_call 3 19 11 #[.agg #[.int .i64 Kb, .int .i64 Nb, .string Sb, .slice qe Eb de, .slice qr Rb dr]] rfl rfl (by kernel_rfl) (by rfl) (listed' := #[true, true, true, true, true, true, false, false]) (by kernel_rfl) (fun W => by go_simp) ?_
              obtain ⟨D3, hD3⟩ : ∃ z, U10.heap.size = z := ⟨_, rfl⟩
              have E43 : b13 < D3 := by have := B13.lt; omega
              have E53 : b14 < D3 := by have := B14.lt; omega
              refine Calls.mono (HC3.out _ hS) ?_
              rintro ee U11 ⟨vq3, bs3, rfl, C3, hbU⟩
              obtain ⟨qe2, de2, qr2, dr2, hvt⟩ := C3.form5
              rw [HKB.out.1, HKB.out.2.1, HKB.out.2.2.1, HKB.out.2.2.2.1, HKB.out.2.2.2.2] at hvt
              subst hvt
              rw [hD3] at C3
              have hS0 := hS
              have hS : Below w4.heap.size w4 U11 := hS0.trans (hbU.mono hS0.size)
              replace F1 := F1.trans (Kp.ofBelow hbU)
              replace B13 := B13.below hbU
              replace B14 := B14.below hbU
              have F3 : Kp (fun q => q < D3) U11 U11 := Kp.refl _ _
              clear hS0 hbU hD3
              refine ⟨_, rfl, hS, ?_⟩
              simp only [List.setIfInBounds_toArray, List.set_cons_zero, List.set_cons_succ]
              have k0 := (B13.cell 0).trans rfl
              have z0 := B13.froz 0
              have k1 := (B13.cell 1).trans rfl
              have z1 := B13.froz 1
              have k2 := (B13.cell 2).trans rfl
              have z2 := B13.froz 2
              have k3 := (B13.cell 3).trans rfl
              have z3 := B13.froz 3
              have k4 := (B13.cell 4).trans rfl
              have z4 := B13.froz 4
              obtain ⟨hS6, B146, HRR⟩ := leaf_two B13 B14 HNE.out C1 F1 (fun h => absurd HE41.out (by omega)) (fun h => absurd HE51.out (by omega)) C3 F3 (fun _ => E43) (fun _ => E53) hS G13 G14
              refine M_storeT 6 (st5K U11 b13 (.int .i64 K) (.int .i64 N) (.string S) (.slice pe2 Ke ce2) (.slice pr2 Kr cr2)) rfl rfl (by kernel_rfl) (by rfl) (listed' := #[true, true, true, true, true, true, true, false]) (by kernel_rfl) (by unfold st5K; go_simp) hS6 ?_
              clear k0 z0 k1 z1 k2 z2 k3 z3 k4 z4 hS B13 B14 F1 F3
              generalize (st5K U11 b13 (.int .i64 K) (.int .i64 N) (.string S) (.slice pe2 Ke ce2) (.slice pr2 Kr cr2)) = V6 at *
              have k0 := (B146.cell 0).trans rfl
              have z0 := B146.froz 0
              have k1 := (B146.cell 1).trans rfl
              have z1 := B146.froz 1
              have k2 := (B146.cell 2).trans rfl
              have z2 := B146.froz 2
              have k3 := (B146.cell 3).trans rfl
              have z3 := B146.froz 3
              have k4 := (B146.cell 4).trans rfl
              have z4 := B146.froz 4
              refine M_store 7 (st5K V6 b14 (.int .i64 Kb) (.int .i64 Nb) (.string Sb) (.slice qe2 Eb de2) (.slice qr2 Rb dr2)) rfl rfl (by kernel_rfl) (by rfl) (listed' := #[true, true, true, true, true, true, true, true]) (by kernel_rfl) (by unfold st5K; go_simp) (by kernel_rfl) ?_
              refine M_done (by kernel_rfl) ?_ _
              clear k0 z0 k1 z1 k2 z2 k3 z3 k4 z4 B146 hS6
              go_wp2_with fail
              go_meet
              exact ⟨b13, b14, pe2, pr2, qe2, qr2, ce2, cr2, de2, dr2, rfl, rfl, HRR⟩
          · skip
            have hbU : Below U1.heap.size U1 (U1.alloc (Obj.cells #[.int .i64 0, .int .i64 0, .string ⟨#[]⟩, .slice none 0 0, .slice none 0 0] 25)) := (Below.refl _ _).alloc (Nat.le_refl _) _
            obtain ⟨b14, hbk⟩ : ∃ z, U1.heap.size = z := ⟨_, rfl⟩
            have B14 : Blk (U1.alloc (Obj.cells #[.int .i64 0, .int .i64 0, .string ⟨#[]⟩, .slice none 0 0, .slice none 0 0] 25)) b14 #[.int .i64 0, .int .i64 0, .string ⟨#[]⟩, .slice none 0 0, .slice none 0 0] 25 := by rw [← hbk]; exact Blk.new U1 _ _
            have G14 : w4.heap.size ≤ b14 := by rw [← hbk]; exact hS.size
            have HE51 : Hid (U1.heap.size ≤ b14) := (by rw [← hbk]; exact F1.size : U1.heap.size ≤ b14)
            have hS0 := hS
            have hS : Below w4.heap.size w4 (U1.alloc (Obj.cells #[.int .i64 0, .int .i64 0, .string ⟨#[]⟩, .slice none 0 0, .slice none 0 0] 25)) := hS0.trans (hbU.mono hS0.size)
            replace F1 := F1.trans (Kp.ofBelow hbU)
            clear hS0 hbU
            simp only [List.setIfInBounds_toArray, List.set_cons_zero, List.set_cons_succ]
            simp only [hbk]
            clear hbk
            generalize (U1.alloc (Obj.cells #[.int .i64 0, .int .i64 0, .string ⟨#[]⟩, .slice none 0 0, .slice none 0 0] 25)) = U12 at *
            refine M_fork 3 4 19 5 11 #[.agg #[.int .i64 Kb, .int .i64 Nb, .string Sb, .slice qe Eb de, .slice qr Rb dr]] (.pointer (some ⟨U12.heap.size, 0, none⟩)) (U12.alloc (Obj.cells #[.int .i64 0, .int .i64 0, .string ⟨#[]⟩, .slice none 0 0, .slice none 0 0] 25)) rfl rfl rfl rfl (by kernel_rfl) (by rfl) (by rfl) (by go_simp) (by go_simp) ?_ (hS.trans (((Below.refl _ _).alloc (Nat.le_refl _) _).mono hS.size)) ?_
            · skip
              obtain ⟨D3, hD3⟩ : ∃ z, U12.heap.size = z := ⟨_, rfl⟩
              have E53 : b14 < D3 := by have := B14.lt; omega
              refine Calls.mono (HC3.out _ hS) ?_
              rintro ee U13 ⟨vq3, bs3, rfl, C3, hbU⟩
              obtain ⟨qe2, de2, qr2, dr2, hvt⟩ := C3.form5
              rw [HKB.out.1, HKB.out.2.1, HKB.out.2.2.1, HKB.out.2.2.2.1, HKB.out.2.2.2.2] at hvt
              subst hvt
              rw [hD3] at C3
              have hS0 := hS
              have hS : Below w4.heap.size w4 U13 := hS0.trans (hbU.mono hS0.size)
              replace F1 := F1.trans (Kp.ofBelow hbU)
              replace B14 := B14.below hbU
              have F3 : Kp (fun q => q < D3) U13 U13 := Kp.refl _ _
              clear hS0 hbU hD3
              refine ⟨_, rfl, hS, ?_⟩
              simp only [List.setIfInBounds_toArray, List.set_cons_zero, List.set_cons_succ]
              refine M_run 4 5 (.pointer (some ⟨U13.heap.size, 0, none⟩)) (U13.alloc (Obj.cells #[.int .i64 0, .int .i64 0, .string ⟨#[]⟩, .slice none 0 0, .slice none 0 0] 25)) rfl rfl (by kernel_rfl) (by rfl) (listed' := #[true, true, true, true, true, true, false, false]) (by kernel_rfl) (by go_simp) (hS.trans (((Below.refl _ _).alloc (Nat.le_refl _) _).mono hS.size)) ?_
              have hbU : Below U13.heap.size U13 (U13.alloc (Obj.cells #[.int .i64 0, .int .i64 0, .string ⟨#[]⟩, .slice none 0 0, .slice none 0 0] 25)) := (Below.refl _ _).alloc (Nat.le_refl _) _
              obtain ⟨b13, hbk⟩ : ∃ z, U13.heap.size = z := ⟨_, rfl⟩
              have B13 : Blk (U13.alloc (Obj.cells #[.int .i64 0, .int .i64 0, .string ⟨#[]⟩, .slice none 0 0, .slice none 0 0] 25)) b13 #[.int .i64 0, .int .i64 0, .string ⟨#[]⟩, .slice none 0 0, .slice none 0 0] 25 := by rw [← hbk]; exact Blk.new U13 _ _
              have G13 : w4.heap.size ≤ b13 := by rw [← hbk]; exact hS.size
              have HNE : Hid (b13 ≠ b14) := (by have := B14.lt; omega : b13 ≠ b14)
              have HE41 : Hid (U1.heap.size ≤ b13) := (by rw [← hbk]; exact F1.size : U1.heap.size ≤ b13)
              have HE43 : Hid (U13.heap.size ≤ b13) := (by rw [← hbk]; exact F3.size : U13.heap.size ≤ b13)
              have hS0 := hS
              have hS : Below w4.heap.size w4 (U13.alloc (Obj.cells #[.int .i64 0, .int .i64 0, .string ⟨#[]⟩, .slice none 0 0, .slice none 0 0] 25)) := hS0.trans (hbU.mono hS0.size)
              replace F1 := F1.trans (Kp.ofBelow hbU)
              replace F3 := F3.trans (Kp.ofBelow hbU)
              replace B14 := B14.below hbU
              clear hS0 hbU
              simp only [List.setIfInBounds_toArray, List.set_cons_zero, List.set_cons_succ]
              simp only [hbk]
              clear hbk
              generalize (U13.alloc (Obj.cells #[.int .i64 0, .int .i64 0, .string ⟨#[]⟩, .slice none 0 0, .slice none 0 0] 25)) = U14 at *
              have k0 := (B13.cell 0).trans rfl
              have z0 := B13.froz 0
              have k1 := (B13.cell 1).trans rfl
              have z1 := B13.froz 1
              have k2 := (B13.cell 2).trans rfl
              have z2 := B13.froz 2
              have k3 := (B13.cell 3).trans rfl
              have z3 := B13.froz 3
              have k4 := (B13.cell 4).trans rfl
              have z4 := B13.froz 4
              obtain ⟨hS6, B146, HRR⟩ := leaf_two B13 B14 HNE.out C1 F1 (fun h => absurd HE41.out (by omega)) (fun h => absurd HE51.out (by omega)) C3 F3 (fun h => absurd HE43.out (by omega)) (fun _ => E53) hS G13 G14
              refine M_storeT 6 (st5K U14 b13 (.int .i64 K) (.int .i64 N) (.string S) (.slice pe2 Ke ce2) (.slice pr2 Kr cr2)) rfl rfl (by kernel_rfl) (by rfl) (listed' := #[true, true, true, true, true, true, true, false]) (by kernel_rfl) (by unfold st5K; go_simp) hS6 ?_
              clear k0 z0 k1 z1 k2 z2 k3 z3 k4 z4 hS B13 B14 F1 F3
              generalize (st5K U14 b13 (.int .i64 K) (.int .i64 N) (.string S) (.slice pe2 Ke ce2) (.slice pr2 Kr cr2)) = V6 at *
              have k0 := (B146.cell 0).trans rfl
              have z0 := B146.froz 0
              have k1 := (B146.cell 1).trans rfl
              have z1 := B146.froz 1
              have k2 := (B146.cell 2).trans rfl
              have z2 := B146.froz 2
              have k3 := (B146.cell 3).trans rfl
              have z3 := B146.froz 3
              have k4 := (B146.cell 4).trans rfl
              have z4 := B146.froz 4
              refine M_store 7 (st5K V6 b14 (.int .i64 Kb) (.int .i64 Nb) (.string Sb) (.slice qe2 Eb de2) (.slice qr2 Rb dr2)) rfl rfl (by kernel_rfl) (by rfl) (listed' := #[true, true, true, true, true, true, true, true]) (by kernel_rfl) (by unfold st5K; go_simp) (by kernel_rfl) ?_
              refine M_done (by kernel_rfl) ?_ _
              clear k0 z0 k1 z1 k2 z2 k3 z3 k4 z4 B146 hS6
              go_wp2_with fail
              go_meet
              exact ⟨b13, b14, pe2, pr2, qe2, qr2, ce2, cr2, de2, dr2, rfl, rfl, HRR⟩
            · skip
              have hbU : Below U12.heap.size U12 (U12.alloc (Obj.cells #[.int .i64 0, .int .i64 0, .string ⟨#[]⟩, .slice none 0 0, .slice none 0 0] 25)) := (Below.refl _ _).alloc (Nat.le_refl _) _
              obtain ⟨b13, hbk⟩ : ∃ z, U12.heap.size = z := ⟨_, rfl⟩
              have B13 : Blk (U12.alloc (Obj.cells #[.int .i64 0, .int .i64 0, .string ⟨#[]⟩, .slice none 0 0, .slice none 0 0] 25)) b13 #[.int .i64 0, .int .i64 0, .string ⟨#[]⟩, .slice none 0 0, .slice none 0 0] 25 := by rw [← hbk]; exact Blk.new U12 _ _
              have G13 : w4.heap.size ≤ b13 := by rw [← hbk]; exact hS.size
              have HNE : Hid (b13 ≠ b14) := (by have := B14.lt; omega : b13 ≠ b14)
              have HE41 : Hid (U1.heap.size ≤ b13) := (by rw [← hbk]; exact F1.size : U1.heap.size ≤ b13)
              have hS0 := hS
              have hS : Below w4.heap.size w4 (U12.alloc (Obj.cells #[.int .i64 0, .int .i64 0, .string ⟨#[]⟩, .slice none 0 0, .slice none 0 0] 25)) := hS0.trans (hbU.mono hS0.size)
              replace F1 := F1.trans (Kp.ofBelow hbU)
              replace B14 := B14.below hbU
              clear hS0 hbU
              simp only [List.setIfInBounds_toArray, List.set_cons_zero, List.set_cons_succ]
              simp only [hbk]
              clear hbk
              generalize (U12.alloc (Obj.cells #[.int .i64 0, .int .i64 0, .string ⟨#[]⟩, .slice none 0 0, .slice none 0 0] 25)) = U15 at *
              refine M_call 3 19 11 #[.agg #[.int .i64 Kb, .int .i64 Nb, .string Sb, .slice qe Eb de, .slice qr Rb dr]] rfl rfl (by kernel_rfl) (by rfl) (listed' := #[true, true, true, true, true, true, false, false]) (by kernel_rfl) (fun W => by go_simp) ?_
              obtain ⟨D3, hD3⟩ : ∃ z, U15.heap.size = z := ⟨_, rfl⟩
              have E43 : b13 < D3 := by have := B13.lt; omega
              have E53 : b14 < D3 := by have := B14.lt; omega
              refine Calls.mono (HC3.out _ hS) ?_
              rintro ee U16 ⟨vq3, bs3, rfl, C3, hbU⟩
              obtain ⟨qe2, de2, qr2, dr2, hvt⟩ := C3.form5
              rw [HKB.out.1, HKB.out.2.1, HKB.out.2.2.1, HKB.out.2.2.2.1, HKB.out.2.2.2.2] at hvt
              subst hvt
              rw [hD3] at C3
              have hS0 := hS
              have hS : Below w4.heap.size w4 U16 := hS0.trans (hbU.mono hS0.size)
              replace F1 := F1.trans (Kp.ofBelow hbU)
              replace B13 := B13.below hbU
              replace B14 := B14.below hbU
              have F3 : Kp (fun q => q < D3) U16 U16 := Kp.refl _ _
              clear hS0 hbU hD3
              refine ⟨_, rfl, hS, ?_⟩
              simp only [List.setIfInBounds_toArray, List.set_cons_zero, List.set_cons_succ]
              have k0 := (B13.cell 0).trans rfl
              have z0 := B13.froz 0
              have k1 := (B13.cell 1).trans rfl
              have z1 := B13.froz 1
              have k2 := (B13.cell 2).trans rfl
              have z2 := B13.froz 2
              have k3 := (B13.cell 3).trans rfl
              have z3 := B13.froz 3
              have k4 := (B13.cell 4).trans rfl
              have z4 := B13.froz 4
              obtain ⟨hS6, B146, HRR⟩ := leaf_two B13 B14 HNE.out C1 F1 (fun h => absurd HE41.out (by omega)) (fun h => absurd HE51.out (by omega)) C3 F3 (fun _ => E43) (fun _ => E53) hS G13 G14
              refine M_storeT 6 (st5K U16 b13 (.int .i64 K) (.int .i64 N) (.string S) (.slice pe2 Ke ce2) (.slice pr2 Kr cr2)) rfl rfl (by kernel_rfl) (by rfl) (listed' := #[true, true, true, true, true, true, true, false]) (by kernel_rfl) (by unfold st5K; go_simp) hS6 ?_
              clear k0 z0 k1 z1 k2 z2 k3 z3 k4 z4 hS B13 B14 F1 F3
              generalize (st5K U16 b13 (.int .i64 K) (.int .i64 N) (.string S) (.slice pe2 Ke ce2) (.slice pr2 Kr cr2)) = V6 at *
              have k0 := (B146.cell 0).trans rfl
              have z0 := B146.froz 0
              have k1 := (B146.cell 1).trans rfl
              have z1 := B146.froz 1
              have k2 := (B146.cell 2).trans rfl
              have z2 := B146.froz 2
              have k3 := (B146.cell 3).trans rfl
              have z3 := B146.froz 3
              have k4 := (B146.cell 4).trans rfl
              have z4 := B146.froz 4
              refine M_store 7 (st5K V6 b14 (.int .i64 Kb) (.int .i64 Nb) (.string Sb) (.slice qe2 Eb de2) (.slice qr2 Rb dr2)) rfl rfl (by kernel_rfl) (by rfl) (listed' := #[true, true, true, true, true, true, true, true]) (by kernel_rfl) (by unfold st5K; go_simp) (by kernel_rfl) ?_
              refine M_done (by kernel_rfl) ?_ _
              clear k0 z0 k1 z1 k2 z2 k3 z3 k4 z4 B146 hS6
              go_wp2_with fail
              go_meet
              exact ⟨b13, b14, pe2, pr2, qe2, qr2, ce2, cr2, de2, dr2, rfl, rfl, HRR⟩
        · skip
          have hbU : Below U0.heap.size U0 (U0.alloc (Obj.cells #[.int .i64 0, .int .i64 0, .string ⟨#[]⟩, .slice none 0 0, .slice none 0 0] 25)) := (Below.refl _ _).alloc (Nat.le_refl _) _
          obtain ⟨b13, hbk⟩ : ∃ z, U0.heap.size = z := ⟨_, rfl⟩
          have B13 : Blk (U0.alloc (Obj.cells #[.int .i64 0, .int .i64 0, .string ⟨#[]⟩, .slice none 0 0, .slice none 0 0] 25)) b13 #[.int .i64 0, .int .i64 0, .string ⟨#[]⟩, .slice none 0 0, .slice none 0 0] 25 := by rw [← hbk]; exact Blk.new U0 _ _
          have G13 : w4.heap.size ≤ b13 := by rw [← hbk]; exact hS.size
          have hS0 := hS
          have hS : Below w4.heap.size w4 (U0.alloc (Obj.cells #[.int .i64 0, .int .i64 0, .string ⟨#[]⟩, .slice none 0 0, .slice none 0 0] 25)) := hS0.trans (hbU.mono hS0.size)
          clear hS0 hbU
          simp only [List.setIfInBounds_toArray, List.set_cons_zero, List.set_cons_succ]
          simp only [hbk]
          clear hbk
          generalize (U0.alloc (Obj.cells #[.int .i64 0, .int .i64 0, .string ⟨#[]⟩, .slice none 0 0, .slice none 0 0] 25)) = U17 at *
          refine M_fork 1 5 17 6 11 #[.agg #[.int .i64 K, .int .i64 N, .string S, .slice pe Ke ce, .slice pr Kr cr]] (.pointer (some ⟨U17.heap.size, 0, none⟩)) (U17.alloc (Obj.cells #[.int .i64 0, .int .i64 0, .string ⟨#[]⟩, .slice none 0 0, .slice none 0 0] 25)) rfl rfl rfl rfl (by kernel_rfl) (by rfl) (by rfl) (by go_simp) (by go_simp) ?_ (hS.trans (((Below.refl _ _).alloc (Nat.le_refl _) _).mono hS.size)) ?_
          · skip
            obtain ⟨D1, hD1⟩ : ∃ z, U17.heap.size = z := ⟨_, rfl⟩
            have E41 : b13 < D1 := by have := B13.lt; omega
            refine Calls.mono (HC1.out _ hS) ?_
            rintro ee U18 ⟨vq1, bs1, rfl, C1, hbU⟩
            obtain ⟨pe2, ce2, pr2, cr2, hvt⟩ := C1.form5
            rw [HK.out.1, HK.out.2.1, HK.out.2.2.1, HK.out.2.2.2.1, HK.out.2.2.2.2] at hvt
            subst hvt
            rw [hD1] at C1
            have hS0 := hS
            have hS : Below w4.heap.size w4 U18 := hS0.trans (hbU.mono hS0.size)
            replace B13 := B13.below hbU
            have F1 : Kp (fun q => q < D1) U18 U18 := Kp.refl _ _
            clear hS0 hbU hD1
            refine ⟨_, rfl, hS, ?_⟩
            simp only [List.setIfInBounds_toArray, List.set_cons_zero, List.set_cons_succ]
            refine M_fork 3 5 19 6 11 #[.agg #[.int .i64 Kb, .int .i64 Nb, .string Sb, .slice qe Eb de, .slice qr Rb dr]] (.pointer (some ⟨U18.heap.size, 0, none⟩)) (U18.alloc (Obj.cells #[.int .i64 0, .int .i64 0, .string ⟨#[]⟩, .slice none 0 0, .slice none 0 0] 25)) rfl rfl rfl rfl (by kernel_rfl) (by rfl) (by rfl) (by go_simp) (by go_simp) ?_ (hS.trans (((Below.refl _ _).alloc (Nat.le_refl _) _).mono hS.size)) ?_
            · skip
              obtain ⟨D3, hD3⟩ : ∃ z, U18.heap.size = z := ⟨_, rfl⟩
              have E43 : b13 < D3 := by have := B13.lt; omega
              refine Calls.mono (HC3.out _ hS) ?_
              rintro ee U19 ⟨vq3, bs3, rfl, C3, hbU⟩
              obtain ⟨qe2, de2, qr2, dr2, hvt⟩ := C3.form5
              rw [HKB.out.1, HKB.out.2.1, HKB.out.2.2.1, HKB.out.2.2.2.1, HKB.out.2.2.2.2] at hvt
              subst hvt
              rw [hD3] at C3
              have hS0 := hS
              have hS : Below w4.heap.size w4 U19 := hS0.trans (hbU.mono hS0.size)
              replace F1 := F1.trans (Kp.ofBelow hbU)
              replace B13 := B13.below hbU
              have F3 : Kp (fun q => q < D3) U19 U19 := Kp.refl _ _
              clear hS0 hbU hD3
              refine ⟨_, rfl, hS, ?_⟩
              simp only [List.setIfInBounds_toArray, List.set_cons_zero, List.set_cons_succ]
              refine M_run 5 6 (.pointer (some ⟨U19.heap.size, 0, none⟩)) (U19.alloc (Obj.cells #[.int .i64 0, .int .i64 0, .string ⟨#[]⟩, .slice none 0 0, .slice none 0 0] 25)) rfl rfl (by kernel_rfl) (by rfl) (listed' := #[true, true, true, true, true, true, false, false]) (by kernel_rfl) (by go_simp) (hS.trans (((Below.refl _ _).alloc (Nat.le_refl _) _).mono hS.size)) ?_
              have hbU : Below U19.heap.size U19 (U19.alloc (Obj.cells #[.int .i64 0, .int .i64 0, .string ⟨#[]⟩, .slice none 0 0, .slice none 0 0] 25)) := (Below.refl _ _).alloc (Nat.le_refl _) _
              obtain ⟨b14, hbk⟩ : ∃ z, U19.heap.size = z := ⟨_, rfl⟩
              have B14 : Blk (U19.alloc (Obj.cells #[.int .i64 0, .int .i64 0, .string ⟨#[]⟩, .slice none 0 0, .slice none 0 0] 25)) b14 #[.int .i64 0, .int .i64 0, .string ⟨#[]⟩, .slice none 0 0, .slice none 0 0] 25 := by rw [← hbk]; exact Blk.new U19 _ _
              have G14 : w4.heap.size ≤ b14 := by rw [← hbk]; exact hS.size
              have HNE : Hid (b13 ≠ b14) := (by have := B13.lt; omega : b13 ≠ b14)
              have HE51 : Hid (U18.heap.size ≤ b14) := (by rw [← hbk]; exact F1.size : U18.heap.size ≤ b14)
              have HE53 : Hid (U19.heap.size ≤ b14) := (by rw [← hbk]; exact F3.size : U19.heap.size ≤ b14)
              have hS0 := hS
              have hS : Below w4.heap.size w4 (U19.alloc (Obj.cells #[.int .i64 0, .int .i64 0, .string ⟨#[]⟩, .slice none 0 0, .slice none 0 0] 25)) := hS0.trans (hbU.mono hS0.size)
              replace F1 := F1.trans (Kp.ofBelow hbU)
              replace F3 := F3.trans (Kp.ofBelow hbU)
              replace B13 := B13.below hbU
              clear hS0 hbU
              simp only [List.setIfInBounds_toArray, List.set_cons_zero, List.set_cons_succ]
              simp only [hbk]
              clear hbk
              generalize (U19.alloc (Obj.cells #[.int .i64 0, .int .i64 0, .string ⟨#[]⟩, .slice none 0 0, .slice none 0 0] 25)) = U20 at *
              have k0 := (B13.cell 0).trans rfl
              have z0 := B13.froz 0
              have k1 := (B13.cell 1).trans rfl
              have z1 := B13.froz 1
              have k2 := (B13.cell 2).trans rfl
              have z2 := B13.froz 2
              have k3 := (B13.cell 3).trans rfl
              have z3 := B13.froz 3
              have k4 := (B13.cell 4).trans rfl
              have z4 := B13.froz 4
              obtain ⟨hS6, B146, HRR⟩ := leaf_two B13 B14 HNE.out C1 F1 (fun _ => E41) (fun h => absurd HE51.out (by omega)) C3 F3 (fun _ => E43) (fun h => absurd HE53.out (by omega)) hS G13 G14
              refine M_storeT 6 (st5K U20 b13 (.int .i64 K) (.int .i64 N) (.string S) (.slice pe2 Ke ce2) (.slice pr2 Kr cr2)) rfl rfl (by kernel_rfl) (by rfl) (listed' := #[true, true, true, true, true, true, true, false]) (by kernel_rfl) (by unfold st5K; go_simp) hS6 ?_
              clear k0 z0 k1 z1 k2 z2 k3 z3 k4 z4 hS B13 B14 F1 F3
              generalize (st5K U20 b13 (.int .i64 K) (.int .i64 N) (.string S) (.slice pe2 Ke ce2) (.slice pr2 Kr cr2)) = V6 at *
              have k0 := (B146.cell 0).trans rfl
              have z0 := B146.froz 0
              have k1 := (B146.cell 1).trans rfl
              have z1 := B146.froz 1
              have k2 := (B146.cell 2).trans rfl
              have z2 := B146.froz 2
              have k3 := (B146.cell 3).trans rfl
              have z3 := B146.froz 3
              have k4 := (B146.cell 4).trans rfl
              have z4 := B146.froz 4
              refine M_store 7 (st5K V6 b14 (.int .i64 Kb) (.int .i64 Nb) (.string Sb) (.slice qe2 Eb de2) (.slice qr2 Rb dr2)) rfl rfl (by kernel_rfl) (by rfl) (listed' := #[true, true, true, true, true, true, true, true]) (by kernel_rfl) (by unfold st5K; go_simp) (by kernel_rfl) ?_
              refine M_done (by kernel_rfl) ?_ _
              clear k0 z0 k1 z1 k2 z2 k3 z3 k4 z4 B146 hS6
              go_wp2_with fail
              go_meet
              exact ⟨b13, b14, pe2, pr2, qe2, qr2, ce2, cr2, de2, dr2, rfl, rfl, HRR⟩
            · skip
              have hbU : Below U18.heap.size U18 (U18.alloc (Obj.cells #[.int .i64 0, .int .i64 0, .string ⟨#[]⟩, .slice none 0 0, .slice none 0 0] 25)) := (Below.refl _ _).alloc (Nat.le_refl _) _
              obtain ⟨b14, hbk⟩ : ∃ z, U18.heap.size = z := ⟨_, rfl⟩
              have B14 : Blk (U18.alloc (Obj.cells #[.int .i64 0, .int .i64 0, .string ⟨#[]⟩, .slice none 0 0, .slice none 0 0] 25)) b14 #[.int .i64 0, .int .i64 0, .string ⟨#[]⟩, .slice none 0 0, .slice none 0 0] 25 := by rw [← hbk]; exact Blk.new U18 _ _
              have G14 : w4.heap.size ≤ b14 := by rw [← hbk]; exact hS.size
              have HNE : Hid (b13 ≠ b14) := (by have := B13.lt; omega : b13 ≠ b14)
              have HE51 : Hid (U18.heap.size ≤ b14) := (by rw [← hbk]; exact F1.size : U18.heap.size ≤ b14)
              have hS0 := hS
              have hS : Below w4.heap.size w4 (U18.alloc (Obj.cells #[.int .i64 0, .int .i64 0, .string ⟨#[]⟩, .slice none 0 0, .slice none 0 0] 25)) := hS0.trans (hbU.mono hS0.size)
              replace F1 := F1.trans (Kp.ofBelow hbU)
              replace B13 := B13.below hbU
              clear hS0 hbU
              simp only [List.setIfInBounds_toArray, List.set_cons_zero, List.set_cons_succ]
              simp only [hbk]
              clear hbk
              generalize (U18.alloc (Obj.cells #[.int .i64 0, .int .i64 0, .string ⟨#[]⟩, .slice none 0 0, .slice none 0 0] 25)) = U21 at *
              refine M_call 3 19 11 #[.agg #[.int .i64 Kb, .int .i64 Nb, .string Sb, .slice qe Eb de, .slice qr Rb dr]] rfl rfl (by kernel_rfl) (by rfl) (listed' := #[true, true, true, true, true, true, false, false]) (by kernel_rfl) (fun W => by go_simp) ?_
              obtain ⟨D3, hD3⟩ : ∃ z, U21.heap.size = z := ⟨_, rfl⟩
              have E43 : b13 < D3 := by have := B13.lt; omega
              have E53 : b14 < D3 := by have := B14.lt; omega
              refine Calls.mono (HC3.out _ hS) ?_
              rintro ee U22 ⟨vq3, bs3, rfl, C3, hbU⟩
              obtain ⟨qe2, de2, qr2, dr2, hvt⟩ := C3.form5
              rw [HKB.out.1, HKB.out.2.1, HKB.out.2.2.1, HKB.out.2.2.2.1, HKB.out.2.2.2.2] at hvt
              subst hvt
              rw [hD3] at C3
              have hS0 := hS
              have hS : Below w4.heap.size w4 U22 := hS0.trans (hbU.mono hS0.size)
              replace F1 := F1.trans (Kp.ofBelow hbU)
              replace B13 := B13.below hbU
              replace B14 := B14.below hbU
              have F3 : Kp (fun q => q < D3) U22 U22 := Kp.refl _ _
              clear hS0 hbU hD3
              refine ⟨_, rfl, hS, ?_⟩
              simp only [List.setIfInBounds_toArray, List.set_cons_zero, List.set_cons_succ]
              have k0 := (B13.cell 0).trans rfl
              have z0 := B13.froz 0
              have k1 := (B13.cell 1).trans rfl
              have z1 := B13.froz 1
              have k2 := (B13.cell 2).trans rfl
              have z2 := B13.froz 2
              have k3 := (B13.cell 3).trans rfl
              have z3 := B13.froz 3
              have k4 := (B13.cell 4).trans rfl
              have z4 := B13.froz 4
              obtain ⟨hS6, B146, HRR⟩ := leaf_two B13 B14 HNE.out C1 F1 (fun _ => E41) (fun h => absurd HE51.out (by omega)) C3 F3 (fun _ => E43) (fun _ => E53) hS G13 G14
              refine M_storeT 6 (st5K U22 b13 (.int .i64 K) (.int .i64 N) (.string S) (.slice pe2 Ke ce2) (.slice pr2 Kr cr2)) rfl rfl (by kernel_rfl) (by rfl) (listed' := #[true, true, true, true, true, true, true, false]) (by kernel_rfl) (by unfold st5K; go_simp) hS6 ?_
              clear k0 z0 k1 z1 k2 z2 k3 z3 k4 z4 hS B13 B14 F1 F3
              generalize (st5K U22 b13 (.int .i64 K) (.int .i64 N) (.string S) (.slice pe2 Ke ce2) (.slice pr2 Kr cr2)) = V6 at *
              have k0 := (B146.cell 0).trans rfl
              have z0 := B146.froz 0
              have k1 := (B146.cell 1).trans rfl
              have z1 := B146.froz 1
              have k2 := (B146.cell 2).trans rfl
              have z2 := B146.froz 2
              have k3 := (B146.cell 3).trans rfl
              have z3 := B146.froz 3
              have k4 := (B146.cell 4).trans rfl
              have z4 := B146.froz 4
              refine M_store 7 (st5K V6 b14 (.int .i64 Kb) (.int .i64 Nb) (.string Sb) (.slice qe2 Eb de2) (.slice qr2 Rb dr2)) rfl rfl (by kernel_rfl) (by rfl) (listed' := #[true, true, true, true, true, true, true, true]) (by kernel_rfl) (by unfold st5K; go_simp) (by kernel_rfl) ?_
              refine M_done (by kernel_rfl) ?_ _
              clear k0 z0 k1 z1 k2 z2 k3 z3 k4 z4 B146 hS6
              go_wp2_with fail
              go_meet
              exact ⟨b13, b14, pe2, pr2, qe2, qr2, ce2, cr2, de2, dr2, rfl, rfl, HRR⟩
          · skip
            have hbU : Below U17.heap.size U17 (U17.alloc (Obj.cells #[.int .i64 0, .int .i64 0, .string ⟨#[]⟩, .slice none 0 0, .slice none 0 0] 25)) := (Below.refl _ _).alloc (Nat.le_refl _) _
            obtain ⟨b14, hbk⟩ : ∃ z, U17.heap.size = z := ⟨_, rfl⟩
            have B14 : Blk (U17.alloc (Obj.cells #[.int .i64 0, .int .i64 0, .string ⟨#[]⟩, .slice none 0 0, .slice none 0 0] 25)) b14 #[.int .i64 0, .int .i64 0, .string ⟨#[]⟩, .slice none 0 0, .slice none 0 0] 25 := by rw [← hbk]; exact Blk.new U17 _ _
            have G14 : w4.heap.size ≤ b14 := by rw [← hbk]; exact hS.size
            have HNE : Hid (b13 ≠ b14) := (by have := B13.lt; omega : b13 ≠ b14)
            have hS0 := hS
            have hS : Below w4.heap.size w4 (U17.alloc (Obj.cells #[.int .i64 0, .int .i64 0, .string ⟨#[]⟩, .slice none 0 0, .slice none 0 0] 25)) := hS0.trans (hbU.mono hS0.size)
            replace B13 := B13.below hbU
            clear hS0 hbU
            simp only [List.setIfInBounds_toArray, List.set_cons_zero, List.set_cons_succ]
            simp only [hbk]
            clear hbk
            generalize (U17.alloc (Obj.cells #[.int .i64 0, .int .i64 0, .string ⟨#[]⟩, .slice none 0 0, .slice none 0 0] 25)) = U23 at *
            refine M_call 1 17 11 #[.agg #[.int .i64 K, .int .i64 N, .string S, .slice pe Ke ce, .slice pr Kr cr]] rfl rfl (by kernel_rfl) (by rfl) (listed' := #[true, true, true, false, true, true, false, false]) (by kernel_rfl) (fun W => by go_simp) ?_
            obtain ⟨D1, hD1⟩ : ∃ z, U23.heap.size = z := ⟨_, rfl⟩
            have E41 : b13 < D1 := by have := B13.lt; omega
            have E51 : b14 < D1 := by have := B14.lt; omega
            refine Calls.mono (HC1.out _ hS) ?_
            rintro ee U24 ⟨vq1, bs1, rfl, C1, hbU⟩
            obtain ⟨pe2, ce2, pr2, cr2, hvt⟩ := C1.form5
            rw [HK.out.1, HK.out.2.1, HK.out.2.2.1, HK.out.2.2.2.1, HK.out.2.2.2.2] at hvt
            subst hvt
            rw [hD1] at C1
            have hS0 := hS
            have hS : Below w4.heap.size w4 U24 := hS0.trans (hbU.mono hS0.size)
            replace B13 := B13.below hbU
            replace B14 := B14.below hbU
            have F1 : Kp (fun q => q < D1) U24 U24 := Kp.refl _ _
            clear hS0 hbU hD1
            refine ⟨_, rfl, hS, ?_⟩
            simp only [List.setIfInBounds_toArray, List.set_cons_zero, List.set_cons_succ]
            refine M_call 3 19 11 #[.agg #[.int .i64 Kb, .int .i64 Nb, .string Sb, .slice qe Eb de, .slice qr Rb dr]] rfl rfl (by kernel_rfl) (by rfl) (listed' := #[true, true, true, true, true, true, false, false]) (by kernel_rfl) (fun W => by go_simp) ?_
            obtain ⟨D3, hD3⟩ : ∃ z, U24.heap.size = z := ⟨_, rfl⟩
            have E43 : b13 < D3 := by have := B13.lt; omega
            have E53 : b14 < D3 := by have := B14.lt; omega
            refine Calls.mono (HC3.out _ hS) ?_
            rintro ee U25 ⟨vq3, bs3, rfl, C3, hbU⟩
            obtain ⟨qe2, de2, qr2, dr2, hvt⟩ := C3.form5
            rw [HKB.out.1, HKB.out.2.1, HKB.out.2.2.1, HKB.out.2.2.2.1, HKB.out.2.2.2.2] at hvt
            subst hvt
            rw [hD3] at C3
            have hS0 := hS
            have hS : Below w4.heap.size w4 U25 := hS0.trans (hbU.mono hS0.size)
            replace F1 := F1.trans (Kp.ofBelow hbU)
            replace B13 := B13.below hbU
            replace B14 := B14.below hbU
            have F3 : Kp (fun q => q < D3) U25 U25 := Kp.refl _ _
            clear hS0 hbU hD3
            refine ⟨_, rfl, hS, ?_⟩
            simp only [List.setIfInBounds_toArray, List.set_cons_zero, List.set_cons_succ]
            have k0 := (B13.cell 0).trans rfl
            have z0 := B13.froz 0
            have k1 := (B13.cell 1).trans rfl
            have z1 := B13.froz 1
            have k2 := (B13.cell 2).trans rfl
            have z2 := B13.froz 2
            have k3 := (B13.cell 3).trans rfl
            have z3 := B13.froz 3
            have k4 := (B13.cell 4).trans rfl
            have z4 := B13.froz 4
            obtain ⟨hS6, B146, HRR⟩ := leaf_two B13 B14 HNE.out C1 F1 (fun _ => E41) (fun _ => E51) C3 F3 (fun _ => E43) (fun _ => E53) hS G13 G14
            refine M_storeT 6 (st5K U25 b13 (.int .i64 K) (.int .i64 N) (.string S) (.slice pe2 Ke ce2) (.slice pr2 Kr cr2)) rfl rfl (by kernel_rfl) (by rfl) (listed' := #[true, true, true, true, true, true, true, false]) (by kernel_rfl) (by unfold st5K; go_simp) hS6 ?_
            clear k0 z0 k1 z1 k2 z2 k3 z3 k4 z4 hS B13 B14 F1 F3
            generalize (st5K U25 b13 (.int .i64 K) (.int .i64 N) (.string S) (.slice pe2 Ke ce2) (.slice pr2 Kr cr2)) = V6 at *
            have k0 := (B146.cell 0).trans rfl
            have z0 := B146.froz 0
            have k1 := (B146.cell 1).trans rfl
            have z1 := B146.froz 1
            have k2 := (B146.cell 2).trans rfl
            have z2 := B146.froz 2
            have k3 := (B146.cell 3).trans rfl
            have z3 := B146.froz 3
            have k4 := (B146.cell 4).trans rfl
            have z4 := B146.froz 4
            refine M_store 7 (st5K V6 b14 (.int .i64 Kb) (.int .i64 Nb) (.string Sb) (.slice qe2 Eb de2) (.slice qr2 Rb dr2)) rfl rfl (by kernel_rfl) (by rfl) (listed' := #[true, true, true, true, true, true, true, true]) (by kernel_rfl) (by unfold st5K; go_simp) (by kernel_rfl) ?_
            refine M_done (by kernel_rfl) ?_ _
            clear k0 z0 k1 z1 k2 z2 k3 z3 k4 z4 B146 hS6
            go_wp2_with fail
            go_meet
            exact ⟨b13, b14, pe2, pr2, qe2, qr2, ce2, cr2, de2, dr2, rfl, rfl, HRR⟩
        · skip
          have hbU : Below U0.heap.size U0 (U0.alloc (Obj.cells #[.int .i64 0, .int .i64 0, .string ⟨#[]⟩, .slice none 0 0, .slice none 0 0] 25)) := (Below.refl _ _).alloc (Nat.le_refl _) _
          obtain ⟨b14, hbk⟩ : ∃ z, U0.heap.size = z := ⟨_, rfl⟩
          have B14 : Blk (U0.alloc (Obj.cells #[.int .i64 0, .int .i64 0, .string ⟨#[]⟩, .slice none 0 0, .slice none 0 0] 25)) b14 #[.int .i64 0, .int .i64 0, .string ⟨#[]⟩, .slice none 0 0, .slice none 0 0] 25 := by rw [← hbk]; exact Blk.new U0 _ _
          have G14 : w4.heap.size ≤ b14 := by rw [← hbk]; exact hS.size
          have hS0 := hS
          have hS : Below w4.heap.size w4 (U0.alloc (Obj.cells #[.int .i64 0, .int .i64 0, .string ⟨#[]⟩, .slice none 0 0, .slice none 0 0] 25)) := hS0.trans (hbU.mono hS0.size)
          clear hS0 hbU
          simp only [List.setIfInBounds_toArray, List.set_cons_zero, List.set_cons_succ]
          simp only [hbk]
          clear hbk
          generalize (U0.alloc (Obj.cells #[.int .i64 0, .int .i64 0, .string ⟨#[]⟩, .slice none 0 0, .slice none 0 0] 25)) = U26 at *
          refine M_fork 1 4 17 5 11 #[.agg #[.int .i64 K, .int .i64 N, .string S, .slice pe Ke ce, .slice pr Kr cr]] (.pointer (some ⟨U26.heap.size, 0, none⟩)) (U26.alloc (Obj.cells #[.int .i64 0, .int .i64 0, .string ⟨#[]⟩, .slice none 0 0, .slice none 0 0] 25)) rfl rfl rfl rfl (by kernel_rfl) (by rfl) (by rfl) (by go_simp) (by go_simp) ?_ (hS.trans (((Below.refl _ _).alloc (Nat.le_refl _) _).mono hS.size)) ?_
          · skip
            obtain ⟨D1, hD1⟩ : ∃ z, U26.heap.size = z := ⟨_, rfl⟩
            have E51 : b14 < D1 := by have := B14.lt; omega
            refine Calls.mono (HC1.out _ hS) ?_
            rintro ee U27 ⟨vq1, bs1, rfl, C1, hbU⟩
            obtain ⟨pe2, ce2, pr2, cr2, hvt⟩ := C1.form5
            rw [HK.out.1, HK.out.2.1, HK.out.2.2.1, HK.out.2.2.2.1, HK.out.2.2.2.2] at hvt
            subst hvt
            rw [hD1] at C1
            have hS0 := hS
            have hS : Below w4.heap.size w4 U27 := hS0.trans (hbU.mono hS0.size)
            replace B14 := B14.below hbU
            have F1 : Kp (fun q => q < D1) U27 U27 := Kp.refl _ _
            clear hS0 hbU hD1
            refine ⟨_, rfl, hS, ?_⟩
            simp only [List.setIfInBounds_toArray, List.set_cons_zero, List.set_cons_succ]
            refine M_fork 3 4 19 5 11 #[.agg #[.int .i64 Kb, .int .i64 Nb, .string Sb, .slice qe Eb de, .slice qr Rb dr]] (.pointer (some ⟨U27.heap.size, 0, none⟩)) (U27.alloc (Obj.cells #[.int .i64 0, .int .i64 0, .string ⟨#[]⟩, .slice none 0 0, .slice none 0 0] 25)) rfl rfl rfl rfl (by kernel_rfl) (by rfl) (by rfl) (by go_simp) (by go_simp) ?_ (hS.trans (((Below.refl _ _).alloc (Nat.le_refl _) _).mono hS.size)) ?_
            · skip
              obtain ⟨D3, hD3⟩ : ∃ z, U27.heap.size = z := ⟨_, rfl⟩
              have E53 : b14 < D3 := by have := B14.lt; omega
              refine Calls.mono (HC3.out _ hS) ?_
              rintro ee U28 ⟨vq3, bs3, rfl, C3, hbU⟩
              obtain ⟨qe2, de2, qr2, dr2, hvt⟩ := C3.form5
              rw [HKB.out.1, HKB.out.2.1, HKB.out.2.2.1, HKB.out.2.2.2.1, HKB.out.2.2.2.2] at hvt
              subst hvt
              rw [hD3] at C3
              have hS0 := hS
              have hS : Below w4.heap.size w4 U28 := hS0.trans (hbU.mono hS0.size)
              replace F1 := F1.trans (Kp.ofBelow hbU)
              replace B14 := B14.below hbU
              have F3 : Kp (fun q => q < D3) U28 U28 := Kp.refl _ _
              clear hS0 hbU hD3
              refine ⟨_, rfl, hS, ?_⟩
              simp only [List.setIfInBounds_toArray, List.set_cons_zero, List.set_cons_succ]
              refine M_run 4 5 (.pointer (some ⟨U28.heap.size, 0, none⟩)) (U28.alloc (Obj.cells #[.int .i64 0, .int .i64 0, .string ⟨#[]⟩, .slice none 0 0, .slice none 0 0] 25)) rfl rfl (by kernel_rfl) (by rfl) (listed' := #[true, true, true, true, true, true, false, false]) (by kernel_rfl) (by go_simp) (hS.trans (((Below.refl _ _).alloc (Nat.le_refl _) _).mono hS.size)) ?_
              have hbU : Below U28.heap.size U28 (U28.alloc (Obj.cells #[.int .i64 0, .int .i64 0, .string ⟨#[]⟩, .slice none 0 0, .slice none 0 0] 25)) := (Below.refl _ _).alloc (Nat.le_refl _) _
              obtain ⟨b13, hbk⟩ : ∃ z, U28.heap.size = z := ⟨_, rfl⟩
              have B13 : Blk (U28.alloc (Obj.cells #[.int .i64 0, .int .i64 0, .string ⟨#[]⟩, .slice none 0 0, .slice none 0 0] 25)) b13 #[.int .i64 0, .int .i64 0, .string ⟨#[]⟩, .slice none 0 0, .slice none 0 0] 25 := by rw [← hbk]; exact Blk.new U28 _ _
              have G13 : w4.heap.size ≤ b13 := by rw [← hbk]; exact hS.size
              have HNE : Hid (b13 ≠ b14) := (by have := B14.lt; omega : b13 ≠ b14)
              have HE41 : Hid (U27.heap.size ≤ b13) := (by rw [← hbk]; exact F1.size : U27.heap.size ≤ b13)
              have HE43 : Hid (U28.heap.size ≤ b13) := (by rw [← hbk]; exact F3.size : U28.heap.size ≤ b13)
              have hS0 := hS
              have hS : Below w4.heap.size w4 (U28.alloc (Obj.cells #[.int .i64 0, .int .i64 0, .string ⟨#[]⟩, .slice none 0 0, .slice none 0 0] 25)) := hS0.trans (hbU.mono hS0.size)
              replace F1 := F1.trans (Kp.ofBelow hbU)
              replace F3 := F3.trans (Kp.ofBelow hbU)
              replace B14 := B14.below hbU
              clear hS0 hbU
              simp only [List.setIfInBounds_toArray, List.set_cons_zero, List.set_cons_succ]
              simp only [hbk]
              clear hbk
              generalize (U28.alloc (Obj.cells #[.int .i64 0, .int .i64 0, .string ⟨#[]⟩, .slice none 0 0, .slice none 0 0] 25)) = U29 at *
              have k0 := (B13.cell 0).trans rfl
              have z0 := B13.froz 0
              have k1 := (B13.cell 1).trans rfl
              have z1 := B13.froz 1
              have k2 := (B13.cell 2).trans rfl
              have z2 := B13.froz 2
              have k3 := (B13.cell 3).trans rfl
              have z3 := B13.froz 3
              have k4 := (B13.cell 4).trans rfl
              have z4 := B13.froz 4
              obtain ⟨hS6, B146, HRR⟩ := leaf_two B13 B14 HNE.out C1 F1 (fun h => absurd HE41.out (by omega)) (fun _ => E51) C3 F3 (fun h => absurd HE43.out (by omega)) (fun _ => E53) hS G13 G14
              refine M_storeT 6 (st5K U29 b13 (.int .i64 K) (.int .i64 N) (.string S) (.slice pe2 Ke ce2) (.slice pr2 Kr cr2)) rfl rfl (by kernel_rfl) (by rfl) (listed' := #[true, true, true, true, true, true, true, false]) (by kernel_rfl) (by unfold st5K; go_simp) hS6 ?_
              clear k0 z0 k1 z1 k2 z2 k3 z3 k4 z4 hS B13 B14 F1 F3
              generalize (st5K U29 b13 (.int .i64 K) (.int .i64 N) (.string S) (.slice pe2 Ke ce2) (.slice pr2 Kr cr2)) = V6 at *
              have k0 := (B146.cell 0).trans rfl
              have z0 := B146.froz 0
              have k1 := (B146.cell 1).trans rfl
              have z1 := B146.froz 1
              have k2 := (B146.cell 2).trans rfl
              have z2 := B146.froz 2
              have k3 := (B146.cell 3).trans rfl
              have z3 := B146.froz 3
              have k4 := (B146.cell 4).trans rfl
              have z4 := B146.froz 4
              refine M_store 7 (st5K V6 b14 (.int .i64 Kb) (.int .i64 Nb) (.string Sb) (.slice qe2 Eb de2) (.slice qr2 Rb dr2)) rfl rfl (by kernel_rfl) (by rfl) (listed' := #[true, true, true, true, true, true, true, true]) (by kernel_rfl) (by unfold st5K; go_simp) (by kernel_rfl) ?_
              refine M_done (by kernel_rfl) ?_ _
              clear k0 z0 k1 z1 k2 z2 k3 z3 k4 z4 B146 hS6
              go_wp2_with fail
              go_meet
              exact ⟨b13, b14, pe2, pr2, qe2, qr2, ce2, cr2, de2, dr2, rfl, rfl, HRR⟩
            · skip
              have hbU : Below U27.heap.size U27 (U27.alloc (Obj.cells #[.int .i64 0, .int .i64 0, .string ⟨#[]⟩, .slice none 0 0, .slice none 0 0] 25)) := (Below.refl _ _).alloc (Nat.le_refl _) _
              obtain ⟨b13, hbk⟩ : ∃ z, U27.heap.size = z := ⟨_, rfl⟩
              have B13 : Blk (U27.alloc (Obj.cells #[.int .i64 0, .int .i64 0, .string ⟨#[]⟩, .slice none 0 0, .slice none 0 0] 25)) b13 #[.int .i64 0, .int .i64 0, .string ⟨#[]⟩, .slice none 0 0, .slice none 0 0] 25 := by rw [← hbk]; exact Blk.new U27 _ _
              have G13 : w4.heap.size ≤ b13 := by rw [← hbk]; exact hS.size
              have HNE : Hid (b13 ≠ b14) := (by have := B14.lt; omega : b13 ≠ b14)
              have HE41 : Hid (U27.heap.size ≤ b13) := (by rw [← hbk]; exact F1.size : U27.heap.size ≤ b13)
              have hS0 := hS
              have hS : Below w4.heap.size w4 (U27.alloc (Obj.cells #[.int .i64 0, .int .i64 0, .string ⟨#[]⟩, .slice none 0 0, .slice none 0 0] 25)) := hS0.trans (hbU.mono hS0.size)
              replace F1 := F1.trans (Kp.ofBelow hbU)
              replace B14 := B14.below hbU
              clear hS0 hbU
              simp only [List.setIfInBounds_toArray, List.set_cons_zero, List.set_cons_succ]
              simp only [hbk]
              clear hbk
              generalize (U27.alloc (Obj.cells #[.int .i64 0, .int .i64 0, .string ⟨#[]⟩, .slice none 0 0, .slice none 0 0] 25)) = U30 at *
              refine M_call 3 19 11 #[.agg #[.int .i64 Kb, .int .i64 Nb, .string Sb, .slice qe Eb de, .slice qr Rb dr]] rfl rfl (by kernel_rfl) (by rfl) (listed' := #[true, true, true, true, true, true, false, false]) (by kernel_rfl) (fun W => by go_simp) ?_
              obtain ⟨D3, hD3⟩ : ∃ z, U30.heap.size = z := ⟨_, rfl⟩
              have E43 : b13 < D3 := by have := B13.lt; omega
              have E53 : b14 < D3 := by have := B14.lt; omega
              refine Calls.mono (HC3.out _ hS) ?_
              rintro ee U31 ⟨vq3, bs3, rfl, C3, hbU⟩
              obtain ⟨qe2, de2, qr2, dr2, hvt⟩ := C3.form5
              rw [HKB.out.1, HKB.out.2.1, HKB.out.2.2.1, HKB.out.2.2.2.1, HKB.out.2.2.2.2] at hvt
              subst hvt
              rw [hD3] at C3
              have hS0 := hS
              have hS : Below w4.heap.size w4 U31 := hS0.trans (hbU.mono hS0.size)
              replace F1 := F1.trans (Kp.ofBelow hbU)
              replace B13 := B13.below hbU
              replace B14 := B14.below hbU
              have F3 : Kp (fun q => q < D3) U31 U31 := Kp.refl _ _
              clear hS0 hbU hD3
              refine ⟨_, rfl, hS, ?_⟩
              simp only [List.setIfInBounds_toArray, List.set_cons_zero, List.set_cons_succ]
              have k0 := (B13.cell 0).trans rfl
              have z0 := B13.froz 0
              have k1 := (B13.cell 1).trans rfl
              have z1 := B13.froz 1
              have k2 := (B13.cell 2).trans rfl
              have z2 := B13.froz 2
              have k3 := (B13.cell 3).trans rfl
              have z3 := B13.froz 3
              have k4 := (B13.cell 4).trans rfl
              have z4 := B13.froz 4
              obtain ⟨hS6, B146, HRR⟩ := leaf_two B13 B14 HNE.out C1 F1 (fun h => absurd HE41.out (by omega)) (fun _ => E51) C3 F3 (fun _ => E43) (fun _ => E53) hS G13 G14
              refine M_storeT 6 (st5K U31 b13 (.int .i64 K) (.int .i64 N) (.string S) (.slice pe2 Ke ce2) (.slice pr2 Kr cr2)) rfl rfl (by kernel_rfl) (by rfl) (listed' := #[true, true, true, true, true, true, true, false]) (by kernel_rfl) (by unfold st5K; go_simp) hS6 ?_
              clear k0 z0 k1 z1 k2 z2 k3 z3 k4 z4 hS B13 B14 F1 F3
              generalize (st5K U31 b13 (.int .i64 K) (.int .i64 N) (.string S) (.slice pe2 Ke ce2) (.slice pr2 Kr cr2)) = V6 at *
              have k0 := (B146.cell 0).trans rfl
              have z0 := B146.froz 0
              have k1 := (B146.cell 1).trans rfl
              have z1 := B146.froz 1
              have k2 := (B146.cell 2).trans rfl
              have z2 := B146.froz 2
              have k3 := (B146.cell 3).trans rfl
              have z3 := B146.froz 3
              have k4 := (B146.cell 4).trans rfl
              have z4 := B146.froz 4
              refine M_store 7 (st5K V6 b14 (.int .i64 Kb) (.int .i64 Nb) (.string Sb) (.slice qe2 Eb de2) (.slice qr2 Rb dr2)) rfl rfl (by kernel_rfl) (by rfl) (listed' := #[true, true, true, true, true, true, true, true]) (by kernel_rfl) (by unfold st5K; go_simp) (by kernel_rfl) ?_
              refine M_done (by kernel_rfl) ?_ _
              clear k0 z0 k1 z1 k2 z2 k3 z3 k4 z4 B146 hS6
              go_wp2_with fail
              go_meet
              exact ⟨b13, b14, pe2, pr2, qe2, qr2, ce2, cr2, de2, dr2, rfl, rfl, HRR⟩
          · skip
            have hbU : Below U26.heap.size U26 (U26.alloc (Obj.cells #[.int .i64 0, .int .i64 0, .string ⟨#[]⟩, .slice none 0 0, .slice none 0 0] 25)) := (Below.refl _ _).alloc (Nat.le_refl _) _
            obtain ⟨b13, hbk⟩ : ∃ z, U26.heap.size = z := ⟨_, rfl⟩
            have B13 : Blk (U26.alloc (Obj.cells #[.int .i64 0, .int .i64 0, .string ⟨#[]⟩, .slice none 0 0, .slice none 0 0] 25)) b13 #[.int .i64 0, .int .i64 0, .string ⟨#[]⟩, .slice none 0 0, .slice none 0 0] 25 := by rw [← hbk]; exact Blk.new U26 _ _
            have G13 : w4.heap.size ≤ b13 := by rw [← hbk]; exact hS.size
            have HNE : Hid (b13 ≠ b14) := (by have := B14.lt; omega : b13 ≠ b14)
            have hS0 := hS
            have hS : Below w4.heap.size w4 (U26.alloc (Obj.cells #[.int .i64 0, .int .i64 0, .string ⟨#[]⟩, .slice none 0 0, .slice none 0 0] 25)) := hS0.trans (hbU.mono hS0.size)
            replace B14 := B14.below hbU
            clear hS0 hbU
            simp only [List.setIfInBounds_toArray, List.set_cons_zero, List.set_cons_succ]
            simp only [hbk]
            clear hbk
            generalize (U26.alloc (Obj.cells #[.int .i64 0, .int .i64 0, .string ⟨#[]⟩, .slice none 0 0, .slice none 0 0] 25)) = U32 at *
            refine M_call 1 17 11 #[.agg #[.int .i64 K, .int .i64 N, .string S, .slice pe Ke ce, .slice pr Kr cr]] rfl rfl (by kernel_rfl) (by rfl) (listed' := #[true, true, true, false, true, true, false, false]) (by kernel_rfl) (fun W => by go_simp) ?_
            obtain ⟨D1, hD1⟩ : ∃ z, U32.heap.size = z := ⟨_, rfl⟩
            have E41 : b13 < D1 := by have := B13.lt; omega
            have E51 : b14 < D1 := by have := B14.lt; omega
            refine Calls.mono (HC1.out _ hS) ?_
            rintro ee U33 ⟨vq1, bs1, rfl, C1, hbU⟩
            obtain ⟨pe2, ce2, pr2, cr2, hvt⟩ := C1.form5
            rw [HK.out.1, HK.out.2.1, HK.out.2.2.1, HK.out.2.2.2.1, HK.out.2.2.2.2] at hvt
            subst hvt
            rw [hD1] at C1
            have hS0 := hS
            have hS : Below w4.heap.size w4 U33 := hS0.trans (hbU.mono hS0.size)
            replace B13 := B13.below hbU
            replace B14 := B14.below hbU
            have F1 : Kp (fun q => q < D1) U33 U33 := Kp.refl _ _
            clear hS0 hbU hD1
            refine ⟨_, rfl, hS, ?_⟩
            simp only [List.setIfInBounds_toArray, List.set_cons_zero, List.set_cons_succ]
            refine M_call 3 19 11 #[.agg #[.int .i64 Kb, .int .i64 Nb, .string Sb, .slice qe Eb de, .slice qr Rb dr]] rfl rfl (by kernel_rfl) (by rfl) (listed' := #[true, true, true, true, true, true, false, false]) (by kernel_rfl) (fun W => by go_simp) ?_
            obtain ⟨D3, hD3⟩ : ∃ z, U33.heap.size = z := ⟨_, rfl⟩
            have E43 : b13 < D3 := by have := B13.lt; omega
            have E53 : b14 < D3 := by have := B14.lt; omega
            refine Calls.mono (HC3.out _ hS) ?_
            rintro ee U34 ⟨vq3, bs3, rfl, C3, hbU⟩
            obtain ⟨qe2, de2, qr2, dr2, hvt⟩ := C3.form5
            rw [HKB.out.1, HKB.out.2.1, HKB.out.2.2.1, HKB.out.2.2.2.1, HKB.out.2.2.2.2] at hvt
            subst hvt
            rw [hD3] at C3
            have hS0 := hS
            have hS : Below w4.heap.size w4 U34 := hS0.trans (hbU.mono hS0.size)
            replace F1 := F1.trans (Kp.ofBelow hbU)
            replace B13 := B13.below hbU
            replace B14 := B14.below hbU
            have F3 : Kp (fun q => q < D3) U34 U34 := Kp.refl _ _
            clear hS0 hbU hD3
            refine ⟨_, rfl, hS, ?_⟩
            simp only [List.setIfInBounds_toArray, List.set_cons_zero, List.set_cons_succ]
            have k0 := (B13.cell 0).trans rfl
            have z0 := B13.froz 0
            have k1 := (B13.cell 1).trans rfl
            have z1 := B13.froz 1
            have k2 := (B13.cell 2).trans rfl
            have z2 := B13.froz 2
            have k3 := (B13.cell 3).trans rfl
            have z3 := B13.froz 3
            have k4 := (B13.cell 4).trans rfl
            have z4 := B13.froz 4
            obtain ⟨hS6, B146, HRR⟩ := leaf_two B13 B14 HNE.out C1 F1 (fun _ => E41) (fun _ => E51) C3 F3 (fun _ => E43) (fun _ => E53) hS G13 G14
            refine M_storeT 6 (st5K U34 b13 (.int .i64 K) (.int .i64 N) (.string S) (.slice pe2 Ke ce2) (.slice pr2 Kr cr2)) rfl rfl (by kernel_rfl) (by rfl) (listed' := #[true, true, true, true, true, true, true, false]) (by kernel_rfl) (by unfold st5K; go_simp) hS6 ?_
            clear k0 z0 k1 z1 k2 z2 k3 z3 k4 z4 hS B13 B14 F1 F3
            generalize (st5K U34 b13 (.int .i64 K) (.int .i64 N) (.string S) (.slice pe2 Ke ce2) (.slice pr2 Kr cr2)) = V6 at *
            have k0 := (B146.cell 0).trans rfl
            have z0 := B146.froz 0
            have k1 := (B146.cell 1).trans rfl
            have z1 := B146.froz 1
            have k2 := (B146.cell 2).trans rfl
            have z2 := B146.froz 2
            have k3 := (B146.cell 3).trans rfl
            have z3 := B146.froz 3
            have k4 := (B146.cell 4).trans rfl
            have z4 := B146.froz 4
            refine M_store 7 (st5K V6 b14 (.int .i64 Kb) (.int .i64 Nb) (.string Sb) (.slice qe2 Eb de2) (.slice qr2 Rb dr2)) rfl rfl (by kernel_rfl) (by rfl) (listed' := #[true, true, true, true, true, true, true, true]) (by kernel_rfl) (by unfold st5K; go_simp) (by kernel_rfl) ?_
            refine M_done (by kernel_rfl) ?_ _
            clear k0 z0 k1 z1 k2 z2 k3 z3 k4 z4 B146 hS6
            go_wp2_with fail
            go_meet
            exact ⟨b13, b14, pe2, pr2, qe2, qr2, ce2, cr2, de2, dr2, rfl, rfl, HRR⟩
      case rest =>
        obtain ⟨b13, b14, pe2, pr2, qe2, qr2, ce2, cr2, de2, dr2, rfl, rfl, HRR⟩ := hcut
        have hcw : Below w4.heap.size w4 wc := HRR.out.2.2.2.2
        have hbwc : Below w.heap.size w wc := hbw4.trans (hcw.mono hbw4.size)
        have B13 := HRR.out.1
        have B14 := HRR.out.2.1
        have BA5 := BA4.below hcw
        have BB5 := BB4.below hcw
        have HX : Hid (∃ D ds, TrV 14 D wc (.agg #[.int .i64 K, .int .i64 N, .string S, .slice pe2 Ke ce2, .slice pr2 Kr cr2]) a ds) := HRR.out.2.2.1
        have HY : Hid (∃ D ds, TrV 14 D wc (.agg #[.int .i64 Kb, .int .i64 Nb, .string Sb, .slice qe2 Eb de2, .slice qr2 Rb dr2]) b ds) := HRR.out.2.2.2.1
        have HXW : Hid (∀ W, Below wc.heap.size wc W → (∃ D ds, TrV 14 D W (.agg #[.int .i64 K, .int .i64 N, .string S, .slice pe2 Ke ce2, .slice pr2 Kr cr2]) a ds) ∧ (∃ D ds, TrV 14 D W (.agg #[.int .i64 Kb, .int .i64 Nb, .string Sb, .slice qe2 Eb de2, .slice qr2 Rb dr2]) b ds) ∧ TrIn 14 W (.agg #[.int .i64 K, .int .i64 N, .string S, .slice pe Ke ce, .slice pr Kr cr]) a ∧ TrIn 14 W (.agg #[.int .i64 Kb, .int .i64 Nb, .string Sb, .slice qe Eb de, .slice qr Rb dr]) b) := fun W hW => by
          obtain ⟨D, ds, h1⟩ := HX.out
          obtain ⟨D', ds', h2⟩ := HY.out
          exact ⟨⟨D, ds, h1.belowK hW⟩, ⟨D', ds', h2.belowK hW⟩, HIA.out.below (hcw.trans (hW.mono hcw.size)), HIB.out.below (hcw.trans (hW.mono hcw.size))⟩
        obtain ⟨XC, hXC⟩ : ∃ z, chkN 14 a = z := ⟨_, rfl⟩
        obtain ⟨XD, hXD⟩ : ∃ z, (dpN 14 a : Int) = z := ⟨_, rfl⟩
        have hwt : wtE 13 a.es ≤ 500 := by
          have h1 := HSA.out.2
          have h2 : cntN 14 a = wtE 13 a.es := rfl
          omega
        have HV1 : Hid (∀ W, Below wc.heap.size wc W → Calls Try.prog 12 #[.agg #[.int .i64 K, .int .i64 N, .string S, .slice pe2 Ke ce2, .slice pr2 Kr cr2]] W fun e w' => e = .returned (.bool XC) ∧ Below W.heap.size W w') := fun W hW => by
          obtain ⟨D, ds, h1⟩ := (HXW.out W hW).1
          rw [← hXC]
          exact vcheck_any 14 a _ W h1.v2k (by omega) (by have := HSA.out.2; omega) HSA.out.1
        have HV2 : Hid (∀ W, Below wc.heap.size wc W → Calls Try.prog 13 #[.agg #[.int .i64 K, .int .i64 N, .string S, .slice pe Ke ce, .slice pr Kr cr]] W fun e w' => e = .returned (.bool XC) ∧ Below W.heap.size W w') := fun W hW => by
          rw [← hXC]
          exact rCheck_any 14 a _ W (HXW.out W hW).2.2.1 (by omega)
        have HV3 : Hid (∀ W, Below wc.heap.size wc W → Calls Try.prog 14 #[.agg #[.int .i64 K, .int .i64 N, .string S, .slice pe2 Ke ce2, .slice pr2 Kr cr2]] W fun e w' => e = .returned (.int .i64 XD) ∧ Below W.heap.size W w') := fun W hW => by
          obtain ⟨D, ds, h1⟩ := (HXW.out W hW).1
          rw [← hXD]
          exact depth_any 14 a _ W h1.v2k (by omega) (by have := HSA.out.2; omega)
        have HV4 : Hid (∀ W, Below wc.heap.size wc W → Calls Try.prog 15 #[.agg #[.int .i64 K, .int .i64 N, .string S, .slice pe Ke ce, .slice pr Kr cr]] W fun e w' => e = .returned (.int .i64 XD) ∧ Below W.heap.size W w') := fun W hW => by
          rw [← hXD]
          exact rDepth_any 14 a _ W (HXW.out W hW).2.2.1 (by omega)
        have HV5 : Hid (∀ W, Below wc.heap.size wc W → Calls Try.prog 16 #[.agg #[.int .i64 K, .int .i64 N, .string S, .slice pe2 Ke ce2, .slice pr2 Kr cr2], .agg #[.int .i64 Kb, .int .i64 Nb, .string Sb, .slice qe2 Eb de2, .slice qr2 Rb dr2]] W fun e w' => Says (a = b) e ∧ Below W.heap.size W w') := fun W hW => by
          obtain ⟨D, ds, h1⟩ := (HXW.out W hW).1
          obtain ⟨D', ds', h2⟩ := (HXW.out W hW).2.1
          exact same_any false 13 D a b _ _ W h1.tr h2.tr ⟨ds, h1⟩ (fun h => by cases h) hwt
        have HV6 : Hid (∀ W, Below wc.heap.size wc W → Calls Try.prog 17 #[.agg #[.int .i64 K, .int .i64 N, .string S, .slice pe Ke ce, .slice pr Kr cr], .agg #[.int .i64 Kb, .int .i64 Nb, .string Sb, .slice qe Eb de, .slice qr Rb dr]] W fun e w' => SamT a b e ∧ Below W.heap.size W w') := fun W hW => rsame_any 14 14 a b _ _ W (HXW.out W hW).2.2.1 (HXW.out W hW).2.2.2
        have HV7 : Hid (∀ W, Below wc.heap.size wc W → Calls Try.prog 16 #[.agg #[.int .i64 K, .int .i64 N, .string S, .slice pe2 Ke ce2, .slice pr2 Kr cr2], .agg #[.int .i64 K, .int .i64 N, .string S, .slice pe Ke ce, .slice pr Kr cr]] W fun e w' => Says (a = a) e ∧ Below W.heap.size W w') := fun W hW => by
          obtain ⟨D, ds, h1⟩ := (HXW.out W hW).1
          exact same_any false 13 D a a _ _ W h1.tr (HXW.out W hW).2.2.1 ⟨ds, h1⟩ (fun h => by cases h) hwt
        have HV8 : Hid (∀ W, Below wc.heap.size wc W → Calls Try.prog 17 #[.agg #[.int .i64 K, .int .i64 N, .string S, .slice pe2 Ke ce2, .slice pr2 Kr cr2], .agg #[.int .i64 K, .int .i64 N, .string S, .slice pe Ke ce, .slice pr Kr cr]] W fun e w' => SamT a a e ∧ Below W.heap.size W w') := fun W hW => by
          obtain ⟨D, ds, h1⟩ := (HXW.out W hW).1
          exact rsame_any 14 14 a a _ _ W h1.tr (HXW.out W hW).2.2.1
        have dC : (XC == XC) = true := by simp
        clear hXC hXD HRR hcw BA4 BB4 HC1 HC3 HX HY hwt
        go_upto_region 4 with fail
        have hS : Below wc.heap.size wc wc.drew := (Below.refl _ _).drew
        refine wp_region_held_drew (S := fun w' => Below wc.heap.size wc w') (by kernel_rfl) hS (fun hS => ?_)
        refine rg_take 0 20 (.agg #[.int .i64 K, .int .i64 N, .string S, .slice pe2 Ke ce2, .slice pr2 Kr cr2]) _ rfl rfl (by kernel_rfl) (by kernel_rfl) (by kernel_rfl) (fun _ _ _ h => h) (by rfl) (fun w' hw' => ?_) hS (listed' := #[true, false, false, false, false, false, false, false, false, false, false, false, false, false, false, false, false, false, false, false, false, false, false, false, false, false, false, false, false, false, false, false, false, false, false]) (by kernel_rfl) rfl ?_
        · have f0 := ((B13.below hw').cell 0).trans rfl; have f1 := ((B13.below hw').cell 1).trans rfl; have f2 := ((B13.below hw').cell 2).trans rfl; have f3 := ((B13.below hw').cell 3).trans rfl; have f4 := ((B13.below hw').cell 4).trans rfl; go_simp
        simp only [List.setIfInBounds_toArray, List.set_cons_zero, List.set_cons_succ]
        refine rg_take 2 22 (.agg #[.int .i64 K, .int .i64 N, .string S, .slice pe Ke ce, .slice pr Kr cr]) _ rfl rfl (by kernel_rfl) (by kernel_rfl) (by kernel_rfl) (fun _ _ _ h => h) (by rfl) (fun w' hw' => ?_) hS (listed' := #[true, false, true, false, false, false, false, false, false, false, false, false, false, false, false, false, false, false, false, false, false, false, false, false, false, false, false, false, false, false, false, false, false, false, false]) (by kernel_rfl) rfl ?_
        · have f0 := ((BA5.below hw').cell 0).trans rfl; have f1 := ((BA5.below hw').cell 1).trans rfl; have f2 := ((BA5.below hw').cell 2).trans rfl; have f3 := ((BA5.below hw').cell 3).trans rfl; have f4 := ((BA5.below hw').cell 4).trans rfl; go_simp
        simp only [List.setIfInBounds_toArray, List.set_cons_zero, List.set_cons_succ]
        refine rg_call 1 21 12 #[.agg #[.int .i64 K, .int .i64 N, .string S, .slice pe2 Ke ce2, .slice pr2 Kr cr2]] rfl rfl (by kernel_rfl) (by rfl) (listed' := #[true, true, true, false, false, false, false, false, false, false, false, false, false, false, false, false, false, false, false, false, false, false, false, false, false, false, false, false, false, false, false, false, false, false, false]) (by kernel_rfl) (fun W => by go_simp) ?_
        refine (HV1.out _ hS).mono ?_
        rintro ee X1 ⟨rfl, hbX⟩
        have hS0 := hS
        have hS : Below wc.heap.size wc X1 := hS0.trans (hbX.mono hS0.size)
        clear hS0 hbX
        refine ⟨_, rfl, hS, ?_⟩
        simp only [List.setIfInBounds_toArray, List.set_cons_zero, List.set_cons_succ]
        refine rg_call 3 23 13 #[.agg #[.int .i64 K, .int .i64 N, .string S, .slice pe Ke ce, .slice pr Kr cr]] rfl rfl (by kernel_rfl) (by rfl) (listed' := #[true, true, true, true, false, false, false, false, false, false, false, false, false, false, false, false, false, false, false, false, false, false, false, false, false, false, false, false, false, false, false, false, false, false, false]) (by kernel_rfl) (fun W => by go_simp) ?_
        refine (HV2.out _ hS).mono ?_
        rintro ee X2 ⟨rfl, hbX⟩
        have hS0 := hS
        have hS : Below wc.heap.size wc X2 := hS0.trans (hbX.mono hS0.size)
        clear hS0 hbX
        refine ⟨_, rfl, hS, ?_⟩
        simp only [List.setIfInBounds_toArray, List.set_cons_zero, List.set_cons_succ]
        refine rg_take 4 24 (.bool true) _ rfl rfl (by kernel_rfl) (by kernel_rfl) (by kernel_rfl) (fun _ _ _ h => h) (by rfl) (fun w' hw' => ?_) hS (listed' := #[true, true, true, true, true, false, false, false, false, false, false, false, false, false, false, false, false, false, false, false, false, false, false, false, false, false, false, false, false, false, false, false, false, false, false]) (by kernel_rfl) rfl ?_
        · go_simp
        simp only [List.setIfInBounds_toArray, List.set_cons_zero, List.set_cons_succ]
        refine rg_take 5 25 (.bool true) _ rfl rfl (by kernel_rfl) (by kernel_rfl) (by kernel_rfl) (fun _ _ _ h => h) (by rfl) (fun w' hw' => ?_) hS (listed' := #[true, true, true, true, true, true, false, false, false, false, false, false, false, false, false, false, false, false, false, false, false, false, false, false, false, false, false, false, false, false, false, false, false, false, false]) (by kernel_rfl) rfl ?_
        · go_simp
        simp only [List.setIfInBounds_toArray, List.set_cons_zero, List.set_cons_succ]
        refine rg_take 6 26 (.agg #[.int .i64 K, .int .i64 N, .string S, .slice pe2 Ke ce2, .slice pr2 Kr cr2]) _ rfl rfl (by kernel_rfl) (by kernel_rfl) (by kernel_rfl) (fun _ _ _ h => h) (by rfl) (fun w' hw' => ?_) hS (listed' := #[true, true, true, true, true, true, true, false, false, false, false, false, false, false, false, false, false, false, false, false, false, false, false, false, false, false, false, false, false, false, false, false, false, false, false]) (by kernel_rfl) rfl ?_
        · have f0 := ((B13.below hw').cell 0).trans rfl; have f1 := ((B13.below hw').cell 1).trans rfl; have f2 := ((B13.below hw').cell 2).trans rfl; have f3 := ((B13.below hw').cell 3).trans rfl; have f4 := ((B13.below hw').cell 4).trans rfl; go_simp
        simp only [List.setIfInBounds_toArray, List.set_cons_zero, List.set_cons_succ]
        refine rg_take 8 28 (.agg #[.int .i64 K, .int .i64 N, .string S, .slice pe Ke ce, .slice pr Kr cr]) _ rfl rfl (by kernel_rfl) (by kernel_rfl) (by kernel_rfl) (fun _ _ _ h => h) (by rfl) (fun w' hw' => ?_) hS (listed' := #[true, true, true, true, true, true, true, false, true, false, false, false, false, false, false, false, false, false, false, false, false, false, false, false, false, false, false, false, false, false, false, false, false, false, false]) (by kernel_rfl) rfl ?_
        · have f0 := ((BA5.below hw').cell 0).trans rfl; have f1 := ((BA5.below hw').cell 1).trans rfl; have f2 := ((BA5.below hw').cell 2).trans rfl; have f3 := ((BA5.below hw').cell 3).trans rfl; have f4 := ((BA5.below hw').cell 4).trans rfl; go_simp
        simp only [List.setIfInBounds_toArray, List.set_cons_zero, List.set_cons_succ]
        refine rg_call 7 27 14 #[.agg #[.int .i64 K, .int .i64 N, .string S, .slice pe2 Ke ce2, .slice pr2 Kr cr2]] rfl rfl (by kernel_rfl) (by rfl) (listed' := #[true, true, true, true, true, true, true, true, true, false, false, false, false, false, false, false, false, false, false, false, false, false, false, false, false, false, false, false, false, false, false, false, false, false, false]) (by kernel_rfl) (fun W => by go_simp) ?_
        refine (HV3.out _ hS).mono ?_
        rintro ee X3 ⟨rfl, hbX⟩
        have hS0 := hS
        have hS : Below wc.heap.size wc X3 := hS0.trans (hbX.mono hS0.size)
        clear hS0 hbX
        refine ⟨_, rfl, hS, ?_⟩
        simp only [List.setIfInBounds_toArray, List.set_cons_zero, List.set_cons_succ]
        refine rg_call 9 29 15 #[.agg #[.int .i64 K, .int .i64 N, .string S, .slice pe Ke ce, .slice pr Kr cr]] rfl rfl (by kernel_rfl) (by rfl) (listed' := #[true, true, true, true, true, true, true, true, true, true, false, false, false, false, false, false, false, false, false, false, false, false, false, false, false, false, false, false, false, false, false, false, false, false, false]) (by kernel_rfl) (fun W => by go_simp) ?_
        refine (HV4.out _ hS).mono ?_
        rintro ee X4 ⟨rfl, hbX⟩
        have hS0 := hS
        have hS : Below wc.heap.size wc X4 := hS0.trans (hbX.mono hS0.size)
        clear hS0 hbX
        refine ⟨_, rfl, hS, ?_⟩
        simp only [List.setIfInBounds_toArray, List.set_cons_zero, List.set_cons_succ]
        refine rg_take 10 30 (.bool true) _ rfl rfl (by kernel_rfl) (by kernel_rfl) (by kernel_rfl) (fun _ _ _ h => h) (by rfl) (fun w' hw' => ?_) hS (listed' := #[true, true, true, true, true, true, true, true, true, true, true, false, false, false, false, false, false, false, false, false, false, false, false, false, false, false, false, false, false, false, false, false, false, false, false]) (by kernel_rfl) rfl ?_
        · go_simp
        simp only [List.setIfInBounds_toArray, List.set_cons_zero, List.set_cons_succ]
        refine rg_take 11 31 (.bool true) _ rfl rfl (by kernel_rfl) (by kernel_rfl) (by kernel_rfl) (fun _ _ _ h => h) (by rfl) (fun w' hw' => ?_) hS (listed' := #[true, true, true, true, true, true, true, true, true, true, true, true, false, false, false, false, false, false, false, false, false, false, false, false, false, false, false, false, false, false, false, false, false, false, false]) (by kernel_rfl) rfl ?_
        · go_simp
        simp only [List.setIfInBounds_toArray, List.set_cons_zero, List.set_cons_succ]
        refine rg_take 12 32 (.bool true) _ rfl rfl (by kernel_rfl) (by kernel_rfl) (by kernel_rfl) (fun _ _ _ h => h) (by rfl) (fun w' hw' => ?_) hS (listed' := #[true, true, true, true, true, true, true, true, true, true, true, true, true, false, false, false, false, false, false, false, false, false, false, false, false, false, false, false, false, false, false, false, false, false, false]) (by kernel_rfl) rfl ?_
        · go_simp
        simp only [List.setIfInBounds_toArray, List.set_cons_zero, List.set_cons_succ]
        refine rg_take 13 33 (.agg #[.int .i64 K, .int .i64 N, .string S, .slice pe2 Ke ce2, .slice pr2 Kr cr2]) _ rfl rfl (by kernel_rfl) (by kernel_rfl) (by kernel_rfl) (fun _ _ _ h => h) (by rfl) (fun w' hw' => ?_) hS (listed' := #[true, true, true, true, true, true, true, true, true, true, true, true, true, true, false, false, false, false, false, false, false, false, false, false, false, false, false, false, false, false, false, false, false, false, false]) (by kernel_rfl) rfl ?_
        · have f0 := ((B13.below hw').cell 0).trans rfl; have f1 := ((B13.below hw').cell 1).trans rfl; have f2 := ((B13.below hw').cell 2).trans rfl; have f3 := ((B13.below hw').cell 3).trans rfl; have f4 := ((B13.below hw').cell 4).trans rfl; go_simp
        simp only [List.setIfInBounds_toArray, List.set_cons_zero, List.set_cons_succ]
        refine rg_take 14 34 (.agg #[.int .i64 Kb, .int .i64 Nb, .string Sb, .slice qe2 Eb de2, .slice qr2 Rb dr2]) _ rfl rfl (by kernel_rfl) (by kernel_rfl) (by kernel_rfl) (fun _ _ _ h => h) (by rfl) (fun w' hw' => ?_) hS (listed' := #[true, true, true, true, true, true, true, true, true, true, true, true, true, true, true, false, false, false, false, false, false, false, false, false, false, false, false, false, false, false, false, false, false, false, false]) (by kernel_rfl) rfl ?_
        · have f0 := ((B14.below hw').cell 0).trans rfl; have f1 := ((B14.below hw').cell 1).trans rfl; have f2 := ((B14.below hw').cell 2).trans rfl; have f3 := ((B14.below hw').cell 3).trans rfl; have f4 := ((B14.below hw').cell 4).trans rfl; go_simp
        simp only [List.setIfInBounds_toArray, List.set_cons_zero, List.set_cons_succ]
        refine rg_take 16 36 (.agg #[.int .i64 K, .int .i64 N, .string S, .slice pe Ke ce, .slice pr Kr cr]) _ rfl rfl (by kernel_rfl) (by kernel_rfl) (by kernel_rfl) (fun _ _ _ h => h) (by rfl) (fun w' hw' => ?_) hS (listed' := #[true, true, true, true, true, true, true, true, true, true, true, true, true, true, true, false, true, false, false, false, false, false, false, false, false, false, false, false, false, false, false, false, false, false, false]) (by kernel_rfl) rfl ?_
        · have f0 := ((BA5.below hw').cell 0).trans rfl; have f1 := ((BA5.below hw').cell 1).trans rfl; have f2 := ((BA5.below hw').cell 2).trans rfl; have f3 := ((BA5.below hw').cell 3).trans rfl; have f4 := ((BA5.below hw').cell 4).trans rfl; go_simp
        simp only [List.setIfInBounds_toArray, List.set_cons_zero, List.set_cons_succ]
        refine rg_take 17 37 (.agg #[.int .i64 Kb, .int .i64 Nb, .string Sb, .slice qe Eb de, .slice qr Rb dr]) _ rfl rfl (by kernel_rfl) (by kernel_rfl) (by kernel_rfl) (fun _ _ _ h => h) (by rfl) (fun w' hw' => ?_) hS (listed' := #[true, true, true, true, true, true, true, true, true, true, true, true, true, true, true, false, true, true, false, false, false, false, false, false, false, false, false, false, false, false, false, false, false, false, false]) (by kernel_rfl) rfl ?_
        · have f0 := ((BB5.below hw').cell 0).trans rfl; have f1 := ((BB5.below hw').cell 1).trans rfl; have f2 := ((BB5.below hw').cell 2).trans rfl; have f3 := ((BB5.below hw').cell 3).trans rfl; have f4 := ((BB5.below hw').cell 4).trans rfl; go_simp
        simp only [List.setIfInBounds_toArray, List.set_cons_zero, List.set_cons_succ]
        refine rg_call 15 35 16 #[.agg #[.int .i64 K, .int .i64 N, .string S, .slice pe2 Ke ce2, .slice pr2 Kr cr2], .agg #[.int .i64 Kb, .int .i64 Nb, .string Sb, .slice qe2 Eb de2, .slice qr2 Rb dr2]] rfl rfl (by kernel_rfl) (by rfl) (listed' := #[true, true, true, true, true, true, true, true, true, true, true, true, true, true, true, true, true, true, false, false, false, false, false, false, false, false, false, false, false, false, false, false, false, false, false]) (by kernel_rfl) (fun W => by go_simp) ?_
        refine (HV5.out _ hS).mono ?_
        rintro ee X5 ⟨⟨R1, rfl, hR1⟩, hbX⟩
        have HQ1 : Hid (R1 = true ↔ a = b) := hR1
        clear hR1
        have hS0 := hS
        have hS : Below wc.heap.size wc X5 := hS0.trans (hbX.mono hS0.size)
        clear hS0 hbX
        refine ⟨_, rfl, hS, ?_⟩
        simp only [List.setIfInBounds_toArray, List.set_cons_zero, List.set_cons_succ]
        refine rg_call 18 38 17 #[.agg #[.int .i64 K, .int .i64 N, .string S, .slice pe Ke ce, .slice pr Kr cr], .agg #[.int .i64 Kb, .int .i64 Nb, .string Sb, .slice qe Eb de, .slice qr Rb dr]] rfl rfl (by kernel_rfl) (by rfl) (listed' := #[true, true, true, true, true, true, true, true, true, true, true, true, true, true, true, true, true, true, true, false, false, false, false, false, false, false, false, false, false, false, false, false, false, false, false]) (by kernel_rfl) (fun W => by go_simp) ?_
        refine (HV6.out _ hS).mono ?_
        rintro ee X6 ⟨⟨R2, rfl, hR2⟩, hbX⟩
        obtain rfl : R2 = R1 := by rw [Bool.eq_iff_iff, hR2, HQ1.out]
        clear hR2
        have hS0 := hS
        have hS : Below wc.heap.size wc X6 := hS0.trans (hbX.mono hS0.size)
        clear hS0 hbX
        refine ⟨_, rfl, hS, ?_⟩
        simp only [List.setIfInBounds_toArray, List.set_cons_zero, List.set_cons_succ]
        have dR : (R2 == R2) = true := by simp
        refine rg_take 19 39 (.bool true) _ rfl rfl (by kernel_rfl) (by kernel_rfl) (by kernel_rfl) (fun _ _ _ h => h) (by rfl) (fun w' hw' => ?_) hS (listed' := #[true, true, true, true, true, true, true, true, true, true, true, true, true, true, true, true, true, true, true, true, false, false, false, false, false, false, false, false, false, false, false, false, false, false, false]) (by kernel_rfl) rfl ?_
        · go_simp
        simp only [List.setIfInBounds_toArray, List.set_cons_zero, List.set_cons_succ]
        refine rg_take 20 40 (.bool true) _ rfl rfl (by kernel_rfl) (by kernel_rfl) (by kernel_rfl) (fun _ _ _ h => h) (by rfl) (fun w' hw' => ?_) hS (listed' := #[true, true, true, true, true, true, true, true, true, true, true, true, true, true, true, true, true, true, true, true, true, false, false, false, false, false, false, false, false, false, false, false, false, false, false]) (by kernel_rfl) rfl ?_
        · go_simp
        simp only [List.setIfInBounds_toArray, List.set_cons_zero, List.set_cons_succ]
        refine rg_take 21 41 (.bool true) _ rfl rfl (by kernel_rfl) (by kernel_rfl) (by kernel_rfl) (fun _ _ _ h => h) (by rfl) (fun w' hw' => ?_) hS (listed' := #[true, true, true, true, true, true, true, true, true, true, true, true, true, true, true, true, true, true, true, true, true, true, false, false, false, false, false, false, false, false, false, false, false, false, false]) (by kernel_rfl) rfl ?_
        · go_simp
        simp only [List.setIfInBounds_toArray, List.set_cons_zero, List.set_cons_succ]
        refine rg_take 22 42 (.agg #[.int .i64 K, .int .i64 N, .string S, .slice pe2 Ke ce2, .slice pr2 Kr cr2]) _ rfl rfl (by kernel_rfl) (by kernel_rfl) (by kernel_rfl) (fun _ _ _ h => h) (by rfl) (fun w' hw' => ?_) hS (listed' := #[true, true, true, true, true, true, true, true, true, true, true, true, true, true, true, true, true, true, true, true, true, true, true, false, false, false, false, false, false, false, false, false, false, false, false]) (by kernel_rfl) rfl ?_
        · have f0 := ((B13.below hw').cell 0).trans rfl; have f1 := ((B13.below hw').cell 1).trans rfl; have f2 := ((B13.below hw').cell 2).trans rfl; have f3 := ((B13.below hw').cell 3).trans rfl; have f4 := ((B13.below hw').cell 4).trans rfl; go_simp
        simp only [List.setIfInBounds_toArray, List.set_cons_zero, List.set_cons_succ]
        refine rg_take 23 43 (.agg #[.int .i64 K, .int .i64 N, .string S, .slice pe Ke ce, .slice pr Kr cr]) _ rfl rfl (by kernel_rfl) (by kernel_rfl) (by kernel_rfl) (fun _ _ _ h => h) (by rfl) (fun w' hw' => ?_) hS (listed' := #[true, true, true, true, true, true, true, true, true, true, true, true, true, true, true, true, true, true, true, true, true, true, true, true, false, false, false, false, false, false, false, false, false, false, false]) (by kernel_rfl) rfl ?_
        · have f0 := ((BA5.below hw').cell 0).trans rfl; have f1 := ((BA5.below hw').cell 1).trans rfl; have f2 := ((BA5.below hw').cell 2).trans rfl; have f3 := ((BA5.below hw').cell 3).trans rfl; have f4 := ((BA5.below hw').cell 4).trans rfl; go_simp
        simp only [List.setIfInBounds_toArray, List.set_cons_zero, List.set_cons_succ]
        refine rg_call 24 44 16 #[.agg #[.int .i64 K, .int .i64 N, .string S, .slice pe2 Ke ce2, .slice pr2 Kr cr2], .agg #[.int .i64 K, .int .i64 N, .string S, .slice pe Ke ce, .slice pr Kr cr]] rfl rfl (by kernel_rfl) (by rfl) (listed' := #[true, true, true, true, true, true, true, true, true, true, true, true, true, true, true, true, true, true, true, true, true, true, true, true, true, false, false, false, false, false, false, false, false, false, false]) (by kernel_rfl) (fun W => by go_simp) ?_
        refine (HV7.out _ hS).mono ?_
        rintro ee X7 ⟨⟨R3, rfl, hR3⟩, hbX⟩
        obtain rfl : R3 = true := hR3.2 rfl
        clear hR3
        have hS0 := hS
        have hS : Below wc.heap.size wc X7 := hS0.trans (hbX.mono hS0.size)
        clear hS0 hbX
        refine ⟨_, rfl, hS, ?_⟩
        simp only [List.setIfInBounds_toArray, List.set_cons_zero, List.set_cons_succ]
        refine rg_take 25 45 (.bool true) _ rfl rfl (by kernel_rfl) (by kernel_rfl) (by kernel_rfl) (fun _ _ _ h => h) (by rfl) (fun w' hw' => ?_) hS (listed' := #[true, true, true, true, true, true, true, true, true, true, true, true, true, true, true, true, true, true, true, true, true, true, true, true, true, true, false, false, false, false, false, false, false, false, false]) (by kernel_rfl) rfl ?_
        · go_simp
        simp only [List.setIfInBounds_toArray, List.set_cons_zero, List.set_cons_succ]
        refine rg_take 26 46 (.bool true) _ rfl rfl (by kernel_rfl) (by kernel_rfl) (by kernel_rfl) (fun _ _ _ h => h) (by rfl) (fun w' hw' => ?_) hS (listed' := #[true, true, true, true, true, true, true, true, true, true, true, true, true, true, true, true, true, true, true, true, true, true, true, true, true, true, true, false, false, false, false, false, false, false, false]) (by kernel_rfl) rfl ?_
        · go_simp
        simp only [List.setIfInBounds_toArray, List.set_cons_zero, List.set_cons_succ]
        refine rg_take 27 47 (.agg #[.int .i64 K, .int .i64 N, .string S, .slice pe2 Ke ce2, .slice pr2 Kr cr2]) _ rfl rfl (by kernel_rfl) (by kernel_rfl) (by kernel_rfl) (fun _ _ _ h => h) (by rfl) (fun w' hw' => ?_) hS (listed' := #[true, true, true, true, true, true, true, true, true, true, true, true, true, true, true, true, true, true, true, true, true, true, true, true, true, true, true, true, false, false, false, false, false, false, false]) (by kernel_rfl) rfl ?_
        · have f0 := ((B13.below hw').cell 0).trans rfl; have f1 := ((B13.below hw').cell 1).trans rfl; have f2 := ((B13.below hw').cell 2).trans rfl; have f3 := ((B13.below hw').cell 3).trans rfl; have f4 := ((B13.below hw').cell 4).trans rfl; go_simp
        simp only [List.setIfInBounds_toArray, List.set_cons_zero, List.set_cons_succ]
        refine rg_take 28 48 (.agg #[.int .i64 K, .int .i64 N, .string S, .slice pe Ke ce, .slice pr Kr cr]) _ rfl rfl (by kernel_rfl) (by kernel_rfl) (by kernel_rfl) (fun _ _ _ h => h) (by rfl) (fun w' hw' => ?_) hS (listed' := #[true, true, true, true, true, true, true, true, true, true, true, true, true, true, true, true, true, true, true, true, true, true, true, true, true, true, true, true, true, false, false, false, false, false, false]) (by kernel_rfl) rfl ?_
        · have f0 := ((BA5.below hw').cell 0).trans rfl; have f1 := ((BA5.below hw').cell 1).trans rfl; have f2 := ((BA5.below hw').cell 2).trans rfl; have f3 := ((BA5.below hw').cell 3).trans rfl; have f4 := ((BA5.below hw').cell 4).trans rfl; go_simp
        simp only [List.setIfInBounds_toArray, List.set_cons_zero, List.set_cons_succ]
        refine rg_call 29 49 17 #[.agg #[.int .i64 K, .int .i64 N, .string S, .slice pe2 Ke ce2, .slice pr2 Kr cr2], .agg #[.int .i64 K, .int .i64 N, .string S, .slice pe Ke ce, .slice pr Kr cr]] rfl rfl (by kernel_rfl) (by rfl) (listed' := #[true, true, true, true, true, true, true, true, true, true, true, true, true, true, true, true, true, true, true, true, true, true, true, true, true, true, true, true, true, true, false, false, false, false, false]) (by kernel_rfl) (fun W => by go_simp) ?_
        refine (HV8.out _ hS).mono ?_
        rintro ee X8 ⟨⟨R4, rfl, hR4⟩, hbX⟩
        obtain rfl : R4 = true := hR4.2 rfl
        clear hR4
        have hS0 := hS
        have hS : Below wc.heap.size wc X8 := hS0.trans (hbX.mono hS0.size)
        clear hS0 hbX
        refine ⟨_, rfl, hS, ?_⟩
        simp only [List.setIfInBounds_toArray, List.set_cons_zero, List.set_cons_succ]
        refine rg_take 30 50 (.bool true) _ rfl rfl (by kernel_rfl) (by kernel_rfl) (by kernel_rfl) (fun _ _ _ h => h) (by rfl) (fun w' hw' => ?_) hS (listed' := #[true, true, true, true, true, true, true, true, true, true, true, true, true, true, true, true, true, true, true, true, true, true, true, true, true, true, true, true, true, true, true, false, false, false, false]) (by kernel_rfl) rfl ?_
        · go_simp
        simp only [List.setIfInBounds_toArray, List.set_cons_zero, List.set_cons_succ]
        refine rg_take 31 51 (.bool true) _ rfl rfl (by kernel_rfl) (by kernel_rfl) (by kernel_rfl) (fun _ _ _ h => h) (by rfl) (fun w' hw' => ?_) hS (listed' := #[true, true, true, true, true, true, true, true, true, true, true, true, true, true, true, true, true, true, true, true, true, true, true, true, true, true, true, true, true, true, true, true, false, false, false]) (by kernel_rfl) rfl ?_
        · go_simp
        simp only [List.setIfInBounds_toArray, List.set_cons_zero, List.set_cons_succ]
        refine rg_call 32 52 10 #[] rfl rfl (by kernel_rfl) (by rfl) (listed' := #[true, true, true, true, true, true, true, true, true, true, true, true, true, true, true, true, true, true, true, true, true, true, true, true, true, true, true, true, true, true, true, true, true, false, false]) (by kernel_rfl) (fun W => by go_simp) ?_
        refine (awake_any _).mono ?_
        rintro ee X9 ⟨rfl, hbX⟩
        have hS0 := hS
        have hS : Below wc.heap.size wc X9 := hS0.trans (hbX.mono hS0.size)
        clear hS0 hbX
        refine ⟨_, rfl, hS, ?_⟩
        simp only [List.setIfInBounds_toArray, List.set_cons_zero, List.set_cons_succ]
        refine rg_take 33 53 (.bool true) _ rfl rfl (by kernel_rfl) (by kernel_rfl) (by kernel_rfl) (fun _ _ _ h => h) (by rfl) (fun w' hw' => ?_) hS (listed' := #[true, true, true, true, true, true, true, true, true, true, true, true, true, true, true, true, true, true, true, true, true, true, true, true, true, true, true, true, true, true, true, true, true, true, false]) (by kernel_rfl) rfl ?_
        · go_simp
        simp only [List.setIfInBounds_toArray, List.set_cons_zero, List.set_cons_succ]
        refine rg_take 34 4 (.bool true) _ rfl rfl (by kernel_rfl) (by kernel_rfl) (by kernel_rfl) (fun _ _ _ h => h) (by rfl) (fun w' hw' => ?_) hS (listed' := #[true, true, true, true, true, true, true, true, true, true, true, true, true, true, true, true, true, true, true, true, true, true, true, true, true, true, true, true, true, true, true, true, true, true, true]) (by kernel_rfl) rfl ?_
        · go_simp
        simp only [List.setIfInBounds_toArray, List.set_cons_zero, List.set_cons_succ]
        refine wpAnyH_done (by kernel_rfl) ?_ _
        have hbw9 : Below w.heap.size w X9 := hbwc.trans (hS.mono hbwc.size)
        clear hS B13 B14 BA5 BB5
        go_wp2_with fail
        go_ret
        exact ⟨rfl, hbw9⟩
end Go.Proofs.Ytgedelgdjcnogaa

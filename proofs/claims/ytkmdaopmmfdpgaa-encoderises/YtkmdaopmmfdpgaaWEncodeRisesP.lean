/- EncodeRises answers true at every tree. -/
import Derived.Test.YtkmdaopmmfdpgaaPkH
import Derived.Test.YtkmdaopmmfdpgaaPkJ
import Derived.Test.YtkmdaopmmfdpgaaPkG
import Derived.Test.YtkmdaopmmfdpgaaPkK
import Derived.Test.YtkmdaopmmfdpgaaPkE
namespace Go.Proofs.Ytkmdaopmmfdpgaa
open Go.ChangeShapes Go.WideShapes Go.ChangeAt Go.RowKit
set_option linter.unusedVariables false
set_option linter.unusedSimpArgs false
set_option maxRecDepth 20000

set_option maxHeartbeats 1000000 in
theorem encodeRises_walk (v : Value) (n : Nat) (t : Tr) (w : World) (h : TrIn n w v t) :
    Calls Try.prog 4 #[v] w fun e w' => e = .returned (.bool true) ∧ Below w.heap.size w w' := by
  have HS : Hid (∀ W, Below w.heap.size w W → Calls Try.prog 9 #[v] W fun e w' => SmallP t v W e ∧ Below W.heap.size W w') := fun W hW => small_any n t v W (h.below hW)
  obtain ⟨m, ve, vr, -, rfl, -, -, -, -, ra, ea⟩ := h.open
  obtain ⟨pe, ce, rfl, e1, e2, -⟩ := ea.open
  obtain ⟨pr, cr, rfl, e3, e4, -⟩ := rest_holds ra
  unfold maxLen at e2 e4
  have HEA : Hid (EnsIn m w (.slice pe t.es.length ce) t.es) := ea
  clear ea ra h
  obtain ⟨Ke, hKe⟩ : ∃ z, t.es.length = z := ⟨_, rfl⟩
  obtain ⟨Kr, hKr⟩ : ∃ z, t.rest.length = z := ⟨_, rfl⟩
  obtain ⟨K, hK⟩ : ∃ z, t.kind = z := ⟨_, rfl⟩
  obtain ⟨N, hN⟩ : ∃ z, t.n = z := ⟨_, rfl⟩
  obtain ⟨S, hS⟩ : ∃ z, t.s = z := ⟨_, rfl⟩
  have HK : Hid (t.es.length = Ke ∧ t.rest.length = Kr) := ⟨hKe, hKr⟩
  rw [hKe] at HEA e1
  rw [hKr] at e3
  rw [hKe, hKr, hK, hN, hS] at HS ⊢
  clear hK hN hS hKe hKr
  have al : Below w.heap.size w (w.alloc (Obj.cells #[.int .i64 K, .int .i64 N, .string S, .slice pe Ke ce, .slice pr Kr cr] 25)) := (Below.refl _ _).alloc (Nat.le_refl _) _
  have HB : Hid (Blk (w.alloc (Obj.cells #[.int .i64 K, .int .i64 N, .string S, .slice pe Ke ce, .slice pr Kr cr] 25)) w.heap.size #[.int .i64 K, .int .i64 N, .string S, .slice pe Ke ce, .slice pr Kr cr] 25) := Blk.new w _ _
  go_enter Try.func4, Try.ntmps4
  go_wp2_with fail
  refine (HS.out _ al).mono ?_
  rintro e w1 ⟨⟨R, rfl, hR⟩, hb1⟩
  have hbw1 : Below w.heap.size w w1 := al.trans (hb1.mono al.size)
  have HB1 : Hid (Blk w1 w.heap.size #[.int .i64 K, .int .i64 N, .string S, .slice pe Ke ce, .slice pr Kr cr] 25) := HB.out.below hb1
  have HRR : Hid (R = true → SmN 14 t ∧ cntN 14 t ≤ 200 ∧ TrIn 14 w1 (.agg #[.int .i64 K, .int .i64 N, .string S, .slice pe Ke ce, .slice pr Kr cr]) t) := fun hr => ⟨(hR hr).1, (hR hr).2.1, (hR hr).2.2.below hb1⟩
  clear hR hb1 al HB HS
  cases R with
  | false =>
    go_wp2_with fail
    refine (eawake_any _).mono ?_
    rintro e w2 ⟨rfl, hb2⟩
    have hbw2 : Below w.heap.size w w2 := hbw1.trans (hb2.mono hbw1.size)
    go_wp2_with fail
    go_ret
    exact ⟨rfl, hbw2⟩
  | true =>
    obtain ⟨s1, s2, s3⟩ := HRR.out rfl
    have HS1 : Hid (SmN 14 t ∧ cntN 14 t ≤ 200) := ⟨s1, s2⟩
    have HC : Hid (Calls Try.prog 11 #[.agg #[.int .i64 K, .int .i64 N, .string S, .slice pe Ke ce, .slice pr Kr cr]] w1 (CopyP 14 t w1)) := copy_any 14 t _ w1 s3 s1
    have q0 := (HB1.out.cell 0).trans rfl
    have q1 := (HB1.out.cell 1).trans rfl
    have q2 := (HB1.out.cell 2).trans rfl
    have q3 := (HB1.out.cell 3).trans rfl
    have q4 := (HB1.out.cell 4).trans rfl
    clear s1 s2 s3 HRR
    go_wp2_with fail
    refine HC.out.mono ?_
    rintro e w2 ⟨xv, bs, rfl, hX, hb2⟩
    have hbw2 : Below w.heap.size w w2 := hbw1.trans (hb2.mono hbw1.size)
    have HB2 : Hid (Blk w2 w.heap.size #[.int .i64 K, .int .i64 N, .string S, .slice pe Ke ce, .slice pr Kr cr] 25) := HB1.out.below hb2
    have HO : Hid (Calls Try.prog 12 #[xv] w2 (EncP (encA 14 t) w2)) := encode_any hX.trW (by omega) (by have := HS1.out.2; omega) HS1.out.1
    have HGE : Hid ((encA 14 t).2 = 0 → getL (encA 14 t).1 = (sortF (fldsE 14 t), 0)) := fun h0 => enc_get hX.trW HS1.out.1 h0
    clear hX hb2 HC hbw1 HB1 q0 q1 q2 q3 q4
    go_wp2_with fail
    refine Calls.mono HO.out ?_
    rintro e w3 ⟨r, rfl, ho, hb3⟩
    have hbw3 : Below w.heap.size w w3 := hbw2.trans (hb3.mono hbw2.size)
    have HB3 : Hid (Blk w3 w.heap.size #[.int .i64 K, .int .i64 N, .string S, .slice pe Ke ce, .slice pr Kr cr] 25) := HB2.out.below hb3
    have HNO : Hid ((encA 14 t).2 ≠ 0 → (encA 14 t).1 = []) := encA_no
    have HLT : Hid (∀ k ∈ (encA 14 t).1, k < 256) := encA_lt 14 t
    have HLE : Hid ((encA 14 t).2 = 0 → (encA 14 t).1.length ≤ 4096) := fun h0 => (enc_inv h0).2.2.2
    obtain ⟨ba, bc, rfl, -, b1, b2, b3, b4⟩ := own_open ho
    clear hb3 hbw2 HB2 HO ho
    obtain ⟨⟨ns, er⟩, hq⟩ : ∃ q, encA 14 t = q := ⟨_, rfl⟩
    rw [hq] at HGE HNO HLE HLT b1 b2 b4 ⊢
    clear hq
    simp only at HGE HNO HLE HLT b1 b2 b4 ⊢
    by_cases he : er = 0
    rotate_left
    · have hd : ((er : Int) != 0) = true := by simp; omega
      have hns := HNO.out he
      subst hns
      clear he HGE HNO HLE b1 b2 b3 b4
      simp only [List.length_nil]
      go_wp2_with fail
      refine (eawake_any _).mono ?_
      rintro e w4 ⟨rfl, hb4⟩
      have hbw4 : Below w.heap.size w w4 := hbw3.trans (hb4.mono hbw3.size)
      go_wp2_with fail
      go_ret
      exact ⟨rfl, hbw4⟩
    · subst he
      have hle := HLE.out rfl
      have HGC : Hid (Calls Try.prog 19 #[.slice ba ns.length bc] w3 fun e w' => ∃ v, e = .returned (.tuple #[v, .int .i64 ((getL ns).2 : Int)]) ∧ w'.ownsRow w3.heap.size 46 4 v (getL ns).1.length (rawCells (getL ns).1) ∧ Below w3.heap.size w3 w') := wget_any ba ns ns.length bc w3 rfl b4 HLT.out b2 b3 (own_adr b1)
      rw [HGE.out rfl] at HGC
      obtain ⟨L, hL⟩ : ∃ z, ns.length = z := ⟨_, rfl⟩
      rw [hL] at HGC hle ⊢
      clear hL HGE HNO HLE HLT b1 b2 b3 b4
      obtain ⟨rs, hrs⟩ : ∃ z, sortF (fldsE 14 t) = z := ⟨_, rfl⟩
      have HRL : Hid (rs.length = (subs t.es).length + Kr ∧ risesB rs = true) := (by
        rw [← hrs, sortF_len, flds_len, HK.out.2]
        exact ⟨rfl, (rises_iff _).2 (sortF_all _ _ (Nat.le_refl _)).1⟩ : rs.length = (subs t.es).length + Kr ∧ risesB rs = true)
      rw [hrs] at HGC
      clear hrs
      go_wp2_with fail
      refine Calls.mono HGC.out ?_
      rintro e w4 ⟨lv, rfl, ho4, hb4⟩
      obtain ⟨la, lc, rfl, -, l1, l2, l3, l4⟩ := own_openR ho4
      have hbw4 : Below w.heap.size w w4 := hbw3.trans (hb4.mono hbw3.size)
      have HRC : Hid (Calls Try.prog 20 #[.slice la rs.length lc] w4 fun e w' => e = .returned (.bool true) ∧ Below w4.heap.size w4 w') := (by
        have h1 := rising_any la rs rs.length lc w4 rfl (own_adrR l1) l2 l3 l4
        rw [HRL.out.2] at h1
        exact h1 : Calls Try.prog _ _ _ _)
      have HB4 : Hid (Blk w4 w.heap.size #[.int .i64 K, .int .i64 N, .string S, .slice pe Ke ce, .slice pr Kr cr] 25) := HB3.out.below hb4
      have HE4 : Hid (EnsIn m w4 (.slice pe Ke ce) t.es) := HEA.out.belowE hbw4
      obtain ⟨RL, hRL⟩ : ∃ z, rs.length = z := ⟨_, rfl⟩
      rw [hRL] at HRC ⊢
      have HRN : Hid (RL = (subs t.es).length + Kr) := (by rw [← hRL]; exact HRL.out.1 : RL = (subs t.es).length + Kr)
      have HSB : Hid (∀ i, (subs (t.es.take i)).length ≤ 35000) := subs_le (fun e he => (HS1.out.1.2.2.2.2 e he).1) HS1.out.1.2.2.1
      have hkr : Kr ≤ 5000 := by rw [← HK.out.2]; exact HS1.out.1.2.1
      clear HGC ho4 hb4 hbw3 HB3 HEA l1 l2 l3 l4 hRL HRL
      have q3 := (HB4.out.cell 3).trans rfl
      have q4 := (HB4.out.cell 4).trans rfl
      go_wp2_with fail
      go_loop [7, 8] (fun nv iv => ∃ i k : Nat, iv = .int .i64 (i : Int) ∧ nv = .int .i64 (k : Int) ∧ i ≤ Ke ∧ k ≤ 40000 ∧ Hid (k = Kr + (subs (t.es.take i)).length)) (fun _ iv => Ke - (intOf iv).toNat)
      case atStart => exact ⟨0, Kr, rfl, rfl, by omega, by omega, (by simp [subs] : Kr = Kr + (subs (t.es.take 0)).length)⟩
      case round =>
        obtain ⟨i, k, rfl, rfl, hi, hk, HKK⟩ := hrel
        by_cases hlt : i < Ke
        · obtain ⟨en, hx⟩ : ∃ r, t.es[i]? = some r := ⟨_, List.getElem?_eq_getElem (by rw [HK.out.1]; exact hlt)⟩
          obtain ⟨gx, ox, rfl, hrow⟩ := RowP.get HE4.out hx
          obtain ⟨vt, y0, y1, -, hvt⟩ := ens_at hrow
          obtain ⟨xa, xc, rfl, u1, u2, -⟩ := hvt.open
          unfold maxLen at u2
          obtain ⟨Xl, hXl⟩ : ∃ z, en.2.length = z := ⟨_, rfl⟩
          rw [hXl] at y1 u1
          have HK2 : Hid (k + Xl = Kr + (subs (t.es.take (i + 1))).length) := (by rw [subs_stepE hx, hXl, HKK.out]; omega : k + Xl = Kr + (subs (t.es.take (i + 1))).length)
          have hk2 : k + Xl ≤ 40000 := by have h1 := HK2.out; have h2 := HSB.out (i + 1); omega
          clear hx hrow hvt hXl HKK y0
          go_wp2_with fail
          go_round
          case rel => exact ⟨i + 1, k + Xl, by go_num, by go_num, by omega, hk2, HK2⟩
          case measure => simp [intOf]; omega
        · obtain rfl : i = Ke := by omega
          have hkR : RL = k := by rw [HRN.out, HKK.out, List.take_of_length_le (by rw [HK.out.1]; exact Nat.le_refl _)]; omega
          subst hkR
          have hle2 : (L : Int) ≤ 4096 := by omega
          clear HKK HRN HE4 HSB
          go_wp2_with fail
          refine Calls.mono HRC.out ?_
          rintro e w5 ⟨rfl, hb5⟩
          have hbw5 : Below w.heap.size w w5 := hbw4.trans (hb5.mono hbw4.size)
          clear HRC hb5 hbw4
          go_wp2_with fail
          refine (eawake_any _).mono ?_
          rintro e w6 ⟨rfl, hb6⟩
          have hbw6 : Below w.heap.size w w6 := hbw5.trans (hb6.mono hbw5.size)
          go_wp2_with fail
          go_ret
          exact ⟨rfl, hbw6⟩
end Go.Proofs.Ytkmdaopmmfdpgaa

/- Whether a rest may be; isWrong. -/
import Derived.Deep.LoopGhost
import Derived.Maps.OwnSet
import Derived.OpenShut
import Derived.SizedLaws
import Derived.Deep.Slices
import Derived.Deep.Strs
import Derived.Lib.SmallJoins
import Derived.ChangeArms
import Derived.Test.YtkmdaopmmfdpgaaPkG
import Derived.Test.YtkmdaopmmfdpgaaPkD
import Derived.Test.YtkmdaopmmfdpgaaPkE
import Derived.Test.YtkmdaopmmfdpgaaPkF
import Derived.Test.YtkmdaopmmfdpgaaPkC
import Derived.Test.YtkmdaopmmfdpgaaPkA
import Derived.Test.YtkmdaopmmfdpgaaPkB
namespace Go.Proofs.Ytkmdaopmmfdpgaa
open Go.ChangeShapes Go.WideShapes Go.ChangeAt Go.RowKit
set_option linter.unusedVariables false
set_option linter.unusedSimpArgs false
set_option maxRecDepth 20000

theorem rowG_holdsR {w : World} {a : Option Addr} {N cap : Nat} {l : List Fd} (h : RowG w (.slice a N cap) 4 (fdRows l)) : HoldsR w a l := by
  obtain ⟨a', cap', e, _, _, _, h4⟩ := h.form
  simp only [Value.slice.injEq] at e
  obtain ⟨rfl, _, _⟩ := e
  intro b hb j u hu
  rw [rawCells_flat] at hu
  obtain ⟨i, c, k, h1, h2, rfl⟩ := flat_inv (fdRows l) (fdr_len l) j u hu
  obtain ⟨g, off, e, hc⟩ := h4 (by intro e; rw [e] at h1; simp at h1)
  rw [hb] at e
  cases e
  have := hc i c u k h1 h2
  rw [Nat.add_assoc] at this
  rw [Addr.add_lit]
  exact this
theorem rest_all {l : List Fd} {p : Fd → Bool} {i : Nat} {f : Fd} (h : ∀ x ∈ l.take i, p x = true) (hf : l[i]? = some f) (hp : p f = true) : ∀ x ∈ l.take (i + 1), p x = true := by
  rw [take_atQ hf]
  intro x hx
  rcases List.mem_append.1 hx with hx | hx
  · exact h x hx
  · obtain rfl : x = f := by simpa using hx
    exact hp
set_option maxHeartbeats 2000000 in
theorem restMayBe_any (n : Nat) (v ve : Value) (l : List Fd) (es : List (Int × List Tr)) (w : World) (h : RowG w v 4 (fdRows l)) (he : EnsQ n w ve es) (hr : RisT es) (hl : es.length ≤ 1000000) :
    Calls Try.prog 57 #[v, ve] w fun e w' => e = .returned (.bool (restB l es)) ∧ Below w.heap.size w w' := by
  obtain ⟨a, cap, rfl, h1, h2, h3, -, -⟩ := rest_holds h
  obtain ⟨N, hN⟩ : ∃ N, l.length = N := ⟨_, rfl⟩
  obtain ⟨R, hR⟩ : ∃ R, restB l es = R := ⟨_, rfl⟩
  rw [hR]
  rw [hN] at h1 ⊢
  have HH : Hid (RowG w (.slice a N cap) 4 (fdRows l)) := (by rw [← hN]; exact h : RowG w (.slice a N cap) 4 (fdRows l))
  have HN : Hid (l.length = N) := hN
  have HR : Hid (restB l es = R) := hR
  have HT : Hid (∀ W tag, Below w.heap.size w W → Calls Try.prog 65 #[ve, .int .i64 tag] W fun e w' => e = .returned (.bool (hasB es tag)) ∧ Below W.heap.size W w') := fun W tag hW => hasTag_any n ve es tag W (he.belowEQ hW) hr hl
  have HRS : Hid (∀ W, Below w.heap.size w W → Calls Try.prog 20 #[.slice a N cap] W fun e w' => e = .returned (.bool (risesB l)) ∧ Below W.heap.size W w') := fun W hW => rising_any a l N cap W hN h3 h1 h2 (rowG_holdsR (HH.out.below hW))
  obtain ⟨pe, ce, rfl, -⟩ := RowP.open he
  unfold maxLen at h2
  generalize es.length = El at *
  clear h hN hR h3 he hr
  go_enter Try.func57, Try.ntmps57
  go_wp2_with fail
  go_loopw [9] (fun iv wr => ∃ i : Nat, iv = .int .i64 (i : Int) ∧ i ≤ N ∧ Hid (∀ f ∈ l.take i, (okF f && !hasB es f.tag) = true) ∧ Below w.heap.size w wr) (fun iv _ => N - (intOf iv).toNat)
  case atStart => exact ⟨0, rfl, by omega, (by simp : ∀ f ∈ l.take 0, (okF f && !hasB es f.tag) = true), Below.refl _ _⟩
  case round =>
    obtain ⟨i, rfl, hi, HI, hbel⟩ := hrel
    by_cases hlt : i < N
    · obtain ⟨f, hf⟩ : ∃ r, l[i]? = some r := ⟨_, List.getElem?_eq_getElem (by rw [HN.out]; exact hlt)⟩
      obtain ⟨g, off, rfl, cc⟩ := (HH.out.below hbel).get (show (fdRows l)[i]? = some f.cells by simp [fdRows, hf])
      have p0 := cc 0 _ rfl
      have p1 := cc 1 _ rfl
      have p2 := cc 2 _ rfl
      have p3 := cc 3 _ rfl
      simp only [Nat.add_zero] at p0
      have HF : Hid (l[i]? = some f) := hf
      have HM : Hid (f ∈ l) := List.mem_of_getElem? hf
      have HFO : Hid (okF f = okV f.tag f.wire f.n f.b) := (rfl : okF f = okV f.tag f.wire f.n f.b)
      have HTG : Hid (∀ W, Below w.heap.size w W → Calls Try.prog 65 #[.slice pe El ce, .int .i64 f.tag] W fun e w' => e = .returned (.bool (hasB es f.tag)) ∧ Below W.heap.size W w') := fun W hW => HT.out W f.tag hW
      clear cc hf
      obtain ⟨O, hO⟩ : ∃ O, okV f.tag f.wire f.n f.b = O := ⟨_, rfl⟩
      obtain ⟨B, hB⟩ : ∃ B, hasB es f.tag = B := ⟨_, rfl⟩
      have HO : Hid (okV f.tag f.wire f.n f.b = O) := hO
      have HB : Hid (hasB es f.tag = B) := hB
      have HCK : Hid (∀ W, Calls Try.prog 34 #[.agg #[.int .i64 f.tag, .int .i64 f.wire, .int .i64 f.n, .string f.b]] W fun e w' => e = .returned (.bool O) ∧ Below W.heap.size W w') := fun W => by rw [← hO]; exact checkV_any f.tag f.wire f.n f.b W
      rw [hB] at HTG
      clear hO hB
      generalize hft : f.tag = ft at *
      generalize hfw : f.wire = fw at *
      generalize hfn : f.n = fn at *
      generalize hfb : f.b = fb at *
      have HE : Hid (f.tag = ft ∧ f.wire = fw ∧ f.n = fn ∧ f.b = fb) := ⟨hft, hfw, hfn, hfb⟩
      clear hft hfw hfn hfb
      have hal : Below wr.heap.size wr (wr.alloc (Obj.cells #[.int .i64 ft, .int .i64 fw, .int .i64 fn, .string fb] 46)) := (Below.refl _ _).alloc (Nat.le_refl _) _
      have BE : Blk (wr.alloc (Obj.cells #[.int .i64 ft, .int .i64 fw, .int .i64 fn, .string fb] 46)) wr.heap.size #[.int .i64 ft, .int .i64 fw, .int .i64 fn, .string fb] 46 := Blk.new wr _ _
      go_wp2_with fail
      refine (HCK.out _).mono ?_
      rintro e w2 ⟨rfl, hb2⟩
      have hb3 : Below wr.heap.size wr w2 := hal.trans (hb2.mono hal.size)
      have hbw : Below w.heap.size w w2 := hbel.trans (hb3.mono hbel.size)
      have q0 := ((BE.below hb2).cell 0).trans rfl
      generalize wr.heap.size = bw at *
      clear hb2 hb3 hbel hal BE p0 p1 p2 p3 HCK
      cases O with
      | false =>
        obtain rfl : R = false := by
          rw [← HR.out, restB, Bool.and_eq_false_iff]
          left
          rw [List.all_eq_false]
          exact ⟨f, HM.out, by rw [HFO.out, HE.out.1, HO.out]; simp⟩
        go_wp2_with fail
        go_ret
        exact ⟨rfl, hbw⟩
      | true =>
        go_wp2_with fail
        refine (HTG.out _ hbw).mono ?_
        rintro e w4 ⟨rfl, hb4⟩
        have hbw4 : Below w.heap.size w w4 := hbw.trans (hb4.mono hbw.size)
        clear hb4 hbw HTG
        cases B with
        | true =>
          obtain rfl : R = false := by
            rw [← HR.out, restB, Bool.and_eq_false_iff]
            left
            rw [List.all_eq_false]
            exact ⟨f, HM.out, by rw [HE.out.1, HB.out]; simp⟩
          go_wp2_with fail
          go_ret
          exact ⟨rfl, hbw4⟩
        | false =>
          have HI2 : Hid (∀ f ∈ l.take (i + 1), (okF f && !hasB es f.tag) = true) := rest_all HI.out HF.out (by rw [HFO.out, HE.out.1, HO.out, HB.out]; rfl)
          go_wp2_with fail
          go_roundw
          case rel => exact ⟨i + 1, by go_num, by omega, HI2, hbw4⟩
          case measure => simp [intOf]; omega
    · have hall : R = risesB l := by
        have h5 := HI.out
        rw [List.take_of_length_le (by rw [HN.out]; omega)] at h5
        rw [← HR.out, restB, List.all_eq_true.2 h5]
        rfl
      have HRX : Hid (Calls Try.prog 20 #[.slice a N cap] wr fun e w' => e = .returned (.bool R) ∧ Below wr.heap.size wr w') := by
        rw [hall]; exact HRS.out wr hbel
      clear hall
      go_wp2_with fail
      refine HRX.out.mono ?_
      rintro e w2 ⟨rfl, hb2⟩
      have hbw : Below w.heap.size w w2 := hbel.trans (hb2.mono hbel.size)
      go_wp2_with fail
      go_ret
      exact ⟨rfl, hbw⟩
end Go.Proofs.Ytkmdaopmmfdpgaa

/- What isWrong and Check answer. -/
namespace Go.Proofs.Ytkmdaopmmfdpgaa
open Go.ChangeShapes Go.WideShapes Go.ChangeAt Go.RowKit
set_option linter.unusedVariables false
set_option linter.unusedSimpArgs false
set_option maxRecDepth 20000

set_option maxHeartbeats 4000000 in
theorem wrong_any (n : Nat) (t : Tr) (r : List Value) (w : World) (h : TrQ n w r t) (hl : t.es.length ≤ 1000000) :
    Calls Try.prog 42 #[.agg r.toArray] w fun e w' => e = .returned (.bool (!lvB t)) ∧ Below w.heap.size w w' := by
  cases n with
  | zero => exact h.elim
  | succ n =>
    obtain ⟨ve, vr, rfl, ka, na, sa, fa, ra, ea, pa⟩ := h
    obtain ⟨pe, ce, rfl, u1, u2, -⟩ := RowP.open ea
    obtain ⟨pr, cr, rfl, x1, x2, -⟩ := rest_holds ra
    have HEN : Hid (∀ W, Below w.heap.size w W → Calls Try.prog 56 #[.slice pe t.es.length ce] W fun e w' => e = .returned (.bool (entsB 0 t.es)) ∧ Below W.heap.size W w') := fun W hW => entries_any n _ t.es W (RowP.belowEQ ea hW)
    have HRE : Hid (entsB 0 t.es = true → ∀ W, Below w.heap.size w W → Calls Try.prog 57 #[.slice pr t.rest.length cr, .slice pe t.es.length ce] W fun e w' => e = .returned (.bool (restB t.rest t.es)) ∧ Below W.heap.size W w') := fun he W hW => restMayBe_any n _ _ t.rest t.es W (ra.below hW) (RowP.belowEQ ea hW) (ents_ris t.es 0 he) hl
    obtain ⟨R, hR⟩ : ∃ R, (!lvB t) = R := ⟨_, rfl⟩
    rw [hR]
    have HR : Hid ((!lvB t) = R) := hR
    unfold maxLen at u2 x2
    have hel : (t.es.isEmpty = decide (t.es.length = 0)) := by cases t.es <;> simp
    have hrl : (t.rest.isEmpty = decide (t.rest.length = 0)) := by cases t.rest <;> simp
    have hlv := hR
    simp only [lvB, hel, hrl] at hlv
    have HLV : Hid _ := hlv
    clear hR hlv ea ra fa ka na pa hel hrl HR
    generalize t.es.length = Ke at *
    generalize t.rest.length = Kr at *
    generalize t.kind = K at *
    generalize t.n = N at *
    generalize t.s = S at *
    generalize entsB 0 t.es = E at *
    generalize restB t.rest t.es = Rs at *
    have hsz : (S.toList == ([] : List UInt8)) = (S.size == 0) := by
      rw [ByteArray.toList_eq]
      obtain ⟨⟨l⟩⟩ := S
      cases l <;> simp [ByteArray.size]
    have hs0 : S.size = 0 → S = ByteArray.empty := fun h => by
      obtain ⟨⟨l⟩⟩ := S
      cases l with
      | nil => rfl
      | cons a l => simp [ByteArray.size] at h
    by_cases k1 : K = 1
    · subst k1
      simp only [if_true] at HLV
      have HSE : Hid (S.size = 0 → S = ByteArray.empty) := hs0
      clear hs0 hsz
      by_cases hs : S.size = 0
      · have := HSE.out hs
        subst this
        clear HSE hs
        go_enter Try.func42, Try.ntmps42
        go_wp2_with fail
        all_goals
          go_ret
          refine ⟨ret_boolF ?_, (Below.refl _ _).alloc (Nat.le_refl _) _⟩
          rw [← HLV.out]
          first
            | (rw [Bool.eq_iff_iff]; simp; omega)
            | (simp; omega)
      · have hne : (S.toList == ([] : List UInt8)) = false := by
          rw [ByteArray.toList_eq]
          obtain ⟨⟨l⟩⟩ := S
          cases l with
          | nil => exact absurd rfl hs
          | cons a l => rfl
        obtain rfl : R = true := by rw [← HLV.out]; simp [hs]
        clear hs HSE HLV
        go_enter Try.func42, Try.ntmps42
        go_wp2_with fail
        all_goals
          go_ret
          exact ⟨rfl, (Below.refl _ _).alloc (Nat.le_refl _) _⟩
    · have d1 : (K == 1) = false := by simpa using k1
      simp only [if_neg k1] at HLV
      by_cases k2 : K = 2
      · subst k2
        simp only [if_true] at HLV
        go_enter Try.func42, Try.ntmps42
        go_wp2_with fail
        all_goals
          go_ret
          refine ⟨ret_boolF ?_, (Below.refl _ _).alloc (Nat.le_refl _) _⟩
          rw [← HLV.out]
          first
            | (rw [Bool.eq_iff_iff]; simp; omega)
            | (simp; omega)
            | (simp; left; omega)
            | (simp_all; omega)
            | simp_all
      · have d2 : (K == 2) = false := by simpa using k2
        simp only [if_neg k2] at HLV
        by_cases k3 : K = 3
        · subst k3
          simp only [if_true] at HLV
          by_cases hn : N = 0
          · subst hn
            by_cases hs : S.size = 0
            · have := hs0 hs
              subst this
              clear hs0 hsz hs
              go_enter Try.func42, Try.ntmps42
              go_wp2_with fail
              refine (HEN.out _ ((Below.refl _ _).alloc (Nat.le_refl _) _)).mono ?_
              rintro e w2 ⟨rfl, hb2⟩
              have hal : Below w.heap.size w (w.alloc (Obj.cells #[.int .i64 3, .int .i64 0, .string ByteArray.empty, .slice pe Ke ce, .slice pr Kr cr] 25)) := (Below.refl _ _).alloc (Nat.le_refl _) _
              have hbw : Below w.heap.size w w2 := hal.trans (hb2.mono hal.size)
              have BX := (Blk.new w #[.int .i64 3, .int .i64 0, .string ByteArray.empty, .slice pe Ke ce, .slice pr Kr cr] 25).below hb2
              have q3 := (BX.cell 3).trans rfl
              have q4 := (BX.cell 4).trans rfl
              clear hb2 HEN hal BX
              cases E with
              | false =>
                obtain rfl : R = true := by rw [← HLV.out]; simp
                go_wp2_with fail
                go_ret
                exact ⟨rfl, hbw⟩
              | true =>
                go_wp2_with fail
                refine (HRE.out trivial _ hbw).mono ?_
                rintro e w3 ⟨rfl, hb3⟩
                have hbw3 : Below w.heap.size w w3 := hbw.trans (hb3.mono hbw.size)
                have hRR : (!Rs) = R := by rw [← HLV.out]; simp
                clear hb3 hbw HRE
                go_wp2_with fail
                go_ret
                exact ⟨rfl, hbw3⟩
            · have hne : (S.toList == ([] : List UInt8)) = false := by
                rw [ByteArray.toList_eq]
                obtain ⟨⟨l⟩⟩ := S
                cases l with
                | nil => exact absurd rfl hs
                | cons a l => rfl
              obtain rfl : R = true := by rw [← HLV.out]; simp [hs]
              clear hs hs0 hsz HLV
              go_enter Try.func42, Try.ntmps42
              go_wp2_with fail
              all_goals
                go_ret
                exact ⟨rfl, (Below.refl _ _).alloc (Nat.le_refl _) _⟩
          · have hne : (N != 0) = true := by simpa using hn
            obtain rfl : R = true := by rw [← HLV.out]; simp [hn]
            clear hs0 hsz HLV
            go_enter Try.func42, Try.ntmps42
            go_wp2_with fail
            all_goals
              go_ret
              exact ⟨rfl, (Below.refl _ _).alloc (Nat.le_refl _) _⟩
        · have d3 : (K == 3) = false := by simpa using k3
          simp only [if_neg k3] at HLV
          obtain rfl : R = true := by rw [← HLV.out]; rfl
          go_enter Try.func42, Try.ntmps42
          go_wp2_with fail
          go_ret
          exact ⟨rfl, (Below.refl _ _).alloc (Nat.le_refl _) _⟩
theorem ok_step {m : Nat} {ts : List Tr} {M : List (List (Int × List Tr))} (h : MsgS ts M) (hl : ∀ x ∈ ts, lvB x = true) : ts.all (okN (m + 1)) = (subsL M).all (okN m) := by
  rw [Bool.eq_iff_iff, List.all_eq_true, List.all_eq_true]
  constructor
  · intro h1 y hy
    obtain ⟨m1, hm1, hy⟩ := mem_subsL.1 hy
    obtain ⟨t1, ht1, hk1, rfl⟩ := mem_msgsL.1 (h.1.subset hm1)
    have := h1 t1 ht1
    simp only [okN, hk1, if_true, Bool.and_eq_true, List.all_eq_true] at this
    exact this.2 y hy
  · intro h1 x hx
    simp only [okN, hl x hx, Bool.true_and]
    split
    · rename_i hk
      exact List.all_eq_true.2 fun y hy => h1 y (mem_subsL.2 ⟨_, h.2 x hx hk, hy⟩)
    · rfl
theorem sm_step {m : Nat} {ts : List Tr} {M : List (List (Int × List Tr))} (h : MsgS ts M) (hs : ∀ x ∈ ts, SmN (m + 1) x) : ∀ x ∈ subsL M, SmN m x := by
  intro y hy
  obtain ⟨m1, hm1, hy⟩ := mem_subsL.1 hy
  obtain ⟨t1, ht1, hk1, rfl⟩ := mem_msgsL.1 (h.1.subset hm1)
  obtain ⟨e, he, hy⟩ := mem_subs.1 hy
  exact ((hs t1 ht1).2.2.2.2 e he).2 y hy
set_option maxHeartbeats 4000000 in
theorem vcheck_any (n : Nat) (t : Tr) (v : Value) (w : World) (h : TrV2 n w v t) (hn : n ≤ 60) (hc : cntN n t ≤ 1000) (hs : SmN n t) :
    Calls Try.prog 29 #[v] w fun e w' => e = .returned (.bool (chkN n t)) ∧ Below w.heap.size w w' := by
  have HDP : Hid (∀ W, Below w.heap.size w W → Calls Try.prog 38 #[v] W fun e w' => e = .returned (.int .i64 (dpN n t : Int)) ∧ Below W.heap.size W w') := fun W hW => depth_any n t v W (h.below hW) hn hc
  obtain ⟨ea, el, ec, ra, rl, rc, rfl, hq⟩ := h.open
  have HQ : Hid (TrQ n w [.int .i64 t.kind, .int .i64 t.n, .string t.s, .slice ea el ec, .slice ra rl rc] t) := hq
  have HC : Hid (cntN n t ≤ 1000) := hc
  have HS : Hid (SmN n t) := hs
  obtain ⟨D, hD⟩ : ∃ D, dpN n t = D := ⟨_, rfl⟩
  obtain ⟨R, hR⟩ : ∃ R, okN n t = R := ⟨_, rfl⟩
  have HR : Hid (okN n t = R) := hR
  rw [hD] at HDP
  rw [chkN, hD, hR]
  clear h hq hc hs hD hR
  generalize t.kind = K at *
  generalize t.n = N at *
  generalize t.s = S at *
  have hal : Below w.heap.size w (w.alloc (Obj.cells #[.int .i64 K, .int .i64 N, .string S, .slice ea el ec, .slice ra rl rc] 25)) := (Below.refl _ _).alloc (Nat.le_refl _) _
  have HBX : Hid (Blk (w.alloc (Obj.cells #[.int .i64 K, .int .i64 N, .string S, .slice ea el ec, .slice ra rl rc] 25)) w.heap.size #[.int .i64 K, .int .i64 N, .string S, .slice ea el ec, .slice ra rl rc] 25) := Blk.new w _ _
  by_cases hd : D ≤ 10
  · have d1 : decide (10 < (D : Int)) = false := by simp; omega
    rw [decide_eq_true hd, Bool.true_and]
    go_enter Try.func29, Try.ntmps29
    go_wp2_with fail
    refine (HDP.out _ hal).mono ?_
    rintro e w1 ⟨rfl, hb1⟩
    have hb : Below w.heap.size w w1 := hal.trans (hb1.mono hal.size)
    have BX := HBX.out.below hb1
    clear hb1 hal HBX HDP
    have q0 := (BX.cell 0).trans rfl
    have q1 := (BX.cell 1).trans rfl
    have q2 := (BX.cell 2).trans rfl
    have q3 := (BX.cell 3).trans rfl
    have q4 := (BX.cell 4).trans rfl
    go_wp2_with fail
    have hbA : Below w.heap.size w (w1.alloc (Obj.cells #[.int .i64 K, .int .i64 N, .string S, .slice ea el ec, .slice ra rl rc] 25)) := hb.alloc hb.size _
    have HT0 : Hid (TrsQ n (w1.alloc (Obj.cells #[.int .i64 K, .int .i64 N, .string S, .slice ea el ec, .slice ra rl rc] 25)) (.slice (some ⟨w1.heap.size, 0, none⟩) 1 1) [t]) := one_row (Blk.new w1 _ _) (HQ.out.below hbA)
    clear q0 q1 q2 q3 q4 BX
    go_loopg [3] n (fun k lv wr => ∃ ts : List Tr, Hid (TrsQ k wr lv ts) ∧ Hid (cntL k ts ≤ 1000) ∧ Hid (∀ x ∈ ts, SmN k x) ∧ Hid (ts.all (okN k) = R) ∧ Below w.heap.size w wr)
    case atStart => exact ⟨[t], HT0, (by simpa [cntL] using HC.out : cntL n [t] ≤ 1000), (by simpa using HS.out : ∀ x ∈ [t], SmN n x), (by simpa using HR.out : [t].all (okN n) = R), hbA⟩
    case round =>
      clear HT0 hbA hb
      obtain ⟨ts, HT, HC, HS, HR, hb⟩ := hrel
      obtain ⟨la, lc, rfl, l1, l2, -⟩ := RowP.open HT.out
      unfold maxLen at l2
      obtain ⟨Tl, hTl⟩ : ∃ k, ts.length = k := ⟨_, rfl⟩
      have HT' : Hid (TrsQ gk wr (.slice la Tl lc) ts) := (by rw [← hTl]; exact HT.out : TrsQ gk wr (.slice la Tl lc) ts)
      rw [hTl] at l1 ⊢
      have HTl : Hid (ts.length = Tl) := hTl
      have hlen : ts.length ≤ 1000 := Nat.le_trans (len_cnt HT'.out) HC.out
      have HLN : Hid (ts.length ≤ 1000) := hlen
      clear hTl HT hlen
      by_cases h0 : Tl = 0
      · subst h0
        have hts : ts = [] := List.eq_nil_of_length_eq_zero HTl.out
        obtain rfl : R = true := by rw [← HR.out, hts]; rfl
        clear hts
        go_wp2_with fail
        go_ret
        exact ⟨rfl, hb⟩
      · have d2 : decide (0 < (Tl : Int)) = true := by simp; omega
        obtain ⟨m, rfl⟩ : ∃ m, gk = m + 1 := by
          cases gk with
          | zero =>
            exfalso
            obtain ⟨rows, _, _, h3⟩ := HT'.out
            obtain ⟨x, hx⟩ : ∃ x, ts[0]? = some x := ⟨_, List.getElem?_eq_getElem (by rw [HTl.out]; omega)⟩
            obtain ⟨r, _, hp⟩ := h3 0 x hx
            exact hp
          | succ m => exact ⟨m, rfl⟩
        obtain ⟨B, hB⟩ : ∃ B, ts.any (fun x => !lvB x) = B := ⟨_, rfl⟩
        have HCF : Hid (Calls Try.prog 41 #[.slice la Tl lc, .func (.func 42) #[] #[]] wr fun e w' => e = .returned (.bool B) ∧ Below wr.heap.size wr w') := by
          rw [← hB]
          exact containsW_any (m + 1) _ ts wr (fun x => !lvB x) HT'.out fun W x r hW hx hr => wrong_any (m + 1) x r W hr (by have := (HS.out x hx).2.2.1; omega)
        have HB : Hid (ts.any (fun x => !lvB x) = B) := hB
        clear hB
        go_wp2_with fail
        refine HCF.out.mono ?_
        rintro e w2 ⟨rfl, hb2⟩
        have hbw2 : Below w.heap.size w w2 := hb.trans (hb2.mono hb.size)
        have HT2 : Hid (TrsQ (m + 1) w2 (.slice la Tl lc) ts) := HT'.out.belowTQ hb2
        clear HCF hb hb2 HT'
        cases B with
        | true =>
          obtain rfl : R = false := by
            rw [← HR.out, List.all_eq_false]
            obtain ⟨x, hx, hlx⟩ := List.any_eq_true.1 HB.out
            refine ⟨x, hx, ?_⟩
            simp at hlx
            simp [okN, hlx]
          go_wp2_with fail
          go_ret
          exact ⟨rfl, hbw2⟩
        | false =>
          have hlv : ∀ x ∈ ts, lvB x = true := fun x hx => by
            have := List.any_eq_false.1 HB.out x hx
            simpa using this
          have HLV : Hid (∀ x ∈ ts, lvB x = true) := hlv
          have HM : Hid (Calls Try.prog 40 #[.slice la Tl lc] w2 (MsgP m ts w2)) := messages_any (m + 1) _ ts w2 HT2.out HLN.out
          clear hlv
          go_wp2_with fail
          refine HM.out.mono ?_
          rintro e w3 ⟨lv3, M, rfl, hL3, hS3, hb3⟩
          have hbw3 : Below w.heap.size w w3 := hbw2.trans (hb3.mono hbw2.size)
          have HC3 : Hid (cntL m (subsL M) ≤ 1000) := (Nat.le_trans (cnt_step hS3) HC.out : cntL m (subsL M) ≤ 1000)
          have HI : Hid (Calls Try.prog 39 #[lv3] w3 (InsP m M w3)) := inside_any m _ M w3 hL3 (Nat.le_trans (len_subsL hL3) HC3.out)
          have HR3 : Hid ((subsL M).all (okN m) = R) := (by rw [← ok_step hS3 HLV.out]; exact HR.out : (subsL M).all (okN m) = R)
          have HS3 : Hid (∀ x ∈ subsL M, SmN m x) := sm_step hS3 HS.out
          obtain ⟨ma, mc, rfl, -⟩ := RowP.open hL3
          clear hL3 hS3 hb3 hbw2 HM HT2 HC HS HR HLV
          generalize M.length = Ml at *
          go_wp2_with fail
          refine HI.out.mono ?_
          rintro e w4 ⟨iv, rfl, hT4, hb4⟩
          have hbw4 : Below w.heap.size w w4 := hbw3.trans (hb4.mono hbw3.size)
          have HT4 : Hid (TrsQ m w4 iv (subsL M)) := hT4
          clear hT4 hb4 hbw3 HI
          go_wp2_with fail
          go_roundg m
          case measure => omega
          case rel => exact ⟨subsL M, HT4, HC3, HS3, HR3, hbw4⟩
  · have d1 : decide (10 < (D : Int)) = true := by simp; omega
    rw [decide_eq_false hd, Bool.false_and]
    go_enter Try.func29, Try.ntmps29
    go_wp2_with fail
    refine (HDP.out _ hal).mono ?_
    rintro e w1 ⟨rfl, hb1⟩
    have hb : Below w.heap.size w w1 := hal.trans (hb1.mono hal.size)
    have BX := HBX.out.below hb1
    clear hb1 hal HBX HDP
    clear BX
    go_wp2_with fail
    go_ret
    exact ⟨rfl, hb⟩
end Go.Proofs.Ytkmdaopmmfdpgaa

/- What Raws, Encode and Len answer. -/
namespace Go.Proofs.Ytkmdaopmmfdpgaa
open Go.ChangeShapes Go.WideShapes Go.ChangeAt Go.RowKit
set_option linter.unusedVariables false
set_option linter.unusedSimpArgs false
set_option maxRecDepth 20000

theorem TrW.v3 {n : Nat} {w : World} {v : Value} {t : Tr} (h : TrW n w v t) : TrV2 n w v t := by
  obtain ⟨r, h1, h2⟩ := h
  exact ⟨r, h1, h2.trQ⟩
def RwsP (R : List Fd × Nat) (w : World) (e : Ending) (w' : World) : Prop := ∃ r, e = .returned (.tuple #[r, .int .i64 (R.2 : Int)]) ∧ RawsAt w.heap.size w' r R.1 ∧ FdsOk R.1 ∧ Below w.heap.size w w'
def EncP (R : List Nat × Nat) (w : World) (e : Ending) (w' : World) : Prop := ∃ r, e = .returned (.tuple #[r, .int .i64 (R.2 : Int)]) ∧ w'.ownsRow w.heap.size 5 1 r R.1.length (byteCells R.1) ∧ Below w.heap.size w w'
theorem EncP.no {R : List Nat × Nat} {w w' : World} {er : Nat} (h : R = ([], er)) (h2 : Below w.heap.size w w') : EncP R w (.returned (.tuple #[.slice none 0 0, .int .i64 (er : Int)])) w' := by
  subst h
  exact ⟨.slice none 0 0, rfl, World.ownsRow_nil _ _ _ _, h2⟩
theorem RwsP.no {R : List Fd × Nat} {w w' : World} (h : R = ([], 1)) (h2 : Below w.heap.size w w') : RwsP R w (.returned (.tuple #[.slice none 0 0, .int .i64 1])) w' := by
  subst h
  exact ⟨.slice none 0 0, rfl, RawsAt.nil _ _, ⟨by simp, by simp⟩, h2⟩
set_option maxHeartbeats 4000000 in
theorem eraws_any {n : Nat} {t : Tr} {v : Value} {w : World} (ht : TrW n w v t) (hn : n ≤ 60) (hc : cntN n t ≤ 1000) (hsm : SmN n t) :
    Calls Try.prog 14 #[v] w (RwsP (rawsA n t) w) := by
  have hmm := @run_makeMap Try.prog
  obtain ⟨R, hR⟩ : ∃ R, rawsA n t = R := ⟨_, rfl⟩
  have HR : Hid (rawsA n t = R) := hR
  rw [hR]
  obtain ⟨m, a1, c1, a2, c2, -, rfl, -⟩ := ht.open
  obtain ⟨K, hK⟩ : ∃ z, t.kind = z := ⟨_, rfl⟩
  obtain ⟨N, hN⟩ : ∃ z, t.n = z := ⟨_, rfl⟩
  obtain ⟨S, hS⟩ : ∃ z, t.s = z := ⟨_, rfl⟩
  generalize t.es.length = n1 at *
  generalize t.rest.length = n2 at *
  have HT3 : Hid (t.kind = K) := hK
  rw [hK, hN, hS] at ht ⊢
  have HVC : Hid (∀ W, Below w.heap.size w W → Calls Try.prog 29 #[.agg #[.int .i64 K, .int .i64 N, .string S, .slice a1 n1 c1, .slice a2 n2 c2]] W fun e w' => e = .returned (.bool (chkN n t)) ∧ Below W.heap.size W w') := fun W hW => vcheck_any n t _ W ((ht.cel (Cel.ofBelow hW)).v3) hn hc hsm
  have HFC : Hid (∀ W b, Below w.heap.size w W → KnE w W b → Calls Try.prog 30 #[.agg #[.map (some b)], .agg #[.int .i64 K, .int .i64 N, .string S, .slice a1 n1 c1, .slice a2 n2 c2]] W (FlsP w (rwE (bytE (n - 1)) t) b W)) := fun W b hW hk => efields_any w b n t _ W ht hsm hW hk
  have BT : Blk (w.alloc (Obj.cells #[.int .i64 K, .int .i64 N, .string S, .slice a1 n1 c1, .slice a2 n2 c2] 25)) w.heap.size #[.int .i64 K, .int .i64 N, .string S, .slice a1 n1 c1, .slice a2 n2 c2] 25 := Blk.new w _ _
  have hbw : Below w.heap.size w (w.alloc (Obj.cells #[.int .i64 K, .int .i64 N, .string S, .slice a1 n1 c1, .slice a2 n2 c2] 25)) := (Below.refl _ _).alloc (Nat.le_refl _) _
  clear hR hK hN hS ht hn hc hsm
  by_cases hK3 : K = 3
  rotate_left
  · have d : (K != 3) = true := by simpa using hK3
    have HRV : Hid (R = ([], 1)) := (by rw [← HR.out, rawsA, if_neg (by rw [HT3.out]; exact fun h => hK3 h.1)] : R = _)
    clear hK3 HR HT3 HVC HFC BT
    go_enter Try.func14, Try.ntmps14
    go_wp2_with fail
    go_ret2
    exact RwsP.no HRV.out hbw
  · subst hK3
    go_enter Try.func14, Try.ntmps14
    go_wp2_with fail
    refine (HVC.out _ hbw).mono ?_
    rintro ee w1 ⟨rfl, hb1⟩
    have hbw1 : Below w.heap.size w w1 := hbw.trans (hb1.mono hbw.size)
    have BT1 := BT.below hb1
    clear hb1 hbw BT HVC
    obtain ⟨C, hC⟩ : ∃ z, chkN n t = z := ⟨_, rfl⟩
    have HC : Hid (chkN n t = C) := hC
    rw [hC]
    clear hC
    cases C with
    | false =>
      have HRV : Hid (R = ([], 1)) := (by rw [← HR.out, rawsA, if_neg (by rw [HC.out]; simp)] : R = _)
      clear HR HC
      go_wp2_with fail
      go_ret2
      exact RwsP.no HRV.out hbw1
    | true =>
      have HRV : Hid (rwE (bytE (n - 1)) t = R) := (by rw [← HR.out, rawsA, if_pos ⟨HT3.out, HC.out⟩] : _ = R)
      have alm : Below w1.heap.size w1 (w1.alloc (.map #[] 0)) := (Below.refl _ _).alloc (Nat.le_refl _) _
      have hbw2 : Below w.heap.size w (w1.alloc (.map #[] 0)) := hbw1.trans (alm.mono hbw1.size)
      have HF2 : Hid (Calls Try.prog 30 #[.agg #[.map (some w1.heap.size)], .agg #[.int .i64 3, .int .i64 N, .string S, .slice a1 n1 c1, .slice a2 n2 c2]] (w1.alloc (.map #[] 0)) (FlsP w R w1.heap.size (w1.alloc (.map #[] 0)))) := (by
        have h1 := HFC.out (w1.alloc (.map #[] 0)) w1.heap.size hbw2 (KnE.made hbw1.size)
        rw [HRV.out] at h1
        exact h1 : Calls Try.prog _ _ _ _)
      have BT2 := BT1.below alm
      have t0 := (BT2.cell 0).trans rfl
      have t1 := (BT2.cell 1).trans rfl
      have t2 := (BT2.cell 2).trans rfl
      have t3 := (BT2.cell 3).trans rfl
      have t4 := (BT2.cell 4).trans rfl
      clear HFC HRV HR HC BT1 BT2
      go_wp2_with fail
      refine Calls.mono HF2.out ?_
      rintro ee w3 ⟨r, rfl, hra, hok, -, hkp⟩
      have hbw3 : Below w.heap.size w w3 := hbw2.trans (hkp.toBelow hbw2.size (fun k e => by rw [e]; exact hbw1.size))
      have HRA : Hid (RawsAt w.heap.size w3 r R.1) := (by
        obtain ⟨qa, qc, q1, q2, q3, q4, q5⟩ := hra
        refine ⟨qa, qc, q1, ?_, q3, q4, q5⟩
        rcases q2 with h | ⟨g, g1, g2, g3⟩
        · exact .inl h
        · exact .inr ⟨g, g1, Nat.le_trans hbw2.size g2, g3⟩ : RawsAt w.heap.size w3 r R.1)
      clear hra hkp HF2 t0 t1 t2 t3 t4 alm
      go_wp2_with fail
      go_ret2
      exact ⟨r, rfl, HRA.out, hok, hbw3⟩
set_option maxHeartbeats 4000000 in
theorem encode_any {n : Nat} {t : Tr} {v : Value} {w : World} (ht : TrW n w v t) (hn : n ≤ 60) (hc : cntN n t ≤ 1000) (hsm : SmN n t) :
    Calls Try.prog 12 #[v] w (EncP (encA n t) w) := by
  obtain ⟨R, hR⟩ : ∃ R, encA n t = R := ⟨_, rfl⟩
  have HR : Hid (ofR (rawsA n t) = R) := hR
  rw [hR]
  have HRC : Hid (∀ W, Below w.heap.size w W → Calls Try.prog 14 #[v] W (RwsP (rawsA n t) W)) := fun W hW => eraws_any (ht.cel (Cel.ofBelow hW)) hn hc hsm
  obtain ⟨m, a1, c1, a2, c2, -, rfl, -⟩ := ht.open
  generalize t.kind = K at *
  generalize t.n = N at *
  generalize t.s = S at *
  generalize t.es.length = n1 at *
  generalize t.rest.length = n2 at *
  have hbw : Below w.heap.size w (w.alloc (Obj.cells #[.int .i64 K, .int .i64 N, .string S, .slice a1 n1 c1, .slice a2 n2 c2] 25)) := (Below.refl _ _).alloc (Nat.le_refl _) _
  clear hR ht hn hc hsm
  go_enter Try.func12, Try.ntmps12
  go_wp2_with fail
  refine Calls.mono (HRC.out _ hbw) ?_
  rintro ee w1 ⟨r, rfl, hra, hok, hb1⟩
  have hbw1 : Below w.heap.size w w1 := hbw.trans (hb1.mono hbw.size)
  obtain ⟨⟨rs, er⟩, hq⟩ : ∃ q, rawsA n t = q := ⟨_, rfl⟩
  rw [hq] at HR hra hok ⊢
  have HPC : Hid (Calls Try.prog 26 #[r] w1 fun e w' => ∃ v, e = .returned (.tuple #[v, .int .i64 ((putL rs).2 : Int)]) ∧ w'.ownsRow w1.heap.size 5 1 v (putL rs).1.length (byteCells (putL rs).1) ∧ Below w1.heap.size w1 w') := putall_at hra hok
  clear hra hok hq hb1 hbw HRC
  by_cases he : er = 0
  · subst he
    have HRV : Hid (putL rs = R) := (by have := HR.out; rw [ofR, if_neg (by simp)] at this; exact this : putL rs = R)
    rw [HRV.out] at HPC
    clear HR HRV
    go_wp2_with fail
    refine Calls.mono HPC.out ?_
    rintro ee w2 ⟨u, rfl, ho, hb2⟩
    have hbw2 : Below w.heap.size w w2 := hbw1.trans (hb2.mono hbw1.size)
    have HO : Hid (w2.ownsRow w.heap.size 5 1 u R.1.length (byteCells R.1)) := (by
      refine ⟨ho.1, ?_⟩
      rcases ho.2 with h | ⟨g, cap, cur, h1, h2, h3⟩
      · exact .inl h
      · exact .inr ⟨g, cap, cur, h1, Nat.le_trans hbw1.size h2, h3⟩ : w2.ownsRow w.heap.size 5 1 u R.1.length (byteCells R.1))
    clear ho hb2 HPC
    go_wp2_with fail
    go_ret2
    exact ⟨u, rfl, HO.out, hbw2⟩
  · have hd : ((er : Int) != 0) = true := by simp; omega
    have HRV : Hid (R = ([], er)) := (by have := HR.out; rw [ofR, if_pos he] at this; exact this.symm : R = _)
    clear HR HPC he
    go_wp2_with fail
    go_ret2
    exact EncP.no HRV.out hbw1
set_option maxHeartbeats 1000000 in
theorem elen_any {n : Nat} {t : Tr} {v : Value} {w : World} (ht : TrW n w v t) (hn : n ≤ 60) (hc : cntN n t ≤ 1000) (hsm : SmN n t) :
    Calls Try.prog 17 #[v] w fun e w' => e = .returned (.int .i64 ((encA n t).1.length : Int)) ∧ Below w.heap.size w w' := by
  have HRC : Hid (∀ W, Below w.heap.size w W → Calls Try.prog 12 #[v] W (EncP (encA n t) W)) := fun W hW => encode_any (ht.cel (Cel.ofBelow hW)) hn hc hsm
  obtain ⟨m, a1, c1, a2, c2, -, rfl, -⟩ := ht.open
  generalize t.kind = K at *
  generalize t.n = N at *
  generalize t.s = S at *
  generalize t.es.length = n1 at *
  generalize t.rest.length = n2 at *
  generalize encA n t = R at *
  obtain ⟨ns, er⟩ := R
  obtain ⟨L, hL⟩ : ∃ L, ns.length = L := ⟨_, rfl⟩
  simp only [hL]
  have HL : Hid (ns.length = L) := hL
  clear hL
  have hbw : Below w.heap.size w (w.alloc (Obj.cells #[.int .i64 K, .int .i64 N, .string S, .slice a1 n1 c1, .slice a2 n2 c2] 25)) := (Below.refl _ _).alloc (Nat.le_refl _) _
  clear ht hn hc hsm
  go_enter Try.func17, Try.ntmps17
  go_wp2_with fail
  refine Calls.mono (HRC.out _ hbw) ?_
  rintro ee w1 ⟨r, rfl, ho, hb1⟩
  have hbw1 : Below w.heap.size w w1 := hbw.trans (hb1.mono hbw.size)
  obtain ⟨a, cap, rfl, -⟩ := own_open ho
  rw [HL.out]
  clear ho hb1 HRC hbw
  go_wp2_with fail
  go_ret
  exact ⟨rfl, hbw1⟩
end Go.Proofs.Ytkmdaopmmfdpgaa

/- What is put is got; what is got is put as it was; what is cut is short: plain mathematics. -/
namespace Go.Proofs.Ytkmdaopmmfdpgaa
open Go.ChangeShapes Go.WideShapes Go.ChangeAt Go.RowKit
set_option linter.unusedVariables false
set_option linter.unusedSimpArgs false
set_option maxRecDepth 20000

theorem getF_put0 (v p : Nat) (rest : List Nat) (hv : v < 18446744073709551616) : getF (digs v ++ rest) 0 0 p = (v, p + (digs v).length, 0) := by
  rw [getF_digs v 0 0 p rest (by omega) (by omega) (by omega)]
  simp
theorem drop_pre (pre l : List Nat) : (pre ++ l).drop pre.length = l := List.drop_left
theorem drop_pre2 (pre l m : List Nat) (q : Nat) (hq : q = pre.length + l.length) : (pre ++ (l ++ m)).drop q = m := by
  rw [← List.append_assoc, hq, ← List.length_append]
  exact List.drop_left

theorem next_put {r : Fd} (h : okF r = true) (hn : Is64 r.n) (pre rest : List Nat) : nextN (pre ++ (fieldN r ++ rest)) pre.length = (r, pre.length + (fieldN r).length, 0) := by
  rcases ok_cases h hn with ⟨t, n, rfl, h1, h2, h3⟩ | ⟨t, b, rfl, h1, h2, h3⟩
  · have hz := zigN_bd n h3.1 h3.2
    have hzz : ((zigN n).toNat : Int) = zigN n := Int.toNat_of_nonneg hz.1
    rw [fieldN_num]
    have g1 : getF ((pre ++ (digs (2 * t) ++ digs (zigN n).toNat ++ rest)).drop pre.length) 0 0 pre.length = (2 * t, pre.length + (digs (2 * t)).length, 0) := by
      rw [drop_pre, List.append_assoc]; exact getF_put0 _ _ _ (by omega)
    have g2 : getF ((pre ++ (digs (2 * t) ++ digs (zigN n).toNat ++ rest)).drop (pre.length + (digs (2 * t)).length)) 0 0 (pre.length + (digs (2 * t)).length) = ((zigN n).toNat, pre.length + (digs (2 * t)).length + (digs (zigN n).toNat).length, 0) := by
      rw [List.append_assoc, drop_pre2 pre _ _ _ rfl]; exact getF_put0 _ _ _ (by omega)
    rw [next_num g1 (by omega) g2 (by omega), hzz, zag_zig, show 2 * t / 2 = t by omega, List.length_append, Nat.add_assoc]
  · rw [fieldN_text]
    have g1 : getF ((pre ++ (digs (2 * t + 1) ++ (digs b.size ++ bytesN b) ++ rest)).drop pre.length) 0 0 pre.length = (2 * t + 1, pre.length + (digs (2 * t + 1)).length, 0) := by
      rw [drop_pre, List.append_assoc]; exact getF_put0 _ _ _ (by omega)
    have g2 : getF ((pre ++ (digs (2 * t + 1) ++ (digs b.size ++ bytesN b) ++ rest)).drop (pre.length + (digs (2 * t + 1)).length)) 0 0 (pre.length + (digs (2 * t + 1)).length) = (b.size, pre.length + (digs (2 * t + 1)).length + (digs b.size).length, 0) := by
      rw [List.append_assoc, drop_pre2 pre _ _ _ rfl, List.append_assoc]; exact getF_put0 _ _ _ (by omega)
    have hd : (pre ++ (digs (2 * t + 1) ++ (digs b.size ++ bytesN b) ++ rest)).drop (pre.length + (digs (2 * t + 1)).length + (digs b.size).length) = bytesN b ++ rest := by
      have e : pre ++ (digs (2 * t + 1) ++ (digs b.size ++ bytesN b) ++ rest) = (pre ++ digs (2 * t + 1)) ++ (digs b.size ++ (bytesN b ++ rest)) := by simp
      rw [e, drop_pre2 _ _ _ _ (by rw [List.length_append])]
    rw [next_text g1 (by omega) g2 (by omega) (by simp [bytesN_len]; omega), hd]
    have ht : (bytesN b ++ rest).take b.size = bytesN b := by rw [← bytesN_len b]; exact List.take_left
    rw [ht, strN_bytesN, show (2 * t + 1) / 2 = t by omega, List.length_append, List.length_append, bytesN_len]
    simp only [Prod.mk.injEq, true_and, and_true]
    omega

/-- Over whole fields. -/
theorem getA_skip : ∀ (rs : List Fd) (pre tail : List Nat), (∀ r ∈ rs, okF r = true) → (∀ r ∈ rs, Is64 r.n) → (∀ n ∈ pre ++ (flatN rs ++ tail), n < 256) →
    getA (pre ++ (flatN rs ++ tail)) pre.length = joinA rs (getA (pre ++ (flatN rs ++ tail)) (pre.length + (flatN rs).length))
  | [], pre, tail, _, _, hb => by
    rw [flatN_nil, List.length_nil, Nat.add_zero, joinA_nil _ (getA_nil _ _)]
  | r :: rs, pre, tail, ho, hn, hb => by
    have hr := ho r (by simp)
    have hr64 := hn r (by simp)
    have hl := (fieldN_len hr hr64).1
    have e : pre ++ (flatN (r :: rs) ++ tail) = pre ++ (fieldN r ++ (flatN rs ++ tail)) := by rw [flatN_cons, List.append_assoc]
    have e2 : pre ++ (fieldN r ++ (flatN rs ++ tail)) = (pre ++ fieldN r) ++ (flatN rs ++ tail) := by rw [List.append_assoc]
    have hx := next_put hr hr64 pre (flatN rs ++ tail)
    rw [e] at hb ⊢
    rw [getA_on (by simp; omega) hx hb]
    have ih := getA_skip rs (pre ++ fieldN r) tail (fun x hx => ho x (by simp [hx])) (fun x hx => hn x (by simp [hx])) (by rw [← e2]; exact hb)
    rw [← e2, List.length_append] at ih
    rw [ih, joinA_join, List.singleton_append, flatN_cons, List.length_append, Nat.add_assoc]
theorem getL_put {rs : List Fd} (ho : rs.all okF = true) (hn : ∀ r ∈ rs, Is64 r.n) (hl : (flatN rs).length ≤ 4096) : getL (flatN rs) = (rs, 0) := by
  have := getA_skip rs [] [] (List.all_eq_true.1 ho) hn (by simpa using flatN_lt rs)
  simp only [List.nil_append, List.append_nil, List.length_nil, Nat.zero_add] at this
  rw [getL, if_neg (by omega), this, getA_end (Nat.le_refl _), joinA, if_pos rfl, List.append_nil]

/-- A field that is cut. -/
theorem next_cut {r : Fd} (h : okF r = true) (hn : Is64 r.n) (pre : List Nat) (m : Nat) (hm : m < (fieldN r).length) : nextN (pre ++ (fieldN r).take m) pre.length = (fd0, 0, 2) := by
  rcases ok_cases h hn with ⟨t, n, rfl, h1, h2, h3⟩ | ⟨t, b, rfl, h1, h2, h3⟩
  · have hz := zigN_bd n h3.1 h3.2
    have l1 := digs_len64 (2 * t) (by omega)
    have l2 := digs_len64 (zigN n).toNat (by omega)
    rw [fieldN_num] at hm ⊢
    rw [List.length_append] at hm
    by_cases hc : m < (digs (2 * t)).length
    · refine next_e1 (h := 0) (q := 0) (e := 2) ?_ (by decide)
      rw [drop_pre, List.take_append_of_le_length (by omega)]
      exact getF_take _ _ _ _ _ hc (by omega)
    · have et : (digs (2 * t) ++ digs (zigN n).toNat).take m = digs (2 * t) ++ (digs (zigN n).toNat).take (m - (digs (2 * t)).length) := by
        rw [List.take_append, List.take_of_length_le (by omega)]
      rw [et]
      refine next_e2 (h := 2 * t) (q := pre.length + (digs (2 * t)).length) (v := 0) (q2 := 0) (e := 2) ?_ (by omega) ?_ (by decide)
      · rw [drop_pre]; exact getF_put0 _ _ _ (by omega)
      · rw [drop_pre2 pre _ _ _ rfl]
        exact getF_take _ _ _ _ _ (by omega) (by omega)
  · have l1 := digs_len64 (2 * t + 1) (by omega)
    have l2 := digs_len64 b.size (by omega)
    rw [fieldN_text] at hm ⊢
    rw [List.length_append, List.length_append, bytesN_len] at hm
    by_cases hc : m < (digs (2 * t + 1)).length
    · refine next_e1 (h := 0) (q := 0) (e := 2) ?_ (by decide)
      rw [drop_pre, List.take_append_of_le_length (by omega)]
      exact getF_take _ _ _ _ _ hc (by omega)
    · have et : (digs (2 * t + 1) ++ (digs b.size ++ bytesN b)).take m = digs (2 * t + 1) ++ (digs b.size ++ bytesN b).take (m - (digs (2 * t + 1)).length) := by
        rw [List.take_append, List.take_of_length_le (by omega)]
      rw [et]
      obtain ⟨j, hj⟩ : ∃ j, m - (digs (2 * t + 1)).length = j := ⟨_, rfl⟩
      rw [hj]
      have g1 : ∀ l, getF ((pre ++ (digs (2 * t + 1) ++ l)).drop pre.length) 0 0 pre.length = (2 * t + 1, pre.length + (digs (2 * t + 1)).length, 0) := fun l => by
        rw [drop_pre]; exact getF_put0 _ _ _ (by omega)
      by_cases hc2 : j < (digs b.size).length
      · refine next_e2 (h := 2 * t + 1) (q := pre.length + (digs (2 * t + 1)).length) (v := 0) (q2 := 0) (e := 2) (g1 _) (by omega) ?_ (by decide)
        rw [drop_pre2 pre _ _ _ rfl, List.take_append_of_le_length (by omega)]
        exact getF_take _ _ _ _ _ hc2 (by omega)
      · have et2 : (digs b.size ++ bytesN b).take j = digs b.size ++ (bytesN b).take (j - (digs b.size).length) := by
          rw [List.take_append, List.take_of_length_le (by omega)]
        rw [et2]
        refine next_short (h := 2 * t + 1) (q := pre.length + (digs (2 * t + 1)).length) (v := b.size) (q2 := pre.length + (digs (2 * t + 1)).length + (digs b.size).length) (g1 _) (by omega) ?_ (by omega) ?_
        · rw [drop_pre2 pre _ _ _ rfl]; exact getF_put0 _ _ _ (by omega)
        · simp only [List.length_append, List.length_take, bytesN_len]; omega
/-- Fields that are cut: between two. -/
theorem take_flat (rs : List Fd) (n : Nat) : (flatN rs).take (flatN (rs.take n)).length = flatN (rs.take n) := by
  conv => lhs; rw [← List.take_append_drop n rs, flatN_app]
  rw [List.take_append_drop]
  exact List.take_left
theorem getL_cut {rs : List Fd} (ho : rs.all okF = true) (hn : ∀ r ∈ rs, Is64 r.n) (hl : (flatN rs).length ≤ 4096) (n : Nat) : getL ((flatN rs).take (flatN (rs.take n)).length) = (rs.take n, 0) := by
  rw [take_flat]
  refine getL_put ?_ (fun r hr => hn r (List.mem_of_mem_take hr)) ?_
  · rw [List.all_eq_true] at ho ⊢
    exact fun r hr => ho r (List.mem_of_mem_take hr)
  · have : (flatN (rs.take n)).length ≤ (flatN rs).length := by
      conv => rhs; rw [← List.take_append_drop n rs, flatN_app, List.length_append]
      omega
    omega
/-- .. within one. -/
theorem getL_within {rs : List Fd} (ho : rs.all okF = true) (hn : ∀ r ∈ rs, Is64 r.n) (hl : (flatN rs).length ≤ 4096) (n k : Nat) (r : Fd) (hr : rs[n]? = some r) (h1 : (flatN (rs.take n)).length < k) (h2 : k < (flatN (rs.take n)).length + (fieldN r).length) :
    getL ((flatN rs).take k) = ([], 2) := by
  have hmem := List.mem_of_getElem? hr
  have hok := List.all_eq_true.1 ho r hmem
  have hr64 := hn r hmem
  have hsplit : rs = rs.take n ++ (r :: rs.drop (n + 1)) := by
    have hlt := (List.getElem?_eq_some_iff.1 hr).1
    have hrr := (List.getElem?_eq_some_iff.1 hr).2
    rw [← hrr, ← List.drop_eq_getElem_cons hlt, List.take_append_drop]
  have ef : (flatN rs).take k = flatN (rs.take n) ++ (fieldN r).take (k - (flatN (rs.take n)).length) := by
    conv => lhs; rw [hsplit, flatN_app, flatN_cons]
    rw [List.take_append, List.take_of_length_le (by omega), List.take_append_of_le_length (by omega)]
  have hlen : ((flatN rs).take k).length ≤ 4096 := by rw [List.length_take]; omega
  rw [getL, if_neg (by omega), ef]
  have hsk := getA_skip (rs.take n) [] ((fieldN r).take (k - (flatN (rs.take n)).length)) (fun x hx => List.all_eq_true.1 ho x (List.mem_of_mem_take hx)) (fun x hx => hn x (List.mem_of_mem_take hx))
    (by
      intro x hx
      rw [List.nil_append, List.mem_append] at hx
      rcases hx with hx | hx
      · exact flatN_lt _ _ hx
      · exact fieldN_lt _ _ (List.mem_of_mem_take hx))
  simp only [List.nil_append, List.length_nil, Nat.zero_add] at hsk
  have hcut := next_cut hok hr64 (flatN (rs.take n)) (k - (flatN (rs.take n)).length) (by omega)
  rw [hsk, getA_err (by rw [List.length_append, List.length_take]; omega) hcut (by decide), joinA, if_neg (by decide)]

/-- What is read of a number is that number's bytes. -/
theorem getF_inv : ∀ (l : List Nat) (i acc p v q : Nat), getF l i acc p = (v, q, 0) → (∀ n ∈ l, n < 256) → ∃ u rest, l = digs u ++ rest ∧ v = acc + u * 128 ^ i ∧ q = p + i + (digs u).length ∧ (0 < i → 0 < u)
  | [], i, acc, p, v, q, hg, _ => by simp [getF] at hg
  | c :: r, i, acc, p, v, q, hg, hb => by
    have hc := hb c (by simp)
    by_cases h9 : i = 9 ∧ 1 < c
    · rw [getF_ten r acc p h9.1 h9.2] at hg; simp at hg
    · by_cases h1 : 128 ≤ c
      · rw [getF_on r acc p h9 h1] at hg
        obtain ⟨u, rest, rfl, rfl, rfl, hu⟩ := getF_inv r (i + 1) _ p v q hg (fun n hn => hb n (by simp [hn]))
        have hu0 := hu (by omega)
        refine ⟨c % 128 + 128 * u, rest, ?_, ?_, ?_, fun _ => by omega⟩
        · rw [digs_big (v := c % 128 + 128 * u) (by omega), show (c % 128 + 128 * u) % 128 + 128 = c by omega, show (c % 128 + 128 * u) / 128 = u by omega]
          rfl
        · rw [Nat.pow_succ, Nat.add_mul, Nat.add_assoc]
          congr 2
          rw [Nat.mul_comm 128 u, Nat.mul_assoc, Nat.mul_comm 128]
        · rw [digs_big (v := c % 128 + 128 * u) (by omega), show (c % 128 + 128 * u) / 128 = u by omega, List.length_cons]
          omega
      · by_cases h0 : c = 0 ∧ 0 < i
        · rw [getF_zero r acc p h9 h0.1 h0.2] at hg; simp at hg
        · rw [getF_end r acc p h9 (by omega) h0] at hg
          simp only [Prod.mk.injEq, and_true] at hg
          obtain ⟨rfl, rfl⟩ := hg
          refine ⟨c, r, ?_, rfl, ?_, fun hi => by omega⟩
          · rw [digs_small (by omega)]; rfl
          · rw [digs_small (by omega)]; simp
theorem getF_at_inv {ns : List Nat} {p v q : Nat} (hg : getF (ns.drop p) 0 0 p = (v, q, 0)) (hb : ∀ n ∈ ns, n < 256) : ns.drop p = digs v ++ ns.drop q ∧ q = p + (digs v).length := by
  obtain ⟨u, rest, hl, hv, hq, -⟩ := getF_inv _ 0 0 p v q hg (fun n hn => hb n (List.mem_of_mem_drop hn))
  simp only [Nat.pow_zero, Nat.mul_one, Nat.zero_add, Nat.add_zero] at hv hq
  subst hv
  have hd : ns.drop q = rest := by
    rw [hq, ← List.drop_drop, hl]
    exact List.drop_left
  rw [hd]
  exact ⟨hl, hq⟩
theorem next_inv {ns : List Nat} {p q : Nat} {r : Fd} (hx : nextN ns p = (r, q, 0)) (hb : ∀ n ∈ ns, n < 256) (hp : p ≤ ns.length) (hl : ns.length ≤ 4096) : okF r = true ∧ Is64 r.n ∧ ns.drop p = fieldN r ++ ns.drop q := by
  obtain ⟨⟨h, q1, e1⟩, g1⟩ : ∃ x, getF (ns.drop p) 0 0 p = x := ⟨_, rfl⟩
  by_cases he1 : e1 = 0
  · subst he1
    by_cases ht : h / 2 = 0 ∨ 500 < h / 2
    · rw [next_tag g1 ht] at hx; simp at hx
    · have b1 := getF_at_bd g1 hb hp
      have i1 := getF_at_inv g1 hb
      obtain ⟨⟨v, q2, e2⟩, g2⟩ : ∃ x, getF (ns.drop q1) 0 0 q1 = x := ⟨_, rfl⟩
      by_cases he2 : e2 = 0
      · subst he2
        have b2 := getF_at_bd g2 hb (by omega)
        have i2 := getF_at_inv g2 hb
        by_cases hw : h % 2 = 0
        · rw [next_num g1 ht g2 hw] at hx
          simp only [Prod.mk.injEq, and_true] at hx
          obtain ⟨rfl, rfl⟩ := hx
          have hz := zagN_bd v (by omega) (by omega)
          refine ⟨?_, hz, ?_⟩
          · unfold okF okV
            rw [(toList_empty _).2 rfl]
            simp
            omega
          · rw [fieldN_num, zig_zag v (by omega), show 2 * (h / 2) = h by omega, Int.toNat_natCast, i1.1, i2.1, List.append_assoc]
        · by_cases hv : ns.length - q2 < v
          · rw [next_short g1 ht g2 hw hv] at hx; simp at hx
          · rw [next_text g1 ht g2 hw (by omega)] at hx
            simp only [Prod.mk.injEq, and_true] at hx
            obtain ⟨rfl, rfl⟩ := hx
            have hlen : ((ns.drop q2).take v).length = v := by simp; omega
            have hsz : (strN ((ns.drop q2).take v)).size = v := by rw [strN_size, hlen]
            refine ⟨?_, by unfold Is64; simp, ?_⟩
            · unfold okF okV
              simp [hsz]
              omega
            · rw [fieldN_text, hsz, bytesN_strN _ (fun n hn => hb n (List.mem_of_mem_drop (List.mem_of_mem_take hn))), show 2 * (h / 2) + 1 = h by omega, i1.1, i2.1]
              simp only [List.append_assoc]
              rw [← List.drop_drop, List.take_append_drop]
      · rw [next_e2 g1 ht g2 he2] at hx; simp at hx; omega
  · rw [next_e1 g1 he1] at hx; simp at hx; omega
theorem getA_inv {ns : List Nat} (hb : ∀ n ∈ ns, n < 256) (hl : ns.length ≤ 4096) : ∀ k p rs, ns.length - p ≤ k → p ≤ ns.length → getA ns p = (rs, 0) → (∀ r ∈ rs, okF r = true ∧ Is64 r.n) ∧ flatN rs = ns.drop p
  | 0, p, rs, hk, hp, h => by
    rw [getA_end (by omega)] at h
    obtain rfl : [] = rs := (Prod.mk.inj h).1
    exact ⟨by simp, by rw [List.drop_of_length_le (by omega), flatN_nil]⟩
  | k + 1, p, rs, hk, hp, h => by
    by_cases hlt : p < ns.length
    · obtain ⟨⟨r, q, e⟩, hx⟩ : ∃ x, nextN ns p = x := ⟨_, rfl⟩
      by_cases he : e = 0
      · subst he
        have hq := nextN_bd hx hb hp
        have hi := next_inv hx hb hp hl
        rw [getA_on hlt hx hb, joinA] at h
        split at h <;> rename_i h2
        · obtain rfl : [r] ++ (getA ns q).1 = rs := (Prod.mk.inj h).1
          have ih := getA_inv hb hl k q (getA ns q).1 (by omega) hq.2 (Prod.ext rfl h2)
          refine ⟨?_, ?_⟩
          · intro x hx
            rcases List.mem_append.1 hx with hx | hx
            · obtain rfl : x = r := by simpa using hx
              exact ⟨hi.1, hi.2.1⟩
            · exact ih.1 x hx
          · rw [flatN_app, flatN_cons, flatN_nil, List.append_nil, ih.2, hi.2.2]
        · exact absurd (Prod.mk.inj h).2 h2
      · rw [getA_err hlt hx he] at h
        exact absurd (Prod.mk.inj h).2 he
    · rw [getA_end (by omega)] at h
      obtain rfl : [] = rs := (Prod.mk.inj h).1
      exact ⟨by simp, by rw [List.drop_of_length_le (by omega), flatN_nil]⟩
theorem putL_get {ns : List Nat} (hb : ∀ n ∈ ns, n < 256) {rs : List Fd} (h : getL ns = (rs, 0)) : putL rs = (ns, 0) ∧ (∀ r ∈ rs, Is64 r.n) := by
  rw [getL] at h
  split at h
  · simp at h
  · rename_i hl
    have hi := getA_inv hb (by omega) ns.length 0 rs (by omega) (by omega) h
    rw [List.drop_zero] at hi
    refine ⟨?_, fun r hr => (hi.1 r hr).2⟩
    rw [putL_ok (List.all_eq_true.2 fun r hr => (hi.1 r hr).1) (by rw [hi.2]; omega), hi.2]
end Go.Proofs.Ytkmdaopmmfdpgaa

/- What follows of a tree that is encoded. -/
namespace Go.Proofs.Ytkmdaopmmfdpgaa
open Go.ChangeShapes Go.WideShapes Go.ChangeAt Go.RowKit
set_option linter.unusedVariables false
set_option linter.unusedSimpArgs false
set_option maxRecDepth 20000

theorem TrV.trW2 {n B : Nat} {w : World} {v : Value} {t : Tr} {bs : List Nat} (h : TrV n B w v t bs) : TrW n w v t := h.trW
theorem rawsA_no {n : Nat} {t : Tr} (h : (rawsA n t).2 ≠ 0) : (rawsA n t).1 = [] := by
  unfold rawsA at h ⊢
  split
  · rename_i hc
    rw [if_pos hc] at h
    unfold rwE at h ⊢
    split
    · rfl
    · rename_i h1; rw [if_neg h1] at h; exact absurd rfl h
  · rfl
theorem encA_no {n : Nat} {t : Tr} (h : (encA n t).2 ≠ 0) : (encA n t).1 = [] := ofR_none h
/-- Fields that are a tree's. -/
def fldsE (n : Nat) (t : Tr) : List Fd := (fsE (bytE (n - 1)) t.es).map (·.1) ++ t.rest
theorem raws_inv {n : Nat} {t : Tr} (h : (rawsA n t).2 = 0) : t.kind = 3 ∧ chkN n t = true ∧ (rawsA n t).1 = sortF (fldsE n t) ∧ errE (fsE (bytE (n - 1)) t.es) = 0 := by
  unfold rawsA at h ⊢
  split at h
  · rename_i hc
    rw [if_pos hc]
    unfold rwE at h ⊢
    split at h
    · rename_i h1; exact absurd h h1
    · rename_i h1; rw [if_neg h1]; exact ⟨hc.1, hc.2, rfl, by omega⟩
  · exact absurd h (by decide)
theorem enc_inv {n : Nat} {t : Tr} (h : (encA n t).2 = 0) : (rawsA n t).2 = 0 ∧ (sortF (fldsE n t)).all okF = true ∧ (encA n t).1 = flatN (sortF (fldsE n t)) ∧ (encA n t).1.length ≤ 4096 := by
  have h0 : (rawsA n t).2 = 0 := by
    unfold encA ofR at h
    split at h
    · rename_i h1; exact absurd h h1
    · omega
  obtain ⟨_, _, h3, _⟩ := raws_inv h0
  have h1 : encA n t = putL (sortF (fldsE n t)) := by unfold encA ofR; rw [if_neg (by omega), h3]
  rw [h1] at h ⊢
  unfold putL at h ⊢
  split at h
  · rename_i h4
    split at h
    · rename_i h5; rw [if_pos h4, if_pos h5]; exact ⟨h0, h4, rfl, h5⟩
    · exact absurd h (by decide)
  · exact absurd h (by decide)
theorem putL_lt (rs : List Fd) : ∀ k ∈ (putL rs).1, k < 256 := by
  unfold putL
  split
  · split
    · exact flatN_lt rs
    · simp
  · simp
theorem encA_lt (n : Nat) (t : Tr) : ∀ k ∈ (encA n t).1, k < 256 := by
  unfold encA ofR
  split
  · simp
  · exact putL_lt _
theorem sortF_len (l : List Fd) : (sortF l).length = l.length := (sortF_all _ l (Nat.le_refl _)).2.1
theorem sortF_mem {l : List Fd} {x : Fd} (h : x ∈ sortF l) : x ∈ l := (sortF_all _ l (Nat.le_refl _)).2.2.1 x h
theorem flds_len (n : Nat) (t : Tr) : (fldsE n t).length = (subs t.es).length + t.rest.length := by
  unfold fldsE; rw [List.length_append, List.length_map, fsE_len]
theorem flds_64 {n : Nat} {w : World} {v : Value} {t : Tr} (h : TrW n w v t) (hs : SmN n t) : FdsOk (sortF (fldsE n t)) := by
  cases n with
  | zero => exact hs.elim
  | succ n => exact fds_ok h (fun e he => (hs.2.2.2.2 e he).1) hs.2.2.1 hs.2.1
/-- What is encoded is read again. -/
theorem enc_get {n : Nat} {w : World} {v : Value} {t : Tr} (ht : TrW n w v t) (hs : SmN n t) (h : (encA n t).2 = 0) : getL (encA n t).1 = (sortF (fldsE n t), 0) := by
  obtain ⟨_, h2, h3, h4⟩ := enc_inv h
  rw [h3] at h4 ⊢
  exact getL_put h2 (flds_64 ht hs).2 h4
theorem subs_stepE {es : List (Int × List Tr)} {i : Nat} {e : Int × List Tr} (h : es[i]? = some e) : (subs (es.take (i + 1))).length = (subs (es.take i)).length + e.2.length := by
  obtain ⟨hl, rfl⟩ := List.getElem?_eq_some_iff.1 h
  unfold subs
  rw [List.take_succ_eq_append_getElem hl, List.flatMap_append, List.length_append]
  simp
theorem subs_le {es : List (Int × List Tr)} (h : ∀ e ∈ es, e.2.length ≤ 70) (h2 : es.length ≤ 500) (i : Nat) : (subs (es.take i)).length ≤ 35000 := by
  have h3 : (subs (es.take i)).length ≤ 70 * (es.take i).length := subs_len fun e he => h e (List.mem_of_mem_take he)
  have h4 : (es.take i).length ≤ 500 := by rw [List.length_take]; omega
  omega
end Go.Proofs.Ytkmdaopmmfdpgaa

/- A block of cells is a row. -/
namespace Go.Proofs.Ytkmdaopmmfdpgaa
open Go.ChangeShapes Go.WideShapes Go.ChangeAt Go.RowKit
set_option linter.unusedVariables false
set_option linter.unusedSimpArgs false
set_option maxRecDepth 20000

/-- A block of cells is a row. -/
theorem RowG.blk {w : World} {b : Nat} {cs : Array Value} {t : TypeId} {size n : Nat} {rs : List (List Value)} (h : Blk w b cs t) (hc : cs.toList = rs.flatten) (hl : ∀ r ∈ rs, r.length = size) (hn : rs.length = n) (hm : n ≤ 1000000) : RowG w (.slice (some ⟨b, 0, none⟩) n n) size rs := by
  subst hn
  refine ⟨some ⟨b, 0, none⟩, rs.length, rfl, Nat.le_refl _, by unfold maxLen; omega, (fun e => by cases e), fun _ => ⟨b, 0, rfl, fun i c u j hi hj => ?_⟩⟩
  rw [h.cell, ← Array.getElem?_toList, hc, Nat.zero_add]
  exact flat_get rs hl i c hi j u hj
theorem Blk.newAt {w : World} {b : Nat} {cs : Array Value} {t : TypeId} (h : w.heap.size = b) : Blk (w.alloc (.cells cs t)) b cs t := by subst h; exact Blk.new w cs t
theorem Blk.up {w : World} {b : Nat} {cs : Array Value} {t : TypeId} (h : Blk w b cs t) (o : Obj) : Blk (w.alloc o) b cs t := h.below ((Below.refl _ _).alloc (Nat.le_refl _) _)
end Go.Proofs.Ytkmdaopmmfdpgaa

/- Split from VlAwake. -/
namespace Go.Proofs.Ytkmdaopmmfdpgaa
open Go.ChangeShapes Go.WideShapes Go.ChangeAt Go.RowKit
set_option linter.unusedVariables false
set_option linter.unusedSimpArgs false
set_option maxRecDepth 20000

theorem trR_leaf (n : Nat) (w : World) (k : Int) (hk : Is64 k) : TrR (n + 1) w [.int .i64 k, .int .i64 0, .string ⟨#[]⟩, .slice none 0 0, .slice none 0 0] ⟨k, 0, ⟨#[]⟩, [], []⟩ :=
  ⟨.slice none 0 0, .slice none 0 0, rfl, hk, ⟨by show (-9223372036854775808 : Int) ≤ 0; decide, by show (0 : Int) ≤ 9223372036854775807; decide⟩, Nat.zero_le _, (fun f hf => by simp at hf), RowG.nil _ _, RowP.nil _ _ _, (fun g off n cap e => by cases e), fun g off n cap e => by cases e⟩
theorem Blk.pln {w : World} {b n c : Nat} {cs : Array Value} {t : TypeId} (h : Blk w b cs t) : PlnV w (.slice (some ⟨b, 0, none⟩) n c) := fun g off m cap e _ => by
  simp at e
  obtain ⟨⟨rfl, -⟩, -⟩ := e
  exact ⟨_, _, h⟩
theorem one64 : Is64 1 := ⟨by decide, by decide⟩
theorem three64 : Is64 3 := ⟨by decide, by decide⟩
end Go.Proofs.Ytkmdaopmmfdpgaa

/- The statements' own awake answers true. -/
namespace Go.Proofs.Ytkmdaopmmfdpgaa
open Go.ChangeShapes Go.WideShapes Go.ChangeAt Go.RowKit
set_option linter.unusedVariables false
set_option linter.unusedSimpArgs false
set_option maxRecDepth 20000

/-- A message of one entry of one tree that keeps a number or a text: its value's tree. -/
def oneT (tag : Int) (x : Tr) : Tr := ⟨3, 0, ⟨#[]⟩, [(tag, [x])], []⟩
theorem zero64 : Is64 0 := ⟨by decide, by decide⟩
theorem oneT_W {w : World} {b0 b1 : Nat} {tag k n : Int} {s : ByteArray} (htag : Is64 tag) (hk : Is64 k) (hn : Is64 n) (hs : s.size ≤ 140737488351232) (B0 : Blk w b0 #[.int .i64 k, .int .i64 n, .string s, .slice none 0 0, .slice none 0 0] 25) (B1 : Blk w b1 #[.int .i64 tag, .slice (some ⟨b0, 0, none⟩) 1 1] 41) :
    TrW 2 w (.agg #[.int .i64 3, .int .i64 0, .string ⟨#[]⟩, .slice (some ⟨b1, 0, none⟩) 1 1, .slice none 0 0]) (oneT tag ⟨k, n, s, [], []⟩) := by
  have TI : TrsR 1 w (.slice (some ⟨b0, 0, none⟩) 1 1) [⟨k, n, s, [], []⟩] := ⟨[[.int .i64 k, .int .i64 n, .string s, .slice none 0 0, .slice none 0 0]], RowG.blk B0 rfl (fun r hr => by simp at hr; subst hr; rfl) rfl (by decide), rfl, fun i x hx => by
      match i, hx with
      | 0, hx => simp at hx; subst hx; exact ⟨_, rfl, _, _, rfl, hk, hn, hs, (fun f hf => by simp at hf), RowG.nil _ _, RowP.nil _ _ _, (fun g off n cap e => by cases e), fun g off n cap e => by cases e⟩
      | i + 1, hx => simp at hx⟩
  have TE : EnsR 1 w (.slice (some ⟨b1, 0, none⟩) 1 1) [(tag, [⟨k, n, s, [], []⟩])] := ⟨[[.int .i64 tag, .slice (some ⟨b0, 0, none⟩) 1 1]], RowG.blk B1 rfl (fun r hr => by simp at hr; subst hr; rfl) rfl (by decide), rfl, fun i x hx => by
      match i, hx with
      | 0, hx => simp at hx; subst hx; exact ⟨_, rfl, _, rfl, htag, TI⟩
      | i + 1, hx => simp at hx⟩
  exact ⟨_, rfl, _, _, rfl, three64, zero64, Nat.zero_le _, (fun f hf => by simp [oneT] at hf), RowG.nil _ _, TE, B1.pln, fun g off n cap e => by cases e⟩
theorem oneT_s {tag k n : Int} {s : ByteArray} (h : s.size ≤ 5000) : SmN 2 (oneT tag ⟨k, n, s, [], []⟩) := by
  refine ⟨Nat.zero_le _, by simp [oneT], by simp [oneT], by simp [oneT], fun e he => ?_⟩
  simp [oneT] at he
  subst he
  exact ⟨by simp, fun x hx => by simp at hx; subst hx; exact ⟨h, by simp, by simp, by simp, by simp⟩⟩
theorem oneT_c {tag k n : Int} {s : ByteArray} : cntN 2 (oneT tag ⟨k, n, s, [], []⟩) ≤ 1000 := by simp [oneT, cntN, subs]
theorem awE_v : encA 2 (oneT 1 ⟨1, 5, ⟨#[]⟩, [], []⟩) = ([2, 10], 0) := by decide +kernel
theorem strN_aw : strN [2, 10] = ⟨#[2, 10]⟩ := by decide +kernel
theorem five64 : Is64 5 := ⟨by decide, by decide⟩
set_option maxHeartbeats 400000 in
theorem eawake_any (w : World) : Calls Try.prog 10 #[] w fun e w' => e = .returned (.bool true) ∧ Below w.heap.size w w' := by
  go_enter Try.func10, Try.ntmps10
  go_wp2_with fail
  have B0 : Blk ((w.alloc (Obj.cells #[.int .i64 1, .int .i64 5, .string ⟨#[]⟩, .slice none 0 0, .slice none 0 0] 25)).alloc (Obj.cells #[.int .i64 1, .slice (some ⟨w.heap.size, 0, none⟩) 1 1] 41)) w.heap.size #[.int .i64 1, .int .i64 5, .string ⟨#[]⟩, .slice none 0 0, .slice none 0 0] 25 := (Blk.newAt rfl).up _
  have B1 : Blk ((w.alloc (Obj.cells #[.int .i64 1, .int .i64 5, .string ⟨#[]⟩, .slice none 0 0, .slice none 0 0] 25)).alloc (Obj.cells #[.int .i64 1, .slice (some ⟨w.heap.size, 0, none⟩) 1 1] 41)) (w.heap.size + 1) #[.int .i64 1, .slice (some ⟨w.heap.size, 0, none⟩) 1 1] 41 := Blk.newAt (by simp)
  have hb0 : Below w.heap.size w ((w.alloc (Obj.cells #[.int .i64 1, .int .i64 5, .string ⟨#[]⟩, .slice none 0 0, .slice none 0 0] 25)).alloc (Obj.cells #[.int .i64 1, .slice (some ⟨w.heap.size, 0, none⟩) 1 1] 41)) := ((Below.refl _ _).alloc (Nat.le_refl _) _).alloc (by simp) _
  generalize ((w.alloc (Obj.cells #[.int .i64 1, .int .i64 5, .string ⟨#[]⟩, .slice none 0 0, .slice none 0 0] 25)).alloc (Obj.cells #[.int .i64 1, .slice (some ⟨w.heap.size, 0, none⟩) 1 1] 41)) = W at *
  have hE := encode_any (oneT_W one64 one64 five64 (by decide) B0 B1) (by decide) oneT_c (oneT_s (by decide))
  rw [awE_v] at hE
  have HE : Hid (Calls Try.prog 12 #[.agg #[.int .i64 3, .int .i64 0, .string ⟨#[]⟩, .slice (some ⟨w.heap.size + 1, 0, none⟩) 1 1, .slice none 0 0]] W (EncP ([2, 10], 0) W)) := hE
  clear hE B0 B1
  refine Calls.mono HE.out ?_
  rintro e w1 ⟨r, rfl, ho, hb1⟩
  have hcv := conv_own ho
  rw [strN_aw] at hcv
  have hbw : Below w.heap.size w w1 := hb0.trans (hb1.mono hb0.size)
  clear HE ho hb1 hb0
  go_wp2_with fail
  go_ret
  exact ⟨rfl, hbw⟩
end Go.Proofs.Ytkmdaopmmfdpgaa

/- A tree that came in, in the walks' words. -/
namespace Go.Proofs.Ytkmdaopmmfdpgaa
open Go.ChangeShapes Go.WideShapes Go.ChangeAt Go.RowKit
set_option linter.unusedVariables false
set_option linter.unusedSimpArgs false
set_option maxRecDepth 20000

/-- All that a datum weighs is within the reach. -/
def LiteT {H : Type} (t : TypeId) (d : DataW H) : Prop := ∀ n ∈ d.weights Try.prog t, n ≤ 140737488351232
theorem liteT_all {H : Type} {e : TypeId} : ∀ {l : List (DataW H)} {d : DataW H}, d ∈ l → ∀ n ∈ d.weights Try.prog e, n ∈ DataW.weightsAll Try.prog e l
  | x :: l, d, h, n, hn => by
    simp only [DataW.weightsAll, List.mem_append]
    rcases List.mem_cons.1 h with rfl | h
    · exact .inl hn
    · exact .inr (liteT_all h n hn)
theorem liteT_each {H : Type} {ts : List TypeId} {ds : List (DataW H)} (h : ∀ n ∈ DataW.weightsEach Try.prog ts ds, n ≤ 140737488351232) {j : Nat} {t : TypeId} {d : DataW H} (ht : ts[j]? = some t) (hd : ds[j]? = some d) : LiteT t d :=
  fun n hn => h n (DataW.weights_mem_each ht hd n hn)
section
variable {H : Type} {enc : TypeId × Value → H} {W : World} {base : Nat} {spare : Nat → Bool} {held : Bool}
theorem liteT_struct {t : TypeId} {fs : Array Field} {ds : List (DataW H)} (hu : Try.prog.underlying t = some (.struct fs)) (h : LiteT t (.agg ds : DataW H)) {j : Nat} {u : TypeId} {d : DataW H} (ht : (fs.toList.map (·.type))[j]? = some u) (hd : ds[j]? = some d) : LiteT u d := by
  refine liteT_each (ts := fs.toList.map (·.type)) (ds := ds) (fun n hn => h n ?_) ht hd
  simp only [DataW.weights, hu]
  exact hn
/-- A row that came in. -/
theorem rowP_in {α : Type} [Inhabited α] {t e : TypeId} {size : Nat} (hc : Try.prog.cellsOf e = size) (hpos : 0 < size) (ht : Try.prog.underlying t = some (.slice e)) (P : List Value → α → Prop) (hw : ∀ r x, P r x → r.length = size)
    {fuel : Nat} {c : Value} {x : DataW H × List MemPlace} (h : DataW.trod enc Try.prog W base spare held fuel t [c] = some x) (hl : LiteT t x.1)
    (one : ∀ n cs' y, n < fuel → DataW.trod enc Try.prog W base spare held n e cs' = some y → LiteT e y.1 → ∃ r, P cs' r) : ∃ rs : List α, RowP P W size c rs := by
  rcases DataW.trod_slice ht h with ⟨hcs, -⟩ | ⟨ad, len, cap, elems, rest, n, hfu, hcs, hx, hb, hle, hm, hlen, hel, -, -⟩
  · obtain rfl : c = .slice none 0 0 := by simpa using hcs
    exact ⟨[], RowP.nil P W size⟩
  · obtain rfl : c = .slice (some ad) len cap := by simpa using hcs
    rw [hc] at hel
    have each : ∀ i, i < len → ∃ (cs' : List Value) (r : α), W.cells? base (ad.add (i * size)) size = some cs' ∧ P cs' r := fun i hi => by
      have h1 := hel i hi
      rw [List.getElem?_eq_getElem (by omega)] at h1
      obtain ⟨cs', h2, h3⟩ := Option.bind_eq_some_iff.1 h1
      obtain ⟨r, hp⟩ := one n cs' _ (by omega) h3 (fun k hk => hl k (by
        rw [hx]
        simp only [DataW.weights, ht, List.mem_cons, List.mem_append]
        exact .inr (.inl (liteT_all (List.mem_map.2 ⟨_, List.getElem_mem (by omega), rfl⟩) k hk))))
      exact ⟨cs', r, h2, hp⟩
    obtain ⟨f, hf⟩ : ∃ f : Nat → List Value × α, ∀ i, i < len → W.cells? base (ad.add (i * size)) size = some (f i).1 ∧ P (f i).1 (f i).2 :=
      ⟨fun i => if h : i < len then (Classical.choose (each i h), Classical.choose (Classical.choose_spec (each i h))) else ([], default), fun i hi => by simp only [dif_pos hi]; exact Classical.choose_spec (Classical.choose_spec (each i hi))⟩
    refine ⟨(List.range len).map fun i => (f i).2, (List.range len).map fun i => (f i).1, ⟨some ad, cap, by simp, by simpa using hle, hm, (fun e => by cases e), fun hne => ?_⟩, by simp, fun i y hy => ?_⟩
    · have hlp : 0 < len := by
        rcases Nat.eq_zero_or_pos len with h0 | h0
        · subst h0; simp at hne
        · exact h0
      have hcell : ∀ i, i < len → ∀ k, k < size → W.cell? ((ad.add (i * size)).add k) = (f i).1[k]? := fun i hi => (World.cells?_some (hf i hi).1).2.2
      obtain ⟨g, off, spot⟩ := ad
      have hspot : spot = none := by
        have h1 := hcell 0 hlp 0 hpos
        obtain ⟨u, hu⟩ : ∃ u, (f 0).1[0]? = some u := ⟨_, List.getElem?_eq_getElem (by rw [hw _ _ (hf 0 hlp).2]; exact hpos)⟩
        rw [hu] at h1
        simpa [Addr.add] using World.cell?_spot h1
      subst hspot
      refine ⟨g, off, rfl, fun i c u j hi hj => ?_⟩
      simp only [List.getElem?_map, Option.map_eq_some_iff] at hi
      obtain ⟨i', hi', rfl⟩ := hi
      obtain ⟨hil, hie⟩ := List.getElem?_eq_some_iff.1 hi'
      simp at hie
      subst hie
      simp only [List.length_range] at hil
      have hjs : j < size := by rw [← hw _ _ (hf i hil).2]; exact (List.getElem?_eq_some_iff.1 hj).1
      have h2 := hcell i hil j hjs
      rw [hj, Deep.add_add, Addr.add_lit] at h2
      rw [Nat.add_assoc]
      exact h2
    · simp only [List.getElem?_map, Option.map_eq_some_iff] at hy
      obtain ⟨i', hi', rfl⟩ := hy
      obtain ⟨hil, hie⟩ := List.getElem?_eq_some_iff.1 hi'
      simp at hie
      subst hie
      simp only [List.length_range] at hil
      exact ⟨(f i).1, by simp [hil], (hf i hil).2⟩
theorem cellsRwT : Try.prog.cellsOf 46 = 4 := by kernel_rfl
theorem cellsTrT : Try.prog.cellsOf 25 = 5 := by kernel_rfl
theorem cellsEnT : Try.prog.cellsOf 41 = 2 := by kernel_rfl
theorem cellsOneT : Try.prog.cellsOf 3 = 1 ∧ Try.prog.cellsOf 9 = 1 ∧ Try.prog.cellsOf 23 = 1 ∧ Try.prog.cellsOf 39 = 1 ∧ Try.prog.cellsOf 22 = 1 := ⟨by kernel_rfl, by kernel_rfl, by kernel_rfl, by kernel_rfl, by kernel_rfl⟩
theorem intT_in {n : Nat} {c : Value} {y : DataW H × List MemPlace} (h : DataW.trod enc Try.prog W base spare held n 3 [c] = some y) : ∃ b : Int, c = .int .i64 b ∧ Is64 b := by
  obtain ⟨b, e, hy, w⟩ := DataW.trod_int Try.underlying3 h
  simp only [List.cons.injEq, and_true] at e
  subst e
  exact ⟨b, rfl, bounds_i64 w⟩
theorem strT_in {n : Nat} {c : Value} {y : DataW H × List MemPlace} (h : DataW.trod enc Try.prog W base spare held n 9 [c] = some y) (hl : LiteT 9 y.1) : ∃ b : ByteArray, c = .string b ∧ b.size ≤ 140737488351232 := by
  obtain ⟨b, e, hy, w⟩ := DataW.trod_string Try.underlying9 h
  simp only [List.cons.injEq, and_true] at e
  subst e hy
  refine ⟨b, rfl, ?_⟩
  have := hl b.data.toList.length (by simp [DataW.weights])
  simpa using this
def RawC (r : List Value) (f : Fd) : Prop := r = f.cells ∧ Is64 f.tag ∧ Is64 f.wire ∧ Is64 f.n ∧ f.b.size ≤ 140737488351232
theorem rawT_in : ∀ n cs' y, DataW.trod enc Try.prog W base spare held n 46 cs' = some y → LiteT 46 y.1 → ∃ f : Fd, RawC cs' f := by
  intro n cs y h hl
  obtain ⟨y0, y1, y2, y3, m, hy, hc, h0, h1, h2, h3⟩ := _root_.Go.Joins.trod_struct4 Try.underlying46 h
  rw [cellsRwT] at hc
  match cs, hc with
  | [c0, c1, c2, c3], _ =>
    rw [cellsOneT.1] at h0 h1 h2
    rw [cellsOneT.2.1] at h3
    simp only [List.drop_zero, List.drop_succ_cons, List.take_succ_cons, List.take_zero] at h0 h1 h2 h3
    subst hy
    obtain ⟨b0, rfl, s0⟩ := intT_in h0
    obtain ⟨b1, rfl, s1⟩ := intT_in h1
    obtain ⟨b2, rfl, s2⟩ := intT_in h2
    obtain ⟨b3, rfl, s3⟩ := strT_in h3 (liteT_struct Try.underlying46 hl (j := 3) rfl rfl)
    exact ⟨⟨b0, b1, b2, b3⟩, rfl, s0, s1, s2, s3⟩
theorem rawRow {w : World} {v : Value} {l : List Fd} (h : RowP RawC w 4 v l) : RowG w v 4 (fdRows l) ∧ ∀ f ∈ l, Is64 f.tag ∧ Is64 f.wire ∧ Is64 f.n ∧ f.b.size ≤ 140737488351232 := by
  obtain ⟨rows, h1, h2, h3⟩ := h
  have hr : rows = fdRows l := by
    refine List.ext_getElem? fun i => ?_
    by_cases hi : i < l.length
    · obtain ⟨r, e, hp⟩ := h3 i _ (List.getElem?_eq_getElem hi)
      rw [e, hp.1]
      simp [fdRows, hi]
    · rw [List.getElem?_eq_none (by omega), List.getElem?_eq_none (by simp [fdRows]; omega)]
  rw [hr] at h1
  refine ⟨h1, fun f hf => ?_⟩
  obtain ⟨i, hi, e⟩ := List.getElem_of_mem hf
  obtain ⟨r, _, hp⟩ := h3 i f (by rw [List.getElem?_eq_getElem hi, e])
  exact hp.2
theorem TrC.le {n m : Nat} (h : n ≤ m) {w : World} {r : List Value} {t : Tr} (hc : TrC n w r t) : TrC m w r t := by
  induction h with
  | refl => exact hc
  | step _ ih => exact ih.more
theorem TrC.len {n : Nat} {w : World} {r : List Value} {t : Tr} (h : TrC n w r t) : r.length = 5 := by
  cases n with
  | zero => exact h.elim
  | succ n => obtain ⟨ve, vr, rfl, _⟩ := h; rfl
/-- A tree's reading, by fuel. -/
theorem treeC_in (N : Nat) : ∀ fuel, fuel ≤ N → ∀ cs' y, DataW.trod enc Try.prog W base spare held fuel 25 cs' = some y → LiteT 25 y.1 → ∃ t : Tr, TrC fuel W cs' t := by
  induction N with
  | zero =>
    intro fuel hf cs y h hl
    obtain rfl : fuel = 0 := by omega
    simp [DataW.trod] at h
  | succ N ih =>
    intro fuel hf cs y h hl
    obtain ⟨xs, n, rfl, rfl, hc, hlen, hfs⟩ := DataW.trod_struct Try.underlying25 h
    rw [cellsTrT] at hc
    match xs, hlen with
    | [y0, y1, y2, y3, y4], _ =>
      match cs, hc with
      | [c0, c1, c2, c3, c4], _ =>
        have h0 := hfs 0 _ rfl
        have h1 := hfs 1 _ rfl
        have h2 := hfs 2 _ rfl
        have h3 := hfs 3 _ rfl
        have h4 := hfs 4 _ rfl
        simp only [cellsOneT.1, cellsOneT.2.1, cellsOneT.2.2.1, cellsOneT.2.2.2.2, List.drop_zero, List.drop_succ_cons, List.take_succ_cons, List.take_zero, List.getElem?_cons_zero, List.getElem?_cons_succ] at h0 h1 h2 h3 h4
        obtain ⟨b0, rfl, s0⟩ := intT_in h0
        obtain ⟨b1, rfl, s1⟩ := intT_in h1
        obtain ⟨b2, rfl, s2⟩ := strT_in h2 (liteT_struct Try.underlying25 hl (j := 2) rfl rfl)
        haveI : Inhabited Fd := ⟨fd0⟩
        haveI : Inhabited Tr := ⟨tr0⟩
        obtain ⟨fs, hfr⟩ := rowP_in cellsRwT (by decide) Try.underlying23 RawC (fun r x hp => by rw [hp.1]; rfl) h4 (liteT_struct Try.underlying25 hl (j := 4) rfl rfl) (fun n cs' y _ => rawT_in n cs' y)
        obtain ⟨es, her⟩ := rowP_in cellsEnT (by decide) Try.underlying22 (EnC (TrC n W) W) (fun r x hp => by obtain ⟨vt, rfl, _⟩ := hp; rfl) h3 (liteT_struct Try.underlying25 hl (j := 3) rfl rfl) (fun n2 cs2 y2 hn2 ht2 hl2 => by
          obtain ⟨xs2, n3, rfl, rfl, hc2, hlen2, hfs2⟩ := DataW.trod_struct Try.underlying41 ht2
          rw [cellsEnT] at hc2
          match xs2, hlen2 with
          | [z0, z1], _ =>
            match cs2, hc2 with
            | [d0, d1], _ =>
              have g0 := hfs2 0 _ rfl
              have g1 := hfs2 1 _ rfl
              simp only [cellsOneT.1, cellsOneT.2.2.2.1, List.drop_zero, List.drop_succ_cons, List.take_succ_cons, List.take_zero, List.getElem?_cons_zero, List.getElem?_cons_succ] at g0 g1
              obtain ⟨tg, rfl, st⟩ := intT_in g0
              obtain ⟨ts, htr⟩ := rowP_in cellsTrT (by decide) Try.underlying39 (TrC n W) (fun r x hp => hp.len) g1 (liteT_struct Try.underlying41 hl2 (j := 1) rfl rfl) (fun n4 cs4 y4 hn4 ht4 hl4 => by
                obtain ⟨t, ht⟩ := ih n4 (by omega) cs4 y4 ht4 hl4
                exact ⟨t, ht.le (by omega)⟩)
              exact ⟨(tg, ts), d1, rfl, st, htr⟩)
        obtain ⟨r1, r2⟩ := rawRow hfr
        exact ⟨⟨b0, b1, b2, es, fs⟩, c3, c4, rfl, s0, s1, s2, r2, r1, her⟩
/-- A tree by value. -/
theorem tree_in {r : Reach} {b0 : Nat} {v : Value} {d : DataW H} {p : List MemPlace} (hv : Value.okWide Try.prog W r b0 25 v) (h : DataW.Trod enc Try.prog W base spare held 25 v d p) (hl : LiteT 25 d) : ∃ n t, TrIn n W v t := by
  obtain ⟨cs, rfl, hsz⟩ := okWide_struct Try.underlying25 hv
  obtain ⟨fuel, hf⟩ := h
  obtain ⟨t, ht⟩ := treeC_in fuel fuel (Nat.le_refl _) _ _ hf hl
  exact ⟨fuel, t, _, by simp [Value.cells], ht⟩
end
end Go.Proofs.Ytkmdaopmmfdpgaa

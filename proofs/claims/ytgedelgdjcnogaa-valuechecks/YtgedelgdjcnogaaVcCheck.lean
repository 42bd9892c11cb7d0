/- What isWrong and Check answer. -/
import Derived.Test.YtgedelgdjcnogaaVcWrong
import Derived.Deep.LoopGhost
namespace Go.Proofs.Ytgedelgdjcnogaa
open Go.ChangeShapes Go.WideShapes Go.ChangeAt Go.RowKit
set_option linter.unusedVariables false
set_option linter.unusedSimpArgs false
set_option maxRecDepth 20000

set_option maxHeartbeats 4000000 in
theorem wrong_any (n : Nat) (t : Tr) (r : List Value) (w : World) (h : TrQ n w r t) (hl : t.es.length ≤ 1000000) :
    Calls Try.prog 38 #[.agg r.toArray] w fun e w' => e = .returned (.bool (!lvB t)) ∧ Below w.heap.size w w' := by
  cases n with
  | zero => exact h.elim
  | succ n =>
    obtain ⟨ve, vr, rfl, ka, na, sa, fa, ra, ea, pa⟩ := h
    obtain ⟨pe, ce, rfl, u1, u2, -⟩ := RowP.open ea
    obtain ⟨pr, cr, rfl, x1, x2, -⟩ := rest_holds ra
    have HEN : Hid (∀ W, Below w.heap.size w W → Calls Try.prog 52 #[.slice pe t.es.length ce] W fun e w' => e = .returned (.bool (entsB 0 t.es)) ∧ Below W.heap.size W w') := fun W hW => entries_any n _ t.es W (RowP.belowEQ ea hW)
    have HRE : Hid (entsB 0 t.es = true → ∀ W, Below w.heap.size w W → Calls Try.prog 53 #[.slice pr t.rest.length cr, .slice pe t.es.length ce] W fun e w' => e = .returned (.bool (restB t.rest t.es)) ∧ Below W.heap.size W w') := fun he W hW => restMayBe_any n _ _ t.rest t.es W (ra.below hW) (RowP.belowEQ ea hW) (ents_ris t.es 0 he) hl
    obtain ⟨R, hR⟩ : ∃ R, (!lvB t) = R := ⟨_, rfl⟩
    rw [hR]
    have HR : Hid ((!lvB t) = R) := hR
    unfold maxLen at u2 x2
    have hel : (t.es.isEmpty = decide (t.es.length = 0)) := by cases t.es <;> simp
    have hrl : (t.rest.isEmpty = decide (t.rest.length = 0)) := by cases t.rest <;> simp
    have hlv := hR
    simp only [lvB, hel, hrl] at hlv
    have HLV : Hid _ := hlv
    clear hR hlv ea ra fa ka na pa hel hrl HR
    generalize t.es.length = Ke at *
    generalize t.rest.length = Kr at *
    generalize t.kind = K at *
    generalize t.n = N at *
    generalize t.s = S at *
    generalize entsB 0 t.es = E at *
    generalize restB t.rest t.es = Rs at *
    have hsz : (S.toList == ([] : List UInt8)) = (S.size == 0) := by
      rw [ByteArray.toList_eq]
      obtain ⟨⟨l⟩⟩ := S
      cases l <;> simp [ByteArray.size]
    have hs0 : S.size = 0 → S = ByteArray.empty := fun h => by
      obtain ⟨⟨l⟩⟩ := S
      cases l with
      | nil => rfl
      | cons a l => simp [ByteArray.size] at h
    by_cases k1 : K = 1
    · subst k1
      simp only [if_true] at HLV
      have HSE : Hid (S.size = 0 → S = ByteArray.empty) := hs0
      clear hs0 hsz
      by_cases hs : S.size = 0
      · have := HSE.out hs
        subst this
        clear HSE hs
        go_enter Try.func38, Try.ntmps38
        go_wp2_with fail
        all_goals
          go_ret
          refine ⟨ret_boolF ?_, (Below.refl _ _).alloc (Nat.le_refl _) _⟩
          rw [← HLV.out]
          first
            | (rw [Bool.eq_iff_iff]; simp; omega)
            | (simp; omega)
      · have hne : (S.toList == ([] : List UInt8)) = false := by
          rw [ByteArray.toList_eq]
          obtain ⟨⟨l⟩⟩ := S
          cases l with
          | nil => exact absurd rfl hs
          | cons a l => rfl
        obtain rfl : R = true := by rw [← HLV.out]; simp [hs]
        clear hs HSE HLV
        go_enter Try.func38, Try.ntmps38
        go_wp2_with fail
        all_goals
          go_ret
          exact ⟨rfl, (Below.refl _ _).alloc (Nat.le_refl _) _⟩
    · have d1 : (K == 1) = false := by simpa using k1
      simp only [if_neg k1] at HLV
      by_cases k2 : K = 2
      · subst k2
        simp only [if_true] at HLV
        go_enter Try.func38, Try.ntmps38
        go_wp2_with fail
        all_goals
          go_ret
          refine ⟨ret_boolF ?_, (Below.refl _ _).alloc (Nat.le_refl _) _⟩
          rw [← HLV.out]
          first
            | (rw [Bool.eq_iff_iff]; simp; omega)
            | (simp; omega)
            | (simp; left; omega)
            | (simp_all; omega)
            | simp_all
      · have d2 : (K == 2) = false := by simpa using k2
        simp only [if_neg k2] at HLV
        by_cases k3 : K = 3
        · subst k3
          simp only [if_true] at HLV
          by_cases hn : N = 0
          · subst hn
            by_cases hs : S.size = 0
            · have := hs0 hs
              subst this
              clear hs0 hsz hs
              go_enter Try.func38, Try.ntmps38
              go_wp2_with fail
              refine (HEN.out _ ((Below.refl _ _).alloc (Nat.le_refl _) _)).mono ?_
              rintro e w2 ⟨rfl, hb2⟩
              have hal : Below w.heap.size w (w.alloc (Obj.cells #[.int .i64 3, .int .i64 0, .string ByteArray.empty, .slice pe Ke ce, .slice pr Kr cr] 25)) := (Below.refl _ _).alloc (Nat.le_refl _) _
              have hbw : Below w.heap.size w w2 := hal.trans (hb2.mono hal.size)
              have BX := (Blk.new w #[.int .i64 3, .int .i64 0, .string ByteArray.empty, .slice pe Ke ce, .slice pr Kr cr] 25).below hb2
              have q3 := (BX.cell 3).trans rfl
              have q4 := (BX.cell 4).trans rfl
              clear hb2 HEN hal BX
              cases E with
              | false =>
                obtain rfl : R = true := by rw [← HLV.out]; simp
                go_wp2_with fail
                go_ret
                exact ⟨rfl, hbw⟩
              | true =>
                go_wp2_with fail
                refine (HRE.out trivial _ hbw).mono ?_
                rintro e w3 ⟨rfl, hb3⟩
                have hbw3 : Below w.heap.size w w3 := hbw.trans (hb3.mono hbw.size)
                have hRR : (!Rs) = R := by rw [← HLV.out]; simp
                clear hb3 hbw HRE
                go_wp2_with fail
                go_ret
                exact ⟨rfl, hbw3⟩
            · have hne : (S.toList == ([] : List UInt8)) = false := by
                rw [ByteArray.toList_eq]
                obtain ⟨⟨l⟩⟩ := S
                cases l with
                | nil => exact absurd rfl hs
                | cons a l => rfl
              obtain rfl : R = true := by rw [← HLV.out]; simp [hs]
              clear hs hs0 hsz HLV
              go_enter Try.func38, Try.ntmps38
              go_wp2_with fail
              all_goals
                go_ret
                exact ⟨rfl, (Below.refl _ _).alloc (Nat.le_refl _) _⟩
          · have hne : (N != 0) = true := by simpa using hn
            obtain rfl : R = true := by rw [← HLV.out]; simp [hn]
            clear hs0 hsz HLV
            go_enter Try.func38, Try.ntmps38
            go_wp2_with fail
            all_goals
              go_ret
              exact ⟨rfl, (Below.refl _ _).alloc (Nat.le_refl _) _⟩
        · have d3 : (K == 3) = false := by simpa using k3
          simp only [if_neg k3] at HLV
          obtain rfl : R = true := by rw [← HLV.out]; rfl
          go_enter Try.func38, Try.ntmps38
          go_wp2_with fail
          go_ret
          exact ⟨rfl, (Below.refl _ _).alloc (Nat.le_refl _) _⟩
theorem ok_step {m : Nat} {ts : List Tr} {M : List (List (Int × List Tr))} (h : MsgS ts M) (hl : ∀ x ∈ ts, lvB x = true) : ts.all (okN (m + 1)) = (subsL M).all (okN m) := by
  rw [Bool.eq_iff_iff, List.all_eq_true, List.all_eq_true]
  constructor
  · intro h1 y hy
    obtain ⟨m1, hm1, hy⟩ := mem_subsL.1 hy
    obtain ⟨t1, ht1, hk1, rfl⟩ := mem_msgsL.1 (h.1.subset hm1)
    have := h1 t1 ht1
    simp only [okN, hk1, if_true, Bool.and_eq_true, List.all_eq_true] at this
    exact this.2 y hy
  · intro h1 x hx
    simp only [okN, hl x hx, Bool.true_and]
    split
    · rename_i hk
      exact List.all_eq_true.2 fun y hy => h1 y (mem_subsL.2 ⟨_, h.2 x hx hk, hy⟩)
    · rfl
theorem sm_step {m : Nat} {ts : List Tr} {M : List (List (Int × List Tr))} (h : MsgS ts M) (hs : ∀ x ∈ ts, SmN (m + 1) x) : ∀ x ∈ subsL M, SmN m x := by
  intro y hy
  obtain ⟨m1, hm1, hy⟩ := mem_subsL.1 hy
  obtain ⟨t1, ht1, hk1, rfl⟩ := mem_msgsL.1 (h.1.subset hm1)
  obtain ⟨e, he, hy⟩ := mem_subs.1 hy
  exact ((hs t1 ht1).2.2.2.2 e he).2 y hy
set_option maxHeartbeats 4000000 in
theorem vcheck_any (n : Nat) (t : Tr) (v : Value) (w : World) (h : TrV2 n w v t) (hn : n ≤ 60) (hc : cntN n t ≤ 1000) (hs : SmN n t) :
    Calls Try.prog 12 #[v] w fun e w' => e = .returned (.bool (chkN n t)) ∧ Below w.heap.size w w' := by
  have HDP : Hid (∀ W, Below w.heap.size w W → Calls Try.prog 14 #[v] W fun e w' => e = .returned (.int .i64 (dpN n t : Int)) ∧ Below W.heap.size W w') := fun W hW => depth_any n t v W (h.below hW) hn hc
  obtain ⟨ea, el, ec, ra, rl, rc, rfl, hq⟩ := h.open
  have HQ : Hid (TrQ n w [.int .i64 t.kind, .int .i64 t.n, .string t.s, .slice ea el ec, .slice ra rl rc] t) := hq
  have HC : Hid (cntN n t ≤ 1000) := hc
  have HS : Hid (SmN n t) := hs
  obtain ⟨D, hD⟩ : ∃ D, dpN n t = D := ⟨_, rfl⟩
  obtain ⟨R, hR⟩ : ∃ R, okN n t = R := ⟨_, rfl⟩
  have HR : Hid (okN n t = R) := hR
  rw [hD] at HDP
  rw [chkN, hD, hR]
  clear h hq hc hs hD hR
  generalize t.kind = K at *
  generalize t.n = N at *
  generalize t.s = S at *
  have hal : Below w.heap.size w (w.alloc (Obj.cells #[.int .i64 K, .int .i64 N, .string S, .slice ea el ec, .slice ra rl rc] 25)) := (Below.refl _ _).alloc (Nat.le_refl _) _
  have HBX : Hid (Blk (w.alloc (Obj.cells #[.int .i64 K, .int .i64 N, .string S, .slice ea el ec, .slice ra rl rc] 25)) w.heap.size #[.int .i64 K, .int .i64 N, .string S, .slice ea el ec, .slice ra rl rc] 25) := Blk.new w _ _
  by_cases hd : D ≤ 10
  · have d1 : decide (10 < (D : Int)) = false := by simp; omega
    rw [decide_eq_true hd, Bool.true_and]
    go_enter Try.func12, Try.ntmps12
    go_wp2_with fail
    refine (HDP.out _ hal).mono ?_
    rintro e w1 ⟨rfl, hb1⟩
    have hb : Below w.heap.size w w1 := hal.trans (hb1.mono hal.size)
    have BX := HBX.out.below hb1
    clear hb1 hal HBX HDP
    have q0 := (BX.cell 0).trans rfl
    have q1 := (BX.cell 1).trans rfl
    have q2 := (BX.cell 2).trans rfl
    have q3 := (BX.cell 3).trans rfl
    have q4 := (BX.cell 4).trans rfl
    go_wp2_with fail
    have hbA : Below w.heap.size w (w1.alloc (Obj.cells #[.int .i64 K, .int .i64 N, .string S, .slice ea el ec, .slice ra rl rc] 25)) := hb.alloc hb.size _
    have HT0 : Hid (TrsQ n (w1.alloc (Obj.cells #[.int .i64 K, .int .i64 N, .string S, .slice ea el ec, .slice ra rl rc] 25)) (.slice (some ⟨w1.heap.size, 0, none⟩) 1 1) [t]) := one_row (Blk.new w1 _ _) (HQ.out.below hbA)
    clear q0 q1 q2 q3 q4 BX
    go_loopg [3] n (fun k lv wr => ∃ ts : List Tr, Hid (TrsQ k wr lv ts) ∧ Hid (cntL k ts ≤ 1000) ∧ Hid (∀ x ∈ ts, SmN k x) ∧ Hid (ts.all (okN k) = R) ∧ Below w.heap.size w wr)
    case atStart => exact ⟨[t], HT0, (by simpa [cntL] using HC.out : cntL n [t] ≤ 1000), (by simpa using HS.out : ∀ x ∈ [t], SmN n x), (by simpa using HR.out : [t].all (okN n) = R), hbA⟩
    case round =>
      clear HT0 hbA hb
      obtain ⟨ts, HT, HC, HS, HR, hb⟩ := hrel
      obtain ⟨la, lc, rfl, l1, l2, -⟩ := RowP.open HT.out
      unfold maxLen at l2
      obtain ⟨Tl, hTl⟩ : ∃ k, ts.length = k := ⟨_, rfl⟩
      have HT' : Hid (TrsQ gk wr (.slice la Tl lc) ts) := (by rw [← hTl]; exact HT.out : TrsQ gk wr (.slice la Tl lc) ts)
      rw [hTl] at l1 ⊢
      have HTl : Hid (ts.length = Tl) := hTl
      have hlen : ts.length ≤ 1000 := Nat.le_trans (len_cnt HT'.out) HC.out
      have HLN : Hid (ts.length ≤ 1000) := hlen
      clear hTl HT hlen
      by_cases h0 : Tl = 0
      · subst h0
        have hts : ts = [] := List.eq_nil_of_length_eq_zero HTl.out
        obtain rfl : R = true := by rw [← HR.out, hts]; rfl
        clear hts
        go_wp2_with fail
        go_ret
        exact ⟨rfl, hb⟩
      · have d2 : decide (0 < (Tl : Int)) = true := by simp; omega
        obtain ⟨m, rfl⟩ : ∃ m, gk = m + 1 := by
          cases gk with
          | zero =>
            exfalso
            obtain ⟨rows, _, _, h3⟩ := HT'.out
            obtain ⟨x, hx⟩ : ∃ x, ts[0]? = some x := ⟨_, List.getElem?_eq_getElem (by rw [HTl.out]; omega)⟩
            obtain ⟨r, _, hp⟩ := h3 0 x hx
            exact hp
          | succ m => exact ⟨m, rfl⟩
        obtain ⟨B, hB⟩ : ∃ B, ts.any (fun x => !lvB x) = B := ⟨_, rfl⟩
        have HCF : Hid (Calls Try.prog 37 #[.slice la Tl lc, .func (.func 38) #[] #[]] wr fun e w' => e = .returned (.bool B) ∧ Below wr.heap.size wr w') := by
          rw [← hB]
          exact containsW_any (m + 1) _ ts wr (fun x => !lvB x) HT'.out fun W x r hW hx hr => wrong_any (m + 1) x r W hr (by have := (HS.out x hx).2.2.1; omega)
        have HB : Hid (ts.any (fun x => !lvB x) = B) := hB
        clear hB
        go_wp2_with fail
        refine HCF.out.mono ?_
        rintro e w2 ⟨rfl, hb2⟩
        have hbw2 : Below w.heap.size w w2 := hb.trans (hb2.mono hb.size)
        have HT2 : Hid (TrsQ (m + 1) w2 (.slice la Tl lc) ts) := HT'.out.belowTQ hb2
        clear HCF hb hb2 HT'
        cases B with
        | true =>
          obtain rfl : R = false := by
            rw [← HR.out, List.all_eq_false]
            obtain ⟨x, hx, hlx⟩ := List.any_eq_true.1 HB.out
            refine ⟨x, hx, ?_⟩
            simp at hlx
            simp [okN, hlx]
          go_wp2_with fail
          go_ret
          exact ⟨rfl, hbw2⟩
        | false =>
          have hlv : ∀ x ∈ ts, lvB x = true := fun x hx => by
            have := List.any_eq_false.1 HB.out x hx
            simpa using this
          have HLV : Hid (∀ x ∈ ts, lvB x = true) := hlv
          have HM : Hid (Calls Try.prog 36 #[.slice la Tl lc] w2 (MsgP m ts w2)) := messages_any (m + 1) _ ts w2 HT2.out HLN.out
          clear hlv
          go_wp2_with fail
          refine HM.out.mono ?_
          rintro e w3 ⟨lv3, M, rfl, hL3, hS3, hb3⟩
          have hbw3 : Below w.heap.size w w3 := hbw2.trans (hb3.mono hbw2.size)
          have HC3 : Hid (cntL m (subsL M) ≤ 1000) := (Nat.le_trans (cnt_step hS3) HC.out : cntL m (subsL M) ≤ 1000)
          have HI : Hid (Calls Try.prog 35 #[lv3] w3 (InsP m M w3)) := inside_any m _ M w3 hL3 (Nat.le_trans (len_subsL hL3) HC3.out)
          have HR3 : Hid ((subsL M).all (okN m) = R) := (by rw [← ok_step hS3 HLV.out]; exact HR.out : (subsL M).all (okN m) = R)
          have HS3 : Hid (∀ x ∈ subsL M, SmN m x) := sm_step hS3 HS.out
          obtain ⟨ma, mc, rfl, -⟩ := RowP.open hL3
          clear hL3 hS3 hb3 hbw2 HM HT2 HC HS HR HLV
          generalize M.length = Ml at *
          go_wp2_with fail
          refine HI.out.mono ?_
          rintro e w4 ⟨iv, rfl, hT4, hb4⟩
          have hbw4 : Below w.heap.size w w4 := hbw3.trans (hb4.mono hbw3.size)
          have HT4 : Hid (TrsQ m w4 iv (subsL M)) := hT4
          clear hT4 hb4 hbw3 HI
          go_wp2_with fail
          go_roundg m
          case measure => omega
          case rel => exact ⟨subsL M, HT4, HC3, HS3, HR3, hbw4⟩
  · have d1 : decide (10 < (D : Int)) = true := by simp; omega
    rw [decide_eq_false hd, Bool.false_and]
    go_enter Try.func12, Try.ntmps12
    go_wp2_with fail
    refine (HDP.out _ hal).mono ?_
    rintro e w1 ⟨rfl, hb1⟩
    have hb : Below w.heap.size w w1 := hal.trans (hb1.mono hal.size)
    have BX := HBX.out.below hb1
    clear hb1 hal HBX HDP
    clear BX
    go_wp2_with fail
    go_ret
    exact ⟨rfl, hb⟩
end Go.Proofs.Ytgedelgdjcnogaa

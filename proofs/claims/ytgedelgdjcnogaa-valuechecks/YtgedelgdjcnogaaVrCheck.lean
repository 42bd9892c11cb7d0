/- The reference's check and Check. -/
import Derived.Test.YtgedelgdjcnogaaVrEnts
import Derived.Test.YtgedelgdjcnogaaFdEq
namespace Go.Proofs.Ytgedelgdjcnogaa
open Go.ChangeShapes Go.WideShapes Go.ChangeAt Go.RowKit
set_option linter.unusedVariables false
set_option linter.unusedSimpArgs false
set_option maxRecDepth 20000

theorem ok_one {n : Nat} {t : Tr} (h : t.kind = 1) : okN (n + 1) t = (t.s.size == 0 && t.es.isEmpty && t.rest.isEmpty) := by simp [okN, lvB, h]
theorem ok_two {n : Nat} {t : Tr} (h : t.kind = 2) : okN (n + 1) t = (t.n == 0 && t.es.isEmpty && t.rest.isEmpty) := by simp [okN, lvB, h]
theorem ok_three {n : Nat} {t : Tr} (h : t.kind = 3) : okN (n + 1) t = (t.n == 0 && t.s.size == 0 && entA n 0 t.es && restB t.rest t.es) := by
  simp only [okN, lvB, h, entA]
  simp
  ac_rfl
theorem ok_none {n : Nat} {t : Tr} (h1 : t.kind ≠ 1) (h2 : t.kind ≠ 2) (h3 : t.kind ≠ 3) : okN (n + 1) t = false := by simp [okN, lvB, h1, h2, h3]
theorem str_empty {s : ByteArray} (h : (s.size == 0) = true) : s = ⟨#[]⟩ := by
  obtain ⟨⟨l⟩⟩ := s
  cases l with
  | nil => rfl
  | cons a l => simp [ByteArray.size] at h
theorem str_not {s : ByteArray} (h : (s.size == 0) = false) : (s.toList == ([] : List UInt8)) = false := by
  cases hq : (s.toList == ([] : List UInt8)) with
  | false => rfl
  | true =>
    have e : s.toList = [] := by simpa using hq
    have h2 : s = ⟨#[]⟩ := toList_ext (e.trans (by rw [ByteArray.toList_eq]))
    rw [h2] at h
    exact absurd h (by decide)
set_option maxHeartbeats 4000000 in
theorem rcheckN_step (n : Nat) (IH : ∀ t v w, TrIn n w v t → Calls Try.prog 39 #[v] w fun e w' => e = .returned (.bool (okN n t)) ∧ Below w.heap.size w w') (t : Tr) (v : Value) (w : World) (ht : TrIn (n + 1) w v t) :
    Calls Try.prog 39 #[v] w fun e w' => e = .returned (.bool (okN (n + 1) t)) ∧ Below w.heap.size w w' := by
  have HRS : Hid (∀ W, Below w.heap.size w W → Calls Try.prog 55 #[v] W fun e w' => e = .returned (.bool (restB t.rest t.es)) ∧ Below W.heap.size W w') := fun W hW => rrest_any n t v W (ht.below hW)
  obtain ⟨n', ve, vr, e0, rfl, ka, na, sa, fa, ra, ea⟩ := ht.open
  obtain rfl : n' = n := by omega
  have HEN : Hid (∀ W, Below w.heap.size w W → Calls Try.prog 54 #[ve] W fun e w' => e = .returned (.bool (entA n' 0 t.es)) ∧ Below W.heap.size W w') := fun W hW => rents_step n' IH t.es ve W (ea.belowE hW)
  clear e0 ht IH
  obtain ⟨pe, ce, rfl, u1, u2, -⟩ := ea.open
  obtain ⟨pr, cr, rfl, x1, x2, -⟩ := rest_holds ra
  unfold maxLen at u2 x2
  have eE : ∀ b, t.es.isEmpty = b → (((t.es.length : Nat) : Int) == 0) = b := fun b h => by rw [← h]; cases t.es <;> simp; omega
  have eR : ∀ b, t.rest.isEmpty = b → (((t.rest.length : Nat) : Int) == 0) = b := fun b h => by rw [← h]; cases t.rest <;> simp; omega
  clear ka na sa fa ra ea
  obtain ⟨A, hA⟩ : ∃ A, okN (n' + 1) t = A := ⟨_, rfl⟩
  rw [hA]
  have HAL : Hid (∀ (o : Obj), Below w.heap.size w (w.alloc o)) := fun o => (Below.refl _ _).alloc (Nat.le_refl _) _
  by_cases hk : t.kind = 1
  · cases hs : (t.s.size == 0) with
    | false =>
      have HH : Hid (false = A) := (by rw [← hA, ok_one hk, hs]; simp : false = A)
      have fs := str_not hs
      rw [hk]
      clear eE eR hA HRS HEN hs hk
      generalize t.es.length = Ke at *
      generalize t.rest.length = Kr at *
      generalize t.n = N at *
      generalize t.s = S at *
      go_enter Try.func39, Try.ntmps39
      go_wp2_with fail
      go_ret
      exact ⟨congrArg (fun b => Ending.returned (Value.bool b)) HH.out, HAL.out _⟩
    | true =>
      cases he : (t.es.isEmpty) with
      | false =>
        have HH : Hid (false = A) := (by rw [← hA, ok_one hk, hs, he]; simp : false = A)
        have fe := eE _ he
        rw [str_empty hs]
        rw [hk]
        clear eE eR hA HRS HEN hs he hk
        generalize t.es.length = Ke at *
        generalize t.rest.length = Kr at *
        generalize t.n = N at *
        go_enter Try.func39, Try.ntmps39
        go_wp2_with fail
        go_ret
        exact ⟨congrArg (fun b => Ending.returned (Value.bool b)) HH.out, HAL.out _⟩
      | true =>
        cases hr : (t.rest.isEmpty) with
        | false =>
          have HH : Hid (false = A) := (by rw [← hA, ok_one hk, hs, he, hr]; simp : false = A)
          have fe := eE _ he
          have fr := eR _ hr
          rw [str_empty hs]
          rw [hk]
          clear eE eR hA HRS HEN hs he hr hk
          generalize t.es.length = Ke at *
          generalize t.rest.length = Kr at *
          generalize t.n = N at *
          go_enter Try.func39, Try.ntmps39
          go_wp2_with fail
          go_ret
          exact ⟨congrArg (fun b => Ending.returned (Value.bool b)) HH.out, HAL.out _⟩
        | true =>
          have HH : Hid (true = A) := (by rw [← hA, ok_one hk, hs, he, hr]; simp : true = A)
          have fe := eE _ he
          have fr := eR _ hr
          rw [str_empty hs]
          rw [hk]
          clear eE eR hA HRS HEN hs he hr hk
          generalize t.es.length = Ke at *
          generalize t.rest.length = Kr at *
          generalize t.n = N at *
          go_enter Try.func39, Try.ntmps39
          go_wp2_with fail
          go_ret
          exact ⟨congrArg (fun b => Ending.returned (Value.bool b)) HH.out, HAL.out _⟩
  · by_cases hk2 : t.kind = 2
    · cases hn : (t.n == 0) with
      | false =>
        have HH : Hid (false = A) := (by rw [← hA, ok_two hk2, hn]; simp : false = A)
        rw [hk2]
        clear eE eR hA HRS HEN hk hk2
        generalize t.es.length = Ke at *
        generalize t.rest.length = Kr at *
        generalize t.n = N at *
        generalize t.s = S at *
        go_enter Try.func39, Try.ntmps39
        go_wp2_with fail
        go_ret
        exact ⟨congrArg (fun b => Ending.returned (Value.bool b)) HH.out, HAL.out _⟩
      | true =>
        cases he : (t.es.isEmpty) with
        | false =>
          have HH : Hid (false = A) := (by rw [← hA, ok_two hk2, hn, he]; simp : false = A)
          have fe := eE _ he
          rw [hk2]
          clear eE eR hA HRS HEN he hk hk2
          generalize t.es.length = Ke at *
          generalize t.rest.length = Kr at *
          generalize t.n = N at *
          generalize t.s = S at *
          go_enter Try.func39, Try.ntmps39
          go_wp2_with fail
          go_ret
          exact ⟨congrArg (fun b => Ending.returned (Value.bool b)) HH.out, HAL.out _⟩
        | true =>
          cases hr : (t.rest.isEmpty) with
          | false =>
            have HH : Hid (false = A) := (by rw [← hA, ok_two hk2, hn, he, hr]; simp : false = A)
            have fe := eE _ he
            have fr := eR _ hr
            rw [hk2]
            clear eE eR hA HRS HEN he hr hk hk2
            generalize t.es.length = Ke at *
            generalize t.rest.length = Kr at *
            generalize t.n = N at *
            generalize t.s = S at *
            go_enter Try.func39, Try.ntmps39
            go_wp2_with fail
            go_ret
            exact ⟨congrArg (fun b => Ending.returned (Value.bool b)) HH.out, HAL.out _⟩
          | true =>
            have HH : Hid (true = A) := (by rw [← hA, ok_two hk2, hn, he, hr]; simp : true = A)
            have fe := eE _ he
            have fr := eR _ hr
            rw [hk2]
            clear eE eR hA HRS HEN he hr hk hk2
            generalize t.es.length = Ke at *
            generalize t.rest.length = Kr at *
            generalize t.n = N at *
            generalize t.s = S at *
            go_enter Try.func39, Try.ntmps39
            go_wp2_with fail
            go_ret
            exact ⟨congrArg (fun b => Ending.returned (Value.bool b)) HH.out, HAL.out _⟩
    · by_cases hk3 : t.kind = 3
      · cases hn : (t.n == 0) with
        | false =>
          have HH : Hid (false = A) := (by rw [← hA, ok_three hk3, hn]; simp : false = A)
          rw [hk3]
          clear eE eR hA HRS HEN hk hk2 hk3
          generalize t.es.length = Ke at *
          generalize t.rest.length = Kr at *
          generalize t.n = N at *
          generalize t.s = S at *
          go_enter Try.func39, Try.ntmps39
          go_wp2_with fail
          go_ret
          exact ⟨congrArg (fun b => Ending.returned (Value.bool b)) HH.out, HAL.out _⟩
        | true =>
          cases hs : (t.s.size == 0) with
          | false =>
            have HH : Hid (false = A) := (by rw [← hA, ok_three hk3, hn, hs]; simp : false = A)
            have fs := str_not hs
            rw [hk3]
            clear eE eR hA HRS HEN hs hk hk2 hk3
            generalize t.es.length = Ke at *
            generalize t.rest.length = Kr at *
            generalize t.n = N at *
            generalize t.s = S at *
            go_enter Try.func39, Try.ntmps39
            go_wp2_with fail
            go_ret
            exact ⟨congrArg (fun b => Ending.returned (Value.bool b)) HH.out, HAL.out _⟩
          | true =>
            have HA : Hid ((entA n' 0 t.es && restB t.rest t.es) = A) := (by rw [← hA, ok_three hk3, hn, hs]; simp : (entA n' 0 t.es && restB t.rest t.es) = A)
            have hsz := str_empty hs
            rw [hk3] at HRS ⊢
            rw [hsz] at HRS ⊢
            clear eE eR hA hs hk hk2 hk3 hsz
            generalize t.es.length = Ke at *
            generalize t.rest.length = Kr at *
            generalize t.n = N at *
            have B0 : Blk (w.alloc (Obj.cells #[.int .i64 3, .int .i64 N, .string ⟨#[]⟩, .slice pe Ke ce, .slice pr Kr cr] 25)) w.heap.size #[.int .i64 3, .int .i64 N, .string ⟨#[]⟩, .slice pe Ke ce, .slice pr Kr cr] 25 := Blk.new w _ _
            have HB0 : Hid (Blk (w.alloc (Obj.cells #[.int .i64 3, .int .i64 N, .string ⟨#[]⟩, .slice pe Ke ce, .slice pr Kr cr] 25)) w.heap.size #[.int .i64 3, .int .i64 N, .string ⟨#[]⟩, .slice pe Ke ce, .slice pr Kr cr] 25) := B0
            clear B0
            go_enter Try.func39, Try.ntmps39
            go_wp2_with fail
            refine (HEN.out _ (HAL.out _)).mono ?_
            rintro e w1 ⟨rfl, hb1⟩
            have hbw1 : Below w.heap.size w w1 := (HAL.out _).trans (hb1.mono (by simp))
            have B1 := HB0.out.below hb1
            have a0 := (B1.cell 0).trans rfl
            have a1 := (B1.cell 1).trans rfl
            have a2 := (B1.cell 2).trans rfl
            have a3 := (B1.cell 3).trans rfl
            have a4 := (B1.cell 4).trans rfl
            clear B1 hb1 HB0 HEN
            cases hE : entA n' 0 t.es with
            | false =>
              have HH : Hid (false = A) := (by rw [← HA.out, hE]; rfl : false = A)
              clear HA hE HRS
              go_wp2_with fail
              go_ret
              exact ⟨congrArg (fun b => Ending.returned (Value.bool b)) HH.out, hbw1⟩
            | true =>
              have HH : Hid (restB t.rest t.es = A) := (by rw [← HA.out, hE]; rfl : restB t.rest t.es = A)
              clear HA hE
              go_wp2_with fail
              refine (HRS.out _ hbw1).mono ?_
              rintro e w2 ⟨rfl, hb2⟩
              rw [HH.out]
              have hbw2 : Below w.heap.size w w2 := hbw1.trans (hb2.mono hbw1.size)
              clear hb2 hbw1 a0 a1 a2 a3 a4 HRS
              go_wp2_with fail
              go_ret
              exact ⟨rfl, hbw2⟩
      · have HH : Hid (false = A) := (by rw [← hA, ok_none hk hk2 hk3] : false = A)
        have f1 : (t.kind == 1) = false := by simpa using hk
        have f2 : (t.kind == 2) = false := by simpa using hk2
        have f3 : (t.kind == 3) = false := by simpa using hk3
        clear eE eR hA HRS HEN hk hk2 hk3
        generalize t.es.length = Ke at *
        generalize t.rest.length = Kr at *
        generalize t.n = N at *
        generalize t.s = S at *
        generalize t.kind = K at *
        go_enter Try.func39, Try.ntmps39
        go_wp2_with fail
        go_ret
        exact ⟨congrArg (fun b => Ending.returned (Value.bool b)) HH.out, HAL.out _⟩
theorem rcheckN_any : ∀ (n : Nat) (t : Tr) (v : Value) (w : World), TrIn n w v t → Calls Try.prog 39 #[v] w fun e w' => e = .returned (.bool (okN n t)) ∧ Below w.heap.size w w'
  | 0, _, _, _, h => by obtain ⟨r, _, h⟩ := h; exact h.elim
  | n + 1, t, v, w, h => rcheckN_step n (fun t v w h => rcheckN_any n t v w h) t v w h
set_option maxHeartbeats 1000000 in
theorem rCheck_any (n : Nat) (t : Tr) (v : Value) (w : World) (h : TrIn n w v t) (hn : n ≤ 100) : Calls Try.prog 13 #[v] w fun e w' => e = .returned (.bool (chkN n t)) ∧ Below w.heap.size w w' := by
  have HAL : Hid (∀ (o : Obj), Below w.heap.size w (w.alloc o)) := fun o => (Below.refl _ _).alloc (Nat.le_refl _) _
  have HD : Hid (∀ W, Below w.heap.size w W → Calls Try.prog 15 #[v] W fun e w' => e = .returned (.int .i64 (dpN n t : Nat)) ∧ Below W.heap.size W w') := fun W hW => rDepth_any n t v W (h.below hW) hn
  have HC : Hid (∀ W, Below w.heap.size w W → Calls Try.prog 39 #[v] W fun e w' => e = .returned (.bool (okN n t)) ∧ Below W.heap.size W w') := fun W hW => rcheckN_any n t v W (h.below hW)
  obtain ⟨A, hA⟩ : ∃ A, chkN n t = A := ⟨_, rfl⟩
  rw [hA]
  have HA : Hid ((decide (dpN n t ≤ 10) && okN n t) = A) := hA
  obtain ⟨n', ve, vr, e0, rfl, -, -, -, -, ra, ea⟩ := h.open
  obtain ⟨pe, ce, rfl, -⟩ := ea.open
  obtain ⟨pr, cr, rfl, -⟩ := rest_holds ra
  generalize t.es.length = Ke at *
  generalize t.rest.length = Kr at *
  generalize dpN n t = D at *
  generalize okN n t = O at *
  generalize t.kind = K at *
  generalize t.n = N at *
  generalize t.s = S at *
  clear h ra ea e0 hA
  have HB0 : Hid (Blk (w.alloc (Obj.cells #[.int .i64 K, .int .i64 N, .string S, .slice pe Ke ce, .slice pr Kr cr] 25)) w.heap.size #[.int .i64 K, .int .i64 N, .string S, .slice pe Ke ce, .slice pr Kr cr] 25) := Blk.new w _ _
  go_enter Try.func13, Try.ntmps13
  go_wp2_with fail
  refine (HD.out _ (HAL.out _)).mono ?_
  rintro e w1 ⟨rfl, hb1⟩
  have hbw1 : Below w.heap.size w w1 := (HAL.out _).trans (hb1.mono (by simp))
  have B1 := HB0.out.below hb1
  have a0 := (B1.cell 0).trans rfl
  have a1 := (B1.cell 1).trans rfl
  have a2 := (B1.cell 2).trans rfl
  have a3 := (B1.cell 3).trans rfl
  have a4 := (B1.cell 4).trans rfl
  clear B1 hb1 HB0 HD
  by_cases hd : D ≤ 10
  · have hq : decide ((D : Int) ≤ 10) = true := by simp; omega
    have HH : Hid (O = A) := (by rw [← HA.out]; simp [hd] : O = A)
    clear HA
    go_wp2_with fail
    refine (HC.out _ hbw1).mono ?_
    rintro e w2 ⟨rfl, hb2⟩
    rw [HH.out]
    have hbw2 : Below w.heap.size w w2 := hbw1.trans (hb2.mono hbw1.size)
    clear hb2 hbw1 a0 a1 a2 a3 a4 HC
    go_wp2_with fail
    go_ret
    exact ⟨rfl, hbw2⟩
  · have hq : decide ((D : Int) ≤ 10) = false := by simp; omega
    have HH : Hid (false = A) := (by rw [← HA.out]; simp [hd] : false = A)
    clear HA
    go_wp2_with fail
    go_ret
    exact ⟨congrArg (fun b => Ending.returned (Value.bool b)) HH.out, hbw1⟩
end Go.Proofs.Ytgedelgdjcnogaa

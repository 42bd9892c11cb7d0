/- Whether some entries whose tags rise have a tag: by halves. -/
import Derived.Test.YtgedelgdjcnogaaTvDepth
namespace Go.Proofs.Ytgedelgdjcnogaa
open Go.ChangeShapes Go.WideShapes Go.ChangeAt Go.RowKit
set_option linter.unusedVariables false
set_option linter.unusedSimpArgs false
set_option maxRecDepth 20000

def cmpI (a b : Int) : Int := if a < b then -1 else if b < a then 1 else 0
theorem nan_any (a : Int) (w : World) : Calls Try.prog 70 #[.int .i64 a] w fun e w' => e = .returned (.bool false) ∧ w' = w := by
  go_enter Try.func70, Try.ntmps70
  go_wp2
  go_ret
  exact ⟨rfl, rfl⟩
theorem compare_any (a b : Int) (w : World) : Calls Try.prog 69 #[.int .i64 a, .int .i64 b] w fun e w' => e = .returned (.int .i64 (cmpI a b)) ∧ w' = w := by
  by_cases h1 : a < b
  · go_enter Try.func69, Try.ntmps69
    go_wp2_with (first | (go_at_call 70; refine (nan_any _ _).mono ?_; rintro e w' ⟨rfl, rfl⟩) | fail)
    go_ret
    exact ⟨by simp [cmpI, h1], rfl⟩
  · by_cases h2 : b < a
    · go_enter Try.func69, Try.ntmps69
      go_wp2_with (first | (go_at_call 70; refine (nan_any _ _).mono ?_; rintro e w' ⟨rfl, rfl⟩) | fail)
      go_ret
      exact ⟨by simp [cmpI, h1, h2], rfl⟩
    · have HC : Hid (cmpI a b = 0) := (by simp [cmpI, h1, h2] : cmpI a b = 0)
      rw [HC.out]
      go_enter Try.func69, Try.ntmps69
      go_wp2_with (first | (go_at_call 70; refine (nan_any _ _).mono ?_; rintro e w' ⟨rfl, rfl⟩) | fail)
      go_ret
      exact ⟨rfl, rfl⟩
theorem tagc_any (a b : Int) (p : Option Addr) (n c : Nat) (w : World) : Calls Try.prog 68 #[.agg #[.int .i64 a, .slice p n c], .int .i64 b] w fun e w' => e = .returned (.int .i64 (cmpI a b)) ∧ Below w.heap.size w w' := by
  go_enter Try.func68, Try.ntmps68
  go_wp2_with (first | (go_at_call 69; refine (compare_any _ _ _).mono ?_; rintro e w' ⟨rfl, rfl⟩) | fail)
  go_ret
  exact ⟨rfl, (Below.refl _ _).alloc (Nat.le_refl _) _⟩
/-- Tags that rise. -/
def RisT (es : List (Int × List Tr)) : Prop := ∀ (i j : Nat) (x y : Int × List Tr), i < j → es[i]? = some x → es[j]? = some y → x.1 < y.1
theorem cmp_lt (a b : Int) : cmpI a b < 0 ↔ a < b := by
  unfold cmpI
  by_cases h1 : a < b
  · simp [h1]
  · by_cases h2 : b < a
    · simp [h1, h2]
    · simp [h1, h2]
theorem cmp_eq (a b : Int) : cmpI a b = 0 ↔ a = b := by
  unfold cmpI
  by_cases h1 : a < b
  · simp [h1]; omega
  · by_cases h2 : b < a
    · simp [h1, h2]; omega
    · simp [h1, h2]; omega
theorem ents_low : ∀ (es : List (Int × List Tr)) (last : Int), entsB last es = true → ∀ x ∈ es, last < x.1
  | [], _, _, x, hx => by cases hx
  | e :: l, last, h, x, hx => by
    simp only [entsB, Bool.and_eq_true, decide_eq_true_eq] at h
    rcases List.mem_cons.1 hx with rfl | hx
    · exact h.1.1.1.1.1
    · exact Int.lt_trans h.1.1.1.1.1 (ents_low l e.1 h.2 x hx)
theorem ents_ris : ∀ (es : List (Int × List Tr)) (last : Int), entsB last es = true → RisT es
  | [], _, _ => by intro i j x y _ h; simp at h
  | e :: l, last, h => by
    simp only [entsB, Bool.and_eq_true, decide_eq_true_eq] at h
    intro i j x y hij hx hy
    cases j with
    | zero => omega
    | succ j =>
      simp only [List.getElem?_cons_succ] at hy
      cases i with
      | zero =>
        obtain rfl : e = x := by simpa using hx
        exact ents_low l e.1 h.2 y (List.mem_of_getElem? hy)
      | succ i => exact ents_ris l e.1 h.2 i j x y (by omega) (by simpa using hx) hy
set_option maxHeartbeats 2000000 in
theorem bin_any (n : Nat) (v : Value) (es : List (Int × List Tr)) (tag : Int) (w : World) (h : EnsQ n w v es) (hr : RisT es) (hl : es.length ≤ 1000000) :
    Calls Try.prog 67 #[v, .int .i64 tag, .func (.func 68) #[] #[]] w fun e w' => (∃ k : Int, e = .returned (.tuple #[.int .i64 k, .bool (hasB es tag)])) ∧ Below w.heap.size w w' := by
  obtain ⟨a, cap, rfl, h1, h2, -⟩ := RowP.open h
  obtain ⟨N, hN⟩ : ∃ N, es.length = N := ⟨_, rfl⟩
  rw [hN] at h1 hl ⊢
  have HH : Hid (EnsQ n w (.slice a N cap) es) := (by rw [← hN]; exact h : EnsQ n w (.slice a N cap) es)
  have HN : Hid (es.length = N) := hN
  have HR : Hid (RisT es) := hr
  unfold maxLen at h2
  obtain ⟨R0, hR0⟩ : ∃ R0, hasB es tag = R0 := ⟨_, rfl⟩
  have HR0 : Hid (hasB es tag = R0) := hR0
  rw [hR0]
  clear h hN hr hR0
  go_enter Try.func67, Try.ntmps67
  go_wp2_with fail
  go_loopw [9, 10] (fun iv jv wr => ∃ i j : Nat, iv = .int .i64 (i : Int) ∧ jv = .int .i64 (j : Int) ∧ i ≤ j ∧ j ≤ N ∧ Hid (∀ (k : Nat) (x : Int × List Tr), k < i → es[k]? = some x → x.1 < tag) ∧ Hid (∀ (k : Nat) (x : Int × List Tr), j ≤ k → es[k]? = some x → tag ≤ x.1) ∧ Below w.heap.size w wr) (fun iv jv _ => (intOf jv - intOf iv).toNat)
  case atStart => exact ⟨0, N, rfl, rfl, by omega, by omega, (fun k x hk => absurd hk (by omega) : ∀ (k : Nat) (x : Int × List Tr), k < 0 → es[k]? = some x → x.1 < tag), (fun k x hk hx => by have := (List.getElem?_eq_some_iff.1 hx).1; rw [HN.out] at this; omega : ∀ (k : Nat) (x : Int × List Tr), N ≤ k → es[k]? = some x → tag ≤ x.1), Below.refl _ _⟩
  case round =>
    obtain ⟨i, j, rfl, rfl, hij, hjN, HI, HJ, hbel⟩ := hrel
    by_cases hlt : i < j
    · obtain ⟨q, hq⟩ : ∃ q : Nat, q = (i + j) / 2 := ⟨_, rfl⟩
      have hq1 : i ≤ q := by omega
      have hq2 : q < j := by omega
      obtain ⟨x, hx⟩ : ∃ r, es[q]? = some r := ⟨_, List.getElem?_eq_getElem (by rw [HN.out]; omega)⟩
      obtain ⟨g, off, rfl, r, ⟨vt, rfl, -, ht⟩, hc⟩ := (HH.out.belowEQ hbel).get hx
      obtain ⟨ta, tc, rfl, -⟩ := RowP.open ht
      have c0 := hc 0 _ rfl
      have c1 := hc 1 _ rfl
      simp only [Nat.add_zero] at c0
      have hqi : ((i : Int) + (j : Int)) / 2 = (q : Int) := by omega
      have HX : Hid (es[q]? = some x) := hx
      clear hc ht hx
      generalize x.2.length = Xl at *
      obtain ⟨xt, hxt⟩ : ∃ z, x.1 = z := ⟨_, rfl⟩
      rw [hxt] at c0
      have HXT : Hid (x.1 = xt) := hxt
      clear hxt hq
      obtain ⟨c, hcc⟩ : ∃ c, cmpI xt tag = c := ⟨_, rfl⟩
      have HCA : Hid (∀ W, Calls Try.prog 68 #[.agg #[.int .i64 xt, .slice ta Xl tc], .int .i64 tag] W fun e w' => e = .returned (.int .i64 c) ∧ Below W.heap.size W w') := fun W => by
        rw [← hcc]; exact tagc_any xt tag ta Xl tc W
      have hc0 : c < 0 ↔ xt < tag := by rw [← hcc]; exact cmp_lt xt tag
      clear hcc
      by_cases hxl : xt < tag
      · have hdc : decide (c < 0) = true := by simp [hc0, hxl]
        clear hc0
        go_wp2_with fail
        refine (HCA.out _).mono ?_
        rintro e w2 ⟨rfl, hb2⟩
        have hbw : Below w.heap.size w w2 := hbel.trans (hb2.mono hbel.size)
        clear hb2 hbel c0 c1 HCA
        go_wp2_with fail
        go_roundw
        case rel => exact ⟨q + 1, j, by go_num, rfl, by omega, hjN, (fun k y hk hy => by
          rcases Nat.lt_or_eq_of_le (Nat.le_of_lt_succ hk) with h | h
          · exact Int.lt_trans (HR.out k q y x h hy HX.out) (by rw [HXT.out]; exact hxl)
          · subst h; rw [HX.out] at hy; cases hy; rw [HXT.out]; exact hxl : ∀ (k : Nat) (x : Int × List Tr), k < q + 1 → es[k]? = some x → x.1 < tag), HJ, hbw⟩
        case measure => simp [intOf]; omega
      · have hdc : decide (c < 0) = false := by simp; exact Int.not_lt.1 (fun h => hxl (hc0.1 h))
        clear hc0
        go_wp2_with fail
        refine (HCA.out _).mono ?_
        rintro e w2 ⟨rfl, hb2⟩
        have hbw : Below w.heap.size w w2 := hbel.trans (hb2.mono hbel.size)
        clear hb2 hbel c0 c1 HCA
        go_wp2_with fail
        go_roundw
        case rel => exact ⟨i, q, rfl, rfl, by omega, by omega, HI, (fun k y hk hy => by
          rcases Nat.lt_or_eq_of_le hk with h | h
          · have := HR.out q k x y h HX.out hy
            rw [HXT.out] at this
            omega
          · subst h; rw [HX.out] at hy; cases hy; rw [HXT.out]; omega : ∀ (k : Nat) (x : Int × List Tr), q ≤ k → es[k]? = some x → tag ≤ x.1), hbw⟩
        case measure => simp [intOf]; omega
    · obtain rfl : i = j := by omega
      by_cases hiN : i < N
      · obtain ⟨x, hx⟩ : ∃ r, es[i]? = some r := ⟨_, List.getElem?_eq_getElem (by rw [HN.out]; omega)⟩
        obtain ⟨g, off, rfl, r, ⟨vt, rfl, -, ht⟩, hc⟩ := (HH.out.belowEQ hbel).get hx
        obtain ⟨ta, tc, rfl, -⟩ := RowP.open ht
        have c0 := hc 0 _ rfl
        have c1 := hc 1 _ rfl
        simp only [Nat.add_zero] at c0
        have HX : Hid (es[i]? = some x) := hx
        clear hc ht hx
        generalize x.2.length = Xl at *
        obtain ⟨xt, hxt⟩ : ∃ z, x.1 = z := ⟨_, rfl⟩
        rw [hxt] at c0
        have HXT : Hid (x.1 = xt) := hxt
        clear hxt
        obtain ⟨c, hcc⟩ : ∃ c, cmpI xt tag = c := ⟨_, rfl⟩
        have HCA : Hid (∀ W, Calls Try.prog 68 #[.agg #[.int .i64 xt, .slice ta Xl tc], .int .i64 tag] W fun e w' => e = .returned (.int .i64 c) ∧ Below W.heap.size W w') := fun W => by
          rw [← hcc]; exact tagc_any xt tag ta Xl tc W
        have hc0 : c = 0 ↔ xt = tag := by rw [← hcc]; exact cmp_eq xt tag
        have hB : hasB es tag = decide (xt = tag) := by
          by_cases he : xt = tag
          · rw [decide_eq_true he]
            exact List.any_eq_true.2 ⟨x, List.mem_of_getElem? HX.out, by rw [HXT.out, he]; simp⟩
          · rw [decide_eq_false he]
            refine List.any_eq_false.2 fun y hy => ?_
            obtain ⟨k, hk, ek⟩ := List.getElem_of_mem hy
            have hyk : es[k]? = some y := by rw [List.getElem?_eq_getElem hk, ek]
            have hge := HJ.out i x (Nat.le_refl _) HX.out
            rw [HXT.out] at hge
            rcases Nat.lt_trichotomy k i with h | h | h
            · have := HI.out k y h hyk; simp; omega
            · subst h; rw [HX.out] at hyk; cases hyk; rw [HXT.out]; simp; omega
            · have := HR.out i k x y h HX.out hyk; rw [HXT.out] at this; simp; omega
        have hdc : (c == 0) = R0 := by
          rw [← HR0.out, hB, Bool.eq_iff_iff]; simp [hc0]
        clear hcc hc0 hB
        go_wp2_with fail
        refine (HCA.out _).mono ?_
        rintro e w2 ⟨rfl, hb2⟩
        have hbw : Below w.heap.size w w2 := hbel.trans (hb2.mono hbel.size)
        clear hb2 hbel c0 c1 HCA
        go_wp2_with fail
        go_ret2
        exact ⟨⟨_, rfl⟩, hbw⟩
      · have hB : hasB es tag = false := by
          refine List.any_eq_false.2 fun y hy => ?_
          obtain ⟨k, hk, ek⟩ := List.getElem_of_mem hy
          have hyk : es[k]? = some y := by rw [List.getElem?_eq_getElem hk, ek]
          have := HI.out k y (by rw [HN.out] at hk; omega) hyk
          simp; omega
        obtain rfl : R0 = false := by rw [← HR0.out, hB]
        clear hB
        go_wp2_with fail
        go_ret2
        exact ⟨⟨_, rfl⟩, hbel⟩
theorem hasTag_any (n : Nat) (v : Value) (es : List (Int × List Tr)) (tag : Int) (w : World) (h : EnsQ n w v es) (hr : RisT es) (hl : es.length ≤ 1000000) :
    Calls Try.prog 61 #[v, .int .i64 tag] w fun e w' => e = .returned (.bool (hasB es tag)) ∧ Below w.heap.size w w' := by
  have HI : Hid _ := bin_any n v es tag w h hr hl
  obtain ⟨a, cap, rfl, -⟩ := RowP.open h
  clear h hr hl
  generalize es.length = N at *
  generalize hasB es tag = R at *
  go_enter Try.func61, Try.ntmps61
  go_wp2_with fail
  refine Calls.mono HI.out ?_
  rintro e w2 ⟨⟨k, rfl⟩, hb⟩
  clear HI
  go_wp2_with fail
  go_ret
  exact ⟨rfl, hb⟩
end Go.Proofs.Ytgedelgdjcnogaa

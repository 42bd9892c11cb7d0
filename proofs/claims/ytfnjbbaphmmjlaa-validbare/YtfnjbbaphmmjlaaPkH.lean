/- slices.IndexFunc and ContainsFunc over trees. -/
import Derived.OwnWalk
import Derived.BigQuiet
import Derived.Deep.LoopGhost
import Derived.Test.YtfnjbbaphmmjlaaPkG
import Derived.Test.YtfnjbbaphmmjlaaPkA
import Derived.Test.YtfnjbbaphmmjlaaPkC
namespace Go.Proofs.Ytfnjbbaphmmjlaa
open Go.ChangeShapes Go.WideShapes Go.ChangeAt Go.RowKit
set_option linter.unusedVariables false
set_option linter.unusedSimpArgs false
set_option maxRecDepth 20000

/-- What a function value answers of each tree. -/
def FunP (n : Nat) (w : World) (ts : List Tr) (f : FuncId) (caps : List Value) (p : Tr → Bool) : Prop :=
  ∀ W x r, Below w.heap.size w W → x ∈ ts → TrQ n W r x → Calls Try.prog f (.agg r.toArray :: caps).toArray W fun e w' => e = .returned (.bool (p x)) ∧ Below W.heap.size W w'
set_option maxHeartbeats 2000000 in
theorem indexW_any (n : Nat) (v : Value) (ts : List Tr) (w : World) (p : Tr → Bool) (h : TrsQ n w v ts) (hf : FunP n w ts 42 [] p) :
    Calls Try.prog 61 #[v, .func (.func 42) #[] #[]] w fun e w' => (∃ k : Int, e = .returned (.int .i64 k) ∧ (0 ≤ k ↔ ts.any p = true)) ∧ Below w.heap.size w w' := by
  obtain ⟨a, cap, rfl, h1, h2, -⟩ := RowP.open h
  obtain ⟨N, hN⟩ : ∃ N, ts.length = N := ⟨_, rfl⟩
  rw [hN] at h1 ⊢
  have HH : Hid (TrsQ n w (.slice a N cap) ts) := (by rw [← hN]; exact h : TrsQ n w (.slice a N cap) ts)
  have HN : Hid (ts.length = N) := hN
  have HF : Hid (FunP n w ts 42 [] p) := hf
  unfold maxLen at h2
  clear h hN hf
  go_enter Try.func61, Try.ntmps61
  go_wp2_with fail
  go_loopw [8] (fun iv wr => ∃ i : Nat, iv = .int .i64 (i : Int) ∧ i ≤ N ∧ Hid (∀ x ∈ ts.take i, p x = false) ∧ Below w.heap.size w wr) (fun iv _ => N - (intOf iv).toNat)
  case atStart => exact ⟨0, rfl, by omega, (by simp : ∀ x ∈ ts.take 0, p x = false), Below.refl _ _⟩
  case round =>
    obtain ⟨i, rfl, hi, HI, hbel⟩ := hrel
    by_cases hlt : i < N
    · obtain ⟨t, ht⟩ : ∃ r, ts[i]? = some r := ⟨_, List.getElem?_eq_getElem (by rw [HN.out]; exact hlt)⟩
      obtain ⟨g, off, rfl, r, hr, hc⟩ := (HH.out.belowTQ hbel).get ht
      have h5 := hr.five
      obtain ⟨r0, r1, r2, r3, r4, rfl⟩ : ∃ a b c d e, r = [a, b, c, d, e] := by
        match r, h5.1 with
        | [a, b, c, d, e], _ => exact ⟨a, b, c, d, e, rfl⟩
      have o0 := h5.2 r0 (by simp)
      have o1 := h5.2 r1 (by simp)
      have o2 := h5.2 r2 (by simp)
      have o3 := h5.2 r3 (by simp)
      have o4 := h5.2 r4 (by simp)
      obtain ⟨ea, el, ec, ra, rl, rc, e1, -⟩ := TrV2.open ⟨_, rfl, hr⟩
      simp only [Value.agg.injEq, Array.mk.injEq, List.cons.injEq, and_true] at e1
      obtain ⟨rfl, rfl, rfl, rfl, rfl⟩ := e1
      have c0 := hc 0 _ rfl
      have c1 := hc 1 _ rfl
      have c2 := hc 2 _ rfl
      have c3 := hc 3 _ rfl
      have c4 := hc 4 _ rfl
      simp only [Nat.add_zero] at c0
      have HC := HF.out wr t _ hbel (List.mem_of_getElem? ht) hr
      have HCC : Hid _ := HC
      have HT : Hid (ts.take (i + 1) = ts.take i ++ [t]) := take_atQ ht
      have HTM : Hid (t ∈ ts) := List.mem_of_getElem? ht
      clear hc h5 o0 o1 o2 o3 o4 HC ht hr
      obtain ⟨R, hR⟩ : ∃ R, p t = R := ⟨_, rfl⟩
      have HR : Hid (p t = R) := hR
      clear hR
      go_wp2_with fail
      refine Calls.mono HCC.out ?_
      rintro e w2 ⟨rfl, hb2⟩
      rw [HR.out]
      have hbw : Below w.heap.size w w2 := hbel.trans (hb2.mono hbel.size)
      clear HCC hb2 c0 c1 c2 c3 c4 hbel
      cases R with
      | true =>
        go_wp2_with fail
        go_ret
        exact ⟨⟨_, rfl, by simp only [Int.natCast_nonneg, true_iff]; exact List.any_eq_true.2 ⟨t, HTM.out, HR.out⟩⟩, hbw⟩
      | false =>
        go_wp2_with fail
        go_roundw
        case rel => exact ⟨i + 1, by go_num, by omega, (by
          rw [HT.out]
          intro x hx
          rcases List.mem_append.1 hx with hx | hx
          · exact HI.out x hx
          · obtain rfl : x = t := by simpa using hx
            exact HR.out : ∀ x ∈ ts.take (i + 1), p x = false), hbw⟩
        case measure => simp [intOf]; omega
    · go_wp2_with fail
      go_ret
      have h5 := HI.out
      rw [List.take_of_length_le (by rw [HN.out]; omega)] at h5
      refine ⟨⟨-1, rfl, ?_⟩, hbel⟩
      have : ts.any p = false := by rw [List.any_eq_false]; intro x hx; rw [h5 x hx]; simp
      rw [this]
      simp
theorem containsW_any (n : Nat) (v : Value) (ts : List Tr) (w : World) (p : Tr → Bool) (h : TrsQ n w v ts) (hf : FunP n w ts 42 [] p) :
    Calls Try.prog 41 #[v, .func (.func 42) #[] #[]] w fun e w' => e = .returned (.bool (ts.any p)) ∧ Below w.heap.size w w' := by
  have HI : Hid _ := indexW_any n v ts w p h hf
  obtain ⟨a, cap, rfl, h1, h2, -⟩ := RowP.open h
  clear h hf
  generalize ts.length = N at *
  obtain ⟨R, hR⟩ : ∃ R, ts.any p = R := ⟨_, rfl⟩
  rw [hR] at HI ⊢
  clear hR
  go_enter Try.func41, Try.ntmps41
  go_wp2_with fail
  refine Calls.mono HI.out ?_
  rintro e w2 ⟨⟨k, rfl, hk⟩, hb⟩
  clear HI
  have hd : decide (0 ≤ k) = R := by
    cases R
    · simpa using hk
    · simpa using hk
  clear hk
  go_wp2_with fail
  go_ret
  exact ⟨rfl, hb⟩
set_option maxHeartbeats 2000000 in
theorem indexK_any (b : Nat) (n : Nat) (v : Value) (ts : List Tr) (w : World) (p : Tr → Bool) (h : TrsQ n w v ts) (hf : FunP n w ts 83 [.pointer (some ⟨b, 0, none⟩)] p) :
    Calls Try.prog 61 #[v, .func (.func 83) #[] #[.pointer (some ⟨b, 0, none⟩)]] w fun e w' => (∃ k : Int, e = .returned (.int .i64 k) ∧ (0 ≤ k ↔ ts.any p = true)) ∧ Below w.heap.size w w' := by
  obtain ⟨a, cap, rfl, h1, h2, -⟩ := RowP.open h
  obtain ⟨N, hN⟩ : ∃ N, ts.length = N := ⟨_, rfl⟩
  rw [hN] at h1 ⊢
  have HH : Hid (TrsQ n w (.slice a N cap) ts) := (by rw [← hN]; exact h : TrsQ n w (.slice a N cap) ts)
  have HN : Hid (ts.length = N) := hN
  have HF : Hid (FunP n w ts 83 [.pointer (some ⟨b, 0, none⟩)] p) := hf
  unfold maxLen at h2
  clear h hN hf
  go_enter Try.func61, Try.ntmps61
  go_wp2_with fail
  go_loopw [8] (fun iv wr => ∃ i : Nat, iv = .int .i64 (i : Int) ∧ i ≤ N ∧ Hid (∀ x ∈ ts.take i, p x = false) ∧ Below w.heap.size w wr) (fun iv _ => N - (intOf iv).toNat)
  case atStart => exact ⟨0, rfl, by omega, (by simp : ∀ x ∈ ts.take 0, p x = false), Below.refl _ _⟩
  case round =>
    obtain ⟨i, rfl, hi, HI, hbel⟩ := hrel
    by_cases hlt : i < N
    · obtain ⟨t, ht⟩ : ∃ r, ts[i]? = some r := ⟨_, List.getElem?_eq_getElem (by rw [HN.out]; exact hlt)⟩
      obtain ⟨g, off, rfl, r, hr, hc⟩ := (HH.out.belowTQ hbel).get ht
      have h5 := hr.five
      obtain ⟨r0, r1, r2, r3, r4, rfl⟩ : ∃ a b c d e, r = [a, b, c, d, e] := by
        match r, h5.1 with
        | [a, b, c, d, e], _ => exact ⟨a, b, c, d, e, rfl⟩
      have o0 := h5.2 r0 (by simp)
      have o1 := h5.2 r1 (by simp)
      have o2 := h5.2 r2 (by simp)
      have o3 := h5.2 r3 (by simp)
      have o4 := h5.2 r4 (by simp)
      obtain ⟨ea, el, ec, ra, rl, rc, e1, -⟩ := TrV2.open ⟨_, rfl, hr⟩
      simp only [Value.agg.injEq, Array.mk.injEq, List.cons.injEq, and_true] at e1
      obtain ⟨rfl, rfl, rfl, rfl, rfl⟩ := e1
      have c0 := hc 0 _ rfl
      have c1 := hc 1 _ rfl
      have c2 := hc 2 _ rfl
      have c3 := hc 3 _ rfl
      have c4 := hc 4 _ rfl
      simp only [Nat.add_zero] at c0
      have HC := HF.out wr t _ hbel (List.mem_of_getElem? ht) hr
      have HCC : Hid _ := HC
      have HT : Hid (ts.take (i + 1) = ts.take i ++ [t]) := take_atQ ht
      have HTM : Hid (t ∈ ts) := List.mem_of_getElem? ht
      clear hc h5 o0 o1 o2 o3 o4 HC ht hr
      obtain ⟨R, hR⟩ : ∃ R, p t = R := ⟨_, rfl⟩
      have HR : Hid (p t = R) := hR
      clear hR
      go_wp2_with fail
      refine Calls.mono HCC.out ?_
      rintro e w2 ⟨rfl, hb2⟩
      rw [HR.out]
      have hbw : Below w.heap.size w w2 := hbel.trans (hb2.mono hbel.size)
      clear HCC hb2 c0 c1 c2 c3 c4 hbel
      cases R with
      | true =>
        go_wp2_with fail
        go_ret
        exact ⟨⟨_, rfl, by simp only [Int.natCast_nonneg, true_iff]; exact List.any_eq_true.2 ⟨t, HTM.out, HR.out⟩⟩, hbw⟩
      | false =>
        go_wp2_with fail
        go_roundw
        case rel => exact ⟨i + 1, by go_num, by omega, (by
          rw [HT.out]
          intro x hx
          rcases List.mem_append.1 hx with hx | hx
          · exact HI.out x hx
          · obtain rfl : x = t := by simpa using hx
            exact HR.out : ∀ x ∈ ts.take (i + 1), p x = false), hbw⟩
        case measure => simp [intOf]; omega
    · go_wp2_with fail
      go_ret
      have h5 := HI.out
      rw [List.take_of_length_le (by rw [HN.out]; omega)] at h5
      refine ⟨⟨-1, rfl, ?_⟩, hbel⟩
      have : ts.any p = false := by rw [List.any_eq_false]; intro x hx; rw [h5 x hx]; simp
      rw [this]
      simp
theorem containsK_any (b : Nat) (n : Nat) (v : Value) (ts : List Tr) (w : World) (p : Tr → Bool) (h : TrsQ n w v ts) (hf : FunP n w ts 83 [.pointer (some ⟨b, 0, none⟩)] p) :
    Calls Try.prog 41 #[v, .func (.func 83) #[] #[.pointer (some ⟨b, 0, none⟩)]] w fun e w' => e = .returned (.bool (ts.any p)) ∧ Below w.heap.size w w' := by
  have HI : Hid _ := indexK_any b n v ts w p h hf
  obtain ⟨a, cap, rfl, h1, h2, -⟩ := RowP.open h
  clear h hf
  generalize ts.length = N at *
  obtain ⟨R, hR⟩ : ∃ R, ts.any p = R := ⟨_, rfl⟩
  rw [hR] at HI ⊢
  clear hR
  go_enter Try.func41, Try.ntmps41
  go_wp2_with fail
  refine Calls.mono HI.out ?_
  rintro e w2 ⟨⟨k, rfl, hk⟩, hb⟩
  clear HI
  have hd : decide (0 ≤ k) = R := by
    cases R
    · simpa using hk
    · simpa using hk
  clear hk
  go_wp2_with fail
  go_ret
  exact ⟨rfl, hb⟩
end Go.Proofs.Ytfnjbbaphmmjlaa

/- Whether some entries whose tags rise have a tag: by halves. -/
namespace Go.Proofs.Ytfnjbbaphmmjlaa
open Go.ChangeShapes Go.WideShapes Go.ChangeAt Go.RowKit
set_option linter.unusedVariables false
set_option linter.unusedSimpArgs false
set_option maxRecDepth 20000

def cmpI (a b : Int) : Int := if a < b then -1 else if b < a then 1 else 0
theorem nan_any (a : Int) (w : World) : Calls Try.prog 88 #[.int .i64 a] w fun e w' => e = .returned (.bool false) ∧ w' = w := by
  go_enter Try.func88, Try.ntmps88
  go_wp2
  go_ret
  exact ⟨rfl, rfl⟩
theorem compare_any (a b : Int) (w : World) : Calls Try.prog 86 #[.int .i64 a, .int .i64 b] w fun e w' => e = .returned (.int .i64 (cmpI a b)) ∧ w' = w := by
  by_cases h1 : a < b
  · go_enter Try.func86, Try.ntmps86
    go_wp2_with (first | (go_at_call 88; refine (nan_any _ _).mono ?_; rintro e w' ⟨rfl, rfl⟩) | fail)
    go_ret
    exact ⟨by simp [cmpI, h1], rfl⟩
  · by_cases h2 : b < a
    · go_enter Try.func86, Try.ntmps86
      go_wp2_with (first | (go_at_call 88; refine (nan_any _ _).mono ?_; rintro e w' ⟨rfl, rfl⟩) | fail)
      go_ret
      exact ⟨by simp [cmpI, h1, h2], rfl⟩
    · have HC : Hid (cmpI a b = 0) := (by simp [cmpI, h1, h2] : cmpI a b = 0)
      rw [HC.out]
      go_enter Try.func86, Try.ntmps86
      go_wp2_with (first | (go_at_call 88; refine (nan_any _ _).mono ?_; rintro e w' ⟨rfl, rfl⟩) | fail)
      go_ret
      exact ⟨rfl, rfl⟩
theorem tagc_any (a b : Int) (p : Option Addr) (n c : Nat) (w : World) : Calls Try.prog 85 #[.agg #[.int .i64 a, .slice p n c], .int .i64 b] w fun e w' => e = .returned (.int .i64 (cmpI a b)) ∧ Below w.heap.size w w' := by
  go_enter Try.func85, Try.ntmps85
  go_wp2_with (first | (go_at_call 86; refine (compare_any _ _ _).mono ?_; rintro e w' ⟨rfl, rfl⟩) | fail)
  go_ret
  exact ⟨rfl, (Below.refl _ _).alloc (Nat.le_refl _) _⟩
/-- Tags that rise. -/
def RisT (es : List (Int × List Tr)) : Prop := ∀ (i j : Nat) (x y : Int × List Tr), i < j → es[i]? = some x → es[j]? = some y → x.1 < y.1
theorem cmp_lt (a b : Int) : cmpI a b < 0 ↔ a < b := by
  unfold cmpI
  by_cases h1 : a < b
  · simp [h1]
  · by_cases h2 : b < a
    · simp [h1, h2]
    · simp [h1, h2]
theorem cmp_eq (a b : Int) : cmpI a b = 0 ↔ a = b := by
  unfold cmpI
  by_cases h1 : a < b
  · simp [h1]; omega
  · by_cases h2 : b < a
    · simp [h1, h2]; omega
    · simp [h1, h2]; omega
theorem ents_low : ∀ (es : List (Int × List Tr)) (last : Int), entsB last es = true → ∀ x ∈ es, last < x.1
  | [], _, _, x, hx => by cases hx
  | e :: l, last, h, x, hx => by
    simp only [entsB, Bool.and_eq_true, decide_eq_true_eq] at h
    rcases List.mem_cons.1 hx with rfl | hx
    · exact h.1.1.1.1.1
    · exact Int.lt_trans h.1.1.1.1.1 (ents_low l e.1 h.2 x hx)
theorem ents_ris : ∀ (es : List (Int × List Tr)) (last : Int), entsB last es = true → RisT es
  | [], _, _ => by intro i j x y _ h; simp at h
  | e :: l, last, h => by
    simp only [entsB, Bool.and_eq_true, decide_eq_true_eq] at h
    intro i j x y hij hx hy
    cases j with
    | zero => omega
    | succ j =>
      simp only [List.getElem?_cons_succ] at hy
      cases i with
      | zero =>
        obtain rfl : e = x := by simpa using hx
        exact ents_low l e.1 h.2 y (List.mem_of_getElem? hy)
      | succ i => exact ents_ris l e.1 h.2 i j x y (by omega) (by simpa using hx) hy
set_option maxHeartbeats 2000000 in
theorem bin_any (n : Nat) (v : Value) (es : List (Int × List Tr)) (tag : Int) (w : World) (h : EnsQ n w v es) (hr : RisT es) (hl : es.length ≤ 1000000) :
    Calls Try.prog 84 #[v, .int .i64 tag, .func (.func 85) #[] #[]] w fun e w' => (∃ k : Int, e = .returned (.tuple #[.int .i64 k, .bool (hasB es tag)])) ∧ Below w.heap.size w w' := by
  obtain ⟨a, cap, rfl, h1, h2, -⟩ := RowP.open h
  obtain ⟨N, hN⟩ : ∃ N, es.length = N := ⟨_, rfl⟩
  rw [hN] at h1 hl ⊢
  have HH : Hid (EnsQ n w (.slice a N cap) es) := (by rw [← hN]; exact h : EnsQ n w (.slice a N cap) es)
  have HN : Hid (es.length = N) := hN
  have HR : Hid (RisT es) := hr
  unfold maxLen at h2
  obtain ⟨R0, hR0⟩ : ∃ R0, hasB es tag = R0 := ⟨_, rfl⟩
  have HR0 : Hid (hasB es tag = R0) := hR0
  rw [hR0]
  clear h hN hr hR0
  go_enter Try.func84, Try.ntmps84
  go_wp2_with fail
  go_loopw [9, 10] (fun iv jv wr => ∃ i j : Nat, iv = .int .i64 (i : Int) ∧ jv = .int .i64 (j : Int) ∧ i ≤ j ∧ j ≤ N ∧ Hid (∀ (k : Nat) (x : Int × List Tr), k < i → es[k]? = some x → x.1 < tag) ∧ Hid (∀ (k : Nat) (x : Int × List Tr), j ≤ k → es[k]? = some x → tag ≤ x.1) ∧ Below w.heap.size w wr) (fun iv jv _ => (intOf jv - intOf iv).toNat)
  case atStart => exact ⟨0, N, rfl, rfl, by omega, by omega, (fun k x hk => absurd hk (by omega) : ∀ (k : Nat) (x : Int × List Tr), k < 0 → es[k]? = some x → x.1 < tag), (fun k x hk hx => by have := (List.getElem?_eq_some_iff.1 hx).1; rw [HN.out] at this; omega : ∀ (k : Nat) (x : Int × List Tr), N ≤ k → es[k]? = some x → tag ≤ x.1), Below.refl _ _⟩
  case round =>
    obtain ⟨i, j, rfl, rfl, hij, hjN, HI, HJ, hbel⟩ := hrel
    by_cases hlt : i < j
    · obtain ⟨q, hq⟩ : ∃ q : Nat, q = (i + j) / 2 := ⟨_, rfl⟩
      have hq1 : i ≤ q := by omega
      have hq2 : q < j := by omega
      obtain ⟨x, hx⟩ : ∃ r, es[q]? = some r := ⟨_, List.getElem?_eq_getElem (by rw [HN.out]; omega)⟩
      obtain ⟨g, off, rfl, r, ⟨vt, rfl, -, ht⟩, hc⟩ := (HH.out.belowEQ hbel).get hx
      obtain ⟨ta, tc, rfl, -⟩ := RowP.open ht
      have c0 := hc 0 _ rfl
      have c1 := hc 1 _ rfl
      simp only [Nat.add_zero] at c0
      have hqi : ((i : Int) + (j : Int)) / 2 = (q : Int) := by omega
      have HX : Hid (es[q]? = some x) := hx
      clear hc ht hx
      generalize x.2.length = Xl at *
      obtain ⟨xt, hxt⟩ : ∃ z, x.1 = z := ⟨_, rfl⟩
      rw [hxt] at c0
      have HXT : Hid (x.1 = xt) := hxt
      clear hxt hq
      obtain ⟨c, hcc⟩ : ∃ c, cmpI xt tag = c := ⟨_, rfl⟩
      have HCA : Hid (∀ W, Calls Try.prog 85 #[.agg #[.int .i64 xt, .slice ta Xl tc], .int .i64 tag] W fun e w' => e = .returned (.int .i64 c) ∧ Below W.heap.size W w') := fun W => by
        rw [← hcc]; exact tagc_any xt tag ta Xl tc W
      have hc0 : c < 0 ↔ xt < tag := by rw [← hcc]; exact cmp_lt xt tag
      clear hcc
      by_cases hxl : xt < tag
      · have hdc : decide (c < 0) = true := by simp [hc0, hxl]
        clear hc0
        go_wp2_with fail
        refine (HCA.out _).mono ?_
        rintro e w2 ⟨rfl, hb2⟩
        have hbw : Below w.heap.size w w2 := hbel.trans (hb2.mono hbel.size)
        clear hb2 hbel c0 c1 HCA
        go_wp2_with fail
        go_roundw
        case rel => exact ⟨q + 1, j, by go_num, rfl, by omega, hjN, (fun k y hk hy => by
          rcases Nat.lt_or_eq_of_le (Nat.le_of_lt_succ hk) with h | h
          · exact Int.lt_trans (HR.out k q y x h hy HX.out) (by rw [HXT.out]; exact hxl)
          · subst h; rw [HX.out] at hy; cases hy; rw [HXT.out]; exact hxl : ∀ (k : Nat) (x : Int × List Tr), k < q + 1 → es[k]? = some x → x.1 < tag), HJ, hbw⟩
        case measure => simp [intOf]; omega
      · have hdc : decide (c < 0) = false := by simp; exact Int.not_lt.1 (fun h => hxl (hc0.1 h))
        clear hc0
        go_wp2_with fail
        refine (HCA.out _).mono ?_
        rintro e w2 ⟨rfl, hb2⟩
        have hbw : Below w.heap.size w w2 := hbel.trans (hb2.mono hbel.size)
        clear hb2 hbel c0 c1 HCA
        go_wp2_with fail
        go_roundw
        case rel => exact ⟨i, q, rfl, rfl, by omega, by omega, HI, (fun k y hk hy => by
          rcases Nat.lt_or_eq_of_le hk with h | h
          · have := HR.out q k x y h HX.out hy
            rw [HXT.out] at this
            omega
          · subst h; rw [HX.out] at hy; cases hy; rw [HXT.out]; omega : ∀ (k : Nat) (x : Int × List Tr), q ≤ k → es[k]? = some x → tag ≤ x.1), hbw⟩
        case measure => simp [intOf]; omega
    · obtain rfl : i = j := by omega
      by_cases hiN : i < N
      · obtain ⟨x, hx⟩ : ∃ r, es[i]? = some r := ⟨_, List.getElem?_eq_getElem (by rw [HN.out]; omega)⟩
        obtain ⟨g, off, rfl, r, ⟨vt, rfl, -, ht⟩, hc⟩ := (HH.out.belowEQ hbel).get hx
        obtain ⟨ta, tc, rfl, -⟩ := RowP.open ht
        have c0 := hc 0 _ rfl
        have c1 := hc 1 _ rfl
        simp only [Nat.add_zero] at c0
        have HX : Hid (es[i]? = some x) := hx
        clear hc ht hx
        generalize x.2.length = Xl at *
        obtain ⟨xt, hxt⟩ : ∃ z, x.1 = z := ⟨_, rfl⟩
        rw [hxt] at c0
        have HXT : Hid (x.1 = xt) := hxt
        clear hxt
        obtain ⟨c, hcc⟩ : ∃ c, cmpI xt tag = c := ⟨_, rfl⟩
        have HCA : Hid (∀ W, Calls Try.prog 85 #[.agg #[.int .i64 xt, .slice ta Xl tc], .int .i64 tag] W fun e w' => e = .returned (.int .i64 c) ∧ Below W.heap.size W w') := fun W => by
          rw [← hcc]; exact tagc_any xt tag ta Xl tc W
        have hc0 : c = 0 ↔ xt = tag := by rw [← hcc]; exact cmp_eq xt tag
        have hB : hasB es tag = decide (xt = tag) := by
          by_cases he : xt = tag
          · rw [decide_eq_true he]
            exact List.any_eq_true.2 ⟨x, List.mem_of_getElem? HX.out, by rw [HXT.out, he]; simp⟩
          · rw [decide_eq_false he]
            refine List.any_eq_false.2 fun y hy => ?_
            obtain ⟨k, hk, ek⟩ := List.getElem_of_mem hy
            have hyk : es[k]? = some y := by rw [List.getElem?_eq_getElem hk, ek]
            have hge := HJ.out i x (Nat.le_refl _) HX.out
            rw [HXT.out] at hge
            rcases Nat.lt_trichotomy k i with h | h | h
            · have := HI.out k y h hyk; simp; omega
            · subst h; rw [HX.out] at hyk; cases hyk; rw [HXT.out]; simp; omega
            · have := HR.out i k x y h HX.out hyk; rw [HXT.out] at this; simp; omega
        have hdc : (c == 0) = R0 := by
          rw [← HR0.out, hB, Bool.eq_iff_iff]; simp [hc0]
        clear hcc hc0 hB
        go_wp2_with fail
        refine (HCA.out _).mono ?_
        rintro e w2 ⟨rfl, hb2⟩
        have hbw : Below w.heap.size w w2 := hbel.trans (hb2.mono hbel.size)
        clear hb2 hbel c0 c1 HCA
        go_wp2_with fail
        go_ret2
        exact ⟨⟨_, rfl⟩, hbw⟩
      · have hB : hasB es tag = false := by
          refine List.any_eq_false.2 fun y hy => ?_
          obtain ⟨k, hk, ek⟩ := List.getElem_of_mem hy
          have hyk : es[k]? = some y := by rw [List.getElem?_eq_getElem hk, ek]
          have := HI.out k y (by rw [HN.out] at hk; omega) hyk
          simp; omega
        obtain rfl : R0 = false := by rw [← HR0.out, hB]
        clear hB
        go_wp2_with fail
        go_ret2
        exact ⟨⟨_, rfl⟩, hbel⟩
theorem hasTag_any (n : Nat) (v : Value) (es : List (Int × List Tr)) (tag : Int) (w : World) (h : EnsQ n w v es) (hr : RisT es) (hl : es.length ≤ 1000000) :
    Calls Try.prog 77 #[v, .int .i64 tag] w fun e w' => e = .returned (.bool (hasB es tag)) ∧ Below w.heap.size w w' := by
  have HI : Hid _ := bin_any n v es tag w h hr hl
  obtain ⟨a, cap, rfl, -⟩ := RowP.open h
  clear h hr hl
  generalize es.length = N at *
  generalize hasB es tag = R at *
  go_enter Try.func77, Try.ntmps77
  go_wp2_with fail
  refine Calls.mono HI.out ?_
  rintro e w2 ⟨⟨k, rfl⟩, hb⟩
  clear HI
  go_wp2_with fail
  go_ret
  exact ⟨rfl, hb⟩
end Go.Proofs.Ytfnjbbaphmmjlaa

/- Whether some trees are of one kind; whether entries may be. -/
namespace Go.Proofs.Ytfnjbbaphmmjlaa
open Go.ChangeShapes Go.WideShapes Go.ChangeAt Go.RowKit
set_option linter.unusedVariables false
set_option linter.unusedSimpArgs false
set_option maxRecDepth 20000

set_option maxHeartbeats 1000000 in
theorem kindc_any (n : Nat) (x : Tr) (r : List Value) (b g off Kt tc : Nat) (k0 : Int) (W : World) (h : TrQ n W r x) (hB : Blk W b #[.slice (some ⟨g, off, none⟩) Kt tc] 59) (hc : W.cell? ⟨g, off, none⟩ = some (.int .i64 k0)) (hk : 0 < Kt) :
    Calls Try.prog 83 #[.agg r.toArray, .pointer (some ⟨b, 0, none⟩)] W fun e w' => e = .returned (.bool (x.kind != k0)) ∧ Below W.heap.size W w' := by
  obtain ⟨ea, el, ec, ra, rl, rc, e1, -⟩ := TrV2.open ⟨_, rfl, h⟩
  rw [e1]
  clear e1 h
  have q0 := (hB.cell 0).trans rfl
  have hb := hB.lt
  have hg : g < W.heap.size := World.block_lt_of_cell? _ _ hc
  clear hB
  generalize x.kind = K at *
  generalize x.n = N at *
  generalize x.s = S at *
  go_enter Try.func83, Try.ntmps83
  go_wp2_with fail
  go_quiet (fail)
  go_wp2_with fail
  go_ret
  exact ⟨rfl, below_drewN nq ((Below.refl _ _).alloc (Nat.le_refl _) _)⟩
/-- Trees under one tag that may be, but for what is in them. -/
def okB (ts : List Tr) : Bool := decide (1 ≤ ts.length) && decide (ts.length ≤ 64) && (ts.all fun x => x.kind == (ts.head?.map Tr.kind).getD 0)
set_option maxHeartbeats 1000000 in
theorem oneKind_any (n : Nat) (v : Value) (ts : List Tr) (w : World) (h : TrsQ n w v ts) :
    Calls Try.prog 75 #[v] w fun e w' => e = .returned (.bool (okB ts)) ∧ Below w.heap.size w w' := by
  have hmf : ∀ (fn : Fn) (first cap : Array Value) (w : World), (Instr.makeFunc fn first cap).run Try.prog w = .ok (.func fn first cap) w := fun _ _ _ _ => rfl
  obtain ⟨a, cap, rfl, h1, h2, h3, -, -⟩ := RowP.open h
  obtain ⟨N, hN⟩ : ∃ N, ts.length = N := ⟨_, rfl⟩
  obtain ⟨R, hR⟩ : ∃ R, okB ts = R := ⟨_, rfl⟩
  rw [hR]
  rw [hN] at h1 ⊢
  have HH : Hid (TrsQ n w (.slice a N cap) ts) := (by rw [← hN]; exact h : TrsQ n w (.slice a N cap) ts)
  have HN : Hid (ts.length = N) := hN
  have HR : Hid (okB ts = R) := hR
  unfold maxLen at h2
  clear h hN hR h3
  by_cases l1 : 1 ≤ N
  · have d1 : decide ((N : Int) < 1) = false := by simp; omega
    by_cases l2 : N ≤ 64
    · have d2 : decide (64 < (N : Int)) = false := by simp; omega
      obtain ⟨t0, ht0⟩ : ∃ t, ts[0]? = some t := ⟨_, List.getElem?_eq_getElem (by rw [HN.out]; omega)⟩
      obtain ⟨g, off, rfl, r, hr, hc⟩ := HH.out.get ht0
      obtain ⟨ea, el, ec, ra, rl, rc, e1, -⟩ := TrV2.open ⟨_, rfl, hr⟩
      have hcell : w.cell? ⟨g, off, none⟩ = some (.int .i64 t0.kind) := by
        have := hc 0 (.int .i64 t0.kind) (by
          have h9 : r.toArray = #[.int .i64 t0.kind, .int .i64 t0.n, .string t0.s, .slice ea el ec, .slice ra rl rc] := by simpa using e1
          have h8 : r = [.int .i64 t0.kind, .int .i64 t0.n, .string t0.s, .slice ea el ec, .slice ra rl rc] := by simpa using congrArg Array.toList h9
          rw [h8]; rfl)
        simpa using this
      have hw1 : Below w.heap.size w (w.alloc (Obj.cells #[.slice (some ⟨g, off, none⟩) N cap] 59)) := (Below.refl _ _).alloc (Nat.le_refl _) _
      have BX : Blk (w.alloc (Obj.cells #[.slice (some ⟨g, off, none⟩) N cap] 59)) w.heap.size #[.slice (some ⟨g, off, none⟩) N cap] 59 := Blk.new w _ _
      have HC : Hid (Calls Try.prog 41 #[.slice (some ⟨g, off, none⟩) N cap, .func (.func 83) #[] #[.pointer (some ⟨w.heap.size, 0, none⟩)]] (w.alloc (Obj.cells #[.slice (some ⟨g, off, none⟩) N cap] 59)) fun e w' => e = .returned (.bool (!R)) ∧ Below (w.alloc (Obj.cells #[.slice (some ⟨g, off, none⟩) N cap] 59)).heap.size (w.alloc (Obj.cells #[.slice (some ⟨g, off, none⟩) N cap] 59)) w') := by
        have hh : ts.head? = some t0 := by rw [List.head?_eq_getElem?]; exact ht0
        have hb : (!R) = ts.any (fun x => x.kind != t0.kind) := by
          rw [← HR.out, okB, HN.out, decide_eq_true l1, decide_eq_true l2, hh]
          simp only [Option.map_some, Option.getD_some, Bool.true_and, List.not_all_eq_any_not]
          rfl
        rw [hb]
        refine containsK_any w.heap.size n _ ts _ (fun x => x.kind != t0.kind) (HH.out.belowTQ hw1) fun W x r' hW hx hr' => ?_
        exact kindc_any n x r' w.heap.size g off N cap t0.kind W hr' (BX.below hW) ((hW.cell (by have hg9 : g < w.heap.size := World.block_lt_of_cell? _ _ hcell; simp; omega)).trans ((hw1.cell (World.block_lt_of_cell? _ _ hcell)).trans hcell)) (by omega)
      clear hcell hc e1 hr ht0 HH HR BX
      go_enter Try.func75, Try.ntmps75
      go_wp2_with fail
      refine HC.out.mono ?_
      rintro e w2 ⟨rfl, hb2⟩
      have hbw : Below w.heap.size w w2 := hw1.trans (hb2.mono hw1.size)
      clear HC hb2 hw1
      go_wp2_with fail
      go_ret
      exact ⟨by simp, hbw⟩
    · have d2 : decide (64 < (N : Int)) = true := by simp; omega
      obtain rfl : R = false := by rw [← HR.out, okB, HN.out]; simp; omega
      go_enter Try.func75, Try.ntmps75
      go_wp2_with fail
      go_ret
      exact ⟨rfl, (Below.refl _ _).alloc (Nat.le_refl _) _⟩
  · have d1 : decide ((N : Int) < 1) = true := by simp; omega
    obtain rfl : R = false := by rw [← HR.out, okB, HN.out]; simp; omega
    go_enter Try.func75, Try.ntmps75
    go_wp2_with fail
    go_ret
    exact ⟨rfl, (Below.refl _ _).alloc (Nat.le_refl _) _⟩
theorem ents_cons (last : Int) (e : Int × List Tr) (l : List (Int × List Tr)) : entsB last (e :: l) = (decide (last < e.1) && decide (e.1 ≤ 500) && okB e.2 && entsB e.1 l) := by
  simp only [entsB, okB, Bool.and_assoc]
set_option maxHeartbeats 2000000 in
theorem entries_any (n : Nat) (v : Value) (es : List (Int × List Tr)) (w : World) (h : EnsQ n w v es) :
    Calls Try.prog 62 #[v] w fun e w' => e = .returned (.bool (entsB 0 es)) ∧ Below w.heap.size w w' := by
  obtain ⟨a, cap, rfl, h1, h2, -⟩ := RowP.open h
  obtain ⟨N, hN⟩ : ∃ N, es.length = N := ⟨_, rfl⟩
  obtain ⟨R, hR⟩ : ∃ R, entsB 0 es = R := ⟨_, rfl⟩
  rw [hR]
  rw [hN] at h1 ⊢
  have HH : Hid (EnsQ n w (.slice a N cap) es) := (by rw [← hN]; exact h : EnsQ n w (.slice a N cap) es)
  have HN : Hid (es.length = N) := hN
  have HR0 : Hid (entsB 0 (es.drop 0) = R) := hR
  unfold maxLen at h2
  clear h hN hR
  go_enter Try.func62, Try.ntmps62
  go_wp2_with fail
  go_loopw [3, 8] (fun av iv wr => ∃ (i : Nat) (last : Int), iv = .int .i64 (i : Int) ∧ av = .int .i64 last ∧ i ≤ N ∧ Hid (entsB last (es.drop i) = R) ∧ Below w.heap.size w wr) (fun _ iv _ => N - (intOf iv).toNat)
  case atStart => exact ⟨0, 0, rfl, rfl, by omega, HR0, Below.refl _ _⟩
  case round =>
    clear HR0
    obtain ⟨i, last, rfl, rfl, hi, HR, hbel⟩ := hrel
    by_cases hlt : i < N
    · obtain ⟨x, hx⟩ : ∃ r, es[i]? = some r := ⟨_, List.getElem?_eq_getElem (by rw [HN.out]; exact hlt)⟩
      obtain ⟨g, off, rfl, r, ⟨vt, rfl, -, ht⟩, hc⟩ := (HH.out.belowEQ hbel).get hx
      obtain ⟨ta, tc, rfl, -⟩ := RowP.open ht
      have c0 := hc 0 _ rfl
      have c1 := hc 1 _ rfl
      simp only [Nat.add_zero] at c0
      have hdr : es.drop i = x :: es.drop (i + 1) := by
        obtain ⟨hl', e⟩ := List.getElem?_eq_some_iff.1 hx
        rw [List.drop_eq_getElem_cons hl', e]
      have HR1 : Hid ((decide (last < x.1) && decide (x.1 ≤ 500) && okB x.2 && entsB x.1 (es.drop (i + 1))) = R) := (by rw [← ents_cons, ← hdr]; exact HR.out : (decide (last < x.1) && decide (x.1 ≤ 500) && okB x.2 && entsB x.1 (es.drop (i + 1))) = R)
      have HOK : Hid (∀ W, Below wr.heap.size wr W → Calls Try.prog 75 #[.slice ta x.2.length tc] W fun e w' => e = .returned (.bool (okB x.2)) ∧ Below W.heap.size W w') := fun W hW => oneKind_any n _ x.2 W (RowP.belowTQ ht hW)
      clear hc ht hx hdr HR
      generalize x.2.length = Xl at *
      generalize okB x.2 = O at *
      generalize x.1 = xt at *
      by_cases k1 : last < xt
      · by_cases k2 : xt ≤ 500
        · have d1 : decide (xt ≤ last) = false := by simp; omega
          have d2 : decide (500 < xt) = false := by simp; omega
          have hal : Below wr.heap.size wr (wr.alloc (Obj.cells #[.int .i64 xt, .slice ta Xl tc] 61)) := (Below.refl _ _).alloc (Nat.le_refl _) _
          have BE : Blk (wr.alloc (Obj.cells #[.int .i64 xt, .slice ta Xl tc] 61)) wr.heap.size #[.int .i64 xt, .slice ta Xl tc] 61 := Blk.new wr _ _
          go_wp2_with fail
          refine (HOK.out _ hal).mono ?_
          rintro e w2 ⟨rfl, hb2⟩
          have hb3 : Below wr.heap.size wr w2 := hal.trans (hb2.mono hal.size)
          have hbw : Below w.heap.size w w2 := hbel.trans (hb3.mono hbel.size)
          have q0 := ((BE.below hb2).cell 0).trans rfl
          generalize wr.heap.size = bw at *
          clear hb2 hb3 hbel c0 c1 HOK hal BE
          cases O with
          | true =>
            go_wp2_with fail
            go_roundw
            case rel => exact ⟨i + 1, xt, by go_num, rfl, by omega, (by have := HR1.out; rw [decide_eq_true k1, decide_eq_true k2] at this; simpa using this : entsB xt (es.drop (i + 1)) = R), hbw⟩
            case measure => simp [intOf]; omega
          | false =>
            obtain rfl : R = false := by rw [← HR1.out]; simp
            go_wp2_with fail
            go_ret
            exact ⟨rfl, hbw⟩
        · have d1 : decide (xt ≤ last) = false := by simp; omega
          have d2 : decide (500 < xt) = true := by simp; omega
          obtain rfl : R = false := by rw [← HR1.out, decide_eq_false k2]; simp
          go_wp2_with fail
          go_ret
          exact ⟨rfl, hbel.alloc hbel.size _⟩
      · have d1 : decide (xt ≤ last) = true := by simp; omega
        obtain rfl : R = false := by rw [← HR1.out, decide_eq_false k1]; simp
        go_wp2_with fail
        go_ret
        exact ⟨rfl, hbel.alloc hbel.size _⟩
    · obtain rfl : R = true := by rw [← HR.out, List.drop_eq_nil_of_le (by rw [HN.out]; omega)]; rfl
      go_wp2_with fail
      go_ret
      exact ⟨rfl, hbel⟩
end Go.Proofs.Ytfnjbbaphmmjlaa

/- What wire Check answers of a field. -/
namespace Go.Proofs.Ytfnjbbaphmmjlaa
open Go.ChangeShapes Go.WideShapes Go.ChangeAt Go.RowKit
set_option linter.unusedVariables false
set_option linter.unusedSimpArgs false
set_option maxRecDepth 20000

theorem ret_boolF {a b : Bool} (h : a = b) : Ending.returned (.bool a) = .returned (.bool b) := by rw [h]

set_option maxHeartbeats 1000000 in
theorem checkV_any (t k n : Int) (b : ByteArray) (w : World) :
    Calls Try.prog 76 #[.agg #[.int .i64 t, .int .i64 k, .int .i64 n, .string b]] w fun e w' => e = .returned (.bool (okV t k n b)) ∧ Below w.heap.size w w' := by
  by_cases h1 : 1 ≤ t
  · by_cases h2 : t ≤ 500
    · by_cases hk : k = 0
      · subst hk
        go_enter Try.func76, Try.ntmps76
        go_wp2_with fail
        all_goals
          go_ret
          exact ⟨ret_boolF (by simp [okV, h1, h2]), (Below.refl _ _).alloc (Nat.le_refl _) _⟩
      · by_cases hk1 : k = 1
        · subst hk1
          by_cases hn : n = 0
          · subst hn
            go_enter Try.func76, Try.ntmps76
            go_wp2_with fail
            all_goals
              go_ret
              exact ⟨ret_boolF (by simp [okV, h1, h2]), (Below.refl _ _).alloc (Nat.le_refl _) _⟩
          · go_enter Try.func76, Try.ntmps76
            go_wp2_with fail
            all_goals
              go_ret
              exact ⟨ret_boolF (by simp [okV, hn]), (Below.refl _ _).alloc (Nat.le_refl _) _⟩
        · have e0 : (k == 0) = false := by simp [hk]
          have e1 : (k == 1) = false := by simp [hk1]
          go_enter Try.func76, Try.ntmps76
          go_wp2_with fail
          all_goals
            go_ret
            exact ⟨ret_boolF (by simp [okV, hk, hk1]), (Below.refl _ _).alloc (Nat.le_refl _) _⟩
    · have hok : okV t k n b = false := by simp [okV]; omega
      rw [hok]
      clear hok
      have hd : decide (t < 1) = false := by simp; omega
      have hd5 : decide (500 < t) = true := by simp; omega
      go_enter Try.func76, Try.ntmps76
      go_wp2_with fail
      all_goals
        go_ret
        exact ⟨rfl, (Below.refl _ _).alloc (Nat.le_refl _) _⟩
  · have hok : okV t k n b = false := by simp [okV]; omega
    rw [hok]
    clear hok
    have hd : decide (t < 1) = true := by simp; omega
    go_enter Try.func76, Try.ntmps76
    go_wp2_with fail
    all_goals
      go_ret
      exact ⟨rfl, (Below.refl _ _).alloc (Nat.le_refl _) _⟩
end Go.Proofs.Ytfnjbbaphmmjlaa

/- What wire Rising answers. -/
namespace Go.Proofs.Ytfnjbbaphmmjlaa
open Go.ChangeShapes Go.WideShapes Go.ChangeAt Go.RowKit
set_option linter.unusedVariables false
set_option linter.unusedSimpArgs false
set_option maxRecDepth 20000

set_option maxHeartbeats 1000000 in
theorem rising_any (a : Option Addr) (rs : List Fd) (N cap : Nat) (w : World) (hN : rs.length = N) (hadr : rs = [] ∨ ∃ g off, a = some ⟨g, off, none⟩) (hc : N ≤ cap) (hm : cap ≤ maxLen) (hh : HoldsR w a rs) :
    Calls Try.prog 78 #[.slice a N cap] w fun e w' => e = .returned (.bool (risesB rs)) ∧ Below w.heap.size w w' := by
  have HN : Hid (rs.length = N) := hN
  have HA : Hid (rs = [] ∨ ∃ g off, a = some ⟨g, off, none⟩) := hadr
  have HH : Hid (HoldsR w a rs) := hh
  obtain ⟨R, hR⟩ : ∃ R, risesB rs = R := ⟨_, rfl⟩
  rw [hR]
  have HR : Hid (risesB rs = R) := hR
  unfold maxLen at hm
  clear hN hadr hh hR
  go_enter Try.func78, Try.ntmps78
  go_wp2_with fail
  go_loopw [3] (fun iv wr => ∃ i : Nat, iv = .int .i64 ((i : Int) + 1) ∧ i ≤ N ∧ Hid (∀ j x y, j < i → rs[j]? = some x → rs[j + 1]? = some y → x.tag ≤ y.tag) ∧ Below w.heap.size w wr) (fun iv _ => N + 1 - (intOf iv).toNat)
  case atStart => exact ⟨0, rfl, by omega, (fun j x y hj => absurd hj (by omega) : ∀ j x y, j < 0 → rs[j]? = some x → rs[j + 1]? = some y → x.tag ≤ y.tag), Below.refl _ _⟩
  case round =>
    obtain ⟨i, rfl, hi, HT, hbel⟩ := hrel
    by_cases hlt : i + 1 < N
    · have hr : rs[i]? = some (rs[i]'(by rw [HN.out]; omega)) := List.getElem?_eq_getElem _
      generalize rs[i]'(by rw [HN.out]; omega) = r at hr
      have hs : rs[i + 1]? = some (rs[i + 1]'(by rw [HN.out]; exact hlt)) := List.getElem?_eq_getElem _
      generalize rs[i + 1]'(by rw [HN.out]; exact hlt) = s at hs
      rcases HA.out with h0 | ⟨g, off, rfl⟩
      · exact absurd hlt (by have := HN.out; rw [h0] at this; simp at this; omega)
      obtain ⟨p0, -, -, -⟩ := (HH.out.below hbel).at hr
      obtain ⟨q0, -, -, -⟩ := (HH.out.below hbel).at hs
      have HK : Hid (rs[i]? = some r) := hr
      have HK2 : Hid (rs[i + 1]? = some s) := hs
      obtain ⟨x, hx⟩ : ∃ q, r.tag = q := ⟨_, rfl⟩
      obtain ⟨y, hy⟩ : ∃ q, s.tag = q := ⟨_, rfl⟩
      rw [hx] at p0
      rw [hy] at q0
      have HX : Hid (r.tag = x) := hx
      have HY : Hid (s.tag = y) := hy
      have hlti : (i : Int) + 1 < (N : Int) := by omega
      clear hr hs hx hy
      by_cases hle : y < x
      · have hd : decide (y < x) = true := by simp [hle]
        obtain rfl : R = false := by rw [← HR.out]; exact rises_break i r s HK.out HK2.out (by rw [HX.out, HY.out]; exact hle)
        clear HT HK HK2 HX HY HR
        go_wp2_with fail
        go_quiet (fail)
        have hbn := below_drewN nq hbel
        clear p0 q0 hbel
        go_wp2_with fail
        go_ret
        exact ⟨rfl, hbn⟩
      · have hd : decide (y < x) = false := by simp; omega
        have HT2 : Hid (∀ j u v, j < i + 1 → rs[j]? = some u → rs[j + 1]? = some v → u.tag ≤ v.tag) := fun j u v hj hu hv => by
          by_cases hji : j = i
          · subst hji
            rw [HK.out] at hu
            rw [HK2.out] at hv
            obtain rfl : r = u := by simpa using hu
            obtain rfl : s = v := by simpa using hv
            rw [HX.out, HY.out]; omega
          · exact HT.out j u v (by omega) hu hv
        clear HT HK HK2 HX HY
        go_wp2_with fail
        go_quiet (fail)
        have hbn := below_drewN nq hbel
        clear p0 q0 hbel
        go_wp2_with fail
        go_roundw
        case rel => exact ⟨i + 1, by go_num, by omega, HT2, hbn⟩
        case measure => simp [intOf]; omega
    · obtain rfl : R = true := by
        rw [← HR.out]
        refine rises_steps fun j x y hx hy => HT.out j x y ?_ hx hy
        have := (List.getElem?_eq_some_iff.1 hy).1
        rw [HN.out] at this
        omega
      have hnl : ¬ (i : Int) + 1 < (N : Int) := by omega
      clear HT HR
      go_wp2_with fail
      go_ret
      exact ⟨rfl, hbel⟩
end Go.Proofs.Ytfnjbbaphmmjlaa

/- Whether a rest may be; isWrong. -/
namespace Go.Proofs.Ytfnjbbaphmmjlaa
open Go.ChangeShapes Go.WideShapes Go.ChangeAt Go.RowKit
set_option linter.unusedVariables false
set_option linter.unusedSimpArgs false
set_option maxRecDepth 20000

theorem rowG_holdsR {w : World} {a : Option Addr} {N cap : Nat} {l : List Fd} (h : RowG w (.slice a N cap) 4 (fdRows l)) : HoldsR w a l := by
  obtain ⟨a', cap', e, _, _, _, h4⟩ := h.form
  simp only [Value.slice.injEq] at e
  obtain ⟨rfl, _, _⟩ := e
  intro b hb j u hu
  rw [rawCells_flat] at hu
  obtain ⟨i, c, k, h1, h2, rfl⟩ := flat_inv (fdRows l) (fdr_len l) j u hu
  obtain ⟨g, off, e, hc⟩ := h4 (by intro e; rw [e] at h1; simp at h1)
  rw [hb] at e
  cases e
  have := hc i c u k h1 h2
  rw [Nat.add_assoc] at this
  rw [Addr.add_lit]
  exact this
theorem rest_all {l : List Fd} {p : Fd → Bool} {i : Nat} {f : Fd} (h : ∀ x ∈ l.take i, p x = true) (hf : l[i]? = some f) (hp : p f = true) : ∀ x ∈ l.take (i + 1), p x = true := by
  rw [take_atQ hf]
  intro x hx
  rcases List.mem_append.1 hx with hx | hx
  · exact h x hx
  · obtain rfl : x = f := by simpa using hx
    exact hp
set_option maxHeartbeats 2000000 in
theorem restMayBe_any (n : Nat) (v ve : Value) (l : List Fd) (es : List (Int × List Tr)) (w : World) (h : RowG w v 4 (fdRows l)) (he : EnsQ n w ve es) (hr : RisT es) (hl : es.length ≤ 1000000) :
    Calls Try.prog 63 #[v, ve] w fun e w' => e = .returned (.bool (restB l es)) ∧ Below w.heap.size w w' := by
  obtain ⟨a, cap, rfl, h1, h2, h3, -, -⟩ := rest_holds h
  obtain ⟨N, hN⟩ : ∃ N, l.length = N := ⟨_, rfl⟩
  obtain ⟨R, hR⟩ : ∃ R, restB l es = R := ⟨_, rfl⟩
  rw [hR]
  rw [hN] at h1 ⊢
  have HH : Hid (RowG w (.slice a N cap) 4 (fdRows l)) := (by rw [← hN]; exact h : RowG w (.slice a N cap) 4 (fdRows l))
  have HN : Hid (l.length = N) := hN
  have HR : Hid (restB l es = R) := hR
  have HT : Hid (∀ W tag, Below w.heap.size w W → Calls Try.prog 77 #[ve, .int .i64 tag] W fun e w' => e = .returned (.bool (hasB es tag)) ∧ Below W.heap.size W w') := fun W tag hW => hasTag_any n ve es tag W (he.belowEQ hW) hr hl
  have HRS : Hid (∀ W, Below w.heap.size w W → Calls Try.prog 78 #[.slice a N cap] W fun e w' => e = .returned (.bool (risesB l)) ∧ Below W.heap.size W w') := fun W hW => rising_any a l N cap W hN h3 h1 h2 (rowG_holdsR (HH.out.below hW))
  obtain ⟨pe, ce, rfl, -⟩ := RowP.open he
  unfold maxLen at h2
  generalize es.length = El at *
  clear h hN hR h3 he hr
  go_enter Try.func63, Try.ntmps63
  go_wp2_with fail
  go_loopw [9] (fun iv wr => ∃ i : Nat, iv = .int .i64 (i : Int) ∧ i ≤ N ∧ Hid (∀ f ∈ l.take i, (okF f && !hasB es f.tag) = true) ∧ Below w.heap.size w wr) (fun iv _ => N - (intOf iv).toNat)
  case atStart => exact ⟨0, rfl, by omega, (by simp : ∀ f ∈ l.take 0, (okF f && !hasB es f.tag) = true), Below.refl _ _⟩
  case round =>
    obtain ⟨i, rfl, hi, HI, hbel⟩ := hrel
    by_cases hlt : i < N
    · obtain ⟨f, hf⟩ : ∃ r, l[i]? = some r := ⟨_, List.getElem?_eq_getElem (by rw [HN.out]; exact hlt)⟩
      obtain ⟨g, off, rfl, cc⟩ := (HH.out.below hbel).get (show (fdRows l)[i]? = some f.cells by simp [fdRows, hf])
      have p0 := cc 0 _ rfl
      have p1 := cc 1 _ rfl
      have p2 := cc 2 _ rfl
      have p3 := cc 3 _ rfl
      simp only [Nat.add_zero] at p0
      have HF : Hid (l[i]? = some f) := hf
      have HM : Hid (f ∈ l) := List.mem_of_getElem? hf
      have HFO : Hid (okF f = okV f.tag f.wire f.n f.b) := (rfl : okF f = okV f.tag f.wire f.n f.b)
      have HTG : Hid (∀ W, Below w.heap.size w W → Calls Try.prog 77 #[.slice pe El ce, .int .i64 f.tag] W fun e w' => e = .returned (.bool (hasB es f.tag)) ∧ Below W.heap.size W w') := fun W hW => HT.out W f.tag hW
      clear cc hf
      obtain ⟨O, hO⟩ : ∃ O, okV f.tag f.wire f.n f.b = O := ⟨_, rfl⟩
      obtain ⟨B, hB⟩ : ∃ B, hasB es f.tag = B := ⟨_, rfl⟩
      have HO : Hid (okV f.tag f.wire f.n f.b = O) := hO
      have HB : Hid (hasB es f.tag = B) := hB
      have HCK : Hid (∀ W, Calls Try.prog 76 #[.agg #[.int .i64 f.tag, .int .i64 f.wire, .int .i64 f.n, .string f.b]] W fun e w' => e = .returned (.bool O) ∧ Below W.heap.size W w') := fun W => by rw [← hO]; exact checkV_any f.tag f.wire f.n f.b W
      rw [hB] at HTG
      clear hO hB
      generalize hft : f.tag = ft at *
      generalize hfw : f.wire = fw at *
      generalize hfn : f.n = fn at *
      generalize hfb : f.b = fb at *
      have HE : Hid (f.tag = ft ∧ f.wire = fw ∧ f.n = fn ∧ f.b = fb) := ⟨hft, hfw, hfn, hfb⟩
      clear hft hfw hfn hfb
      have hal : Below wr.heap.size wr (wr.alloc (Obj.cells #[.int .i64 ft, .int .i64 fw, .int .i64 fn, .string fb] 70)) := (Below.refl _ _).alloc (Nat.le_refl _) _
      have BE : Blk (wr.alloc (Obj.cells #[.int .i64 ft, .int .i64 fw, .int .i64 fn, .string fb] 70)) wr.heap.size #[.int .i64 ft, .int .i64 fw, .int .i64 fn, .string fb] 70 := Blk.new wr _ _
      go_wp2_with fail
      refine (HCK.out _).mono ?_
      rintro e w2 ⟨rfl, hb2⟩
      have hb3 : Below wr.heap.size wr w2 := hal.trans (hb2.mono hal.size)
      have hbw : Below w.heap.size w w2 := hbel.trans (hb3.mono hbel.size)
      have q0 := ((BE.below hb2).cell 0).trans rfl
      generalize wr.heap.size = bw at *
      clear hb2 hb3 hbel hal BE p0 p1 p2 p3 HCK
      cases O with
      | false =>
        obtain rfl : R = false := by
          rw [← HR.out, restB, Bool.and_eq_false_iff]
          left
          rw [List.all_eq_false]
          exact ⟨f, HM.out, by rw [HFO.out, HE.out.1, HO.out]; simp⟩
        go_wp2_with fail
        go_ret
        exact ⟨rfl, hbw⟩
      | true =>
        go_wp2_with fail
        refine (HTG.out _ hbw).mono ?_
        rintro e w4 ⟨rfl, hb4⟩
        have hbw4 : Below w.heap.size w w4 := hbw.trans (hb4.mono hbw.size)
        clear hb4 hbw HTG
        cases B with
        | true =>
          obtain rfl : R = false := by
            rw [← HR.out, restB, Bool.and_eq_false_iff]
            left
            rw [List.all_eq_false]
            exact ⟨f, HM.out, by rw [HE.out.1, HB.out]; simp⟩
          go_wp2_with fail
          go_ret
          exact ⟨rfl, hbw4⟩
        | false =>
          have HI2 : Hid (∀ f ∈ l.take (i + 1), (okF f && !hasB es f.tag) = true) := rest_all HI.out HF.out (by rw [HFO.out, HE.out.1, HO.out, HB.out]; rfl)
          go_wp2_with fail
          go_roundw
          case rel => exact ⟨i + 1, by go_num, by omega, HI2, hbw4⟩
          case measure => simp [intOf]; omega
    · have hall : R = risesB l := by
        have h5 := HI.out
        rw [List.take_of_length_le (by rw [HN.out]; omega)] at h5
        rw [← HR.out, restB, List.all_eq_true.2 h5]
        rfl
      have HRX : Hid (Calls Try.prog 78 #[.slice a N cap] wr fun e w' => e = .returned (.bool R) ∧ Below wr.heap.size wr w') := by
        rw [hall]; exact HRS.out wr hbel
      clear hall
      go_wp2_with fail
      refine HRX.out.mono ?_
      rintro e w2 ⟨rfl, hb2⟩
      have hbw : Below w.heap.size w w2 := hbel.trans (hb2.mono hbel.size)
      go_wp2_with fail
      go_ret
      exact ⟨rfl, hbw⟩
end Go.Proofs.Ytfnjbbaphmmjlaa

/- What isWrong and Check answer. -/
namespace Go.Proofs.Ytfnjbbaphmmjlaa
open Go.ChangeShapes Go.WideShapes Go.ChangeAt Go.RowKit
set_option linter.unusedVariables false
set_option linter.unusedSimpArgs false
set_option maxRecDepth 20000

set_option maxHeartbeats 4000000 in
theorem wrong_any (n : Nat) (t : Tr) (r : List Value) (w : World) (h : TrQ n w r t) (hl : t.es.length ≤ 1000000) :
    Calls Try.prog 42 #[.agg r.toArray] w fun e w' => e = .returned (.bool (!lvB t)) ∧ Below w.heap.size w w' := by
  cases n with
  | zero => exact h.elim
  | succ n =>
    obtain ⟨ve, vr, rfl, ka, na, sa, fa, ra, ea, pa⟩ := h
    obtain ⟨pe, ce, rfl, u1, u2, -⟩ := RowP.open ea
    obtain ⟨pr, cr, rfl, x1, x2, -⟩ := rest_holds ra
    have HEN : Hid (∀ W, Below w.heap.size w W → Calls Try.prog 62 #[.slice pe t.es.length ce] W fun e w' => e = .returned (.bool (entsB 0 t.es)) ∧ Below W.heap.size W w') := fun W hW => entries_any n _ t.es W (RowP.belowEQ ea hW)
    have HRE : Hid (entsB 0 t.es = true → ∀ W, Below w.heap.size w W → Calls Try.prog 63 #[.slice pr t.rest.length cr, .slice pe t.es.length ce] W fun e w' => e = .returned (.bool (restB t.rest t.es)) ∧ Below W.heap.size W w') := fun he W hW => restMayBe_any n _ _ t.rest t.es W (ra.below hW) (RowP.belowEQ ea hW) (ents_ris t.es 0 he) hl
    obtain ⟨R, hR⟩ : ∃ R, (!lvB t) = R := ⟨_, rfl⟩
    rw [hR]
    have HR : Hid ((!lvB t) = R) := hR
    unfold maxLen at u2 x2
    have hel : (t.es.isEmpty = decide (t.es.length = 0)) := by cases t.es <;> simp
    have hrl : (t.rest.isEmpty = decide (t.rest.length = 0)) := by cases t.rest <;> simp
    have hlv := hR
    simp only [lvB, hel, hrl] at hlv
    have HLV : Hid _ := hlv
    clear hR hlv ea ra fa ka na pa hel hrl HR
    generalize t.es.length = Ke at *
    generalize t.rest.length = Kr at *
    generalize t.kind = K at *
    generalize t.n = N at *
    generalize t.s = S at *
    generalize entsB 0 t.es = E at *
    generalize restB t.rest t.es = Rs at *
    have hsz : (S.toList == ([] : List UInt8)) = (S.size == 0) := by
      rw [ByteArray.toList_eq]
      obtain ⟨⟨l⟩⟩ := S
      cases l <;> simp [ByteArray.size]
    have hs0 : S.size = 0 → S = ByteArray.empty := fun h => by
      obtain ⟨⟨l⟩⟩ := S
      cases l with
      | nil => rfl
      | cons a l => simp [ByteArray.size] at h
    by_cases k1 : K = 1
    · subst k1
      simp only [if_true] at HLV
      have HSE : Hid (S.size = 0 → S = ByteArray.empty) := hs0
      clear hs0 hsz
      by_cases hs : S.size = 0
      · have := HSE.out hs
        subst this
        clear HSE hs
        go_enter Try.func42, Try.ntmps42
        go_wp2_with fail
        all_goals
          go_ret
          refine ⟨ret_boolF ?_, (Below.refl _ _).alloc (Nat.le_refl _) _⟩
          rw [← HLV.out]
          first
            | (rw [Bool.eq_iff_iff]; simp; omega)
            | (simp; omega)
      · have hne : (S.toList == ([] : List UInt8)) = false := by
          rw [ByteArray.toList_eq]
          obtain ⟨⟨l⟩⟩ := S
          cases l with
          | nil => exact absurd rfl hs
          | cons a l => rfl
        obtain rfl : R = true := by rw [← HLV.out]; simp [hs]
        clear hs HSE HLV
        go_enter Try.func42, Try.ntmps42
        go_wp2_with fail
        all_goals
          go_ret
          exact ⟨rfl, (Below.refl _ _).alloc (Nat.le_refl _) _⟩
    · have d1 : (K == 1) = false := by simpa using k1
      simp only [if_neg k1] at HLV
      by_cases k2 : K = 2
      · subst k2
        simp only [if_true] at HLV
        go_enter Try.func42, Try.ntmps42
        go_wp2_with fail
        all_goals
          go_ret
          refine ⟨ret_boolF ?_, (Below.refl _ _).alloc (Nat.le_refl _) _⟩
          rw [← HLV.out]
          first
            | (rw [Bool.eq_iff_iff]; simp; omega)
            | (simp; omega)
            | (simp; left; omega)
            | (simp_all; omega)
            | simp_all
      · have d2 : (K == 2) = false := by simpa using k2
        simp only [if_neg k2] at HLV
        by_cases k3 : K = 3
        · subst k3
          simp only [if_true] at HLV
          by_cases hn : N = 0
          · subst hn
            by_cases hs : S.size = 0
            · have := hs0 hs
              subst this
              clear hs0 hsz hs
              go_enter Try.func42, Try.ntmps42
              go_wp2_with fail
              refine (HEN.out _ ((Below.refl _ _).alloc (Nat.le_refl _) _)).mono ?_
              rintro e w2 ⟨rfl, hb2⟩
              have hal : Below w.heap.size w (w.alloc (Obj.cells #[.int .i64 3, .int .i64 0, .string ByteArray.empty, .slice pe Ke ce, .slice pr Kr cr] 30)) := (Below.refl _ _).alloc (Nat.le_refl _) _
              have hbw : Below w.heap.size w w2 := hal.trans (hb2.mono hal.size)
              have BX := (Blk.new w #[.int .i64 3, .int .i64 0, .string ByteArray.empty, .slice pe Ke ce, .slice pr Kr cr] 30).below hb2
              have q3 := (BX.cell 3).trans rfl
              have q4 := (BX.cell 4).trans rfl
              clear hb2 HEN hal BX
              cases E with
              | false =>
                obtain rfl : R = true := by rw [← HLV.out]; simp
                go_wp2_with fail
                go_ret
                exact ⟨rfl, hbw⟩
              | true =>
                go_wp2_with fail
                refine (HRE.out trivial _ hbw).mono ?_
                rintro e w3 ⟨rfl, hb3⟩
                have hbw3 : Below w.heap.size w w3 := hbw.trans (hb3.mono hbw.size)
                have hRR : (!Rs) = R := by rw [← HLV.out]; simp
                clear hb3 hbw HRE
                go_wp2_with fail
                go_ret
                exact ⟨rfl, hbw3⟩
            · have hne : (S.toList == ([] : List UInt8)) = false := by
                rw [ByteArray.toList_eq]
                obtain ⟨⟨l⟩⟩ := S
                cases l with
                | nil => exact absurd rfl hs
                | cons a l => rfl
              obtain rfl : R = true := by rw [← HLV.out]; simp [hs]
              clear hs hs0 hsz HLV
              go_enter Try.func42, Try.ntmps42
              go_wp2_with fail
              all_goals
                go_ret
                exact ⟨rfl, (Below.refl _ _).alloc (Nat.le_refl _) _⟩
          · have hne : (N != 0) = true := by simpa using hn
            obtain rfl : R = true := by rw [← HLV.out]; simp [hn]
            clear hs0 hsz HLV
            go_enter Try.func42, Try.ntmps42
            go_wp2_with fail
            all_goals
              go_ret
              exact ⟨rfl, (Below.refl _ _).alloc (Nat.le_refl _) _⟩
        · have d3 : (K == 3) = false := by simpa using k3
          simp only [if_neg k3] at HLV
          obtain rfl : R = true := by rw [← HLV.out]; rfl
          go_enter Try.func42, Try.ntmps42
          go_wp2_with fail
          go_ret
          exact ⟨rfl, (Below.refl _ _).alloc (Nat.le_refl _) _⟩
theorem ok_step {m : Nat} {ts : List Tr} {M : List (List (Int × List Tr))} (h : MsgS ts M) (hl : ∀ x ∈ ts, lvB x = true) : ts.all (okN (m + 1)) = (subsL M).all (okN m) := by
  rw [Bool.eq_iff_iff, List.all_eq_true, List.all_eq_true]
  constructor
  · intro h1 y hy
    obtain ⟨m1, hm1, hy⟩ := mem_subsL.1 hy
    obtain ⟨t1, ht1, hk1, rfl⟩ := mem_msgsL.1 (h.1.subset hm1)
    have := h1 t1 ht1
    simp only [okN, hk1, if_true, Bool.and_eq_true, List.all_eq_true] at this
    exact this.2 y hy
  · intro h1 x hx
    simp only [okN, hl x hx, Bool.true_and]
    split
    · rename_i hk
      exact List.all_eq_true.2 fun y hy => h1 y (mem_subsL.2 ⟨_, h.2 x hx hk, hy⟩)
    · rfl
theorem sm_step {m : Nat} {ts : List Tr} {M : List (List (Int × List Tr))} (h : MsgS ts M) (hs : ∀ x ∈ ts, SmN (m + 1) x) : ∀ x ∈ subsL M, SmN m x := by
  intro y hy
  obtain ⟨m1, hm1, hy⟩ := mem_subsL.1 hy
  obtain ⟨t1, ht1, hk1, rfl⟩ := mem_msgsL.1 (h.1.subset hm1)
  obtain ⟨e, he, hy⟩ := mem_subs.1 hy
  exact ((hs t1 ht1).2.2.2.2 e he).2 y hy
set_option maxHeartbeats 4000000 in
theorem vcheck_any (n : Nat) (t : Tr) (v : Value) (w : World) (h : TrV2 n w v t) (hn : n ≤ 60) (hc : cntN n t ≤ 1000) (hs : SmN n t) :
    Calls Try.prog 22 #[v] w fun e w' => e = .returned (.bool (chkN n t)) ∧ Below w.heap.size w w' := by
  have HDP : Hid (∀ W, Below w.heap.size w W → Calls Try.prog 38 #[v] W fun e w' => e = .returned (.int .i64 (dpN n t : Int)) ∧ Below W.heap.size W w') := fun W hW => depth_any n t v W (h.below hW) hn hc
  obtain ⟨ea, el, ec, ra, rl, rc, rfl, hq⟩ := h.open
  have HQ : Hid (TrQ n w [.int .i64 t.kind, .int .i64 t.n, .string t.s, .slice ea el ec, .slice ra rl rc] t) := hq
  have HC : Hid (cntN n t ≤ 1000) := hc
  have HS : Hid (SmN n t) := hs
  obtain ⟨D, hD⟩ : ∃ D, dpN n t = D := ⟨_, rfl⟩
  obtain ⟨R, hR⟩ : ∃ R, okN n t = R := ⟨_, rfl⟩
  have HR : Hid (okN n t = R) := hR
  rw [hD] at HDP
  rw [chkN, hD, hR]
  clear h hq hc hs hD hR
  generalize t.kind = K at *
  generalize t.n = N at *
  generalize t.s = S at *
  have hal : Below w.heap.size w (w.alloc (Obj.cells #[.int .i64 K, .int .i64 N, .string S, .slice ea el ec, .slice ra rl rc] 30)) := (Below.refl _ _).alloc (Nat.le_refl _) _
  have HBX : Hid (Blk (w.alloc (Obj.cells #[.int .i64 K, .int .i64 N, .string S, .slice ea el ec, .slice ra rl rc] 30)) w.heap.size #[.int .i64 K, .int .i64 N, .string S, .slice ea el ec, .slice ra rl rc] 30) := Blk.new w _ _
  by_cases hd : D ≤ 10
  · have d1 : decide (10 < (D : Int)) = false := by simp; omega
    rw [decide_eq_true hd, Bool.true_and]
    go_enter Try.func22, Try.ntmps22
    go_wp2_with fail
    refine (HDP.out _ hal).mono ?_
    rintro e w1 ⟨rfl, hb1⟩
    have hb : Below w.heap.size w w1 := hal.trans (hb1.mono hal.size)
    have BX := HBX.out.below hb1
    clear hb1 hal HBX HDP
    have q0 := (BX.cell 0).trans rfl
    have q1 := (BX.cell 1).trans rfl
    have q2 := (BX.cell 2).trans rfl
    have q3 := (BX.cell 3).trans rfl
    have q4 := (BX.cell 4).trans rfl
    go_wp2_with fail
    have hbA : Below w.heap.size w (w1.alloc (Obj.cells #[.int .i64 K, .int .i64 N, .string S, .slice ea el ec, .slice ra rl rc] 30)) := hb.alloc hb.size _
    have HT0 : Hid (TrsQ n (w1.alloc (Obj.cells #[.int .i64 K, .int .i64 N, .string S, .slice ea el ec, .slice ra rl rc] 30)) (.slice (some ⟨w1.heap.size, 0, none⟩) 1 1) [t]) := one_row (Blk.new w1 _ _) (HQ.out.below hbA)
    clear q0 q1 q2 q3 q4 BX
    go_loopg [3] n (fun k lv wr => ∃ ts : List Tr, Hid (TrsQ k wr lv ts) ∧ Hid (cntL k ts ≤ 1000) ∧ Hid (∀ x ∈ ts, SmN k x) ∧ Hid (ts.all (okN k) = R) ∧ Below w.heap.size w wr)
    case atStart => exact ⟨[t], HT0, (by simpa [cntL] using HC.out : cntL n [t] ≤ 1000), (by simpa using HS.out : ∀ x ∈ [t], SmN n x), (by simpa using HR.out : [t].all (okN n) = R), hbA⟩
    case round =>
      clear HT0 hbA hb
      obtain ⟨ts, HT, HC, HS, HR, hb⟩ := hrel
      obtain ⟨la, lc, rfl, l1, l2, -⟩ := RowP.open HT.out
      unfold maxLen at l2
      obtain ⟨Tl, hTl⟩ : ∃ k, ts.length = k := ⟨_, rfl⟩
      have HT' : Hid (TrsQ gk wr (.slice la Tl lc) ts) := (by rw [← hTl]; exact HT.out : TrsQ gk wr (.slice la Tl lc) ts)
      rw [hTl] at l1 ⊢
      have HTl : Hid (ts.length = Tl) := hTl
      have hlen : ts.length ≤ 1000 := Nat.le_trans (len_cnt HT'.out) HC.out
      have HLN : Hid (ts.length ≤ 1000) := hlen
      clear hTl HT hlen
      by_cases h0 : Tl = 0
      · subst h0
        have hts : ts = [] := List.eq_nil_of_length_eq_zero HTl.out
        obtain rfl : R = true := by rw [← HR.out, hts]; rfl
        clear hts
        go_wp2_with fail
        go_ret
        exact ⟨rfl, hb⟩
      · have d2 : decide (0 < (Tl : Int)) = true := by simp; omega
        obtain ⟨m, rfl⟩ : ∃ m, gk = m + 1 := by
          cases gk with
          | zero =>
            exfalso
            obtain ⟨rows, _, _, h3⟩ := HT'.out
            obtain ⟨x, hx⟩ : ∃ x, ts[0]? = some x := ⟨_, List.getElem?_eq_getElem (by rw [HTl.out]; omega)⟩
            obtain ⟨r, _, hp⟩ := h3 0 x hx
            exact hp
          | succ m => exact ⟨m, rfl⟩
        obtain ⟨B, hB⟩ : ∃ B, ts.any (fun x => !lvB x) = B := ⟨_, rfl⟩
        have HCF : Hid (Calls Try.prog 41 #[.slice la Tl lc, .func (.func 42) #[] #[]] wr fun e w' => e = .returned (.bool B) ∧ Below wr.heap.size wr w') := by
          rw [← hB]
          exact containsW_any (m + 1) _ ts wr (fun x => !lvB x) HT'.out fun W x r hW hx hr => wrong_any (m + 1) x r W hr (by have := (HS.out x hx).2.2.1; omega)
        have HB : Hid (ts.any (fun x => !lvB x) = B) := hB
        clear hB
        go_wp2_with fail
        refine HCF.out.mono ?_
        rintro e w2 ⟨rfl, hb2⟩
        have hbw2 : Below w.heap.size w w2 := hb.trans (hb2.mono hb.size)
        have HT2 : Hid (TrsQ (m + 1) w2 (.slice la Tl lc) ts) := HT'.out.belowTQ hb2
        clear HCF hb hb2 HT'
        cases B with
        | true =>
          obtain rfl : R = false := by
            rw [← HR.out, List.all_eq_false]
            obtain ⟨x, hx, hlx⟩ := List.any_eq_true.1 HB.out
            refine ⟨x, hx, ?_⟩
            simp at hlx
            simp [okN, hlx]
          go_wp2_with fail
          go_ret
          exact ⟨rfl, hbw2⟩
        | false =>
          have hlv : ∀ x ∈ ts, lvB x = true := fun x hx => by
            have := List.any_eq_false.1 HB.out x hx
            simpa using this
          have HLV : Hid (∀ x ∈ ts, lvB x = true) := hlv
          have HM : Hid (Calls Try.prog 40 #[.slice la Tl lc] w2 (MsgP m ts w2)) := messages_any (m + 1) _ ts w2 HT2.out HLN.out
          clear hlv
          go_wp2_with fail
          refine HM.out.mono ?_
          rintro e w3 ⟨lv3, M, rfl, hL3, hS3, hb3⟩
          have hbw3 : Below w.heap.size w w3 := hbw2.trans (hb3.mono hbw2.size)
          have HC3 : Hid (cntL m (subsL M) ≤ 1000) := (Nat.le_trans (cnt_step hS3) HC.out : cntL m (subsL M) ≤ 1000)
          have HI : Hid (Calls Try.prog 39 #[lv3] w3 (InsP m M w3)) := inside_any m _ M w3 hL3 (Nat.le_trans (len_subsL hL3) HC3.out)
          have HR3 : Hid ((subsL M).all (okN m) = R) := (by rw [← ok_step hS3 HLV.out]; exact HR.out : (subsL M).all (okN m) = R)
          have HS3 : Hid (∀ x ∈ subsL M, SmN m x) := sm_step hS3 HS.out
          obtain ⟨ma, mc, rfl, -⟩ := RowP.open hL3
          clear hL3 hS3 hb3 hbw2 HM HT2 HC HS HR HLV
          generalize M.length = Ml at *
          go_wp2_with fail
          refine HI.out.mono ?_
          rintro e w4 ⟨iv, rfl, hT4, hb4⟩
          have hbw4 : Below w.heap.size w w4 := hbw3.trans (hb4.mono hbw3.size)
          have HT4 : Hid (TrsQ m w4 iv (subsL M)) := hT4
          clear hT4 hb4 hbw3 HI
          go_wp2_with fail
          go_roundg m
          case measure => omega
          case rel => exact ⟨subsL M, HT4, HC3, HS3, HR3, hbw4⟩
  · have d1 : decide (10 < (D : Int)) = true := by simp; omega
    rw [decide_eq_false hd, Bool.false_and]
    go_enter Try.func22, Try.ntmps22
    go_wp2_with fail
    refine (HDP.out _ hal).mono ?_
    rintro e w1 ⟨rfl, hb1⟩
    have hb : Below w.heap.size w w1 := hal.trans (hb1.mono hal.size)
    have BX := HBX.out.below hb1
    clear hb1 hal HBX HDP
    clear BX
    go_wp2_with fail
    go_ret
    exact ⟨rfl, hb⟩
end Go.Proofs.Ytfnjbbaphmmjlaa

/- What checkValues and checkMethods answer. -/
namespace Go.Proofs.Ytfnjbbaphmmjlaa
open Go.ChangeShapes Go.WideShapes Go.ChangeAt Go.RowKit Go.Maps
set_option linter.unusedVariables false
set_option linter.unusedSimpArgs false
set_option maxRecDepth 20000

theorem numR_low {n : Int} (h : n < 0) : numR n = false := by unfold numR; rw [decide_eq_false (by omega)]
theorem numR_high {n : Int} (h : 2147483647 < n) : numR n = false := by unfold numR; rw [decide_eq_false (by omega)]
theorem numR_in {n : Int} (h : ¬ n < 0) (h2 : ¬ 2147483647 < n) : numR n = true := by unfold numR; rw [decide_eq_true (by omega)]
set_option maxHeartbeats 2000000 in
theorem cvalues_any {w : World} {v : Value} {vs : List NmS} (hr : RowG w v 2 (nmRows vs)) (hl : vs.length ≤ 30000) (hw : ∀ f ∈ vs, NmW f) :
    Calls Try.prog 58 #[v] w fun e w' => e = .returned (.int .i64 (chkVs [] [] vs)) ∧ Below w.heap.size w w' := by
  obtain ⟨a, c, rfl, q1, q2⟩ := hr.form2
  have hN : (nmRows vs).length = vs.length := by simp [nmRows]
  rw [hN] at hr q1 ⊢
  clear hN
  obtain ⟨N, hN⟩ : ∃ N, vs.length = N := ⟨_, rfl⟩
  rw [hN] at hr q1 hl ⊢
  have HN : Hid (vs.length = N) := hN
  have HR : Hid (RowG w (.slice a N c) 2 (nmRows vs)) := hr
  have HW : Hid (∀ f ∈ vs, NmW f) := hw
  clear hN hr hw
  obtain ⟨A, hA⟩ : ∃ A, chkVs [] [] vs = A := ⟨_, rfl⟩
  rw [hA]
  have HA : Hid (A = chkVs [] [] vs) := hA.symm
  clear hA
  have hmm := @run_makeMap Try.prog
  go_enter Try.func58, Try.ntmps58
  go_wp2_with fail
  clear hmm
  have HM0 : SetS ((w.alloc (.map #[] 0)).alloc (.map #[] 0)) w.heap.size 0 [] := SetK.below (SetK.made 9 w) ((Below.refl _ _).alloc (Nat.le_refl _) _)
  have HM1 : SetI ((w.alloc (.map #[] 0)).alloc (.map #[] 0)) (w.heap.size + 1) 0 [] := by
    have := SetK.made 3 (w.alloc (.map #[] 0))
    rwa [show (w.alloc (.map #[] 0)).heap.size = w.heap.size + 1 by simp] at this
  have KP0 : Below w.heap.size w ((w.alloc (.map #[] 0)).alloc (.map #[] 0)) := ((Below.refl _ _).alloc (Nat.le_refl _) _).alloc (by simp) _
  obtain ⟨bn, hbn⟩ : ∃ n, w.heap.size = n := ⟨_, rfl⟩
  rw [hbn] at HM0 HM1 KP0 ⊢
  have HB : Hid (w.heap.size = bn) := hbn
  clear hbn
  go_loopw [11] (fun iv wr => ∃ (k : Nat) (al : List ByteArray) (t : List Int), iv = .int .i64 (k : Int) ∧ k ≤ N ∧ Hid (A = chkVs al t (vs.drop k)) ∧ Hid (SetS wr bn k al) ∧ Hid (SetI wr (bn + 1) k t) ∧ Below bn w wr) (fun iv _ => N - (intOf iv).toNat)
  case atStart => exact ⟨0, [], [], rfl, by omega, HA, HM0, HM1, KP0⟩
  case round =>
    obtain ⟨k, al, t, rfl, hk, HAk, HSn, HSt, hbel⟩ := hrel
    clear HM0 HM1 KP0
    have hbw : bn + 1 < wr.heap.size := SetK.lt HSt.out
    have hbW : Below w.heap.size w wr := by rw [HB.out]; exact hbel
    by_cases hlt : k < N
    · obtain ⟨f, hf⟩ : ∃ n, vs[k]? = some n := ⟨_, List.getElem?_eq_getElem (by rw [HN.out]; exact hlt)⟩
      have hrr : (nmRows vs)[k]? = some f.cells := by simp [nmRows, hf]
      obtain ⟨g, off, rfl, c1⟩ := (HR.out.below hbW).get hrr
      have hfw := HW.out _ (List.mem_of_getElem? hf)
      obtain ⟨f0, f1⟩ := f
      obtain ⟨w1', w2'⟩ := hfw
      simp only at w1' w2'
      have HA2 : Hid (A = if freshB f0 al = false then 6 else if numB f1 t = false then 11 else chkVs (al ++ [f0]) (t ++ [f1]) (vs.drop (k + 1))) := by
        show _ = _
        rw [HAk.out, drop_at hf]; rfl
      have p0 := c1 0 _ rfl
      have p1 := c1 1 _ rfl
      simp only [Nat.add_zero] at p0 p1
      clear c1 hrr hf HAk hbW
      go_wp2_with fail
      clear p0 p1
      have hba : Below wr.heap.size wr (wr.alloc (.cells #[.string f0, .int .i64 f1] 54)) := (Below.refl _ _).alloc (Nat.le_refl _) _
      have BX := Blk.new wr #[.string f0, .int .i64 f1] 54
      refine (newname_any (SetK.below HSn.out hba) w1' (by omega)).mono ?_
      rintro e w1 ⟨rfl, hs1, hk1⟩
      have HS1 : Hid _ := hs1
      clear hs1
      have hb1 : Below bn w w1 := (hbel.alloc (by omega) _).trans (hk1.toBelow (by simp; omega) (fun k e => by omega))
      cases h1 : freshB f0 al
      · go_wp2_with fail
        go_ret
        exact ⟨ret_int (by rw [HA2.out, if_pos h1]), by rw [HB.out]; exact hb1⟩
      · have BX1 := BX.kp hk1 (by omega)
        have b1 : w1.cell? ⟨wr.heap.size, 1, none⟩ = some (.int .i64 f1) := BX1.cell 1
        by_cases hlo : f1 < 0
        · go_wp2_with fail
          go_ret
          exact ⟨ret_int (by rw [HA2.out, if_neg (by rw [h1]; decide), if_pos (by unfold numB; rw [numR_low hlo]; rfl)]), by rw [HB.out]; exact hb1⟩
        · by_cases hhi : 2147483647 < f1
          · go_wp2_with fail
            go_ret
            exact ⟨ret_int (by rw [HA2.out, if_neg (by rw [h1]; decide), if_pos (by unfold numB; rw [numR_high hhi]; rfl)]), by rw [HB.out]; exact hb1⟩
          · have HNB : Hid (numB f1 t = !memI f1 t) := by show _ = _; unfold numB; rw [numR_in hlo hhi]; rfl
            go_wp2_with fail
            clear b1
            refine (add_int (SetK.kp (SetK.below HSt.out hba) hk1 (by omega)) w2' (by omega)).mono ?_
            rintro e w2 ⟨rfl, hs2, hk2⟩
            have HS2 : Hid _ := hs2
            clear hs2
            have hb2 : Below bn w w2 := hb1.trans (hk2.toBelow (by have := hb1.size; have := HB.out; omega) (fun k e => by omega))
            cases h2 : memI f1 t
            · have HA3 : Hid (A = chkVs (al ++ [f0]) (t ++ [f1]) (vs.drop (k + 1))) := by
                show _ = _
                rw [HA2.out, if_neg (by rw [h1]; decide), if_neg (by rw [HNB.out, h2]; decide)]
              have HS1' : Hid (SetS w2 bn (k + 1) (al ++ [f0])) := SetK.kp (HS1.out h1) hk2 (by omega)
              have HS2' : Hid (SetI w2 (bn + 1) (k + 1) (t ++ [f1])) := HS2.out h2
              clear HS1 HS2 hbel hb1 hba hk1 hk2 BX BX1 HA2
              go_wp2_with fail
              go_roundw
              case rel => exact ⟨k + 1, _, _, by go_num, by omega, HA3, HS1', HS2', hb2⟩
              case measure => simp [intOf]; omega
            · go_wp2_with fail
              go_ret
              exact ⟨ret_int (by rw [HA2.out, if_neg (by rw [h1]; decide), if_pos (by rw [HNB.out, h2]; rfl)]), by rw [HB.out]; exact hb2⟩
    · go_wp2_with fail
      go_ret
      exact ⟨ret_int (by rw [HAk.out, drop_end (by rw [HN.out]; omega)]; rfl), hbW⟩
theorem typeB_msg (mn en : List ByteArray) (t : ByteArray) : typeB mn en 7 t = memB t mn := by
  unfold typeB; simp
set_option maxHeartbeats 2000000 in
theorem cmethods_any {w : World} {v : Value} {ts : List MtS} {mn en : List ByteArray} {bY ny : Nat} {T : List (Int × ByteArray)}
    (hr : RowG w v 3 (mtRows ts)) (hl : ts.length ≤ 30000) (hT : SetT w bY ny T) (hTt : ∀ k s, memT (k, s) T = typeB mn en k s) (hw : ∀ f ∈ ts, MtW f) :
    Calls Try.prog 35 #[v, .map (some bY)] w fun e w' => e = .returned (.int .i64 (chkTs mn [] ts)) ∧ Below w.heap.size w w' := by
  obtain ⟨a, c, rfl, q1, q2⟩ := hr.form2
  have hN : (mtRows ts).length = ts.length := by simp [mtRows]
  rw [hN] at hr q1 ⊢
  clear hN
  obtain ⟨N, hN⟩ : ∃ N, ts.length = N := ⟨_, rfl⟩
  rw [hN] at hr q1 hl ⊢
  have HN : Hid (ts.length = N) := hN
  have HR : Hid (RowG w (.slice a N c) 3 (mtRows ts)) := hr
  have HT : Hid (SetT w bY ny T) := hT
  have HTT : Hid (∀ s, memT (7, s) T = memB s mn) := fun s => by rw [hTt, typeB_msg]
  have HW : Hid (∀ f ∈ ts, MtW f) := hw
  clear hN hr hT hTt hw
  obtain ⟨A, hA⟩ : ∃ A, chkTs mn [] ts = A := ⟨_, rfl⟩
  rw [hA]
  have HA : Hid (A = chkTs mn [] ts) := hA.symm
  clear hA
  have hmm := @run_makeMap Try.prog
  go_enter Try.func35, Try.ntmps35
  go_wp2_with fail
  clear hmm
  have HM0 := SetK.made 9 w
  have KP0 : Below w.heap.size w (w.alloc (.map #[] 0)) := (Below.refl _ _).alloc (Nat.le_refl _) _
  obtain ⟨bn, hbn⟩ : ∃ n, w.heap.size = n := ⟨_, rfl⟩
  rw [hbn] at HM0 KP0 ⊢
  have HB : Hid (w.heap.size = bn) := hbn
  clear hbn
  go_loopw [11] (fun iv wr => ∃ (k : Nat) (al : List ByteArray), iv = .int .i64 (k : Int) ∧ k ≤ N ∧ Hid (A = chkTs mn al (ts.drop k)) ∧ Hid (SetS wr bn k al) ∧ Below bn w wr) (fun iv _ => N - (intOf iv).toNat)
  case atStart => exact ⟨0, [], rfl, by omega, HA, HM0, KP0⟩
  case round =>
    obtain ⟨k, al, rfl, hk, HAk, HSn, hbel⟩ := hrel
    clear HM0 KP0
    have hbw : bn < wr.heap.size := SetK.lt HSn.out
    have hbW : Below w.heap.size w wr := by rw [HB.out]; exact hbel
    by_cases hlt : k < N
    · obtain ⟨f, hf⟩ : ∃ n, ts[k]? = some n := ⟨_, List.getElem?_eq_getElem (by rw [HN.out]; exact hlt)⟩
      have hrr : (mtRows ts)[k]? = some f.cells := by simp [mtRows, hf]
      obtain ⟨g, off, rfl, c1⟩ := (HR.out.below hbW).get hrr
      have hfw := HW.out _ (List.mem_of_getElem? hf)
      obtain ⟨f0, f1, f2⟩ := f
      obtain ⟨w1', w2', w3'⟩ := hfw
      simp only at w1' w2' w3'
      have HA2 : Hid (A = if freshB f0 al = false then 6 else if (memB f1 mn && memB f2 mn) = false then 8 else chkTs mn (al ++ [f0]) (ts.drop (k + 1))) := by
        show _ = _
        rw [HAk.out, drop_at hf]; rfl
      have p0 := c1 0 _ rfl
      have p1 := c1 1 _ rfl
      have p2 := c1 2 _ rfl
      simp only [Nat.add_zero] at p0 p1 p2
      have HTr : Hid (SetT wr bY ny T) := SetK.below HT.out hbW
      have hYn : bY < bn := by have := SetK.lt HT.out; have := HB.out; omega
      clear c1 hrr hf HAk hbW
      go_wp2_with fail
      clear p0 p1 p2
      have hba : Below wr.heap.size wr (wr.alloc (.cells #[.string f0, .string f1, .string f2] 56)) := (Below.refl _ _).alloc (Nat.le_refl _) _
      have BX := Blk.new wr #[.string f0, .string f1, .string f2] 56
      refine (newname_any (SetK.below HSn.out hba) w1' (by omega)).mono ?_
      rintro e w1 ⟨rfl, hs1, hk1⟩
      have HS1 : Hid _ := hs1
      clear hs1
      have hb1 : Below bn w w1 := (hbel.alloc (by omega) _).trans (hk1.toBelow (by simp; omega) (fun k e => by omega))
      cases h1 : freshB f0 al
      · go_wp2_with fail
        go_ret
        exact ⟨ret_int (by rw [HA2.out, if_pos h1]), by rw [HB.out]; exact hb1⟩
      · have BX1 := BX.kp hk1 (by omega)
        have b1 : w1.cell? ⟨wr.heap.size, 1, none⟩ = some (.string f1) := BX1.cell 1
        have HT1 : Hid (SetT w1 bY ny T) := SetK.kp (SetK.below HTr.out hba) hk1 (by omega)
        go_wp2_with fail
        refine (msgtype_any _ _).mono ?_
        rintro e w2 ⟨rfl, hb2⟩
        clear b1
        go_wp2_with fail
        refine (has_ty (SetK.below HT1.out hb2) ⟨by decide, by decide⟩ w2').mono ?_
        rintro e w3 ⟨rfl, hb3⟩
        rw [HTT.out]
        have hb13 : Below w1.heap.size w1 w3 := hb2.trans (hb3.mono hb2.size)
        have hbn1 : bn ≤ w1.heap.size := by have := hb1.size; have := HB.out; omega
        have hb03 : Below bn w w3 := hb1.trans (hb13.mono hbn1)
        cases h2 : memB f1 mn
        · go_wp2_with fail
          go_ret
          exact ⟨ret_int (by rw [HA2.out, if_neg (by rw [h1]; decide), if_pos (by rw [h2]; rfl)]), by rw [HB.out]; exact hb03⟩
        · have BX3 := BX1.below hb13
          have b2 : w3.cell? ⟨wr.heap.size, 2, none⟩ = some (.string f2) := BX3.cell 2
          clear hb2 hb3
          go_wp2_with fail
          refine (msgtype_any _ _).mono ?_
          rintro e w4 ⟨rfl, hb4⟩
          clear b2
          go_wp2_with fail
          refine (has_ty (SetK.below (SetK.below HT1.out hb13) hb4) ⟨by decide, by decide⟩ w3').mono ?_
          rintro e w5 ⟨rfl, hb5⟩
          rw [HTT.out]
          have hb35 : Below w3.heap.size w3 w5 := hb4.trans (hb5.mono hb4.size)
          have hb05 : Below bn w w5 := hb03.trans (hb35.mono (Nat.le_trans hbn1 hb13.size))
          cases h3 : memB f2 mn
          · go_wp2_with fail
            go_ret
            exact ⟨ret_int (by rw [HA2.out, if_neg (by rw [h1]; decide), if_pos (by rw [h2, h3]; rfl)]), by rw [HB.out]; exact hb05⟩
          · have HA3 : Hid (A = chkTs mn (al ++ [f0]) (ts.drop (k + 1))) := by
              show _ = _
              rw [HA2.out, if_neg (by rw [h1]; decide), if_neg (by rw [h2, h3]; decide)]
            have HS1' : Hid (SetS w5 bn (k + 1) (al ++ [f0])) := SetK.below (SetK.below (HS1.out h1) hb13) hb35
            clear HS1 hbel hb1 hba hk1 BX BX1 BX3 HA2 hb03 hb35 hb13 hb4 hb5 HT1
            go_wp2_with fail
            go_roundw
            case rel => exact ⟨k + 1, _, by go_num, by omega, HA3, HS1', hb05⟩
            case measure => simp [intOf]; omega
    · go_wp2_with fail
      go_ret
      exact ⟨ret_int (by rw [HAk.out, drop_end (by rw [HN.out]; omega)]; rfl), hbW⟩
end Go.Proofs.Ytfnjbbaphmmjlaa

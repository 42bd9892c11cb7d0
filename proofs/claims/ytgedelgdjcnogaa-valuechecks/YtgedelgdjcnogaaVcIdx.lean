/- slices.IndexFunc and ContainsFunc over trees. -/
import Derived.Test.YtgedelgdjcnogaaTvDepth
namespace Go.Proofs.Ytgedelgdjcnogaa
open Go.ChangeShapes Go.WideShapes Go.ChangeAt Go.RowKit
set_option linter.unusedVariables false
set_option linter.unusedSimpArgs false
set_option maxRecDepth 20000

/-- What a function value answers of each tree. -/
def FunP (n : Nat) (w : World) (ts : List Tr) (f : FuncId) (caps : List Value) (p : Tr → Bool) : Prop :=
  ∀ W x r, Below w.heap.size w W → x ∈ ts → TrQ n W r x → Calls Try.prog f (.agg r.toArray :: caps).toArray W fun e w' => e = .returned (.bool (p x)) ∧ Below W.heap.size W w'
set_option maxHeartbeats 2000000 in
theorem indexW_any (n : Nat) (v : Value) (ts : List Tr) (w : World) (p : Tr → Bool) (h : TrsQ n w v ts) (hf : FunP n w ts 38 [] p) :
    Calls Try.prog 51 #[v, .func (.func 38) #[] #[]] w fun e w' => (∃ k : Int, e = .returned (.int .i64 k) ∧ (0 ≤ k ↔ ts.any p = true)) ∧ Below w.heap.size w w' := by
  obtain ⟨a, cap, rfl, h1, h2, -⟩ := RowP.open h
  obtain ⟨N, hN⟩ : ∃ N, ts.length = N := ⟨_, rfl⟩
  rw [hN] at h1 ⊢
  have HH : Hid (TrsQ n w (.slice a N cap) ts) := (by rw [← hN]; exact h : TrsQ n w (.slice a N cap) ts)
  have HN : Hid (ts.length = N) := hN
  have HF : Hid (FunP n w ts 38 [] p) := hf
  unfold maxLen at h2
  clear h hN hf
  go_enter Try.func51, Try.ntmps51
  go_wp2_with fail
  go_loopw [8] (fun iv wr => ∃ i : Nat, iv = .int .i64 (i : Int) ∧ i ≤ N ∧ Hid (∀ x ∈ ts.take i, p x = false) ∧ Below w.heap.size w wr) (fun iv _ => N - (intOf iv).toNat)
  case atStart => exact ⟨0, rfl, by omega, (by simp : ∀ x ∈ ts.take 0, p x = false), Below.refl _ _⟩
  case round =>
    obtain ⟨i, rfl, hi, HI, hbel⟩ := hrel
    by_cases hlt : i < N
    · obtain ⟨t, ht⟩ : ∃ r, ts[i]? = some r := ⟨_, List.getElem?_eq_getElem (by rw [HN.out]; exact hlt)⟩
      obtain ⟨g, off, rfl, r, hr, hc⟩ := (HH.out.belowTQ hbel).get ht
      have h5 := hr.five
      obtain ⟨r0, r1, r2, r3, r4, rfl⟩ : ∃ a b c d e, r = [a, b, c, d, e] := by
        match r, h5.1 with
        | [a, b, c, d, e], _ => exact ⟨a, b, c, d, e, rfl⟩
      have o0 := h5.2 r0 (by simp)
      have o1 := h5.2 r1 (by simp)
      have o2 := h5.2 r2 (by simp)
      have o3 := h5.2 r3 (by simp)
      have o4 := h5.2 r4 (by simp)
      obtain ⟨ea, el, ec, ra, rl, rc, e1, -⟩ := TrV2.open ⟨_, rfl, hr⟩
      simp only [Value.agg.injEq, Array.mk.injEq, List.cons.injEq, and_true] at e1
      obtain ⟨rfl, rfl, rfl, rfl, rfl⟩ := e1
      have c0 := hc 0 _ rfl
      have c1 := hc 1 _ rfl
      have c2 := hc 2 _ rfl
      have c3 := hc 3 _ rfl
      have c4 := hc 4 _ rfl
      simp only [Nat.add_zero] at c0
      have HC := HF.out wr t _ hbel (List.mem_of_getElem? ht) hr
      have HCC : Hid _ := HC
      have HT : Hid (ts.take (i + 1) = ts.take i ++ [t]) := take_atQ ht
      have HTM : Hid (t ∈ ts) := List.mem_of_getElem? ht
      clear hc h5 o0 o1 o2 o3 o4 HC ht hr
      obtain ⟨R, hR⟩ : ∃ R, p t = R := ⟨_, rfl⟩
      have HR : Hid (p t = R) := hR
      clear hR
      go_wp2_with fail
      refine Calls.mono HCC.out ?_
      rintro e w2 ⟨rfl, hb2⟩
      rw [HR.out]
      have hbw : Below w.heap.size w w2 := hbel.trans (hb2.mono hbel.size)
      clear HCC hb2 c0 c1 c2 c3 c4 hbel
      cases R with
      | true =>
        go_wp2_with fail
        go_ret
        exact ⟨⟨_, rfl, by simp only [Int.natCast_nonneg, true_iff]; exact List.any_eq_true.2 ⟨t, HTM.out, HR.out⟩⟩, hbw⟩
      | false =>
        go_wp2_with fail
        go_roundw
        case rel => exact ⟨i + 1, by go_num, by omega, (by
          rw [HT.out]
          intro x hx
          rcases List.mem_append.1 hx with hx | hx
          · exact HI.out x hx
          · obtain rfl : x = t := by simpa using hx
            exact HR.out : ∀ x ∈ ts.take (i + 1), p x = false), hbw⟩
        case measure => simp [intOf]; omega
    · go_wp2_with fail
      go_ret
      have h5 := HI.out
      rw [List.take_of_length_le (by rw [HN.out]; omega)] at h5
      refine ⟨⟨-1, rfl, ?_⟩, hbel⟩
      have : ts.any p = false := by rw [List.any_eq_false]; intro x hx; rw [h5 x hx]; simp
      rw [this]
      simp
theorem containsW_any (n : Nat) (v : Value) (ts : List Tr) (w : World) (p : Tr → Bool) (h : TrsQ n w v ts) (hf : FunP n w ts 38 [] p) :
    Calls Try.prog 37 #[v, .func (.func 38) #[] #[]] w fun e w' => e = .returned (.bool (ts.any p)) ∧ Below w.heap.size w w' := by
  have HI : Hid _ := indexW_any n v ts w p h hf
  obtain ⟨a, cap, rfl, h1, h2, -⟩ := RowP.open h
  clear h hf
  generalize ts.length = N at *
  obtain ⟨R, hR⟩ : ∃ R, ts.any p = R := ⟨_, rfl⟩
  rw [hR] at HI ⊢
  clear hR
  go_enter Try.func37, Try.ntmps37
  go_wp2_with fail
  refine Calls.mono HI.out ?_
  rintro e w2 ⟨⟨k, rfl, hk⟩, hb⟩
  clear HI
  have hd : decide (0 ≤ k) = R := by
    cases R
    · simpa using hk
    · simpa using hk
  clear hk
  go_wp2_with fail
  go_ret
  exact ⟨rfl, hb⟩
set_option maxHeartbeats 2000000 in
theorem indexK_any (b : Nat) (n : Nat) (v : Value) (ts : List Tr) (w : World) (p : Tr → Bool) (h : TrsQ n w v ts) (hf : FunP n w ts 66 [.pointer (some ⟨b, 0, none⟩)] p) :
    Calls Try.prog 51 #[v, .func (.func 66) #[] #[.pointer (some ⟨b, 0, none⟩)]] w fun e w' => (∃ k : Int, e = .returned (.int .i64 k) ∧ (0 ≤ k ↔ ts.any p = true)) ∧ Below w.heap.size w w' := by
  obtain ⟨a, cap, rfl, h1, h2, -⟩ := RowP.open h
  obtain ⟨N, hN⟩ : ∃ N, ts.length = N := ⟨_, rfl⟩
  rw [hN] at h1 ⊢
  have HH : Hid (TrsQ n w (.slice a N cap) ts) := (by rw [← hN]; exact h : TrsQ n w (.slice a N cap) ts)
  have HN : Hid (ts.length = N) := hN
  have HF : Hid (FunP n w ts 66 [.pointer (some ⟨b, 0, none⟩)] p) := hf
  unfold maxLen at h2
  clear h hN hf
  go_enter Try.func51, Try.ntmps51
  go_wp2_with fail
  go_loopw [8] (fun iv wr => ∃ i : Nat, iv = .int .i64 (i : Int) ∧ i ≤ N ∧ Hid (∀ x ∈ ts.take i, p x = false) ∧ Below w.heap.size w wr) (fun iv _ => N - (intOf iv).toNat)
  case atStart => exact ⟨0, rfl, by omega, (by simp : ∀ x ∈ ts.take 0, p x = false), Below.refl _ _⟩
  case round =>
    obtain ⟨i, rfl, hi, HI, hbel⟩ := hrel
    by_cases hlt : i < N
    · obtain ⟨t, ht⟩ : ∃ r, ts[i]? = some r := ⟨_, List.getElem?_eq_getElem (by rw [HN.out]; exact hlt)⟩
      obtain ⟨g, off, rfl, r, hr, hc⟩ := (HH.out.belowTQ hbel).get ht
      have h5 := hr.five
      obtain ⟨r0, r1, r2, r3, r4, rfl⟩ : ∃ a b c d e, r = [a, b, c, d, e] := by
        match r, h5.1 with
        | [a, b, c, d, e], _ => exact ⟨a, b, c, d, e, rfl⟩
      have o0 := h5.2 r0 (by simp)
      have o1 := h5.2 r1 (by simp)
      have o2 := h5.2 r2 (by simp)
      have o3 := h5.2 r3 (by simp)
      have o4 := h5.2 r4 (by simp)
      obtain ⟨ea, el, ec, ra, rl, rc, e1, -⟩ := TrV2.open ⟨_, rfl, hr⟩
      simp only [Value.agg.injEq, Array.mk.injEq, List.cons.injEq, and_true] at e1
      obtain ⟨rfl, rfl, rfl, rfl, rfl⟩ := e1
      have c0 := hc 0 _ rfl
      have c1 := hc 1 _ rfl
      have c2 := hc 2 _ rfl
      have c3 := hc 3 _ rfl
      have c4 := hc 4 _ rfl
      simp only [Nat.add_zero] at c0
      have HC := HF.out wr t _ hbel (List.mem_of_getElem? ht) hr
      have HCC : Hid _ := HC
      have HT : Hid (ts.take (i + 1) = ts.take i ++ [t]) := take_atQ ht
      have HTM : Hid (t ∈ ts) := List.mem_of_getElem? ht
      clear hc h5 o0 o1 o2 o3 o4 HC ht hr
      obtain ⟨R, hR⟩ : ∃ R, p t = R := ⟨_, rfl⟩
      have HR : Hid (p t = R) := hR
      clear hR
      go_wp2_with fail
      refine Calls.mono HCC.out ?_
      rintro e w2 ⟨rfl, hb2⟩
      rw [HR.out]
      have hbw : Below w.heap.size w w2 := hbel.trans (hb2.mono hbel.size)
      clear HCC hb2 c0 c1 c2 c3 c4 hbel
      cases R with
      | true =>
        go_wp2_with fail
        go_ret
        exact ⟨⟨_, rfl, by simp only [Int.natCast_nonneg, true_iff]; exact List.any_eq_true.2 ⟨t, HTM.out, HR.out⟩⟩, hbw⟩
      | false =>
        go_wp2_with fail
        go_roundw
        case rel => exact ⟨i + 1, by go_num, by omega, (by
          rw [HT.out]
          intro x hx
          rcases List.mem_append.1 hx with hx | hx
          · exact HI.out x hx
          · obtain rfl : x = t := by simpa using hx
            exact HR.out : ∀ x ∈ ts.take (i + 1), p x = false), hbw⟩
        case measure => simp [intOf]; omega
    · go_wp2_with fail
      go_ret
      have h5 := HI.out
      rw [List.take_of_length_le (by rw [HN.out]; omega)] at h5
      refine ⟨⟨-1, rfl, ?_⟩, hbel⟩
      have : ts.any p = false := by rw [List.any_eq_false]; intro x hx; rw [h5 x hx]; simp
      rw [this]
      simp
theorem containsK_any (b : Nat) (n : Nat) (v : Value) (ts : List Tr) (w : World) (p : Tr → Bool) (h : TrsQ n w v ts) (hf : FunP n w ts 66 [.pointer (some ⟨b, 0, none⟩)] p) :
    Calls Try.prog 37 #[v, .func (.func 66) #[] #[.pointer (some ⟨b, 0, none⟩)]] w fun e w' => e = .returned (.bool (ts.any p)) ∧ Below w.heap.size w w' := by
  have HI : Hid _ := indexK_any b n v ts w p h hf
  obtain ⟨a, cap, rfl, h1, h2, -⟩ := RowP.open h
  clear h hf
  generalize ts.length = N at *
  obtain ⟨R, hR⟩ : ∃ R, ts.any p = R := ⟨_, rfl⟩
  rw [hR] at HI ⊢
  clear hR
  go_enter Try.func37, Try.ntmps37
  go_wp2_with fail
  refine Calls.mono HI.out ?_
  rintro e w2 ⟨⟨k, rfl, hk⟩, hb⟩
  clear HI
  have hd : decide (0 ≤ k) = R := by
    cases R
    · simpa using hk
    · simpa using hk
  clear hk
  go_wp2_with fail
  go_ret
  exact ⟨rfl, hb⟩
end Go.Proofs.Ytgedelgdjcnogaa

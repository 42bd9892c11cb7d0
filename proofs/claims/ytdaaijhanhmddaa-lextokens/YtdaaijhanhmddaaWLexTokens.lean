/- LexTokens answers true at every text. -/
import Derived.Test.YtdaaijhanhmddaaLxRefT
import Derived.Test.YtdaaijhanhmddaaLxAwake
namespace Go.Proofs.Ytdaaijhanhmddaa
open Go.ChangeShapes Go.WideShapes Go.ChangeAt Go.RowKit
set_option linter.unusedVariables false
set_option linter.unusedSimpArgs false
set_option maxRecDepth 20000

theorem rtokens_row (s : ByteArray) (w : World) (hs : s.size ≤ 140737488351232) (ts : List Tk) (p e : Nat) (h : tokA s = (ts, p, e)) :
    Calls Try.prog 10 #[.string s] w fun x w' => ∃ v, x = .returned (.tuple #[v, .int .i64 (p : Int), .int .i64 (e : Int)]) ∧ RowT w' v ts ∧ Below w.heap.size w w' := by
  refine (rtokens_any s w hs).mono ?_
  rintro x w' ⟨v, rfl, ho, hb⟩
  rw [h] at ho ⊢
  exact ⟨v, rfl, row_own ho, hb⟩
theorem tokA_len (s : ByteArray) : (tokA s).1.length ≤ 16384 := by
  unfold tokA
  split
  · simp
  · rename_i h
    cases e : lexO s.data.toList 0 with
    | inl x => simp [ansA]
    | inr ts =>
      obtain ⟨pos, h1, _⟩ := lex_ok e
      have := h1.bd
      rw [len_data] at this
      simp only [ansA]; omega

set_option maxHeartbeats 4000000 in
theorem lexTokens_walk (s : ByteArray) (hs : s.size ≤ 140737488351232) (w : World) :
    Calls Try.prog 3 #[.string s] w fun e w' => e = .returned (.bool true) ∧ Below w.heap.size w w' := by
  have hl := tokA_len s
  obtain ⟨ts, p, e, hT⟩ : ∃ ts p e, tokA s = (ts, p, e) := ⟨_, _, _, rfl⟩
  rw [hT] at hl
  simp only at hl
  obtain ⟨n, b, hN⟩ : ∃ n b, numA s.data.toList = (n, b) := ⟨_, _, rfl⟩
  have HC1 : Hid (∀ W : World, Calls Try.prog 9 #[.string s] W fun x w' => ∃ v, x = .returned (.tuple #[v, .int .i64 (p : Int), .int .i64 (e : Int)]) ∧ RowT w' v ts ∧ Below W.heap.size W w') := fun W => tokens_row s W hs ts p e hT
  have HC2 : Hid (∀ W : World, Calls Try.prog 10 #[.string s] W fun x w' => ∃ v, x = .returned (.tuple #[v, .int .i64 (p : Int), .int .i64 (e : Int)]) ∧ RowT w' v ts ∧ Below W.heap.size W w') := fun W => rtokens_row s W hs ts p e hT
  have HC3 : Hid (∀ W : World, Calls Try.prog 11 #[.string s] W fun x w' => x = .returned (.tuple #[.int .i64 (n : Int), .bool b]) ∧ Below W.heap.size W w') := fun W => by
    have := number_any s W hs
    rwa [hN] at this
  have HC4 : Hid (∀ W : World, Calls Try.prog 12 #[.string s] W fun x w' => x = .returned (.tuple #[.int .i64 (n : Int), .bool b]) ∧ w' = W) := fun W => by
    have := rnumber_any s W hs
    rwa [hN] at this
  clear hT hN
  go_enter Try.func3, Try.ntmps3
  go_wp2_with fail
  refine (HC1.out _).mono ?_
  rintro x w1 ⟨v1, rfl, hr1, hb1⟩
  go_wp2_with fail
  refine (HC2.out _).mono ?_
  rintro x w2 ⟨v2, rfl, hr2, hb2⟩
  have hbb : Below w.heap.size w w2 := hb1.trans (hb2.mono hb1.size)
  have hr1' := hr1.below hb2
  obtain ⟨a1, c1, rfl, h12, h13, h14, h15⟩ := hr1'.form
  obtain ⟨a2, c2, rfl, h22, h23, h24, h25⟩ := hr2.form
  have HA1 : Hid (ts ≠ [] → ∃ g, a1 = some ⟨g, 0, none⟩) := h14
  have HA2 : Hid (ts ≠ [] → ∃ g, a2 = some ⟨g, 0, none⟩) := h24
  have HH1 : Hid (HoldsT w2 a1 ts) := h15
  have HH2 : Hid (HoldsT w2 a2 ts) := h25
  unfold maxLen at h13 h23
  obtain ⟨N, hN⟩ : ∃ N, ts.length = N := ⟨_, rfl⟩
  rw [hN] at h12 h22 hl ⊢
  have HN : Hid (ts.length = N) := hN
  clear hN h14 h24 h15 h25 hr1 hr2 hr1' hb1 hb2 HC1 HC2
  go_wp2_with fail
  go_loopw [9] (fun iv wr => ∃ i : Nat, iv = .int .i64 (i : Int) ∧ i ≤ N ∧ Below w2.heap.size w2 wr) (fun iv _ => N - (intOf iv).toNat)
  case atStart => exact ⟨0, rfl, by omega, Below.refl _ _⟩
  case round =>
    obtain ⟨i, rfl, hi, hbel⟩ := hrel
    by_cases hlt : i < N
    · have hr : ts[i]? = some (ts[i]'(by rw [HN.out]; exact hlt)) := List.getElem?_eq_getElem _
      generalize ts[i]'(by rw [HN.out]; exact hlt) = r at hr
      have hne : ts ≠ [] := by intro e; have := HN.out; rw [e] at this; simp at this; omega
      obtain ⟨g1, rfl⟩ := HA1.out hne
      obtain ⟨g2, rfl⟩ := HA2.out hne
      obtain ⟨p0, p1, p2⟩ := (HH1.out.below hbel).at0 hr
      obtain ⟨q0, q1, q2⟩ := (HH2.out.below hbel).at0 hr
      generalize r.bytes = B at *
      generalize r.kind = K at *
      generalize r.pos = P at *
      clear hr hne
      go_wp2_with fail
      go_quiet (fail)
      have hbn := below_drewN nq hbel
      clear p0 p1 p2 q0 q1 q2 hbel
      go_wp2_with fail
      go_roundw
      case rel => exact ⟨i + 1, by go_num, by omega, hbn⟩
      case measure => simp [intOf]; omega
    · have hbb2 : Below w.heap.size w wr := hbb.trans (hbel.mono hbb.size)
      clear hbel hbb
      go_wp2_with fail
      refine (HC3.out _).mono ?_
      rintro x w3 ⟨rfl, hb3⟩
      have hbb3 : Below w.heap.size w w3 := hbb2.trans (hb3.mono hbb2.size)
      go_wp2_with fail
      refine (HC4.out _).mono ?_
      rintro x w4 ⟨rfl, rfl⟩
      go_wp2_with fail
      refine (lawake_any _).mono ?_
      rintro x w5 ⟨rfl, hb5⟩
      go_wp2_with fail
      go_ret
      exact ⟨rfl, hbb3.trans (hb5.mono hbb3.size)⟩
end Go.Proofs.Ytdaaijhanhmddaa

/- LexFirst answers true at every text. -/
import Derived.Test.YtdaaijhanhmddabLxUse
namespace Go.Proofs.Ytdaaijhanhmddab
open Go.ChangeShapes Go.WideShapes Go.ChangeAt Go.RowKit
set_option linter.unusedVariables false
set_option linter.unusedSimpArgs false
set_option maxRecDepth 20000

/-- A text with an error: what stands ahead of the place, and what stands there. -/
theorem first_cut {l : List UInt8} {p e : Nat} (h : lexO l 0 = .inl (p, e)) : ∃ ts, lexO (l.take p) 0 = .inr ts ∧ (∀ t, ts.getLast? = some t → t.pos < p) ∧ lexO (l.drop p) 0 = .inl (0, e) := by
  obtain ⟨pos, acc, h1, h2⟩ := lex_ends l
  have hb := h1.bd
  have hsk := skipN_le (l.drop pos)
  rw [List.length_drop] at hsk
  have hp : p = pos + skipN (l.drop pos) ∧ p < l.length ∧ lexO (l.drop p) 0 = .inl (0, e) := by
    have h00 : ∀ q, q = pos + skipN (l.drop pos) → skipN (l.drop q) = 0 := fun q hq => by
      have := skipN_again (l.drop pos)
      rwa [List.drop_drop, ← hq] at this
    rw [h] at h2
    rcases h2 with ⟨_, h5⟩ | ⟨h3, h4, h5⟩ | ⟨c, m, h3, h4, h5⟩
    · cases h5
    · simp only [Sum.inl.injEq, Prod.mk.injEq] at h5
      obtain ⟨rfl, rfl⟩ := h5
      refine ⟨rfl, h3, ?_⟩
      have h0 := h00 _ rfl
      have := lexO_text (l := l.drop (pos + skipN (l.drop pos))) (by rw [h0, List.length_drop]; omega) (by rw [h0, List.drop_zero]; exact h4) 0
      rw [this, h0]
    · simp only [Sum.inl.injEq, Prod.mk.injEq] at h5
      obtain ⟨rfl, rfl⟩ := h5
      have h0 := h00 _ rfl
      have hl := nx_len h3
      rw [List.length_drop] at hl
      refine ⟨rfl, by omega, ?_⟩
      have := lexO_syn (l := l.drop (pos + skipN (l.drop pos))) (by rw [h0, List.drop_zero]; exact h3) h4 0
      rw [this, h0]
  obtain ⟨hp1, hp2, hp3⟩ := hp
  have hdt : (l.take p).drop pos = (l.drop pos).take (skipN (l.drop pos)) := by rw [List.drop_take, show p - pos = skipN (l.drop pos) from by omega]
  have hread : Read (l.take p) pos acc := by
    refine h1.move ?_ ?_
    · rw [List.take_take, Nat.min_eq_left (by omega)]
    · intro t ht
      rw [hdt]
      by_cases h0 : skipN (l.drop pos) = 0
      · rw [h0, List.take_zero]; rfl
      · exact contB_skip (by rw [skipN_take]; omega)
  refine ⟨acc, hread.fin ?_, ?_, hp3⟩
  · rw [hdt, skipN_take, List.length_take]; omega
  · intro t ht
    have he := h1.endOf
    unfold endOf at he
    rw [ht] at he
    simp only at he
    rcases h1.inv with ⟨_, rfl⟩ | ⟨p0, a0, t0, _, hs, rfl⟩
    · simp at ht
    · rw [List.getLast?_append] at ht
      simp at ht
      subst ht
      have := hs.bd
      omega

set_option maxHeartbeats 4000000 in
theorem first_ok (s : ByteArray) (w : World) (hs : s.size ≤ 3000) (ts : List Tk) (hT : lexO s.data.toList 0 = .inr ts) :
    Calls Try.prog 3 #[.string s] w fun e w' => e = .returned (.bool true) ∧ Below w.heap.size w w' := by
  have HC1 : Hid (∀ W : World, Calls Try.prog 5 #[.string s] W fun x w' => ∃ v, x = .returned (.tuple #[v, .int .i64 ((0 : Nat) : Int), .int .i64 ((0 : Nat) : Int)]) ∧ RowT w' v ts ∧ Below W.heap.size W w') := fun W => tokens_row s W (by omega) ts 0 0 (tokA_ok (by omega) hT)
  have hd : decide (3000 < (s.size : Int)) = false := by simp; omega
  clear hT
  go_enter Try.func3, Try.ntmps3
  go_wp2_with fail
  refine (HC1.out _).mono ?_
  rintro x w1 ⟨v1, rfl, hr1, hb1⟩
  clear hr1
  go_wp2_with fail
  refine (lawake_any _).mono ?_
  rintro x w2 ⟨rfl, hb2⟩
  go_wp2_with fail
  go_ret
  exact ⟨rfl, hb1.trans (hb2.mono hb1.size)⟩

set_option maxHeartbeats 4000000 in
theorem first_no (s : ByteArray) (w : World) (hs : s.size ≤ 3000) (p e : Nat) (hT : lexO s.data.toList 0 = .inl (p, e)) :
    Calls Try.prog 3 #[.string s] w fun e w' => e = .returned (.bool true) ∧ Below w.heap.size w w' := by
  have he := lex_err hT
  rw [len_data] at he
  obtain ⟨ts, q1, q2, q3⟩ := first_cut hT
  have HC1 : Hid (∀ W : World, Calls Try.prog 5 #[.string s] W fun x w' => ∃ v, x = .returned (.tuple #[v, .int .i64 (p : Int), .int .i64 (e : Int)]) ∧ RowT w' v [] ∧ Below W.heap.size W w') := fun W => tokens_row s W (by omega) [] p e (tokA_no (by omega) hT)
  have hx1 : (s.extract 0 p).data.toList = s.data.toList.take p := by have := extract_list s 0 p; rwa [Nat.zero_add, List.drop_zero] at this
  have HC2 : Hid (∀ W : World, Calls Try.prog 5 #[.string (s.extract 0 p)] W fun x w' => ∃ v, x = .returned (.tuple #[v, .int .i64 ((0 : Nat) : Int), .int .i64 ((0 : Nat) : Int)]) ∧ RowT w' v ts ∧ Below W.heap.size W w') := fun W => by
    have hz : (s.extract 0 p).size ≤ 16384 := by rw [ByteArray.size_extract]; omega
    exact tokens_row _ W (by omega) ts 0 0 (tokA_ok hz (by rw [hx1]; exact q1))
  have HC3 : Hid (∀ W : World, Calls Try.prog 5 #[.string (s.extract p s.size)] W fun x w' => ∃ v, x = .returned (.tuple #[v, .int .i64 ((0 : Nat) : Int), .int .i64 (e : Int)]) ∧ RowT w' v [] ∧ Below W.heap.size W w') := fun W => by
    have hz : (s.extract p s.size).size ≤ 16384 := by rw [ByteArray.size_extract]; omega
    exact tokens_row _ W (by omega) [] 0 e (tokA_no hz (by rw [extract_drop]; exact q3))
  have hl := lex_len q1
  rw [List.length_take, len_data] at hl
  have HQ : Hid (∀ t, ts.getLast? = some t → t.pos < p) := q2
  have hd : decide (3000 < (s.size : Int)) = false := by simp; omega
  have hne : ((e : Int) == 0) = false := by rw [beq_eq_false_iff_ne]; omega
  have hps : p < s.size := he.2
  have hd2 : decide (s.size ≤ p) = false := by simp; omega
  clear hT he q1 q2 q3 hx1
  go_enter Try.func3, Try.ntmps3
  go_wp2_with fail
  refine (HC1.out _).mono ?_
  rintro x w1 ⟨v1, rfl, hr1, hb1⟩
  obtain ⟨a1, c1, rfl, h12, h13, h14, h15⟩ := hr1.form
  clear h12 h13 h14 h15 hr1
  go_wp2_with fail
  refine (HC2.out _).mono ?_
  rintro x w2 ⟨v2, rfl, hr2, hb2⟩
  have hbb2 : Below w.heap.size w w2 := hb1.trans (hb2.mono hb1.size)
  go_wp2_with fail
  refine (HC3.out _).mono ?_
  rintro x w3 ⟨v3, rfl, hr3, hb3⟩
  have hbb3 : Below w.heap.size w w3 := hbb2.trans (hb3.mono hbb2.size)
  obtain ⟨a2, c2, rfl, h22, h23, h24, h25⟩ := (hr2.below hb3).form
  unfold maxLen at h23
  clear hr3 hr2 hb1 hb2 hb3 hbb2 HC1 HC2 HC3
  obtain ⟨N, hN⟩ : ∃ N, ts.length = N := ⟨_, rfl⟩
  rw [hN] at h22 hl ⊢
  have HN : Hid (ts.length = N) := hN
  clear hN
  by_cases h0 : N = 0
  · have hn0 : ((N : Int) == 0) = true := by rw [beq_iff_eq]; omega
    clear h24 h25
    go_wp2_with fail
    refine (lawake_any _).mono ?_
    rintro x w4 ⟨rfl, hb4⟩
    go_wp2_with fail
    go_ret
    exact ⟨rfl, hbb3.trans (hb4.mono hbb3.size)⟩
  · have hn0 : ((N : Int) == 0) = false := by rw [beq_eq_false_iff_ne]; omega
    have hne2 : ts ≠ [] := by intro e; have := HN.out; rw [e] at this; simp at this; omega
    obtain ⟨g, rfl⟩ := h24 hne2
    obtain ⟨t, ht⟩ : ∃ t, ts.getLast? = some t := by
      cases h : ts.getLast? with
      | none => rw [List.getLast?_eq_none_iff] at h; exact absurd h hne2
      | some t => exact ⟨t, rfl⟩
    have htp := HQ.out t ht
    have hti : ts[N - 1]? = some t := by rw [List.getLast?_eq_getElem?, HN.out] at ht; exact ht
    obtain ⟨p0, p1, p2⟩ := h25.at0 hti
    generalize t.pos = P at *
    clear h24 h25 ht hti hne2
    obtain ⟨M, hM⟩ : ∃ M, N - 1 = M := ⟨_, rfl⟩
    have hMN : N = M + 1 := by omega
    rw [hM] at p2
    subst hMN
    clear p0 p1 hM
    go_wp2_with fail
    refine (lawake_any _).mono ?_
    rintro x w4 ⟨rfl, hb4⟩
    go_wp2_with fail
    go_ret
    exact ⟨rfl, hbb3.trans (hb4.mono hbb3.size)⟩

set_option maxHeartbeats 1000000 in
theorem lexFirst_walk (s : ByteArray) (hs : s.size ≤ 140737488351232) (w : World) :
    Calls Try.prog 3 #[.string s] w fun e w' => e = .returned (.bool true) ∧ Below w.heap.size w w' := by
  by_cases hbig : 3000 < s.size
  · have hd : decide (3000 < (s.size : Int)) = true := by simp; omega
    go_enter Try.func3, Try.ntmps3
    go_wp2_with fail
    refine (lawake_any _).mono ?_
    rintro x w1 ⟨rfl, hb1⟩
    go_wp2_with fail
    go_ret
    exact ⟨rfl, hb1⟩
  · cases e : lexO s.data.toList 0 with
    | inl x =>
      obtain ⟨p, er⟩ := x
      exact first_no s w (by omega) p er e
    | inr ts => exact first_ok s w (by omega) ts e
end Go.Proofs.Ytdaaijhanhmddab

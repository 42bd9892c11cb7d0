/- LexJoins answers true at every two texts. -/
import Derived.Test.YtdaaijhanhmddaaLxJoin
namespace Go.Proofs.Ytdaaijhanhmddaa
open Go.ChangeShapes Go.WideShapes Go.ChangeAt Go.RowKit
set_option linter.unusedVariables false
set_option linter.unusedSimpArgs false
set_option maxRecDepth 20000

theorem joins_list (a b : ByteArray) : (a ++ ⟨#[10]⟩ ++ b).data.toList = a.data.toList ++ 10 :: b.data.toList := by
  rw [ByteArray.data_append, ByteArray.data_append]
  simp
theorem shift_get {y : List Tk} {n j : Nat} {r : Tk} (h : (y.map (shiftT n))[j]? = some r) : ∃ t, y[j]? = some t ∧ r.kind = t.kind ∧ r.bytes = t.bytes ∧ r.pos = t.pos + n := by
  rw [List.getElem?_map] at h
  cases e : y[j]? with
  | none => rw [e] at h; cases h
  | some t =>
    rw [e] at h
    simp at h
    subst h
    exact ⟨t, rfl, rfl, rfl, rfl⟩

set_option maxHeartbeats 4000000 in
theorem joins_ok (a b : ByteArray) (w : World) (hsa : a.size ≤ 2000) (hsb : b.size ≤ 2000) (x y : List Tk) (ha : lexO a.data.toList 0 = .inr x) (hb : lexO b.data.toList 0 = .inr y) :
    Calls Try.prog 8 #[.string a, .string b] w fun e w' => e = .returned (.bool true) ∧ Below w.heap.size w w' := by
  have HC1 : Hid (∀ W : World, Calls Try.prog 9 #[.string a] W fun q w' => ∃ v, q = .returned (.tuple #[v, .int .i64 ((0 : Nat) : Int), .int .i64 ((0 : Nat) : Int)]) ∧ RowT w' v x ∧ Below W.heap.size W w') := fun W => tokens_row a W (by omega) x 0 0 (tokA_ok (by omega) ha)
  have HC2 : Hid (∀ W : World, Calls Try.prog 9 #[.string b] W fun q w' => ∃ v, q = .returned (.tuple #[v, .int .i64 ((0 : Nat) : Int), .int .i64 ((0 : Nat) : Int)]) ∧ RowT w' v y ∧ Below W.heap.size W w') := fun W => tokens_row b W (by omega) y 0 0 (tokA_ok (by omega) hb)
  have hj := lex_join ha hb
  rw [len_data, ← joins_list] at hj
  obtain ⟨z, hz⟩ : ∃ z, x ++ y.map (shiftT (a.size + 1)) = z := ⟨_, rfl⟩
  rw [hz] at hj
  have hsz : (a ++ ⟨#[10]⟩ ++ b).size ≤ 16384 := by
    rw [← len_data, joins_list, List.length_append, List.length_cons, len_data, len_data]; omega
  have HC3 : Hid (∀ W : World, Calls Try.prog 9 #[.string (a ++ ⟨#[10]⟩ ++ b)] W fun q w' => ∃ v, q = .returned (.tuple #[v, .int .i64 ((0 : Nat) : Int), .int .i64 ((0 : Nat) : Int)]) ∧ RowT w' v z ∧ Below W.heap.size W w') := fun W => tokens_row _ W (by omega) z 0 0 (tokA_ok hsz hj)
  have hl1 := lex_len ha
  have hl2 := lex_len hb
  rw [len_data] at hl1 hl2
  have HZ1 : Hid (∀ i r, i < x.length → z[i]? = some r → x[i]? = some r) := fun i r hi h => by rw [← hz, List.getElem?_append_left hi] at h; exact h
  have HZ2 : Hid (∀ i r, x.length ≤ i → z[i]? = some r → ∃ t, y[i - x.length]? = some t ∧ r.kind = t.kind ∧ r.bytes = t.bytes ∧ r.pos = t.pos + (a.size + 1)) := fun i r hi h => by
    rw [← hz, List.getElem?_append_right hi] at h
    exact shift_get h
  have HZL : Hid (z.length = x.length + y.length) := by show _ = _; rw [← hz, List.length_append, List.length_map]
  have HP : Hid (∀ (i : Nat) (t : Tk), y[i]? = some t → t.pos ≤ 2000) := fun i t h => by
    have := (piece_at hb h).2.1
    rw [len_data] at this
    omega
  have hd1 : decide (2000 < (a.size : Int)) = false := by simp; omega
  have hd2 : decide (2000 < (b.size : Int)) = false := by simp; omega
  clear ha hb hj hz hsz
  go_enter Try.func8, Try.ntmps8
  go_wp2_with fail
  refine (HC1.out _).mono ?_
  rintro q w1 ⟨v1, rfl, hr1, hb1⟩
  go_wp2_with fail
  refine (HC2.out _).mono ?_
  rintro q w2 ⟨v2, rfl, hr2, hb2⟩
  have hbb2 : Below w.heap.size w w2 := hb1.trans (hb2.mono hb1.size)
  have hr1' := hr1.below hb2
  clear hr1 hb1 hb2
  go_wp2_with fail
  refine (HC3.out _).mono ?_
  rintro q w3 ⟨v3, rfl, hr3, hb3⟩
  have hbb3 : Below w.heap.size w w3 := hbb2.trans (hb3.mono hbb2.size)
  obtain ⟨a1, c1, rfl, h12, h13, h14, h15⟩ := (hr1'.below hb3).form
  obtain ⟨a2, c2, rfl, h22, h23, h24, h25⟩ := (hr2.below hb3).form
  obtain ⟨a3, c3, rfl, h32, h33, h34, h35⟩ := hr3.form
  have HA1 : Hid (x ≠ [] → ∃ g, a1 = some ⟨g, 0, none⟩) := h14
  have HA2 : Hid (y ≠ [] → ∃ g, a2 = some ⟨g, 0, none⟩) := h24
  have HA3 : Hid (z ≠ [] → ∃ g, a3 = some ⟨g, 0, none⟩) := h34
  have HH1 : Hid (HoldsT w3 a1 x) := h15
  have HH2 : Hid (HoldsT w3 a2 y) := h25
  have HH3 : Hid (HoldsT w3 a3 z) := h35
  unfold maxLen at h13 h23 h33
  clear h14 h24 h34 h15 h25 h35 hr1' hr2 hr3 hb3 hbb2 HC1 HC2 HC3
  rw [HZL.out] at h32 ⊢
  obtain ⟨X, hX⟩ : ∃ X, x.length = X := ⟨_, rfl⟩
  obtain ⟨Y, hY⟩ : ∃ Y, y.length = Y := ⟨_, rfl⟩
  rw [hX] at h12 h32 hl1 HZ1 HZ2 HZL ⊢
  rw [hY] at h22 h32 hl2 HZL ⊢
  have HX : Hid (x.length = X) := hX
  have HY : Hid (y.length = Y) := hY
  clear hX hY
  go_wp2_with fail
  go_loopw [14] (fun iv wr => ∃ i : Nat, iv = .int .i64 (i : Int) ∧ i ≤ X + Y ∧ Below w3.heap.size w3 wr) (fun iv _ => X + Y - (intOf iv).toNat)
  case atStart => exact ⟨0, rfl, by omega, Below.refl _ _⟩
  case round =>
    obtain ⟨i, rfl, hi, hbel⟩ := hrel
    by_cases hlt : i < X + Y
    · have hr : z[i]? = some (z[i]'(by rw [HZL.out]; exact hlt)) := List.getElem?_eq_getElem _
      generalize z[i]'(by rw [HZL.out]; exact hlt) = r at hr
      have hne3 : z ≠ [] := by intro e; have := HZL.out; rw [e] at this; simp at this; omega
      obtain ⟨g3, rfl⟩ := HA3.out hne3
      have hbn0 : ∀ o, Below w3.heap.size w3 (wr.alloc o) := fun o => hbel.alloc hbel.size o
      have q0 := fun o => ((HH3.out.below (hbn0 o)).at0 hr).1
      have q1 := fun o => ((HH3.out.below (hbn0 o)).at0 hr).2.1
      have q2 := fun o => ((HH3.out.below (hbn0 o)).at0 hr).2.2
      by_cases hix : i < X
      · have hx := HZ1.out i r hix hr
        have hne1 : x ≠ [] := by intro e; have := HX.out; rw [e] at this; simp at this; omega
        obtain ⟨g1, rfl⟩ := HA1.out hne1
        have p0 := fun o => ((HH1.out.below (hbn0 o)).at0 hx).1
        have p1 := fun o => ((HH1.out.below (hbn0 o)).at0 hx).2.1
        have p2 := fun o => ((HH1.out.below (hbn0 o)).at0 hx).2.2
        have hdx : decide (i < X) = true := by simp; omega
        generalize r.bytes = B at *
        generalize r.kind = K at *
        generalize r.pos = P at *
        clear hr hne3 hne1 hx
        go_wp2_with fail
        go_quiet (fail)
        have hbn := below_drewN nq (hbn0 (Obj.cells #[.int .i64 (K : Int), .string B, .int .i64 (P : Int)] 27))
        clear p0 p1 p2 q0 q1 q2 hbel hbn0
        go_wp2_with fail
        go_roundw
        case rel => exact ⟨i + 1, by go_num, by omega, hbn⟩
        case measure => simp [intOf]; omega
      · obtain ⟨t, ht, e1, e2, e3⟩ := HZ2.out i r (by omega) hr
        have hne2 : y ≠ [] := by intro e; rw [e] at ht; simp at ht
        obtain ⟨g2, rfl⟩ := HA2.out hne2
        have p0 := fun o => ((HH2.out.below (hbn0 o)).at0 ht).1
        have p1 := fun o => ((HH2.out.below (hbn0 o)).at0 ht).2.1
        have p2 := fun o => ((HH2.out.below (hbn0 o)).at0 ht).2.2
        have htp := HP.out _ t ht
        simp only [e1] at q0
        simp only [e2] at q1
        simp only [e3] at q2
        have hdx : decide (i < X) = false := by simp; omega
        generalize t.bytes = B at *
        generalize t.kind = K at *
        generalize t.pos = P at *
        clear hr hne3 hne2 ht e1 e2 e3
        obtain ⟨j, hj⟩ : ∃ j, i - X = j := ⟨_, rfl⟩
        simp only [hj] at p0 p1 p2
        have hji : i = X + j := by omega
        subst hji
        clear hj
        go_wp2_with fail
        go_quiet (fail)
        have hbn := below_drewN nq (hbn0 (Obj.cells #[.int .i64 (K : Int), .string B, .int .i64 ((P : Int) + (a.size : Int) + 1)] 27))
        clear p0 p1 p2 q0 q1 q2 hbel hbn0
        go_wp2_with fail
        go_roundw
        case rel => exact ⟨X + j + 1, by go_num, by omega, hbn⟩
        case measure => simp [intOf]; omega
    · have hbb2 : Below w.heap.size w wr := hbb3.trans (hbel.mono hbb3.size)
      clear hbel hbb3
      go_wp2_with fail
      refine (lawake_any _).mono ?_
      rintro q w5 ⟨rfl, hb5⟩
      go_wp2_with fail
      go_ret
      exact ⟨rfl, hbb2.trans (hb5.mono hbb2.size)⟩

set_option maxHeartbeats 4000000 in
theorem joins_no (a b : ByteArray) (w : World) (hsa : a.size ≤ 2000) (hsb : b.size ≤ 2000) (x y : List Tk) (p e q f : Nat) (ha : tokA a = (x, p, e)) (hb : tokA b = (y, q, f)) (hef : e ≠ 0 ∨ (e = 0 ∧ f ≠ 0)) :
    Calls Try.prog 8 #[.string a, .string b] w fun e w' => e = .returned (.bool true) ∧ Below w.heap.size w w' := by
  have HC1 : Hid (∀ W : World, Calls Try.prog 9 #[.string a] W fun q w' => ∃ v, q = .returned (.tuple #[v, .int .i64 (p : Int), .int .i64 (e : Int)]) ∧ RowT w' v x ∧ Below W.heap.size W w') := fun W => tokens_row a W (by omega) x p e ha
  have HC2 : Hid (∀ W : World, Calls Try.prog 9 #[.string b] W fun z w' => ∃ v, z = .returned (.tuple #[v, .int .i64 (q : Int), .int .i64 (f : Int)]) ∧ RowT w' v y ∧ Below W.heap.size W w') := fun W => tokens_row b W (by omega) y q f hb
  have hd1 : decide (2000 < (a.size : Int)) = false := by simp; omega
  have hd2 : decide (2000 < (b.size : Int)) = false := by simp; omega
  have hgo : ((e : Int) != 0) = true ∨ (((e : Int) != 0) = false ∧ ((f : Int) != 0) = true) := by
    rcases hef with h | ⟨h, h'⟩
    · left; simp; omega
    · right; constructor
      · simp; omega
      · simp; omega
  clear ha hb hef
  rcases hgo with h1 | ⟨h1, h2⟩
  all_goals
    go_enter Try.func8, Try.ntmps8
    go_wp2_with fail
    refine (HC1.out _).mono ?_
    rintro z w1 ⟨v1, rfl, hr1, hb1⟩
    clear hr1
    go_wp2_with fail
    refine (HC2.out _).mono ?_
    rintro z w2 ⟨v2, rfl, hr2, hb2⟩
    have hbb2 : Below w.heap.size w w2 := hb1.trans (hb2.mono hb1.size)
    clear hr2
    go_wp2_with fail
    refine (lawake_any _).mono ?_
    rintro z w3 ⟨rfl, hb3⟩
    go_wp2_with fail
    go_ret
    exact ⟨rfl, hbb2.trans (hb3.mono hbb2.size)⟩

set_option maxHeartbeats 1000000 in
theorem lexJoins_walk (a b : ByteArray) (ha : a.size ≤ 140737488351232) (hb : b.size ≤ 140737488351232) (w : World) :
    Calls Try.prog 8 #[.string a, .string b] w fun e w' => e = .returned (.bool true) ∧ Below w.heap.size w w' := by
  by_cases h1 : 2000 < a.size
  · have hd : decide (2000 < (a.size : Int)) = true := by simp; omega
    go_enter Try.func8, Try.ntmps8
    go_wp2_with fail
    refine (lawake_any _).mono ?_
    rintro x w1 ⟨rfl, hb1⟩
    go_wp2_with fail
    go_ret
    exact ⟨rfl, hb1⟩
  · by_cases h2 : 2000 < b.size
    · have hd1 : decide (2000 < (a.size : Int)) = false := by simp; omega
      have hd : decide (2000 < (b.size : Int)) = true := by simp; omega
      go_enter Try.func8, Try.ntmps8
      go_wp2_with fail
      refine (lawake_any _).mono ?_
      rintro x w1 ⟨rfl, hb1⟩
      go_wp2_with fail
      go_ret
      exact ⟨rfl, hb1⟩
    · cases ea : lexO a.data.toList 0 with
      | inl x =>
        obtain ⟨p, e⟩ := x
        have := (lex_err ea).1
        exact joins_no a b w (by omega) (by omega) [] (tokA b).1 p e (tokA b).2.1 (tokA b).2.2 (tokA_no (by omega) ea) rfl (.inl (by omega))
      | inr x =>
        cases eb : lexO b.data.toList 0 with
        | inl y =>
          obtain ⟨p, e⟩ := y
          have := (lex_err eb).1
          exact joins_no a b w (by omega) (by omega) x [] 0 0 p e (tokA_ok (by omega) ea) (tokA_no (by omega) eb) (.inr ⟨rfl, by omega⟩)
        | inr y => exact joins_ok a b w (by omega) (by omega) x y ea eb
end Go.Proofs.Ytdaaijhanhmddaa

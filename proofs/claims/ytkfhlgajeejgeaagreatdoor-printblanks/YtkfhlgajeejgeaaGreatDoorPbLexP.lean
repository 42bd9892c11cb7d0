/- A text made of words, numbers, signs and blanks is read as those pieces; also where each line's end is made more. -/
import Derived.Test.YtkfhlgajeejgeaaGreatDoorIdMsgP
import Derived.Test.YtkfhlgajeejgeaaGreatDoorPkK
import Derived.Lib.ItoaMem
namespace Go.Proofs.YtkfhlgajeejgeaaGreatDoor
open Go.RowKit
set_option linter.unusedVariables false
set_option linter.unusedSimpArgs false
set_option maxRecDepth 20000

/-- The pieces of a text are these, wherever it begins. -/
def Txt (l : List UInt8) (xs : List ByteArray) : Prop := ∀ p, ∃ ts, lexO l p = .inr ts ∧ textsOf ts = xs
theorem Txt.nil : Txt [] [] := fun p => ⟨[], rfl, rfl⟩
theorem Txt.gap {b l : List UInt8} {xs : List ByteArray} (hb : Blanks b) (h : Txt l xs) : Txt (b ++ l) xs := by
  intro p
  obtain ⟨ts, h1, h2⟩ := h (p + b.length)
  refine ⟨ts, ?_, h2⟩
  rw [lexO_skip (j := b.length) (by rw [List.drop_left]; exact hb.2 l) (by simp), List.drop_left]
  exact h1
/-- One piece, of a kind. -/
def Piece (k : Nat) (w : List UInt8) : Prop := k ≠ 0 ∧ ∃ c m, nxL w = some (c, m) ∧ kindN c = k ∧ pieceN k m w = w.length
theorem skip_piece {w : List UInt8} {c m : Nat} (h : nxL w = some (c, m)) (hk : kindN c ≠ 0) : skipN w = 0 := by
  match w, h with
  | [], h => simp [nxL] at h
  | a :: r, h =>
    have hb : blankB a = false ∧ a.toNat ≠ 47 := by
      rcases nx_small h with ⟨h1, h2, _⟩ | ⟨h1, _⟩
      · subst h2
        constructor
        · cases hb : blankB a
          · rfl
          · exfalso
            unfold blankB at hb
            simp only [decide_eq_true_eq] at hb
            apply hk
            rcases hb with e | e | e | e <;> rw [e] <;> decide
        · intro e; apply hk; rw [e]; decide
      · exact ⟨by unfold blankB; rw [decide_eq_false (by omega)], by omega⟩
    simp only [skipN, skipG]
    rw [if_neg (by rw [hb.1]; decide), if_neg (fun h => hb.2 h.1)]
theorem Txt.piece {k : Nat} {w l : List UInt8} {xs : List ByteArray} (hp : Piece k w) (hs : contB k l = false) (h : Txt l xs) : Txt (w ++ l) (⟨w.toArray⟩ :: xs) := by
  obtain ⟨hk0, c, m, hn, hk, hl⟩ := hp
  have hm := nx_len hn
  have hn' := nxL_append hn l
  have hk' : kindN c ≠ 0 := by rw [hk]; exact hk0
  have hsk : skipN (w ++ l) = 0 := skip_piece hn' hk'
  have hr : runN k (w.drop m) = (w.drop m).length := by unfold pieceN at hl; rw [List.length_drop]; omega
  have hd : (w ++ l).drop m = w.drop m ++ l := by rw [List.drop_append_of_le_length hm.2]
  have hpc : pieceN k m (w ++ l) = w.length := by
    unfold pieceN
    rw [hd, runN_swap k _ (w.drop m) (Nat.le_refl _) (w.drop m ++ l) (by rw [hr, List.take_left, List.take_length]) (by rw [hr, List.drop_left]; exact hs)]
    unfold pieceN at hl
    exact hl
  intro p
  obtain ⟨ts, h1, h2⟩ := h (p + w.length)
  refine ⟨⟨k, w, p⟩ :: ts, ?_, by show _ :: textsOf ts = _; rw [h2]; rfl⟩
  rw [lexO_tok (l := w ++ l) (c := c) (m := m) (by rw [hsk, List.drop_zero]; exact hn') hk', hsk, hk]
  simp only [List.drop_zero, Nat.add_zero, Nat.zero_add]
  rw [hpc, List.take_left, List.drop_left, h1]
  rfl
/-- No word and no number goes on with it. -/
def Stop (l : List UInt8) : Prop := ∀ a r, l = a :: r → a.toNat < 128 ∧ letB a.toNat = false ∧ digB a.toNat = false
theorem Stop.nil : Stop [] := fun a r h => by cases h
theorem Stop.cont {l : List UInt8} (h : Stop l) (k : Nat) : contB k l = false := by
  match l, h with
  | [], _ => rfl
  | a :: r, h =>
    obtain ⟨h1, h2, h3⟩ := h a r rfl
    rw [contB_yes (c := a.toNat) (m := 1) (by simp [nxL, h1])]
    simp [goesB, h2, h3]
theorem cont3 (l : List UInt8) : contB 3 l = false := by
  unfold contB
  split
  · rfl
  · simp [goesB]
theorem run3 (l : List UInt8) : runN 3 l = 0 := runN_stop0 (cont3 l)
theorem Piece.sign {a : UInt8} (h : signB a.toNat = true) : Piece 3 [a] := by
  have h' := h
  unfold signB at h'
  simp only [decide_eq_true_eq] at h'
  refine ⟨by decide, a.toNat, 1, by simp [nxL]; omega, ?_, by unfold pieceN; rw [run3]; rfl⟩
  unfold kindN
  rw [if_neg (by unfold letB; simp only [decide_eq_true_eq]; omega), if_neg (by unfold digB; simp only [decide_eq_true_eq]; omega), if_pos h]
theorem Piece.num {D : List UInt8} (h : D.all digU = true) (hne : D ≠ []) : Piece 2 D := by
  match D, hne with
  | a :: r, _ =>
    simp only [List.all_cons, Bool.and_eq_true] at h
    have ha : 48 ≤ a.toNat ∧ a.toNat ≤ 57 := by have := h.1; unfold digU at this; simpa using this
    refine ⟨by decide, a.toNat, 1, by simp [nxL]; omega, ?_, ?_⟩
    · unfold kindN
      rw [if_neg (by unfold letB; simp only [decide_eq_true_eq]; omega), if_pos (by unfold digB; simp only [decide_eq_true_eq]; omega)]
    · unfold pieceN; rw [List.drop_succ_cons, List.drop_zero, run_digs r h.2, List.length_cons]; omega
/-- Letters and digits, whole runes: a run to the end. -/
theorem run_word (f : Nat) : ∀ (l : List UInt8) (rs : List Nat), l.length ≤ f → runesOf l = some rs → okFrom false rs = true → runN 1 l = l.length := by
  induction f with
  | zero =>
    intro l rs hl _ _
    have : l = [] := List.length_eq_zero_iff.1 (by omega)
    subst this; rfl
  | succ f ih =>
    intro l rs hl hr ho
    match l with
    | [] => rfl
    | a :: r =>
      cases e : nxL (a :: r) with
      | none => rw [runesOf_bad (by simp) e] at hr; cases hr
      | some x =>
        obtain ⟨c, k⟩ := x
        have hk := nx_len e
        rw [runesOf_step e] at hr
        cases e2 : runesOf ((a :: r).drop k) with
        | none => rw [e2] at hr; cases hr
        | some rs' =>
          rw [e2] at hr
          simp only [Option.map_some, Option.some.injEq] at hr
          subst hr
          simp only [okFrom, Bool.not_false, Bool.true_and, Bool.and_eq_true] at ho
          rw [runN_yes e (by simp only [goesB, beq_self_eq_true, Bool.true_and, Bool.or_eq_true]; left; simpa using ho.1), ih _ rs' (by rw [List.length_drop]; omega) e2 ho.2, List.length_drop]
          omega
theorem nx_ten {l : List UInt8} {c m : Nat} (h : nxL l = some (c, m)) (hc : c ≠ 10) : ∀ a ∈ l.take m, a ≠ 10 := by
  have hc' : ∀ b : UInt8, ctU b = true → b ≠ 10 := by
    intro b hb e; subst e; revert hb; decide
  match l, h with
  | [], h => simp [nxL] at h
  | a :: r, h =>
    simp only [nxL] at h
    by_cases h0 : a.toNat < 128
    · rw [if_pos h0] at h
      simp only [Option.some.injEq, Prod.mk.injEq] at h
      obtain ⟨h1, h2⟩ := h
      subst h2
      intro x hx
      simp at hx
      subst hx
      intro e; subst e
      exact hc h1.symm
    · have ha : a ≠ 10 := by intro e; subst e; exact h0 (by decide)
      rw [if_neg h0] at h
      split at h
      · split at h
        · split at h
          · rename_i g
            simp only [Option.some.injEq, Prod.mk.injEq] at h
            obtain ⟨_, h2⟩ := h
            subst h2
            intro x hx
            simp at hx
            rcases hx with rfl | rfl
            · exact ha
            · exact hc' _ g.1
          · cases h
        · cases h
      · split at h
        · split at h
          · split at h
            · rename_i g
              simp only [Option.some.injEq, Prod.mk.injEq] at h
              obtain ⟨_, h2⟩ := h
              subst h2
              intro x hx
              simp at hx
              rcases hx with rfl | rfl | rfl
              · exact ha
              · exact hc' _ g.1
              · exact hc' _ g.2.1
            · cases h
          · cases h
        · split at h
          · split at h
            · split at h
              · rename_i g
                simp only [Option.some.injEq, Prod.mk.injEq] at h
                obtain ⟨_, h2⟩ := h
                subst h2
                intro x hx
                simp at hx
                rcases hx with rfl | rfl | rfl | rfl
                · exact ha
                · exact hc' _ g.1
                · exact hc' _ g.2.1
                · exact hc' _ g.2.2.1
              · cases h
            · cases h
          · cases h
theorem word_ten (f : Nat) : ∀ (b : Bool) (l : List UInt8) (rs : List Nat), l.length ≤ f → runesOf l = some rs → okFrom b rs = true → ∀ a ∈ l, a ≠ 10 := by
  induction f with
  | zero =>
    intro b l rs hl _ _
    have : l = [] := List.length_eq_zero_iff.1 (by omega)
    subst this; simp
  | succ f ih =>
    intro b l rs hl hr ho
    match l with
    | [] => simp
    | a :: r =>
      cases e : nxL (a :: r) with
      | none => rw [runesOf_bad (by simp) e] at hr; cases hr
      | some x =>
        obtain ⟨c, k⟩ := x
        have hk := nx_len e
        rw [runesOf_step e] at hr
        cases e2 : runesOf ((a :: r).drop k) with
        | none => rw [e2] at hr; cases hr
        | some rs' =>
          rw [e2] at hr
          simp only [Option.map_some, Option.some.injEq] at hr
          subst hr
          simp only [okFrom, Bool.and_eq_true] at ho
          have hc : c ≠ 10 := by
            intro e; subst e
            revert ho
            cases b <;> simp [letB, digB]
          have h1 := nx_ten e hc
          have h2 := ih false _ rs' (by rw [List.length_drop]; omega) e2 ho.2
          intro x hx
          rw [← List.take_append_drop k (a :: r)] at hx
          rcases List.mem_append.1 hx with hx | hx
          · exact h1 x hx
          · exact h2 x hx
theorem name_runes {w : List UInt8} (h : nameK w = true) : ∃ rs, runesOf w = some rs ∧ rs ≠ [] ∧ okFrom true rs = true ∧ keyK w = false := by
  unfold nameK countN at h
  simp only [Bool.and_eq_true, decide_eq_true_eq, Bool.not_eq_true'] at h
  cases e : runesOf w with
  | none => rw [e] at h; simp at h
  | some rs =>
    rw [e] at h
    simp only [Option.getD_some] at h
    exact ⟨rs, rfl, by intro e; subst e; simp at h, h.2, h.1.2⟩
theorem Piece.name {w : List UInt8} (h : nameK w = true) : Piece 1 w := by
  obtain ⟨rs, h1, h2, h3, _⟩ := name_runes h
  match w with
  | [] => rw [runesOf_nil] at h1; simp only [Option.some.injEq] at h1; exact absurd h1.symm h2
  | a :: r =>
    cases e : nxL (a :: r) with
    | none => rw [runesOf_bad (by simp) e] at h1; cases h1
    | some x =>
      obtain ⟨c, m⟩ := x
      rw [runesOf_step e] at h1
      cases e2 : runesOf ((a :: r).drop m) with
      | none => rw [e2] at h1; cases h1
      | some rs' =>
        rw [e2] at h1
        simp only [Option.map_some, Option.some.injEq] at h1
        subst h1
        simp only [okFrom, Bool.not_true, Bool.false_and, Bool.or_false, Bool.and_eq_true] at h3
        refine ⟨by decide, c, m, e, by unfold kindN; rw [if_pos h3.1], ?_⟩
        unfold pieceN
        have hk := nx_len e
        rw [run_word _ _ rs' (Nat.le_refl _) e2 h3.2, List.length_drop]
        omega
theorem name_ten {w : List UInt8} (h : nameK w = true) : ∀ a ∈ w, a ≠ 10 := by
  obtain ⟨rs, h1, _, h3, _⟩ := name_runes h
  exact word_ten _ true w rs (Nat.le_refl _) h1 h3

/-- Each line's end made more. -/
def expL (sep : List UInt8) (l : List UInt8) : List UInt8 := l.flatMap fun a => if a = 10 then sep else [a]
theorem expL_nil (sep : List UInt8) : expL sep [] = [] := rfl
theorem expL_ten (sep l : List UInt8) : expL sep (10 :: l) = sep ++ expL sep l := by simp [expL]
theorem expL_cons (sep : List UInt8) {a : UInt8} (l : List UInt8) (h : a ≠ 10) : expL sep (a :: l) = a :: expL sep l := by simp [expL, h]
theorem expL_app (sep a b : List UInt8) : expL sep (a ++ b) = expL sep a ++ expL sep b := by simp [expL]
theorem expL_id (sep : List UInt8) : ∀ {w : List UInt8}, (∀ a ∈ w, a ≠ 10) → expL sep w = w
  | [], _ => rfl
  | a :: r, h => by rw [expL_cons sep r (h a (List.mem_cons_self ..)), expL_id sep (fun x hx => h x (List.mem_cons_of_mem _ hx))]
theorem expL_same (l : List UInt8) : expL [10] l = l := by
  induction l with
  | nil => rfl
  | cons a r ih =>
    by_cases h : a = 10
    · subst h; rw [expL_ten, ih]; rfl
    · rw [expL_cons _ _ h, ih]
theorem expL_stop {sep l : List UInt8} (hs : ∃ a r, sep = a :: r ∧ blankB a = true) (h : Stop l) : Stop (expL sep l) := by
  match l, h with
  | [], _ => exact Stop.nil
  | a :: r, h =>
    by_cases e : a = 10
    · subst e
      rw [expL_ten]
      obtain ⟨b, q, rfl, hb⟩ := hs
      intro x y hxy
      simp only [List.cons_append, List.cons.injEq] at hxy
      obtain ⟨rfl, _⟩ := hxy
      unfold blankB at hb
      simp only [decide_eq_true_eq] at hb
      unfold letB digB
      simp only [decide_eq_false_iff_not]
      omega
    · rw [expL_cons _ _ e]
      intro x y hxy
      simp only [List.cons.injEq] at hxy
      obtain ⟨rfl, _⟩ := hxy
      exact h a r rfl
/-- A text made of these pieces, wherever its lines end: with each line's end made more, they are its pieces. -/
def Made (l : List UInt8) (xs : List ByteArray) : Prop := ∀ sep : List UInt8, (∃ a r, sep = a :: r ∧ blankB a = true) → Blanks sep → Txt (expL sep l) xs
theorem Made.nil : Made [] [] := fun _ _ _ => Txt.nil
theorem Made.sp {l : List UInt8} {xs : List ByteArray} (h : Made l xs) : Made (32 :: l) xs := fun sep hs hb => by
  rw [expL_cons _ _ (by decide)]; exact (h sep hs hb).gap blanks_0
theorem Made.nl {l : List UInt8} {xs : List ByteArray} (h : Made l xs) : Made (10 :: l) xs := fun sep hs hb => by
  rw [expL_ten]; exact (h sep hs hb).gap hb
theorem Made.sign {l : List UInt8} {xs : List ByteArray} (a : UInt8) (ha : signB a.toNat = true) (h : Made l xs) : Made (a :: l) (⟨#[a]⟩ :: xs) := fun sep hs hb => by
  rw [expL_cons _ _ (by intro e; subst e; revert ha; decide)]
  exact (h sep hs hb).piece (Piece.sign ha) (cont3 _)
theorem Made.piece {l : List UInt8} {xs : List ByteArray} {k : Nat} (w : List UInt8) (hp : Piece k w) (h10 : ∀ a ∈ w, a ≠ 10) (hst : Stop l) (h : Made l xs) : Made (w ++ l) (⟨w.toArray⟩ :: xs) := fun sep hs hb => by
  rw [expL_app, expL_id _ h10]
  exact (h sep hs hb).piece hp ((expL_stop hs hst).cont k)
theorem Made.txt {sep : List UInt8} (hs : ∃ a r, sep = a :: r ∧ blankB a = true) (hb : Blanks sep) {l : List UInt8} {xs : List ByteArray} (h : Made l xs) : Txt (expL sep l) xs := h sep hs hb
theorem Made.plain {l : List UInt8} {xs : List ByteArray} (h : Made l xs) : Txt l xs := by
  have := h.txt ⟨10, [], rfl, rfl⟩ blanks_1
  rwa [expL_same] at this
theorem Made.name {l : List UInt8} {xs : List ByteArray} {n : ByteArray} (hn : nameK n.data.toList = true) (hs : Stop l) (h : Made l xs) : Made (n.data.toList ++ l) (n :: xs) := by
  have := Made.piece n.data.toList (Piece.name hn) (name_ten hn) hs h
  exact this

/-! Numbers -/
theorem dec_dig (u : Nat) : (Lib.decDigits u).all digU = true ∧ Lib.decDigits u ≠ [] ∧ ∀ n, numV (Lib.decDigits u) n = n * 10 ^ Lib.nDigits u + u := by
  induction u using Nat.strongRecOn with
  | _ u ih =>
    by_cases h : u < 10
    · rw [Lib.decDigits_one h, Lib.nDigits_small h]
      have ht : (UInt8.ofNat (48 + u)).toNat = 48 + u := by rw [UInt8.toNat_ofNat']; omega
      refine ⟨?_, by simp, fun n => ?_⟩
      · simp only [List.all_cons, List.all_nil, Bool.and_true]
        unfold digU; rw [ht]; simp; omega
      · simp only [numV]; rw [ht]; omega
    · obtain ⟨h1, h2, h3⟩ := ih (u / 10) (by omega)
      have ht : (UInt8.ofNat (48 + u % 10)).toNat = 48 + u % 10 := by rw [UInt8.toNat_ofNat']; omega
      have happ : ∀ (a : List UInt8) (x : UInt8) (n : Nat), numV (a ++ [x]) n = 10 * numV a n + (x.toNat - 48) := by
        intro a
        induction a with
        | nil => intro x n; rfl
        | cons y a ih => intro x n; exact ih x _
      rw [Lib.decDigits, dif_neg h, Lib.nDigits_big h]
      refine ⟨?_, by simp, fun n => ?_⟩
      · rw [List.all_append, h1]
        simp only [List.all_cons, List.all_nil, Bool.and_true, Bool.true_and]
        unfold digU; rw [ht]; simp; omega
      · rw [happ, h3, ht, Nat.pow_succ, Nat.mul_add, ← Nat.mul_assoc, ← Nat.mul_assoc, Nat.mul_comm 10 n, Nat.mul_assoc n 10, Nat.mul_assoc n (10 ^ _), Nat.mul_comm 10 (10 ^ _)]
        omega
theorem dec_head (u : Nat) : 10 ≤ u → headN (Lib.decDigits u) ≠ 48 := by
  induction u using Nat.strongRecOn with
  | _ u ih =>
    intro h
    rw [Lib.decDigits, dif_neg (by omega), headN_app (dec_dig (u / 10)).2.1]
    by_cases h2 : u / 10 < 10
    · rw [Lib.decDigits_one h2]
      show (UInt8.ofNat (48 + u / 10)).toNat ≠ 48
      rw [UInt8.toNat_ofNat']; omega
    · exact ih (u / 10) (by omega) (by omega)
theorem nDigits_ten {u : Nat} (h : u < 10000000000) : Lib.nDigits u ≤ 10 := by
  apply Classical.byContradiction
  intro hc
  have key : ∀ (k u : Nat), k + 1 < Lib.nDigits u → 10 ^ (k + 1) ≤ u := by
    intro k
    induction k with
    | zero =>
      intro u hu
      by_cases h : u < 10
      · rw [Lib.nDigits_small h] at hu; omega
      · simp; omega
    | succ k ih =>
      intro u hu
      by_cases h : u < 10
      · rw [Lib.nDigits_small h] at hu; omega
      · rw [Lib.nDigits_big h] at hu
        have := ih (u / 10) (by omega)
        rw [Nat.pow_succ]
        omega
  have := key 9 u (by omega)
  simp at this
  omega
def numT (n : Int) : ByteArray := ⟨(Lib.itoa n).toArray⟩
theorem num_itoa {n : Int} (h0 : 0 ≤ n) (h1 : n < 10000000000) : numA (numT n).data.toList = (n.toNat, true) ∧ (Lib.itoa n).all digU = true ∧ Lib.itoa n ≠ [] := by
  obtain ⟨u, rfl⟩ := Int.eq_ofNat_of_zero_le h0
  have e : Lib.itoa ((u : Nat) : Int) = Lib.decDigits u := Lib.itoa_nonneg u
  obtain ⟨d1, d2, d3⟩ := dec_dig u
  have hl := Lib.decDigits_length u
  have hp := Lib.nDigits_pos u
  have h10 := nDigits_ten (u := u) (by omega)
  rw [e]
  refine ⟨?_, d1, d2⟩
  show numA (Lib.itoa ((u : Nat) : Int)) = _
  rw [e]
  unfold numA
  rw [if_neg, if_pos d1, d3 0]
  · simp
  · rintro (h | h | ⟨h, h2⟩)
    · omega
    · omega
    · refine dec_head u ?_ h2
      apply Classical.byContradiction
      intro hc
      rw [hl, Lib.nDigits_small (by omega)] at h
      omega
theorem dig_ten {D : List UInt8} (h : D.all digU = true) : ∀ a ∈ D, a ≠ 10 := by
  intro a ha e
  subst e
  have := List.all_eq_true.1 h _ ha
  revert this; decide
theorem Made.num {l : List UInt8} {xs : List ByteArray} {n : Int} (h0 : 0 ≤ n) (h1 : n < 10000000000) (hs : Stop l) (h : Made l xs) : Made (Lib.itoa n ++ l) (numT n :: xs) := by
  obtain ⟨_, h2, h3⟩ := num_itoa h0 h1
  exact Made.piece _ (Piece.num h2 h3) (dig_ten h2) hs h
end Go.Proofs.YtkfhlgajeejgeaaGreatDoor

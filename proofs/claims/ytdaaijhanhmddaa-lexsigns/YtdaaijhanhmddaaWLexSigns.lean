/- LexSigns answers true. -/
import Derived.Test.YtdaaijhanhmddaaLxUse
import Derived.Laws.BytesArg
import Derived.Deep.Cut
import Derived.Deep.CutRange
namespace Go.Proofs.Ytdaaijhanhmddaa
open Go.ChangeShapes Go.WideShapes Go.ChangeAt Go.RowKit
set_option linter.unusedVariables false
set_option linter.unusedSimpArgs false
set_option maxRecDepth 20000

theorem conv_one (w : World) (x : Int) :
    (convert 36 9 (.slice (some ⟨w.heap.size, 0, none⟩) 1 1)).run Try.prog (w.alloc (.cells #[.int .u8 x] 5)) = .ok (.string (strOfNums [x])) (w.alloc (.cells #[.int .u8 x] 5)) := by
  refine run_convert_bytes_arg (P := Try.prog) _ 36 5 Try.underlying36 Try.underlying5 w.heap.size 0 1 1 [x] rfl ?_ 9 Try.underlying9
  intro i hi
  obtain rfl : i = 0 := by omega
  rw [World.cell?_alloc_at _ _ _ _ rfl, Nat.zero_add]
  rfl

/-- One byte below 128 alone. -/
theorem tok_one (c : Nat) (hc : c < 128) : tokA (strOfNums [(c : Int)]) = if c = 32 ∨ c = 9 ∨ c = 13 ∨ c = 10 then ([], 0, 0) else if kindN c = 0 then ([], 0, 5) else ([⟨kindN c, [UInt8.ofNat c], 0⟩], 0, 0) := by
  have hb : (UInt8.ofNat c).toNat = c := by rw [UInt8.toNat_ofNat']; omega
  have hl : (strOfNums [(c : Int)]).data.toList = [UInt8.ofNat c] := by simp [strOfNums]
  have hsz : (strOfNums [(c : Int)]).size = 1 := by rw [← len_data, hl]; rfl
  rw [tokA_small (by omega), hl]
  generalize UInt8.ofNat c = a at *
  have hnx : nxL [a] = some (c, 1) := by simp [nxL, hb, hc]
  by_cases h1 : c = 32 ∨ c = 9 ∨ c = 13 ∨ c = 10
  · rw [if_pos h1, lexO_fin]
    · rfl
    · have : blankB a = true := by unfold blankB; rw [hb]; simpa using h1
      simp [skipN, skipG, this]
  · rw [if_neg h1]
    have hs : skipN [a] = 0 := by
      have : blankB a = false := by unfold blankB; rw [hb]; simpa using h1
      simp [skipN, skipG, this, headN]
    have hd : [a].drop (skipN [a]) = [a] := by rw [hs]; rfl
    by_cases h2 : kindN c = 0
    · rw [if_pos h2, lexO_syn (by rw [hd]; exact hnx) h2, hs]; rfl
    · rw [if_neg h2, lexO_tok (by rw [hd]; exact hnx) h2, hd, hs]
      have hp : pieceN (kindN c) 1 [a] = 1 := rfl
      rw [hp]
      have : lexO ([a].drop (0 + 1)) (0 + 0 + 1) = .inr [] := rfl
      rw [this]; rfl
def cntK : Nat → Nat
  | 0 => 0
  | c + 1 => cntK c + if kindN c = 0 then 0 else 1
theorem cntK_le (c : Nat) : cntK c ≤ c := by
  induction c with
  | zero => exact Nat.le_refl _
  | succ c ih => simp only [cntK]; split <;> omega
theorem cntK_all : cntK 128 = 70 := by decide +kernel
theorem cntK_no {c : Nat} (h : kindN c = 0) : cntK (c + 1) = cntK c := by simp [cntK, h]
theorem cntK_yes {c : Nat} (h : kindN c ≠ 0) : cntK (c + 1) = cntK c + 1 := by simp [cntK, h]
theorem kind_let {c : Nat} (h : letB c = true) : kindN c = 1 ∧ digB c = false ∧ signB c = false := by
  refine ⟨by unfold kindN; rw [if_pos h], ?_, ?_⟩
  · unfold letB at h; unfold digB; simp only [decide_eq_true_eq] at h; rw [decide_eq_false (by omega)]
  · unfold letB at h; unfold signB; simp only [decide_eq_true_eq] at h; rw [decide_eq_false (by omega)]
theorem kind_dig {c : Nat} (h : digB c = true) : kindN c = 2 ∧ letB c = false ∧ signB c = false := by
  have h1 : letB c = false := by unfold digB at h; unfold letB; simp only [decide_eq_true_eq] at h; rw [decide_eq_false (by omega)]
  refine ⟨by unfold kindN; rw [if_neg (by simp [h1]), if_pos h], h1, ?_⟩
  unfold digB at h; unfold signB; simp only [decide_eq_true_eq] at h; rw [decide_eq_false (by omega)]
theorem kind_sign {c : Nat} (h : signB c = true) : kindN c = 3 ∧ letB c = false ∧ digB c = false := by
  have h1 : letB c = false := by unfold signB at h; unfold letB; simp only [decide_eq_true_eq] at h; rw [decide_eq_false (by omega)]
  have h2 : digB c = false := by unfold signB at h; unfold digB; simp only [decide_eq_true_eq] at h; rw [decide_eq_false (by omega)]
  exact ⟨by unfold kindN; rw [if_neg (by simp [h1]), if_neg (by simp [h2]), if_pos h], h1, h2⟩
theorem kind_none {c : Nat} (h1 : letB c = false) (h2 : digB c = false) (h3 : signB c = false) : kindN c = 0 := by
  unfold kindN; rw [if_neg (by simp [h1]), if_neg (by simp [h2]), if_neg (by simp [h3])]
def blankC (c : Nat) : Bool := decide (c = 32 ∨ c = 9 ∨ c = 13 ∨ c = 10)
theorem blank_kind {c : Nat} (h : blankC c = true) : kindN c = 0 := by
  unfold blankC at h
  simp only [decide_eq_true_eq] at h
  rcases h with rfl | rfl | rfl | rfl <;> rfl

theorem signC_yes {a : Nat} (h : signB a = true) : ((a : Int) == 123) = true ∨ (((a : Int) == 123) = false ∧ ((a : Int) == 125) = true) ∨ (((a : Int) == 123) = false ∧ ((a : Int) == 125) = false ∧ ((a : Int) == 40) = true) ∨
    (((a : Int) == 123) = false ∧ ((a : Int) == 125) = false ∧ ((a : Int) == 40) = false ∧ ((a : Int) == 41) = true) ∨ (((a : Int) == 123) = false ∧ ((a : Int) == 125) = false ∧ ((a : Int) == 40) = false ∧ ((a : Int) == 41) = false ∧ ((a : Int) == 59) = true) ∨
    (((a : Int) == 123) = false ∧ ((a : Int) == 125) = false ∧ ((a : Int) == 40) = false ∧ ((a : Int) == 41) = false ∧ ((a : Int) == 59) = false ∧ ((a : Int) == 61) = true) ∨
    (((a : Int) == 123) = false ∧ ((a : Int) == 125) = false ∧ ((a : Int) == 40) = false ∧ ((a : Int) == 41) = false ∧ ((a : Int) == 59) = false ∧ ((a : Int) == 61) = false ∧ ((a : Int) == 44) = true) := by
  unfold signB at h
  simp only [decide_eq_true_eq] at h
  simp only [beq_eq_false_iff_ne, beq_iff_eq]
  omega
theorem signC_not {a : Nat} (h : signB a = false) : ((a : Int) == 123) = false ∧ ((a : Int) == 125) = false ∧ ((a : Int) == 40) = false ∧ ((a : Int) == 41) = false ∧ ((a : Int) == 59) = false ∧ ((a : Int) == 61) = false ∧ ((a : Int) == 44) = false := by
  unfold signB at h
  simp only [decide_eq_false_iff_not] at h
  simp only [beq_eq_false_iff_ne]
  omega
theorem blankC_yes {a : Nat} (h : blankC a = true) : ((a : Int) == 32) = true ∨ (((a : Int) == 32) = false ∧ ((a : Int) == 9) = true) ∨ (((a : Int) == 32) = false ∧ ((a : Int) == 9) = false ∧ ((a : Int) == 13) = true) ∨ (((a : Int) == 32) = false ∧ ((a : Int) == 9) = false ∧ ((a : Int) == 13) = false ∧ ((a : Int) == 10) = true) := by
  unfold blankC at h
  simp only [decide_eq_true_eq] at h
  simp only [beq_eq_false_iff_ne, beq_iff_eq]
  omega
theorem blankC_not {a : Nat} (h : blankC a = false) : ((a : Int) == 32) = false ∧ ((a : Int) == 9) = false ∧ ((a : Int) == 13) = false ∧ ((a : Int) == 10) = false := by
  unfold blankC at h
  simp only [decide_eq_false_iff_not] at h
  simp only [beq_eq_false_iff_ne]
  omega

set_option maxHeartbeats 8000000 in
theorem lexSigns_walk (w : World) :
    Calls Try.prog 7 #[] w fun e w' => e = .returned (.bool true) ∧ Below w.heap.size w w' := by
  go_enter Try.func7, Try.ntmps7
  go_wp2_with fail
  go_loopw [1, 2] (fun nv cv wr => ∃ c n : Nat, cv = .int .i64 (c : Int) ∧ nv = .int .i64 (n : Int) ∧ c ≤ 128 ∧ n ≤ 128 ∧ Hid (cntK c = n) ∧ Below w.heap.size w wr) (fun _ cv _ => 128 - (intOf cv).toNat)
  case atStart => exact ⟨0, 0, rfl, rfl, by omega, by omega, rfl, Below.refl _ _⟩
  case round =>
    obtain ⟨c, n, rfl, rfl, hc, hn, HN, hbel⟩ := hrel
    by_cases hlt : c < 128
    · have hcv := conv_one wr (c : Int)
      have hw : (IntKind.u8.wrap (c : Int)) = (c : Int) := by rw [IntKind.wrap_u8]; omega
      obtain ⟨ts, p, e, hT⟩ : ∃ ts p e, tokA (strOfNums [(c : Int)]) = (ts, p, e) := ⟨_, _, _, rfl⟩
      have HC : Hid (∀ W : World, Calls Try.prog 9 #[.string (strOfNums [(c : Int)])] W fun x w' => ∃ v, x = .returned (.tuple #[v, .int .i64 (p : Int), .int .i64 (e : Int)]) ∧ RowT w' v ts ∧ Below W.heap.size W w') := fun W => tokens_row _ W (by show 1 ≤ _; omega) ts p e hT
      have HT : Hid (tokA (strOfNums [(c : Int)]) = (ts, p, e)) := hT
      clear hT
      generalize hS : strOfNums [(c : Int)] = S at *
      have HS : Hid (strOfNums [(c : Int)] = S) := hS
      clear hS
      have hbn0 : ∀ o, Below w.heap.size w (wr.alloc o) := fun o => hbel.alloc hbel.size o
      go_wp2_with fail
      refine (HC.out _).mono ?_
      rintro x w1 ⟨v1, rfl, hr1, hb1⟩
      have hbb1 : Below w.heap.size w w1 := (hbn0 _).trans (hb1.mono (hbn0 _).size)
      clear hb1 hbn0 hcv hw HC hbel
      go_upto_region 6 with fail
      go_cut [6] from 10 to 148 (fun bv wx => bv = .bool (letB c) ∧ wx = w1)
      case first =>
        go_wp2_with fail
        all_goals
          go_meet
          refine ⟨congrArg Value.bool ?_, rfl⟩
          rw [Bool.eq_iff_iff]
          simp [letB]
          try omega
      case rest =>
      obtain ⟨h6, hw6⟩ := hcut
      subst h6
      subst hw6
      go_upto_region 7 with fail
      go_cut [7] from 10 to 148 (fun bv wx => bv = .bool (digB c) ∧ wx = wc)
      case first =>
        go_wp2_with fail
        all_goals
          go_meet
          refine ⟨congrArg Value.bool ?_, rfl⟩
          rw [Bool.eq_iff_iff]
          simp [digB]
          try omega
      case rest =>
      obtain ⟨h7, hw7⟩ := hcut
      subst h7
      subst hw7
      go_upto_region 8 with fail
      go_cut [8] from 10 to 148 (fun bv wx => bv = .bool (blankC c) ∧ wx = wc)
      case first =>
        cases hq : blankC c with
        | true =>
          have hqy := blankC_yes hq
          have HQ : Hid (blankC c = true) := hq
          clear hq
          rcases hqy with s1 | ⟨s1, s2⟩ | ⟨s1, s2, s3⟩ | ⟨s1, s2, s3, s4⟩
          all_goals
            go_wp2_with fail
            go_meet
            exact ⟨by rw [HQ.out], rfl⟩
        | false =>
          obtain ⟨s1, s2, s3, s4⟩ := blankC_not hq
          have HQ : Hid (blankC c = false) := hq
          clear hq
          go_wp2_with fail
          go_meet
          exact ⟨by rw [HQ.out], rfl⟩
      case rest =>
      obtain ⟨h8, hw8⟩ := hcut
      subst h8
      subst hw8
      go_upto_region 9 with fail
      go_cut [9] from 10 to 148 (fun bv wx => bv = .bool (signB c) ∧ wx = wc)
      case first =>
        cases hq : signB c with
        | true =>
          have hqy := signC_yes hq
          have HQ : Hid (signB c = true) := hq
          clear hq
          rcases hqy with s1 | ⟨s1, s2⟩ | ⟨s1, s2, s3⟩ | ⟨s1, s2, s3, s4⟩ | ⟨s1, s2, s3, s4, s5⟩ | ⟨s1, s2, s3, s4, s5, s6⟩ | ⟨s1, s2, s3, s4, s5, s6, s7⟩
          all_goals
            go_wp2_with fail
            go_meet
            exact ⟨by rw [HQ.out], rfl⟩
        | false =>
          obtain ⟨s1, s2, s3, s4, s5, s6, s7⟩ := signC_not hq
          have HQ : Hid (signB c = false) := hq
          clear hq
          go_wp2_with fail
          go_meet
          exact ⟨by rw [HQ.out], rfl⟩
      case rest =>
      obtain ⟨h9, hw9⟩ := hcut
      subst h9
      subst hw9
      have htok := HT.out
      rw [← HS.out, tok_one c hlt] at htok
      clear HT HS
      cases hbl : blankC c with
      | true =>
        have hk := blank_kind hbl
        have HN2 : Hid (cntK (c + 1) = n) := by show _ = _; rw [cntK_no hk]; exact HN.out
        rw [if_pos (by unfold blankC at hbl; simpa using hbl)] at htok
        simp only [Prod.mk.injEq] at htok
        obtain ⟨rfl, rfl, rfl⟩ := htok
        obtain ⟨a1, c1, rfl, _, _, _, _⟩ := hr1.form
        clear hr1 hk hbl
        go_wp2_with fail
        go_roundw
        case rel => exact ⟨c + 1, n, by go_num, rfl, by omega, hn, HN2, hbb1⟩
        case measure => simp [intOf]; omega
      | false =>
        rw [if_neg (by unfold blankC at hbl; simpa using hbl)] at htok
        have hgo : (letB c = true ∧ digB c = false ∧ signB c = false ∧ kindN c = 1) ∨ (letB c = false ∧ digB c = true ∧ signB c = false ∧ kindN c = 2) ∨ (letB c = false ∧ digB c = false ∧ signB c = true ∧ kindN c = 3) ∨ (letB c = false ∧ digB c = false ∧ signB c = false ∧ kindN c = 0) := by
          cases h1 : letB c with
          | true => have := kind_let h1; exact .inl ⟨rfl, this.2.1, this.2.2, this.1⟩
          | false =>
            cases h2 : digB c with
            | true => have := kind_dig h2; exact .inr (.inl ⟨rfl, rfl, this.2.2, this.1⟩)
            | false =>
              cases h3 : signB c with
              | true => have := kind_sign h3; exact .inr (.inr (.inl ⟨rfl, rfl, rfl, this.1⟩))
              | false => exact .inr (.inr (.inr ⟨rfl, rfl, rfl, kind_none h1 h2 h3⟩))
        rcases hgo with ⟨k1, k2, k3, k4⟩ | ⟨k1, k2, k3, k4⟩ | ⟨k1, k2, k3, k4⟩ | ⟨k1, k2, k3, k4⟩
        · rw [if_neg (by rw [k4]; decide), k4] at htok
          have HN2 : Hid (cntK (c + 1) = n + 1) := by show _ = _; rw [cntK_yes (by rw [k4]; decide), HN.out]
          simp only [Prod.mk.injEq] at htok
          obtain ⟨rfl, rfl, rfl⟩ := htok
          obtain ⟨a1, c1, rfl, r2, r3, r4, r5⟩ := hr1.form
          obtain ⟨g, rfl⟩ := r4 (by simp)
          obtain ⟨p0, p1, p2⟩ := r5.at0 (i := 0) rfl
          simp only [Nat.zero_mul, Nat.zero_add] at p0 p1 p2
          have hn2 : n + 1 ≤ 128 := by have := cntK_le (c + 1); have := HN2.out; omega
          rw [k1, k2, k3]
          clear r4 r5 hr1 hbl k1 k2 k3 k4
          unfold maxLen at r3
          go_wp2_with fail
          go_roundw
          case rel => exact ⟨c + 1, n + 1, by go_num, by go_num, by omega, hn2, HN2, hbb1⟩
          case measure => simp [intOf]; omega
        · rw [if_neg (by rw [k4]; decide), k4] at htok
          have HN2 : Hid (cntK (c + 1) = n + 1) := by show _ = _; rw [cntK_yes (by rw [k4]; decide), HN.out]
          simp only [Prod.mk.injEq] at htok
          obtain ⟨rfl, rfl, rfl⟩ := htok
          obtain ⟨a1, c1, rfl, r2, r3, r4, r5⟩ := hr1.form
          obtain ⟨g, rfl⟩ := r4 (by simp)
          obtain ⟨p0, p1, p2⟩ := r5.at0 (i := 0) rfl
          simp only [Nat.zero_mul, Nat.zero_add] at p0 p1 p2
          have hn2 : n + 1 ≤ 128 := by have := cntK_le (c + 1); have := HN2.out; omega
          rw [k1, k2, k3]
          clear r4 r5 hr1 hbl k1 k2 k3 k4
          unfold maxLen at r3
          go_wp2_with fail
          go_roundw
          case rel => exact ⟨c + 1, n + 1, by go_num, by go_num, by omega, hn2, HN2, hbb1⟩
          case measure => simp [intOf]; omega
        · rw [if_neg (by rw [k4]; decide), k4] at htok
          have HN2 : Hid (cntK (c + 1) = n + 1) := by show _ = _; rw [cntK_yes (by rw [k4]; decide), HN.out]
          simp only [Prod.mk.injEq] at htok
          obtain ⟨rfl, rfl, rfl⟩ := htok
          obtain ⟨a1, c1, rfl, r2, r3, r4, r5⟩ := hr1.form
          obtain ⟨g, rfl⟩ := r4 (by simp)
          obtain ⟨p0, p1, p2⟩ := r5.at0 (i := 0) rfl
          simp only [Nat.zero_mul, Nat.zero_add] at p0 p1 p2
          have hn2 : n + 1 ≤ 128 := by have := cntK_le (c + 1); have := HN2.out; omega
          rw [k1, k2, k3]
          clear r4 r5 hr1 hbl k1 k2 k3 k4
          unfold maxLen at r3
          go_wp2_with fail
          go_roundw
          case rel => exact ⟨c + 1, n + 1, by go_num, by go_num, by omega, hn2, HN2, hbb1⟩
          case measure => simp [intOf]; omega
        · rw [if_pos k4] at htok
          have HN2 : Hid (cntK (c + 1) = n) := by show _ = _; rw [cntK_no k4]; exact HN.out
          simp only [Prod.mk.injEq] at htok
          obtain ⟨rfl, rfl, rfl⟩ := htok
          obtain ⟨a1, c1, rfl, _, _, _, _⟩ := hr1.form
          rw [k1, k2, k3]
          clear hr1 hbl k1 k2 k3 k4
          go_wp2_with fail
          go_roundw
          case rel => exact ⟨c + 1, n, by go_num, rfl, by omega, hn, HN2, hbb1⟩
          case measure => simp [intOf]; omega
    · have hc8 : c = 128 := by omega
      have hn7 : (n : Int) = 70 := by have := HN.out; rw [hc8, cntK_all] at this; omega
      have hnb : ((n : Int) == 70) = true := by rw [beq_iff_eq]; exact hn7
      clear hc8 hn7
      go_wp2_with fail
      refine (lawake_any _).mono ?_
      rintro x w1 ⟨rfl, hb1⟩
      go_wp2_with fail
      go_ret
      exact ⟨rfl, hbel.trans (hb1.mono hbel.size)⟩
end Go.Proofs.Ytdaaijhanhmddaa

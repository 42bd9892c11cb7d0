/- What the reference's word answers, at every place of every text. -/
import Derived.Test.YtdaaijhanhmddaaLxNum
import Derived.Test.YtdaaijhanhmddaaRuRefNext
import Derived.Test.YtdaaijhanhmddaaRuRefLeaf
namespace Go.Proofs.Ytdaaijhanhmddaa
open Go.ChangeShapes Go.WideShapes Go.ChangeAt Go.RowKit
set_option linter.unusedVariables false
set_option linter.unusedSimpArgs false
set_option maxRecDepth 20000

set_option maxHeartbeats 1000000 in
theorem rword_any (s : ByteArray) (p : Nat) (dg : Bool) (w : World) (hs : s.size ≤ 140737488351232) (hp : p ≤ s.size) :
    Calls Try.prog 22 #[.string s, .int .i64 (p : Int), .bool dg] w fun e w' => e = .returned (.int .i64 ((p + runN (if dg = true then 2 else 1) (s.data.toList.drop p) : Nat) : Int)) ∧ w' = w := by
  obtain ⟨K, hK⟩ : ∃ K, (if dg = true then 2 else 1) = K := ⟨_, rfl⟩
  rw [hK]
  obtain ⟨E, hE⟩ : ∃ E, p + runN K (s.data.toList.drop p) = E := ⟨_, rfl⟩
  rw [hE]
  have HE : Hid (p + runN K (s.data.toList.drop p) = E) := hE
  have HG1 : Hid (∀ c : Nat, digB c = true → goesB K c = true) := fun c h => by rw [← hK]; cases dg <;> simp [goesB, h]
  have HG2 : Hid (dg = true → ∀ c : Nat, digB c = false → goesB K c = false) := fun hd c h => by rw [← hK, hd]; simp [goesB, h]
  have HG3 : Hid (dg = false → ∀ c : Nat, letB c = true → goesB K c = true) := fun hd c h => by rw [← hK, hd]; simp [goesB, h]
  have HG4 : Hid (dg = false → ∀ c : Nat, digB c = false → letB c = false → goesB K c = false) := fun hd c h h2 => by rw [← hK, hd]; simp [goesB, h, h2]
  clear hE hK
  go_enter Try.func22, Try.ntmps22
  go_wp2_with fail
  go_loop [1] (fun iv => ∃ i : Nat, iv = .int .i64 (i : Int) ∧ i ≤ s.size ∧ Hid (i + runN K (s.data.toList.drop i) = E)) (fun iv => s.size - (intOf iv).toNat)
  case atStart => exact ⟨p, rfl, hp, HE⟩
  case round =>
    obtain ⟨i, rfl, hi, HI⟩ := hrel
    have HA : Hid (atL s i = s.data.toList.drop i) := by rw [atL_in s i (by omega), Int.toNat_natCast]; rfl
    go_wp2_with fail
    refine (rnext_any s _ _ hs).mono ?_
    rintro e w1 ⟨rfl, rfl⟩
    rw [HA.out]
    clear HA
    generalize hx : nxL (s.data.toList.drop i) = x
    cases x with
    | none =>
      have HN : Hid (i = E) := by
        show _ = _
        rw [← HI.out, runN_stop0 (contB_none hx)]; rfl
      simp only [nxV]
      clear hx
      go_wp2_with fail
      go_ret
      exact ⟨ret_int (by rw [HN.out]), rfl⟩
    | some x =>
      obtain ⟨c, m⟩ := x
      have hm := nx_len hx
      rw [List.length_drop, len_data] at hm
      have HS : Hid (goesB K c = true → i + m + runN K (s.data.toList.drop (i + m)) = E) := fun h => by
        have := runN_yes hx h
        rw [List.drop_drop] at this
        have h9 := HI.out
        omega
      have HF : Hid (goesB K c = false → i = E) := fun h => by
        have := runN_stop0 (l := s.data.toList.drop i) (k := K) (by rw [contB_yes hx]; exact h)
        have h9 := HI.out
        omega
      simp only [nxV]
      clear hx
      go_wp2_with fail
      refine (rdigit_any _ _).mono ?_
      rintro e w2 ⟨rfl, rfl⟩
      cases hdg : digB c with
      | true =>
        have HN := HS.out (HG1.out c hdg)
        have HN' : Hid (i + m + runN K (s.data.toList.drop (i + m)) = E) := HN
        clear HN HS HF hdg
        go_wp2_with fail
        go_round
        case rel => exact ⟨i + m, by go_num, by omega, HN'⟩
        case measure => simp [intOf]; omega
      | false =>
        have HDG : Hid (digB c = false) := hdg
        clear hdg
        cases hd : dg with
        | true =>
          have HN : Hid (i = E) := HF.out (HG2.out hd c HDG.out)
          subst hd
          clear HS HF
          go_wp2_with fail
          go_ret
          exact ⟨ret_int (by rw [HN.out]), rfl⟩
        | false =>
          have HG3' := HG3.out hd c
          have HG4' := HG4.out hd c HDG.out
          have G3 : Hid (letB c = true → goesB K c = true) := HG3'
          have G4 : Hid (letB c = false → goesB K c = false) := HG4'
          clear HG3' HG4'
          subst hd
          go_wp2_with fail
          refine (rletter_any _ _).mono ?_
          rintro e w3 ⟨rfl, rfl⟩
          cases hl : letB c with
          | true =>
            have HN' : Hid (i + m + runN K (s.data.toList.drop (i + m)) = E) := HS.out (G3.out hl)
            clear HS HF hl
            go_wp2_with fail
            go_round
            case rel => exact ⟨i + m, by go_num, by omega, HN'⟩
            case measure => simp [intOf]; omega
          | false =>
            have HN : Hid (i = E) := HF.out (G4.out hl)
            clear HS HF hl
            go_wp2_with fail
            go_ret
            exact ⟨ret_int (by rw [HN.out]), rfl⟩

set_option maxHeartbeats 1000000 in
theorem rnumber_any (s : ByteArray) (w : World) (hs : s.size ≤ 140737488351232) :
    Calls Try.prog 12 #[.string s] w fun e w' => e = .returned (.tuple #[.int .i64 ((numA s.data.toList).1 : Int), .bool (numA s.data.toList).2]) ∧ w' = w := by
  obtain ⟨R, hR⟩ : ∃ R, numA s.data.toList = R := ⟨_, rfl⟩
  rw [hR]
  have HR : Hid (numA s.data.toList = R) := hR
  clear hR
  by_cases h1 : s.size < 1
  · have : R = (0, false) := by rw [← HR.out]; exact numA_none (.inl (by rw [len_data]; exact h1))
    subst this
    have hd1 : decide ((s.size : Int) < 1) = true := by simp; omega
    clear HR
    go_enter Try.func12, Try.ntmps12
    go_wp2_with fail
    go_ret2
    exact ⟨rfl, rfl⟩
  · have hd1 : decide ((s.size : Int) < 1) = false := by simp; omega
    by_cases h2 : 10 < s.size
    · have : R = (0, false) := by rw [← HR.out]; exact numA_none (.inr (.inl (by rw [len_data]; exact h2)))
      subst this
      have hd2 : decide (10 < (s.size : Int)) = true := by simp; omega
      clear HR
      go_enter Try.func12, Try.ntmps12
      go_wp2_with fail
      go_ret2
      exact ⟨rfl, rfl⟩
    · have hd2 : decide (10 < (s.size : Int)) = false := by simp; omega
      have hb0 : 0 < s.size := by omega
      by_cases h3 : 1 < s.size ∧ headN s.data.toList = 48
      · have : R = (0, false) := by rw [← HR.out]; exact numA_none (.inr (.inr (by rw [len_data]; exact h3)))
        subst this
        have hd3 : decide (1 < (s.size : Int)) = true := by simp; omega
        have hb : ((s[0].toNat : Int) == 48) = true := by rw [beq_iff_eq, ← head_byte s hb0, h3.2]; rfl
        clear HR h3
        go_enter Try.func12, Try.ntmps12
        go_wp2_with fail
        go_ret2
        exact ⟨rfl, rfl⟩
      · have HN : Hid (¬ (s.size < 1 ∨ 10 < s.size ∨ (1 < s.size ∧ headN s.data.toList = 48))) := by
          rintro (h | h | h)
          · exact h1 h
          · exact h2 h
          · exact h3 h
        have hgo : (decide (1 < (s.size : Int)) = false) ∨ (decide (1 < (s.size : Int)) = true ∧ ((s[0].toNat : Int) == 48) = false) := by
          by_cases h : 1 < s.size
          · right
            refine ⟨by simp; omega, ?_⟩
            rw [beq_eq_false_iff_ne, ← head_byte s hb0]
            intro e
            exact h3 ⟨h, by omega⟩
          · left; simp; omega
        have hle : s.size ≤ 10 := by omega
        clear h3 h2
        rcases hgo with hd3 | ⟨hd3, hb⟩
        all_goals
          go_enter Try.func12, Try.ntmps12
          go_wp2_with fail
          go_loop [4, 5] (fun nv iv => ∃ (pos v : Nat), nv = .int .i64 (v : Int) ∧ iv = .int .i64 (pos : Int) ∧ pos ≤ s.size ∧ v < 10000000000 ∧ Hid (NumAt s.data.toList pos v)) (fun _ iv => s.size - (intOf iv).toNat)
          case atStart => exact ⟨0, 0, rfl, rfl, by omega, by omega, NumAt.start _⟩
          case round =>
            obtain ⟨pos, v, rfl, rfl, hps, hv, H⟩ := hrel
            by_cases hlt : pos < s.size
            · cases hdu : digU s[pos] with
              | false =>
                have : R = (0, false) := by rw [← HR.out]; exact H.out.bad hlt hdu
                subst this
                have hcb : s[pos].toNat < 48 ∨ 57 < s[pos].toNat := by
                  unfold digU at hdu
                  simp only [decide_eq_false_iff_not] at hdu
                  omega
                clear HR hdu H
                rcases hcb with hcb | hcb
                · have hq : decide ((s[pos].toNat : Int) < 48) = true := by simp; omega
                  go_wp2_with fail
                  go_ret2
                  exact ⟨rfl, rfl⟩
                · have hq : decide ((s[pos].toNat : Int) < 48) = false := by simp; omega
                  have hq2 : decide (57 < (s[pos].toNat : Int)) = true := by simp; omega
                  go_wp2_with fail
                  go_ret2
                  exact ⟨rfl, rfl⟩
              | true =>
                have hstep := H.out.step hlt hdu
                have HS : Hid (NumAt s.data.toList (pos + 1) (10 * v + (s[pos].toNat - 48))) := hstep
                have hvb := hstep.bd (by omega)
                have hcb : 48 ≤ s[pos].toNat ∧ s[pos].toNat ≤ 57 := by
                  unfold digU at hdu
                  simp only [decide_eq_true_eq] at hdu
                  omega
                have hv2 : v < 1000000000 := by omega
                clear hdu H hstep
                have hq : decide ((s[pos].toNat : Int) < 48) = false := by simp; omega
                have hq2 : decide (57 < (s[pos].toNat : Int)) = false := by simp; omega
                go_wp2_with fail
                go_round
                case rel => exact ⟨pos + 1, 10 * v + (s[pos].toNat - 48), by congr 1; omega, by go_num, by omega, hvb, HS⟩
                case measure => simp [intOf]; omega
            · have : R = (v, true) := by rw [← HR.out]; exact H.out.done (by omega) HN.out
              subst this
              clear HR
              go_wp2_with fail
              go_ret2
              exact ⟨rfl, rfl⟩
end Go.Proofs.Ytdaaijhanhmddaa

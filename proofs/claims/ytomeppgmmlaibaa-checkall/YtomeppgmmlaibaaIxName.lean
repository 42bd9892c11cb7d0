/- What the reference's Name answers, at every text of the law's size. -/
import Derived.Test.YtomeppgmmlaibaaIxAll
import Derived.Test.YtomeppgmmlaibaaRuRefKey
import Derived.Test.YtomeppgmmlaibaaRuNameQ
namespace Go.Proofs.Ytomeppgmmlaibaa
open Go.ChangeShapes Go.WideShapes Go.ChangeAt Go.RowKit
set_option linter.unusedVariables false
set_option linter.unusedSimpArgs false
set_option maxRecDepth 20000

theorem nameB_some (s : ByteArray) (rs : List Nat) (h : runesOf s.data.toList = some rs) : nameB s = (decide (1 ≤ rs.length ∧ rs.length ≤ 20) && !keyB s && okFrom true rs) := by
  unfold nameB countN; rw [h]; rfl
theorem okFrom_bad {acc rest : List Nat} {c : Nat} (h1 : letB c = false) (h2 : digB c = false) (b : Bool) : okFrom b (acc ++ c :: rest) = false := by
  rw [okFrom_append]; simp [okFrom, h1, h2]
theorem split_at (rs : List Nat) (k : Nat) (h : k < rs.length) : rs = rs.take k ++ rs.getD k 0 :: rs.drop (k + 1) := by
  rw [List.getD_eq_getElem?_getD, List.getElem?_eq_getElem h, Option.getD_some]
  exact (List.take_append_drop k rs).symm.trans (by rw [List.drop_eq_getElem_cons h])

/-- The first k signs may stand in a name. -/
def okTo (rs : List Nat) (k : Nat) : Prop := okFrom true (rs.take k) = true
theorem okTo_step {rs : List Nat} {k : Nat} (h : okTo rs k) (h1 : 1 ≤ k) (hk : k < rs.length) (hc : letB (rs.getD k 0) = true ∨ digB (rs.getD k 0) = true) : okTo rs (k + 1) := by
  unfold okTo at h ⊢
  have e : rs.take (k + 1) = rs.take k ++ [rs.getD k 0] := by
    rw [List.take_succ_eq_append_getElem hk, List.getD_eq_getElem?_getD, List.getElem?_eq_getElem hk, Option.getD_some]
  rw [e, okFrom_append, h]
  have e2 : (rs.take k).isEmpty = false := by
    cases e3 : rs.take k with
    | nil => have : (rs.take k).length = 0 := by rw [e3]; rfl
             rw [List.length_take] at this; omega
    | cons a r => rfl
  generalize rs.getD k 0 = c at *
  rcases hc with hc | hc <;> simp [okFrom, e2, hc]
theorem okTo_bad {rs : List Nat} {k : Nat} (hk : k < rs.length) (h1 : letB (rs.getD k 0) = false) (h2 : digB (rs.getD k 0) = false) : okFrom true rs = false := by
  rw [split_at rs k hk]; exact okFrom_bad h1 h2 _

set_option maxHeartbeats 2000000 in
theorem rfname_any (s : ByteArray) (w : World) (hs : s.size ≤ 20000) :
    Calls Try.prog 34 #[.string s] w fun e w' => e = .returned (.bool (nameB s)) ∧ Below w.heap.size w w' := by
  cases hr : runesOf s.data.toList with
  | none =>
    have HX : Hid (false = nameB s) := by show false = _; unfold nameB countN; rw [hr]; rfl
    have HV : Hid (validB s.data.toList = false) := by show _ = _; unfold validB; rw [hr]; rfl
    clear hr
    go_enter Try.func34, Try.ntmps34
    go_wp2_with fail
    refine (rall_any s _ hs).mono ?_
    rintro e w1 ⟨v, rfl, _, h1⟩
    rw [HV.out]
    go_wp2_with fail
    go_ret
    exact ⟨ret_bool HX.out, h1⟩
  | some rs =>
    have HX : Hid (nameB s = (decide (1 ≤ rs.length ∧ rs.length ≤ 20) && !keyB s && okFrom true rs)) := nameB_some s rs hr
    have HV : Hid (validB s.data.toList = true) := by show _ = _; unfold validB; rw [hr]; rfl
    have HC : Hid (countN s.data.toList = rs.length) := by show _ = _; unfold countN; rw [hr]; rfl
    have HR : Hid ((runesOf s.data.toList).getD [] = rs) := by show _ = _; rw [hr]; rfl
    clear hr
    go_enter Try.func34, Try.ntmps34
    go_wp2_with fail
    refine (rall_any s _ hs).mono ?_
    rintro e w1 ⟨v, rfl, ho, h1⟩
    rw [HV.out]
    rw [HC.out, HR.out] at ho
    obtain ⟨a, cap, rfl, hc⟩ := owns_form ho
    clear ho
    by_cases g1 : rs.length < 1
    · have hd1 : decide ((rs.length : Int) < 1) = true := by simp; omega
      have HF : Hid (false = nameB s) := by show false = _; rw [HX.out]; simp; omega
      generalize rs.length = n at *
      clear hc
      go_wp2_with fail
      go_ret
      exact ⟨ret_bool HF.out, h1⟩
    · have hd1 : decide ((rs.length : Int) < 1) = false := by simp; omega
      by_cases g2 : 20 < rs.length
      · have hd2 : decide (20 < (rs.length : Int)) = true := by simp; omega
        have HF : Hid (false = nameB s) := by show false = _; rw [HX.out]; simp; omega
        clear hc
        generalize rs.length = n at *
        go_wp2_with fail
        go_ret
        exact ⟨ret_bool HF.out, h1⟩
      · have hd2 : decide (20 < (rs.length : Int)) = false := by simp; omega
        obtain ⟨g, rfl, hcell⟩ := hc (by omega)
        have hcl : ∀ j, j < rs.length → w1.cell? ⟨g, j, none⟩ = some (.int .i32 ((rs.getD j 0 : Nat) : Int)) := fun j hj => by
          rw [hcell j hj]; simp [runeCells, List.getD_eq_getElem?_getD, List.getElem?_eq_getElem hj]
        have HCL : Hid (∀ j, j < rs.length → w1.cell? ⟨g, j, none⟩ = some (.int .i32 ((rs.getD j 0 : Nat) : Int))) := hcl
        have hc0 := hcl 0 (by omega)
        clear hcell hcl hc
        have HL : Hid (rs.length = rs.length) := rfl
        have hn1 : 1 ≤ rs.length := by omega
        have hn2 : rs.length ≤ 20 := by omega
        have H0 : Hid (letB ((rs.getD 0 0 : Nat) : Int) = true → okTo rs 1) := fun hh => by
          unfold okTo
          have : rs.take 1 = [rs.getD 0 0] := by
            match rs, hn1 with
            | c :: r, _ => rfl
          rw [this]
          generalize rs.getD 0 0 = c at *
          simp [okFrom, hh]
        have H0f : Hid (letB ((rs.getD 0 0 : Nat) : Int) = false → okFrom true rs = false) := fun hh => by
          match rs, hn1, hh with
          | c :: r, _, hh => simp only [List.getD_cons_zero] at hh; simp [okFrom, hh]
        have HD : Hid (okTo rs rs.length → okFrom true rs = true) := fun hh => by unfold okTo at hh; simpa using hh
        have HK : Hid (∀ k, k < rs.length → letB ((rs.getD k 0 : Nat) : Int) = false → digB ((rs.getD k 0 : Nat) : Int) = false → okFrom true rs = false) := fun k hk a b => okTo_bad hk a b
        have HS : Hid (∀ k, okTo rs k → 1 ≤ k → k < rs.length → letB ((rs.getD k 0 : Nat) : Int) = true ∨ digB ((rs.getD k 0 : Nat) : Int) = true → okTo rs (k + 1)) := fun k a b c d => okTo_step a b c d
        have HF : Hid (okFrom true rs = false → false = nameB s) := fun hh => by rw [HX.out, hh]; simp
        have HFK : Hid (keyB s = true → false = nameB s) := fun hh => by rw [HX.out, hh]; simp
        have HT : Hid (keyB s = false → okFrom true rs = true → true = nameB s) := fun a b => by rw [HX.out, a, b]; simp; omega
        generalize rs.length = n at *
        clear HX HV HC HR HL
        generalize hc0e : ((rs.getD 0 0 : Nat) : Int) = c0 at hc0 H0 H0f
        clear hc0e
        go_wp2_with fail
        refine (rletter_any _ _).mono ?_
        rintro e w2 ⟨rfl, rfl⟩
        cases hl0 : letB c0 with
        | false =>
          go_wp2_with fail
          go_ret
          exact ⟨ret_bool (HF.out (H0f.out hl0)), h1⟩
        | true =>
          have HO : Hid (okTo rs 1) := H0.out hl0
          go_wp2_with fail
          refine (rkey_any _ _).mono ?_
          rintro e w3 ⟨rfl, rfl⟩
          cases hk : keyB s with
          | true =>
            go_wp2_with fail
            go_ret
            exact ⟨ret_bool (HFK.out hk), h1⟩
          | false =>
            have HKF : Hid (keyB s = false) := hk
            clear hk hl0 hc0
            go_wp2_with fail
            go_loop [5] (fun i => ∃ k : Nat, 1 ≤ k ∧ k ≤ n ∧ i = .int .i64 k ∧ Hid (okTo rs k)) (fun i => n - (intOf i).toNat)
            case atStart => exact ⟨1, by omega, by omega, rfl, HO⟩
            case round =>
              obtain ⟨k, hk1, hk2, rfl, HOk⟩ := hrel
              by_cases hlt : k < n
              · have hck := HCL.out k hlt
                have HSk : Hid (letB ((rs.getD k 0 : Nat) : Int) = true ∨ digB ((rs.getD k 0 : Nat) : Int) = true → okTo rs (k + 1)) := HS.out k HOk.out hk1 hlt
                have HKk : Hid (letB ((rs.getD k 0 : Nat) : Int) = false → digB ((rs.getD k 0 : Nat) : Int) = false → okFrom true rs = false) := HK.out k hlt
                generalize hce : ((rs.getD k 0 : Nat) : Int) = c at hck HSk HKk
                clear hce
                go_wp2_with fail
                refine (rletter_any _ _).mono ?_
                rintro e w4 ⟨rfl, rfl⟩
                cases hl : letB c with
                | true =>
                  go_wp2_with fail
                  go_round
                  case rel => exact ⟨k + 1, by omega, by omega, by go_num, HSk.out (.inl hl)⟩
                  case measure => simp [intOf]; omega
                | false =>
                  go_wp2_with fail
                  refine (rdigit_any _ _).mono ?_
                  rintro e w5 ⟨rfl, rfl⟩
                  cases hdg : digB c with
                  | true =>
                    go_wp2_with fail
                    go_round
                    case rel => exact ⟨k + 1, by omega, by omega, by go_num, HSk.out (.inr hdg)⟩
                    case measure => simp [intOf]; omega
                  | false =>
                    go_wp2_with fail
                    go_ret
                    exact ⟨ret_bool (HF.out (HKk.out hl hdg)), h1⟩
              · obtain rfl : k = n := by omega
                go_wp2_with fail
                go_ret
                exact ⟨ret_bool (HT.out HKF.out (HD.out HOk.out)), h1⟩
end Go.Proofs.Ytomeppgmmlaibaa

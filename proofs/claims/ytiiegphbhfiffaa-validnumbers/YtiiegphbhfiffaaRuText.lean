/- What the program's Count and Name answer, at every text. -/
import Derived.Test.YtiiegphbhfiffaaRuAllMath
import Derived.Test.YtiiegphbhfiffaaRuKey
namespace Go.Proofs.Ytiiegphbhfiffaa
open Go.ChangeShapes Go.WideShapes Go.ChangeAt Go.RowKit
set_option linter.unusedVariables false
set_option maxRecDepth 20000

set_option maxHeartbeats 1000000 in
theorem count_any (s : ByteArray) (w : World) (hs : s.size ≤ 140737488351232) :
    Calls Try.prog 67 #[.string s] w fun e w' => e = .returned (.int .i64 (countN s.data.toList)) ∧ Below w.heap.size w w' := by
  go_enter Try.func67, Try.ntmps67
  go_wp2
  go_loopw [3] (fun n wr => ∃ (pos : Nat) (acc : List Nat), wr = w.iter s pos ∧ n = .int .i64 acc.length ∧ acc.length ≤ pos ∧ Hid (Gone s.data.toList pos acc)) (fun _ wr => s.size - wr.iterPos w.heap.size)
  case atStart => exact ⟨0, [], rfl, rfl, by simp, Gone.start _⟩
  case round =>
    obtain ⟨pos, acc, rfl, rfl, hle, H⟩ := hrel
    by_cases hp : pos < s.size
    · obtain ⟨c, k, hd, h1, h2⟩ := dec_at s pos hp
      have hnx : ∀ ty, (Instr.next (.pointer (some ⟨w.heap.size, 0, none⟩)) true ty).run Try.prog (w.iter s pos) = .ok (.tuple #[.bool true, .int .i64 (pos : Int), .int .i32 (c : Int)]) (w.iter s (pos + k)) := by
        intro ty
        have := run_next_any (P := Try.prog) w s pos ty hp
        rw [hd] at this
        exact this
      have H1 : Hid (standsB (s.data.toList.drop pos) c = true → nxL (s.data.toList.drop pos) = some (c, k)) := h1
      have H2 : Hid (standsB (s.data.toList.drop pos) c = false → nxL (s.data.toList.drop pos) = none) := h2
      clear hd h1 h2
      go_wp2_with fail
      refine (stands_any s _ _ _ hs (by omega) (by omega)).mono ?_
      rintro e w' ⟨rfl, rfl⟩
      rw [Int.toNat_natCast]
      cases hst : standsB (s.data.toList.drop pos) c with
      | false =>
        go_wp2
        go_ret
        exact ⟨ret_int (by unfold countN; rw [H.out.bad (by rw [len_data]; exact hp) (H2.out hst)]; rfl), below_iter _ _ _⟩
      | true =>
        have HN := H1.out hst
        have hk : 1 ≤ k := (nxL_some _ _ _ HN).2.2.2.1
        have HG : Hid (Gone s.data.toList (pos + k) (acc ++ [c])) := H.out.step HN
        clear HN
        go_wp2
        go_roundw
        case rel => exact ⟨pos + k, acc ++ [c], rfl, by simp, by simp; omega, HG⟩
        case measure => simp; omega
    · have hnx : ∀ ty, (Instr.next (.pointer (some ⟨w.heap.size, 0, none⟩)) true ty).run Try.prog (w.iter s pos) = _ := fun ty => run_next_end w s pos ty hp
      go_wp2
      go_ret
      exact ⟨ret_int (by unfold countN; rw [H.out.done (by rw [len_data]; omega)]; rfl), below_iter _ _ _⟩

/-- At the rune that stands at a place: may it be in a name there? -/
theorem nameB_off (s : ByteArray) {pos c k : Nat} {acc : List Nat} (h : Gone s.data.toList pos acc) (hn : nxL (s.data.toList.drop pos) = some (c, k)) (hb : (letB c || (!acc.isEmpty && digB c)) = false) : nameB s = false := by
  unfold nameB
  cases e : runesOf s.data.toList with
  | none => simp [countN, e]
  | some rs =>
    obtain ⟨rest, rfl⟩ := (h.step hn).len e
    have : okFrom true (acc ++ [c] ++ rest) = false := by
      rw [List.append_assoc, okFrom_append]
      simp only [List.singleton_append, okFrom, Bool.true_and]
      rw [hb]; simp
    simp only [Option.getD_some, this, Bool.and_false]

set_option maxHeartbeats 1000000 in
theorem name_any (s : ByteArray) (w : World) (hs : s.size ≤ 140737488351232) :
    Calls Try.prog 51 #[.string s] w fun e w' => e = .returned (.bool (nameB s)) ∧ Below w.heap.size w w' := by
  have hcl := countN_le s.data.toList
  rw [len_data] at hcl
  by_cases hc1 : countN s.data.toList < 1
  · have HX : Hid (false = nameB s) := by show false = _; unfold nameB; simp; omega
    go_enter Try.func51, Try.ntmps51
    go_wp2_with fail
    refine (count_any s _ hs).mono ?_
    rintro e w1 ⟨rfl, hw1⟩
    generalize countN s.data.toList = n at *
    have hn1 : decide ((n : Int) < 1) = true := by simp; omega
    go_wp2_with fail
    go_ret
    exact ⟨ret_bool HX.out, hw1⟩
  · by_cases hc2 : 20 < countN s.data.toList
    · have HX : Hid (false = nameB s) := by show false = _; unfold nameB; simp; omega
      go_enter Try.func51, Try.ntmps51
      go_wp2_with fail
      refine (count_any s _ hs).mono ?_
      rintro e w1 ⟨rfl, hw1⟩
      generalize countN s.data.toList = n at *
      have hn1 : decide ((n : Int) < 1) = false := by simp; omega
      have hn2 : decide (20 < (n : Int)) = true := by simp; omega
      go_wp2_with fail
      go_ret
      exact ⟨ret_bool HX.out, hw1⟩
    · cases hk : keyB s with
      | true =>
        have HX : Hid (false = nameB s) := by show false = _; unfold nameB; simp [hk]
        have HK : Hid (keyB s = true) := hk
        clear hk
        go_enter Try.func51, Try.ntmps51
        go_wp2_with fail
        refine (count_any s _ hs).mono ?_
        rintro e w1 ⟨rfl, hw1⟩
        generalize countN s.data.toList = n at *
        have hn1 : decide ((n : Int) < 1) = false := by simp; omega
        have hn2 : decide (20 < (n : Int)) = false := by simp; omega
        go_wp2_with fail
        refine (key_any s _).mono ?_
        rintro e w2 ⟨rfl, rfl⟩
        rw [HK.out]
        go_wp2_with fail
        go_ret
        exact ⟨ret_bool HX.out, hw1⟩
      | false =>
        obtain ⟨rs, hrs⟩ : ∃ rs, runesOf s.data.toList = some rs := by
          cases e : runesOf s.data.toList with
          | none => simp [countN, e] at hc1
          | some rs => exact ⟨rs, rfl⟩
        have HX : Hid (nameB s = okFrom true rs) := by
          show nameB s = _
          unfold nameB
          rw [hk, hrs]
          simp only [Bool.not_false, Bool.and_true, Option.getD_some]
          rw [decide_eq_true (by omega), Bool.true_and]
        have HR : Hid (runesOf s.data.toList = some rs) := hrs
        have HK : Hid (keyB s = false) := hk
        clear hk hrs
        go_enter Try.func51, Try.ntmps51
        go_wp2_with fail
        refine (count_any s _ hs).mono ?_
        rintro e w1 ⟨rfl, hw1⟩
        generalize countN s.data.toList = n at *
        have hn1 : decide ((n : Int) < 1) = false := by simp; omega
        have hn2 : decide (20 < (n : Int)) = false := by simp; omega
        go_wp2_with fail
        refine (key_any s _).mono ?_
        rintro e w2 ⟨rfl, rfl⟩
        rw [HK.out]
        go_wp2_with fail
        go_loopw [] (fun wr => ∃ (pos : Nat) (acc : List Nat), wr = w2.iter s pos ∧ Hid (Gone s.data.toList pos acc) ∧ Hid (okFrom true acc = true) ∧ Hid (acc.isEmpty = decide (pos = 0))) (fun wr => s.size - wr.iterPos w2.heap.size)
        case atStart => exact ⟨0, [], rfl, Gone.start _, rfl, rfl⟩
        case round =>
          obtain ⟨pos, acc, rfl, H, HO, HE⟩ := hrel
          by_cases hp : pos < s.size
          · obtain ⟨c, k, hd, h1, h2⟩ := dec_at s pos hp
            obtain ⟨x, hx⟩ := nx_of_gone H.out (by rw [len_data]; exact hp) HR.out
            have HN : Hid (nxL (s.data.toList.drop pos) = some (c, k)) := dec_of_nx h1 h2 hx
            have hnx : ∀ ty, (Instr.next (.pointer (some ⟨w2.heap.size, 0, none⟩)) true ty).run Try.prog (w2.iter s pos) = .ok (.tuple #[.bool true, .int .i64 (pos : Int), .int .i32 (c : Int)]) (w2.iter s (pos + k)) := by
              intro ty
              have := run_next_any (P := Try.prog) w2 s pos ty hp
              rw [hd] at this
              exact this
            have hk : 1 ≤ k := (nxL_some _ _ _ HN.out).2.2.2.1
            have HG : Hid (Gone s.data.toList (pos + k) (acc ++ [c])) := H.out.step HN.out
            have HE2 : Hid ((acc ++ [c]).isEmpty = decide (pos + k = 0)) := by show _ = _; rw [decide_eq_false (by omega)]; cases acc <;> rfl
            clear hd h1 h2 hx
            go_wp2_with fail
            refine (letter_any _ _).mono ?_
            rintro e w3 ⟨rfl, rfl⟩
            cases hl : letB c with
            | true =>
              have HO2 : Hid (okFrom true (acc ++ [c]) = true) := by show _ = _; rw [okFrom_append, HO.out]; simp [okFrom, hl]
              go_wp2_with fail
              go_roundw
              case rel => exact ⟨pos + k, acc ++ [c], rfl, HG, HO2, HE2⟩
              case measure => simp; omega
            | false =>
              by_cases hp0 : pos = 0
              · have HF : Hid (false = nameB s) := (nameB_off s H.out HN.out (by rw [hl, HE.out]; simp [hp0])).symm
                have hpd : ((pos : Int) == 0) = true := by simp [hp0]
                clear hp0
                go_wp2_with fail
                go_ret
                exact ⟨ret_bool HF.out, hw1.trans ((below_iter _ _ _).mono hw1.size)⟩
              · have hpd : ((pos : Int) == 0) = false := by simp [hp0]
                go_wp2_with fail
                refine (digit_any _ _).mono ?_
                rintro e w4 ⟨rfl, rfl⟩
                cases hdg : digB c with
                | true =>
                  have HO2 : Hid (okFrom true (acc ++ [c]) = true) := by show _ = _; rw [okFrom_append, HO.out, HE.out]; simp [okFrom, hdg, hp0]
                  go_wp2_with fail
                  go_roundw
                  case rel => exact ⟨pos + k, acc ++ [c], rfl, HG, HO2, HE2⟩
                  case measure => simp; omega
                | false =>
                  have HF : Hid (false = nameB s) := (nameB_off s H.out HN.out (by rw [hl, hdg]; simp)).symm
                  go_wp2_with fail
                  go_ret
                  exact ⟨ret_bool HF.out, hw1.trans ((below_iter _ _ _).mono hw1.size)⟩
          · have hnx : ∀ ty, (Instr.next (.pointer (some ⟨w2.heap.size, 0, none⟩)) true ty).run Try.prog (w2.iter s pos) = _ := fun ty => run_next_end w2 s pos ty hp
            have HF : Hid (true = nameB s) := by
              show true = _
              have := H.out.done (by rw [len_data]; omega)
              rw [HR.out] at this
              simp at this
              rw [HX.out, this, HO.out]
            go_wp2
            go_ret
            exact ⟨ret_bool HF.out, hw1.trans ((below_iter _ _ _).mono hw1.size)⟩
end Go.Proofs.Ytiiegphbhfiffaa

/- What the leaf functions of package lex answer, at every input: blank, begins, goesOn, lineEnd, skip, behind. -/
import Derived.Test.YtfffjfccochccaaDoorLxMath
import Derived.Laws.Externs
namespace Go.Proofs.YtfffjfccochccaaDoor
open Go.ChangeShapes Go.WideShapes Go.ChangeAt Go.RowKit
set_option linter.unusedVariables false
set_option linter.unusedSimpArgs false
set_option maxRecDepth 20000

set_option maxHeartbeats 1000000 in
theorem blank_any (a : UInt8) (w : World) :
    Calls Tryd.prog 45 #[.int .u8 (a.toNat : Int)] w fun e w' => e = .returned (.bool (blankB a)) ∧ w' = w := by
  have HB : Hid (blankB a = decide ((a.toNat : Int) = 32 ∨ (a.toNat : Int) = 9 ∨ (a.toNat : Int) = 13 ∨ (a.toNat : Int) = 10)) := by
    show _ = _; unfold blankB; congr 1; apply propext; omega
  generalize (a.toNat : Int) = x at *
  go_enter Tryd.func45, Tryd.ntmps45
  go_wp2
  all_goals
    go_ret
    refine ⟨ret_bool ?_, rfl⟩
    rw [HB.out, Bool.eq_iff_iff]
    simp
    try omega

set_option maxHeartbeats 1000000 in
theorem begins_any (c : Nat) (w : World) :
    Calls Tryd.prog 27 #[.int .i32 (c : Int)] w fun e w' => e = .returned (.int .i64 (kindN c)) ∧ w' = w := by
  cases h1 : letB c with
  | true =>
    have HK : Hid ((1 : Int) = kindN c) := by show _ = _; unfold kindN; rw [if_pos h1]; rfl
    have H1 : Hid (letB c = true) := h1
    clear h1
    go_enter Tryd.func27, Tryd.ntmps27
    go_wp2_with fail
    refine (letter_any _ _).mono ?_
    rintro e w1 ⟨rfl, rfl⟩
    rw [H1.out]
    go_wp2_with fail
    go_ret
    exact ⟨ret_int HK.out, rfl⟩
  | false =>
    cases h2 : digB c with
    | true =>
      have HK : Hid ((2 : Int) = kindN c) := by show _ = _; unfold kindN; rw [if_neg (by simp [h1]), if_pos h2]; rfl
      have H1 : Hid (letB c = false) := h1
      have H2 : Hid (digB c = true) := h2
      clear h1 h2
      go_enter Tryd.func27, Tryd.ntmps27
      go_wp2_with fail
      refine (letter_any _ _).mono ?_
      rintro e w1 ⟨rfl, rfl⟩
      rw [H1.out]
      go_wp2_with fail
      refine (digit_any _ _).mono ?_
      rintro e w2 ⟨rfl, rfl⟩
      rw [H2.out]
      go_wp2_with fail
      go_ret
      exact ⟨ret_int HK.out, rfl⟩
    | false =>
      have HK : Hid ((kindN c : Int) = if (c : Int) = 123 ∨ (c : Int) = 125 ∨ (c : Int) = 40 ∨ (c : Int) = 41 ∨ (c : Int) = 59 ∨ (c : Int) = 61 ∨ (c : Int) = 44 then 3 else 0) := by
        show _ = _; unfold kindN; rw [if_neg (by simp [h1]), if_neg (by simp [h2])]
        unfold signB
        simp only [decide_eq_true_eq]
        split
        · rw [if_pos (by omega)]; rfl
        · rw [if_neg (by omega)]; rfl
      have H1 : Hid (letB c = false) := h1
      have H2 : Hid (digB c = false) := h2
      clear h1 h2
      go_enter Tryd.func27, Tryd.ntmps27
      go_wp2_with fail
      refine (letter_any _ _).mono ?_
      rintro e w1 ⟨rfl, rfl⟩
      rw [H1.out]
      go_wp2_with fail
      refine (digit_any _ _).mono ?_
      rintro e w2 ⟨rfl, rfl⟩
      rw [H2.out]
      generalize (c : Int) = x at *
      clear H1 H2
      go_wp2_with fail
      all_goals
        go_ret
        refine ⟨ret_int ?_, rfl⟩
        rw [HK.out]
        simp_all

set_option maxHeartbeats 1000000 in
theorem goesOn_any (k c : Nat) (w : World) :
    Calls Tryd.prog 52 #[.int .i64 (k : Int), .int .i32 (c : Int)] w fun e w' => e = .returned (.bool (goesB k c)) ∧ w' = w := by
  by_cases h1 : k = 1
  · subst h1
    cases h2 : letB c with
    | true =>
      have HK : Hid (true = goesB 1 c) := by show _ = _; simp [goesB, h2]
      have H2 : Hid (letB c = true) := h2
      clear h2
      go_enter Tryd.func52, Tryd.ntmps52
      go_wp2_with fail
      refine (letter_any _ _).mono ?_
      rintro e w1 ⟨rfl, rfl⟩
      rw [H2.out]
      go_wp2_with fail
      go_ret
      exact ⟨ret_bool HK.out, rfl⟩
    | false =>
      have HK : Hid (digB c = goesB 1 c) := by show _ = _; simp [goesB, h2]
      have H2 : Hid (letB c = false) := h2
      clear h2
      go_enter Tryd.func52, Tryd.ntmps52
      go_wp2_with fail
      refine (letter_any _ _).mono ?_
      rintro e w1 ⟨rfl, rfl⟩
      rw [H2.out]
      go_wp2_with fail
      refine (digit_any _ _).mono ?_
      rintro e w2 ⟨rfl, rfl⟩
      go_wp2_with fail
      go_ret
      exact ⟨ret_bool HK.out, rfl⟩
  · have hd1 : ((k : Int) == 1) = false := by rw [beq_eq_false_iff_ne]; omega
    by_cases h2 : k = 2
    · subst h2
      have HK : Hid (digB c = goesB 2 c) := by show _ = _; simp [goesB]
      clear hd1
      go_enter Tryd.func52, Tryd.ntmps52
      go_wp2_with fail
      refine (digit_any _ _).mono ?_
      rintro e w2 ⟨rfl, rfl⟩
      go_wp2_with fail
      go_ret
      exact ⟨ret_bool HK.out, rfl⟩
    · have hd2 : ((k : Int) == 2) = false := by rw [beq_eq_false_iff_ne]; omega
      have HK : Hid (false = goesB k c) := by show _ = _; simp [goesB, h1, h2]
      go_enter Tryd.func52, Tryd.ntmps52
      go_wp2_with fail
      go_ret
      exact ⟨ret_bool HK.out, rfl⟩

/-- The first byte 10, told by the line's length. -/
theorem lineN_at (l : List UInt8) (h : lineN l < l.length) : (l.getD (lineN l) 0).toNat = 10 := by
  induction l with
  | nil => simp at h
  | cons a r ih =>
    simp only [lineN] at h ⊢
    split
    · rename_i h1; simpa using h1
    · rename_i h1
      rw [if_neg h1] at h
      rw [Nat.add_comm, List.getD_cons_succ]
      exact ih (by simp at h; omega)
theorem lineN_ahead (l : List UInt8) : ∀ j, j < lineN l → (l.getD j 0).toNat ≠ 10 := by
  induction l with
  | nil => intro j h; simp [lineN] at h
  | cons a r ih =>
    intro j h
    simp only [lineN] at h
    split at h
    · omega
    · rename_i h1
      match j with
      | 0 => simpa using h1
      | j + 1 => rw [List.getD_cons_succ]; exact ih j (by omega)
theorem byte_at (s : ByteArray) (i : Nat) : (s[i]! : UInt8) = s.data.toList.getD i default := by
  obtain ⟨⟨l⟩⟩ := s
  by_cases h : i < l.length
  · rw [getElem!_pos (ByteArray.mk l.toArray) i (show i < (ByteArray.mk l.toArray).size from by rw [size_list]; exact h)]
    show l[i] = _
    rw [List.getD_eq_getElem?_getD, List.getElem?_eq_getElem h]; rfl
  · rw [getElem!_neg (ByteArray.mk l.toArray) i (show ¬ i < (ByteArray.mk l.toArray).size from by rw [size_list]; exact h)]
    rw [List.getD_eq_getElem?_getD, List.getElem?_eq_none (show l.length ≤ i from by omega)]; rfl
theorem first_line (s : ByteArray) : firstIdx s 10 = if lineN s.data.toList < s.data.toList.length then (lineN s.data.toList : Int) else -1 := by
  have hs : s.size = s.data.toList.length := by rw [len_data]
  unfold firstIdx
  split
  · rename_i i hi
    rw [List.find?_range_eq_some] at hi
    obtain ⟨h1, h2, h3⟩ := hi
    rw [List.mem_range, hs] at h2
    have h1' : (s.data.toList.getD i default).toNat = 10 := by
      rw [byte_at] at h1
      have := beq_iff_eq.1 h1
      rw [this]; rfl
    have hle : lineN s.data.toList ≤ i := by
      by_cases hc : i < lineN s.data.toList
      · exact absurd h1' (lineN_ahead _ i hc)
      · omega
    rw [if_pos (by omega)]
    by_cases hc : lineN s.data.toList < i
    · have := h3 _ hc
      rw [byte_at] at this
      have h4 := lineN_at s.data.toList (by omega)
      have h5 : s.data.toList.getD (lineN s.data.toList) default = 10 := UInt8.toNat_inj.1 h4
      rw [h5] at this
      simp at this
    · have : lineN s.data.toList = i := by omega
      rw [this]
  · rename_i hi
    rw [List.find?_range_eq_none] at hi
    rw [if_neg]
    intro hc
    have := hi _ (by rw [hs]; exact hc)
    rw [byte_at] at this
    have h5 : s.data.toList.getD (lineN s.data.toList) default = 10 := UInt8.toNat_inj.1 (lineN_at s.data.toList hc)
    rw [h5] at this
    simp at this

theorem run_index (s : ByteArray) (w : World) : (callFunc 77 #[.string s, .int .u8 10]).run Tryd.prog w = .ok (.value (.int .i64 (firstIdx s 10))) w := by
  rw [run_callFunc_extern (P := Tryd.prog) (f := 77) (fn := Tryd.f77) (e := Extern.BytealgIndexByte.indexByte) Tryd.func77 (by kernel_rfl) (by kernel_rfl) (by kernel_rfl) (by kernel_rfl)]
  rw [run_indexByte_string]; rfl
set_option maxHeartbeats 1000000 in
theorem indexIn_any (s : ByteArray) (w : World) :
    Calls Tryd.prog 74 #[.string s, .int .u8 10] w fun e w' => e = .returned (.int .i64 (firstIdx s 10)) ∧ w' = w := by
  have hx := run_index s
  go_enter Tryd.func74, Tryd.ntmps74
  go_wp2_with fail
  go_ret
  exact ⟨rfl, rfl⟩
set_option maxHeartbeats 1000000 in
theorem index_any (s : ByteArray) (w : World) :
    Calls Tryd.prog 67 #[.string s, .int .u8 10] w fun e w' => e = .returned (.int .i64 (firstIdx s 10)) ∧ w' = w := by
  go_enter Tryd.func67, Tryd.ntmps67
  go_wp2_with fail
  refine (indexIn_any _ _).mono ?_
  rintro e w1 ⟨rfl, rfl⟩
  go_wp2_with fail
  go_ret
  exact ⟨rfl, rfl⟩
set_option maxHeartbeats 1000000 in
theorem lineEnd_any (s : ByteArray) (p : Nat) (w : World) (hs : s.size ≤ 140737488351232) (hp : p ≤ s.size) :
    Calls Tryd.prog 47 #[.string s, .int .i64 (p : Int)] w fun e w' => e = .returned (.int .i64 ((p + lineN (s.data.toList.drop p) : Nat) : Int)) ∧ w' = w := by
  have HF : Hid (firstIdx (s.extract p s.size) 10 = if lineN (s.data.toList.drop p) < s.size - p then (lineN (s.data.toList.drop p) : Int) else -1) := by
    show _ = _
    rw [first_line, extract_drop, List.length_drop, len_data]
  have hl := lineN_le (s.data.toList.drop p)
  rw [List.length_drop, len_data] at hl
  generalize lineN (s.data.toList.drop p) = n at *
  by_cases hn : n < s.size - p
  · have HG : Hid (firstIdx (s.extract p s.size) 10 = (n : Int)) := by show _ = _; rw [HF.out, if_pos hn]
    clear HF
    go_enter Tryd.func47, Tryd.ntmps47
    go_wp2_with fail
    refine (index_any _ _).mono ?_
    rintro e w1 ⟨rfl, rfl⟩
    rw [HG.out]
    go_wp2_with fail
    go_ret
    exact ⟨ret_int (by omega), rfl⟩
  · have HG : Hid (firstIdx (s.extract p s.size) 10 = -1) := by show _ = _; rw [HF.out, if_neg hn]
    clear HF
    go_enter Tryd.func47, Tryd.ntmps47
    go_wp2_with fail
    refine (index_any _ _).mono ?_
    rintro e w1 ⟨rfl, rfl⟩
    rw [HG.out]
    go_wp2_with fail
    go_ret
    exact ⟨ret_int (by omega), rfl⟩

set_option maxHeartbeats 1000000 in
theorem skip_any (s : ByteArray) (p : Nat) (w : World) (hs : s.size ≤ 140737488351232) (hp : p ≤ s.size) :
    Calls Tryd.prog 25 #[.string s, .int .i64 (p : Int)] w fun e w' => e = .returned (.int .i64 ((p + skipN (s.data.toList.drop p) : Nat) : Int)) ∧ w' = w := by
  obtain ⟨E, hE⟩ : ∃ E, p + skipN (s.data.toList.drop p) = E := ⟨_, rfl⟩
  rw [hE]
  have HS : Hid (p + skipN (s.data.toList.drop p) = E) := hE
  clear hE
  go_enter Tryd.func25, Tryd.ntmps25
  go_wp2_with fail
  go_loop [1] (fun iv => ∃ i : Nat, iv = .int .i64 (i : Int) ∧ i ≤ s.size ∧ Hid (i + skipN (s.data.toList.drop i) = E)) (fun iv => s.size - (intOf iv).toNat)
  case atStart => exact ⟨p, rfl, hp, HS⟩
  case round =>
    obtain ⟨i, rfl, hi, HI⟩ := hrel
    by_cases hlt : i < s.size
    · have HD : Hid (s.data.toList.drop i = s[i] :: s.data.toList.drop (i + 1)) := drop_cons s i hlt
      go_wp2_with fail
      refine (blank_any _ _).mono ?_
      rintro e w1 ⟨rfl, rfl⟩
      cases hb : blankB s[i] with
      | true =>
        have HN : Hid (i + 1 + skipN (s.data.toList.drop (i + 1)) = E) := by
          have h1 := skipN_blank HD.out hb
          rw [List.drop_drop] at h1
          show _ = _
          rw [← HI.out, h1]; omega
        clear hb HD
        go_wp2_with fail
        go_round
        case rel => exact ⟨i + 1, by go_num, by omega, HN⟩
        case measure => simp [intOf]; omega
      | false =>
        have HB : Hid (blankB s[i] = false) := hb
        clear hb
        have HX : Hid ((ByteArray.mk #[47, 47]).toList.isPrefixOf (s.extract i s.size).toList = [47, 47].isPrefixOf (s.data.toList.drop i)) := by
          show _ = _
          rw [ByteArray.toList_eq, ByteArray.toList_eq, extract_drop]
        go_wp2_with fail
        refine (hasPrefix_any _ _ _ (extract_size_le s _ hs) (by decide)).mono ?_
        rintro e w2 ⟨rfl, rfl⟩
        rw [HX.out]
        cases hc : [47, 47].isPrefixOf (s.data.toList.drop i) with
        | true =>
          obtain ⟨h1, h2⟩ := skipN_slash hc
          rw [List.drop_drop] at h1
          have hl := lineN_le (s.data.toList.drop i)
          rw [List.length_drop, len_data] at hl
          have HN : Hid (i + lineN (s.data.toList.drop i) + skipN (s.data.toList.drop (i + lineN (s.data.toList.drop i))) = E) := by
            show _ = _; rw [← HI.out, h1]; omega
          clear hc HD HX h1 HB HI
          go_wp2_with fail
          refine (lineEnd_any s i _ hs hi).mono ?_
          rintro e w3 ⟨rfl, rfl⟩
          generalize lineN (s.data.toList.drop i) = n at *
          go_wp2_with fail
          go_round
          case rel => exact ⟨i + n, rfl, by omega, HN⟩
          case measure => simp [intOf]; omega
        | false =>
          have HN : Hid (i = E) := by
            show _ = _; rw [← HI.out, skipN_none HD.out HB.out hc]; rfl
          clear hc HD HX
          go_wp2_with fail
          go_ret
          exact ⟨ret_int (by rw [HN.out]), rfl⟩
    · have HN : Hid (i = E) := by
        show _ = _
        rw [← HI.out, drop_none s i (by omega), skipN_nil]; rfl
      go_wp2_with fail
      go_ret
      exact ⟨ret_int (by rw [HN.out]), rfl⟩

theorem goes_rune {k c m : Nat} {l : List UInt8} (h1 : standsB l c = true → nxL l = some (c, m)) (h2 : standsB l c = false → nxL l = none) : goesB k c = true → nxL l = some (c, m) := by
  intro h
  refine h1 ?_
  cases e : standsB l c with
  | true => rfl
  | false =>
    exfalso
    unfold standsB at e
    simp at e
    have : c = 65533 := by omega
    subst this
    simp [goesB, letB, digB] at h
theorem goes_cont {k c m : Nat} {l : List UInt8} (h1 : standsB l c = true → nxL l = some (c, m)) (h2 : standsB l c = false → nxL l = none) (h : goesB k c = false) : contB k l = false := by
  cases e : standsB l c with
  | true => rw [contB_yes (h1 e)]; exact h
  | false => exact contB_none (h2 e)

set_option maxHeartbeats 1000000 in
theorem behind_any (s : ByteArray) (p k c m : Nat) (w : World) (hs : s.size ≤ 140737488351232) (hp : p < s.size) (hn : nxL (s.data.toList.drop p) = some (c, m)) :
    Calls Tryd.prog 28 #[.string s, .int .i64 (p : Int), .int .i64 (k : Int)] w fun e w' => e = .returned (.int .i64 ((p + pieceN k m (s.data.toList.drop p) : Nat) : Int)) ∧ Below w.heap.size w w' := by
  have hpb := piece_bd (k := k) hn
  rw [List.length_drop, len_data] at hpb
  obtain ⟨E, hE⟩ : ∃ E, pieceN k m (s.data.toList.drop p) = E := ⟨_, rfl⟩
  rw [hE] at hpb ⊢
  have HE : Hid (pieceN k m (s.data.toList.drop p) = E) := hE
  have HN : Hid (nxL (s.data.toList.drop p) = some (c, m)) := hn
  clear hE hn
  have HT : Hid ((s.extract p s.size).data.toList = s.data.toList.drop p) := extract_drop s p
  have HTS : Hid ((s.extract p s.size).size = s.size - p) := by show _ = _; rw [ByteArray.size_extract]; omega
  go_enter Tryd.func28, Tryd.ntmps28
  go_wp2
  generalize s.extract p s.size = t at *
  go_loopw [] (fun wr => ∃ pos : Nat, wr = w.iter t pos ∧ pos ≤ E ∧ Hid (pos = 0 ∨ 0 < pos ∧ pos + runN k (t.data.toList.drop pos) = E)) (fun wr => t.size - wr.iterPos w.heap.size)
  case atStart => exact ⟨0, rfl, by omega, .inl rfl⟩
  case round =>
    obtain ⟨pos, rfl, hpE, H⟩ := hrel
    by_cases hlt : pos < t.size
    · obtain ⟨c', k', hd, h1, h2⟩ := dec_at t pos hlt
      have hnx : ∀ ty, (Instr.next (.pointer (some ⟨w.heap.size, 0, none⟩)) true ty).run Tryd.prog (w.iter t pos) = .ok (.tuple #[.bool true, .int .i64 (pos : Int), .int .i32 (c' : Int)]) (w.iter t (pos + k')) := by
        intro ty
        have := run_next_any (P := Tryd.prog) w t pos ty hlt
        rw [hd] at this
        exact this
      have HG1 : Hid (goesB k c' = true → nxL (t.data.toList.drop pos) = some (c', k')) := goes_rune h1 h2
      have HG2 : Hid (goesB k c' = false → contB k (t.data.toList.drop pos) = false) := goes_cont h1 h2
      have H1 : Hid (standsB (t.data.toList.drop pos) c' = true → nxL (t.data.toList.drop pos) = some (c', k')) := h1
      have H2 : Hid (standsB (t.data.toList.drop pos) c' = false → nxL (t.data.toList.drop pos) = none) := h2
      clear hd h1 h2
      by_cases h0 : pos = 0
      · have HM : Hid (k' = m) := by
          show _ = _
          have h3 : nxL (t.data.toList.drop pos) = some (c, m) := by rw [h0, List.drop_zero, HT.out]; exact HN.out
          have h4 := dec_of_nx H1.out H2.out h3
          rw [h3] at h4
          simp at h4
          exact h4.2.symm
        have HR : Hid (pos + k' = 0 ∨ 0 < pos + k' ∧ pos + k' + runN k (t.data.toList.drop (pos + k')) = E) := by
          right
          rw [HM.out, HT.out, h0]
          have h9 := HE.out
          unfold pieceN at h9
          have := (nx_len HN.out).1
          refine ⟨by omega, by rw [Nat.zero_add]; exact h9⟩
        have hk1 : 1 ≤ k' ∧ pos + k' ≤ E := by
          have := HM.out
          have := (nx_len HN.out).1
          have := hpb.2.2
          omega
        have hd0 : decide (0 < pos) = false := by simp; omega
        clear H HG1 HG2 H1 H2 h0
        go_wp2_with fail
        go_roundw
        case rel => exact ⟨pos + k', rfl, hk1.2, HR⟩
        case measure => simp; omega
      · have hd0 : decide (0 < pos) = true := by simp; omega
        have H' : Hid (pos + runN k (t.data.toList.drop pos) = E) := by
          rcases H.out with h | h
          · exact absurd h h0
          · exact h.2
        clear H h0
        go_wp2_with fail
        refine (goesOn_any k c' _).mono ?_
        rintro e w1 ⟨rfl, rfl⟩
        cases hg : goesB k c' with
        | true =>
          have hnx2 := HG1.out hg
          have hk1 := (nx_len hnx2).1
          have HR : Hid (pos + k' = 0 ∨ 0 < pos + k' ∧ pos + k' + runN k (t.data.toList.drop (pos + k')) = E) := by
            right
            have := runN_yes hnx2 hg
            rw [List.drop_drop] at this
            have h9 := H'.out
            omega
          have hE2 : pos + k' ≤ E := by
            rcases HR.out with h | h
            · omega
            · have := h.2; omega
          clear hnx2 HG1 HG2 H1 H2
          go_wp2_with fail
          go_roundw
          case rel => exact ⟨pos + k', rfl, hE2, HR⟩
          case measure => simp; omega
        | false =>
          have hz : pos = E := by
            have := runN_stop0 (HG2.out hg)
            have h9 := H'.out
            omega
          clear HG1 HG2 H1 H2
          subst hz
          go_wp2_with fail
          go_ret
          exact ⟨ret_int (by omega), below_iter _ _ _⟩
    · have hz : pos = E ∧ p + E = s.size := by
        have h8 := HTS.out
        rcases H.out with h | h
        · omega
        · have : t.data.toList.drop pos = [] := List.drop_eq_nil_of_le (by rw [len_data]; omega)
          rw [this] at h
          have h9 := h.2
          have : runN k [] = 0 := rfl
          omega
      have hnx : ∀ ty, (Instr.next (.pointer (some ⟨w.heap.size, 0, none⟩)) true ty).run Tryd.prog (w.iter t pos) = _ := fun ty => run_next_end w t pos ty hlt
      obtain ⟨hpz, hz⟩ := hz
      clear hpz
      have HZ : Hid (p + E = s.size) := hz
      clear hz
      go_wp2_with fail
      go_ret
      exact ⟨ret_int (by rw [HZ.out]), below_iter _ _ _⟩
end Go.Proofs.YtfffjfccochccaaDoor

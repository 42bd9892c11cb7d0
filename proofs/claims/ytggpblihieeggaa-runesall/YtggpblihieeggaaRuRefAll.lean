/- What the reference's All, Valid, Count and Name answer, at every text of at most 3000 bytes. -/
import Derived.Test.YtggpblihieeggaaRuRefNext
import Derived.Test.YtggpblihieeggaaRuRefLeaf
import Derived.Test.YtggpblihieeggaaRuNameK
namespace Go.Proofs.Ytggpblihieeggaa
open Go.ChangeShapes Go.WideShapes Go.ChangeAt Go.RowKit
set_option linter.unusedVariables false
set_option maxRecDepth 20000

theorem infoRune : (Try.prog.info? 21).map (fun i => (i.zero, i.size, i.bytes)) = some (some (.int .i32 0), 1, 4) := by kernel_rfl
def runeCells (rs : List Nat) : List Value := rs.map fun (c : Nat) => Value.int .i32 (c : Int)

theorem owns_cast {w : World} {b e : Nat} {v : Value} {n n' : Nat} {xs xs' : List Value} (h : w.ownsRow b e 1 v n xs) (hn : n' = n) (hx : xs' = xs) : w.ownsRow b e 1 v n' xs' := by
  rw [hn, hx]; exact h
theorem all_len {l : List UInt8} {pos c k : Nat} (hn : nxL (l.drop pos) = some (c, k)) (hp : pos ≤ l.length) : pos + k ≤ l.length ∧ 1 ≤ k ∧ k ≤ 4 := by
  obtain ⟨_, _, _, h4, h5, h6, _⟩ := nxL_some _ _ _ hn
  simp at h5
  omega

set_option maxHeartbeats 1000000 in
theorem rall_any (s : ByteArray) (w : World) (hs : s.size ≤ 3000) :
    Calls Try.prog 28 #[.string s] w fun e w' => ∃ v, e = .returned (.tuple #[v, .bool (validB s.data.toList)]) ∧
      w'.ownsRow w.heap.size 21 1 v (countN s.data.toList) (runeCells ((runesOf s.data.toList).getD [])) ∧ Below w.heap.size w w' := by
  obtain ⟨i0, hi, hz0, hz1, hz2⟩ := info_parts infoRune
  go_enter Try.func28, Try.ntmps28
  go_wp2_with fail
  go_loopw [4, 5] (fun v at' wr => ∃ (pos : Nat) (acc : List Nat), at' = .int .i64 pos ∧ pos ≤ s.size ∧ acc.length ≤ pos ∧ Hid (Gone s.data.toList pos acc) ∧ wr.ownsRow w.heap.size 21 1 v acc.length (runeCells acc) ∧ Below w.heap.size w wr)
    (fun _ at' _ => s.size - (intOf at').toNat)
  case atStart => exact ⟨0, [], rfl, by omega, by simp, Gone.start _, World.ownsRow_nil _ _ _ _, Below.refl _ _⟩
  case round =>
    obtain ⟨pos, acc, rfl, hps, hap, H, hown, hbel⟩ := hrel
    by_cases hp : pos < s.size
    · have HA : Hid (atL s pos = s.data.toList.drop pos) := by rw [atL_in s pos (by omega), Int.toNat_natCast]; rfl
      go_wp2_with fail
      refine (rnext_any s _ _ (by omega)).mono ?_
      rintro e w1 ⟨rfl, rfl⟩
      rw [HA.out]
      generalize hx : nxL (s.data.toList.drop pos) = x
      cases x with
      | none =>
        have HR : Hid (runesOf s.data.toList = none) := H.out.bad (by rw [len_data]; exact hp) hx
        have H1 : Hid (validB s.data.toList = false) := by show _ = _; unfold validB; rw [HR.out]; rfl
        have H2 : Hid (countN s.data.toList = 0) := by show _ = _; unfold countN; rw [HR.out]; rfl
        have H3 : Hid ((runesOf s.data.toList).getD [] = []) := by show _ = _; rw [HR.out]; rfl
        simp only [nxV]
        clear hx
        go_wp2_with fail
        go_ret2
        refine ⟨.slice none 0 0, ?_, ?_, hbel⟩
        · rw [H1.out]; rfl
        · rw [H2.out, H3.out]; exact World.ownsRow_nil _ _ _ _
      | some x =>
        obtain ⟨c, k⟩ := x
        obtain ⟨g1, g2, g3⟩ := all_len hx (by rw [len_data]; omega)
        rw [len_data] at g1
        have HG : Hid (Gone s.data.toList (pos + k) (acc ++ [c])) := H.out.step hx
        clear hx
        simp only [nxV]
        have hws := hbel.size
        go_wp2_with (first
          | (at_builtin; refine wpList_append_own _ rfl _ _ 30 rfl w.heap.size 21 i0 (.int .i32 0) 1 4 Try.underlying30 hi hz0 hz1 hz2 rfl (by decide) _ _ _ rfl (hown.alloc _) ⟨w1.heap.size, 0, none⟩ 1 1 [.int .i32 (c : Int)] rfl rfl ?c1 ?c2 ?c3 ?c4 ?c5 ?_)
          | fail)
        case c1 =>
          intro j u hj
          match j, hj with
          | 0, hj => simp at hj; subst hj; simp [Addr.add]
        case c2 => intro u hu; simp at hu; subst hu; rfl
        case c3 => unfold maxLen; omega
        case c4 => omega
        case c5 => simp; omega
        intro v' w2 hown' hgrow _
        have hb2 : Below w.heap.size w w2 := (hbel.alloc hws _).grown hgrow (by simp; omega) (fun k hk => (hown.lt k hk).1)
        have HO : Hid (w2.ownsRow w.heap.size 21 1 v' (acc ++ [c]).length (runeCells (acc ++ [c]))) := by
          have e1 : (acc ++ [c]).length = acc.length + 1 := by simp
          have e2 : runeCells (acc ++ [c]) = runeCells acc ++ [.int .i32 (c : Int)] := by simp [runeCells]
          show World.ownsRow _ _ _ _ _ _ _
          rw [e1, e2]
          exact hown'
        clear hown hown' hgrow
        go_wp2_with fail
        go_roundw
        case rel => exact ⟨pos + k, acc ++ [c], by go_num, by omega, by simp; omega, HG, HO.out, hb2⟩
        case measure => simp [intOf]; omega
    · have HR : Hid (runesOf s.data.toList = some acc) := H.out.done (by rw [len_data]; omega)
      have H1 : Hid (validB s.data.toList = true) := by show _ = _; unfold validB; rw [HR.out]; rfl
      have H2 : Hid (countN s.data.toList = acc.length) := by show _ = _; unfold countN; rw [HR.out]; rfl
      have H3 : Hid ((runesOf s.data.toList).getD [] = acc) := by show _ = _; rw [HR.out]; rfl
      have HO := owns_cast hown H2.out (congrArg runeCells H3.out)
      clear hown
      go_wp2_with fail
      go_ret2
      exact ⟨_, by rw [H1.out]; rfl, HO, hbel⟩

theorem owns_form {w : World} {base e : Nat} {v : Value} {n : Nat} {xs : List Value} (h : w.ownsRow base e 1 v n xs) :
    ∃ a cap, v = .slice a n cap ∧ (0 < n → ∃ g, a = some ⟨g, 0, none⟩ ∧ ∀ j, j < n → w.cell? ⟨g, j, none⟩ = xs[j]?) := by
  have h0 := h
  obtain ⟨h1, h2⟩ := h
  rcases h2 with ⟨rfl, rfl⟩ | ⟨g, cap, cur, rfl, _⟩
  · exact ⟨none, 0, rfl, by omega⟩
  · exact ⟨some ⟨g, 0, none⟩, cap, rfl, fun _ => ⟨g, rfl, fun j hj => h0.cellAt j (by omega)⟩⟩

set_option maxHeartbeats 1000000 in
theorem rvalid_any (s : ByteArray) (w : World) (hs : s.size ≤ 3000) :
    Calls Try.prog 13 #[.string s] w fun e w' => e = .returned (.bool (validB s.data.toList)) ∧ Below w.heap.size w w' := by
  go_enter Try.func13, Try.ntmps13
  go_wp2_with fail
  refine (rall_any s _ hs).mono ?_
  rintro e w1 ⟨v, rfl, _, h1⟩
  go_wp2_with fail
  go_ret
  exact ⟨rfl, h1⟩
set_option maxHeartbeats 1000000 in
theorem rcount_any (s : ByteArray) (w : World) (hs : s.size ≤ 3000) :
    Calls Try.prog 15 #[.string s] w fun e w' => e = .returned (.int .i64 (countN s.data.toList)) ∧ Below w.heap.size w w' := by
  go_enter Try.func15, Try.ntmps15
  go_wp2_with fail
  refine (rall_any s _ hs).mono ?_
  rintro e w1 ⟨v, rfl, ho, h1⟩
  obtain ⟨a, cap, rfl, _⟩ := owns_form ho
  clear ho
  go_wp2_with fail
  go_ret
  exact ⟨rfl, h1⟩

theorem nameB_some (s : ByteArray) (rs : List Nat) (h : runesOf s.data.toList = some rs) : nameB s = (decide (1 ≤ rs.length ∧ rs.length ≤ 20) && !keyB s && okFrom true rs) := by
  unfold nameB countN; rw [h]; rfl
theorem okFrom_bad {acc rest : List Nat} {c : Nat} (h1 : letB c = false) (h2 : digB c = false) (b : Bool) : okFrom b (acc ++ c :: rest) = false := by
  rw [okFrom_append]; simp [okFrom, h1, h2]
theorem split_at (rs : List Nat) (k : Nat) (h : k < rs.length) : rs = rs.take k ++ rs.getD k 0 :: rs.drop (k + 1) := by
  rw [List.getD_eq_getElem?_getD, List.getElem?_eq_getElem h, Option.getD_some]
  exact (List.take_append_drop k rs).symm.trans (by rw [List.drop_eq_getElem_cons h])

/-- The first k signs may stand in a name. -/
def okTo (rs : List Nat) (k : Nat) : Prop := okFrom true (rs.take k) = true
theorem okTo_step {rs : List Nat} {k : Nat} (h : okTo rs k) (h1 : 1 ≤ k) (hk : k < rs.length) (hc : letB (rs.getD k 0) = true ∨ digB (rs.getD k 0) = true) : okTo rs (k + 1) := by
  unfold okTo at h ⊢
  have e : rs.take (k + 1) = rs.take k ++ [rs.getD k 0] := by
    rw [List.take_succ_eq_append_getElem hk, List.getD_eq_getElem?_getD, List.getElem?_eq_getElem hk, Option.getD_some]
  rw [e, okFrom_append, h]
  have e2 : (rs.take k).isEmpty = false := by
    cases e3 : rs.take k with
    | nil => have : (rs.take k).length = 0 := by rw [e3]; rfl
             rw [List.length_take] at this; omega
    | cons a r => rfl
  generalize rs.getD k 0 = c at *
  rcases hc with hc | hc <;> simp [okFrom, e2, hc]
theorem okTo_bad {rs : List Nat} {k : Nat} (hk : k < rs.length) (h1 : letB (rs.getD k 0) = false) (h2 : digB (rs.getD k 0) = false) : okFrom true rs = false := by
  rw [split_at rs k hk]; exact okFrom_bad h1 h2 _

set_option maxHeartbeats 2000000 in
theorem rname_any (s : ByteArray) (w : World) (hs : s.size ≤ 3000) :
    Calls Try.prog 17 #[.string s] w fun e w' => e = .returned (.bool (nameB s)) ∧ Below w.heap.size w w' := by
  cases hr : runesOf s.data.toList with
  | none =>
    have HX : Hid (false = nameB s) := by show false = _; unfold nameB countN; rw [hr]; rfl
    have HV : Hid (validB s.data.toList = false) := by show _ = _; unfold validB; rw [hr]; rfl
    clear hr
    go_enter Try.func17, Try.ntmps17
    go_wp2_with fail
    refine (rall_any s _ hs).mono ?_
    rintro e w1 ⟨v, rfl, _, h1⟩
    rw [HV.out]
    go_wp2_with fail
    go_ret
    exact ⟨ret_bool HX.out, h1⟩
  | some rs =>
    have HX : Hid (nameB s = (decide (1 ≤ rs.length ∧ rs.length ≤ 20) && !keyB s && okFrom true rs)) := nameB_some s rs hr
    have HV : Hid (validB s.data.toList = true) := by show _ = _; unfold validB; rw [hr]; rfl
    have HC : Hid (countN s.data.toList = rs.length) := by show _ = _; unfold countN; rw [hr]; rfl
    have HR : Hid ((runesOf s.data.toList).getD [] = rs) := by show _ = _; rw [hr]; rfl
    clear hr
    go_enter Try.func17, Try.ntmps17
    go_wp2_with fail
    refine (rall_any s _ hs).mono ?_
    rintro e w1 ⟨v, rfl, ho, h1⟩
    rw [HV.out]
    rw [HC.out, HR.out] at ho
    obtain ⟨a, cap, rfl, hc⟩ := owns_form ho
    clear ho
    by_cases g1 : rs.length < 1
    · have hd1 : decide ((rs.length : Int) < 1) = true := by simp; omega
      have HF : Hid (false = nameB s) := by show false = _; rw [HX.out]; simp; omega
      generalize rs.length = n at *
      clear hc
      go_wp2_with fail
      go_ret
      exact ⟨ret_bool HF.out, h1⟩
    · have hd1 : decide ((rs.length : Int) < 1) = false := by simp; omega
      by_cases g2 : 20 < rs.length
      · have hd2 : decide (20 < (rs.length : Int)) = true := by simp; omega
        have HF : Hid (false = nameB s) := by show false = _; rw [HX.out]; simp; omega
        clear hc
        generalize rs.length = n at *
        go_wp2_with fail
        go_ret
        exact ⟨ret_bool HF.out, h1⟩
      · have hd2 : decide (20 < (rs.length : Int)) = false := by simp; omega
        obtain ⟨g, rfl, hcell⟩ := hc (by omega)
        have hcl : ∀ j, j < rs.length → w1.cell? ⟨g, j, none⟩ = some (.int .i32 ((rs.getD j 0 : Nat) : Int)) := fun j hj => by
          rw [hcell j hj]; simp [runeCells, List.getD_eq_getElem?_getD, List.getElem?_eq_getElem hj]
        have HCL : Hid (∀ j, j < rs.length → w1.cell? ⟨g, j, none⟩ = some (.int .i32 ((rs.getD j 0 : Nat) : Int))) := hcl
        have hc0 := hcl 0 (by omega)
        clear hcell hcl hc
        have HL : Hid (rs.length = rs.length) := rfl
        have hn1 : 1 ≤ rs.length := by omega
        have hn2 : rs.length ≤ 20 := by omega
        have H0 : Hid (letB ((rs.getD 0 0 : Nat) : Int) = true → okTo rs 1) := fun hh => by
          unfold okTo
          have : rs.take 1 = [rs.getD 0 0] := by
            match rs, hn1 with
            | c :: r, _ => rfl
          rw [this]
          generalize rs.getD 0 0 = c at *
          simp [okFrom, hh]
        have H0f : Hid (letB ((rs.getD 0 0 : Nat) : Int) = false → okFrom true rs = false) := fun hh => by
          match rs, hn1, hh with
          | c :: r, _, hh => simp only [List.getD_cons_zero] at hh; simp [okFrom, hh]
        have HD : Hid (okTo rs rs.length → okFrom true rs = true) := fun hh => by unfold okTo at hh; simpa using hh
        have HK : Hid (∀ k, k < rs.length → letB ((rs.getD k 0 : Nat) : Int) = false → digB ((rs.getD k 0 : Nat) : Int) = false → okFrom true rs = false) := fun k hk a b => okTo_bad hk a b
        have HS : Hid (∀ k, okTo rs k → 1 ≤ k → k < rs.length → letB ((rs.getD k 0 : Nat) : Int) = true ∨ digB ((rs.getD k 0 : Nat) : Int) = true → okTo rs (k + 1)) := fun k a b c d => okTo_step a b c d
        have HF : Hid (okFrom true rs = false → false = nameB s) := fun hh => by rw [HX.out, hh]; simp
        have HFK : Hid (keyB s = true → false = nameB s) := fun hh => by rw [HX.out, hh]; simp
        have HT : Hid (keyB s = false → okFrom true rs = true → true = nameB s) := fun a b => by rw [HX.out, a, b]; simp; omega
        generalize rs.length = n at *
        clear HX HV HC HR HL
        generalize hc0e : ((rs.getD 0 0 : Nat) : Int) = c0 at hc0 H0 H0f
        clear hc0e
        go_wp2_with fail
        refine (rletter_any _ _).mono ?_
        rintro e w2 ⟨rfl, rfl⟩
        cases hl0 : letB c0 with
        | false =>
          go_wp2_with fail
          go_ret
          exact ⟨ret_bool (HF.out (H0f.out hl0)), h1⟩
        | true =>
          have HO : Hid (okTo rs 1) := H0.out hl0
          go_wp2_with fail
          refine (rkey_any _ _).mono ?_
          rintro e w3 ⟨rfl, rfl⟩
          cases hk : keyB s with
          | true =>
            go_wp2_with fail
            go_ret
            exact ⟨ret_bool (HFK.out hk), h1⟩
          | false =>
            have HKF : Hid (keyB s = false) := hk
            clear hk hl0 hc0
            go_wp2_with fail
            go_loop [5] (fun i => ∃ k : Nat, 1 ≤ k ∧ k ≤ n ∧ i = .int .i64 k ∧ Hid (okTo rs k)) (fun i => n - (intOf i).toNat)
            case atStart => exact ⟨1, by omega, by omega, rfl, HO⟩
            case round =>
              obtain ⟨k, hk1, hk2, rfl, HOk⟩ := hrel
              by_cases hlt : k < n
              · have hck := HCL.out k hlt
                have HSk : Hid (letB ((rs.getD k 0 : Nat) : Int) = true ∨ digB ((rs.getD k 0 : Nat) : Int) = true → okTo rs (k + 1)) := HS.out k HOk.out hk1 hlt
                have HKk : Hid (letB ((rs.getD k 0 : Nat) : Int) = false → digB ((rs.getD k 0 : Nat) : Int) = false → okFrom true rs = false) := HK.out k hlt
                generalize hce : ((rs.getD k 0 : Nat) : Int) = c at hck HSk HKk
                clear hce
                go_wp2_with fail
                refine (rletter_any _ _).mono ?_
                rintro e w4 ⟨rfl, rfl⟩
                cases hl : letB c with
                | true =>
                  go_wp2_with fail
                  go_round
                  case rel => exact ⟨k + 1, by omega, by omega, by go_num, HSk.out (.inl hl)⟩
                  case measure => simp [intOf]; omega
                | false =>
                  go_wp2_with fail
                  refine (rdigit_any _ _).mono ?_
                  rintro e w5 ⟨rfl, rfl⟩
                  cases hdg : digB c with
                  | true =>
                    go_wp2_with fail
                    go_round
                    case rel => exact ⟨k + 1, by omega, by omega, by go_num, HSk.out (.inr hdg)⟩
                    case measure => simp [intOf]; omega
                  | false =>
                    go_wp2_with fail
                    go_ret
                    exact ⟨ret_bool (HF.out (HKk.out hl hdg)), h1⟩
              · obtain rfl : k = n := by omega
                go_wp2_with fail
                go_ret
                exact ⟨ret_bool (HT.out HKF.out (HD.out HOk.out)), h1⟩
end Go.Proofs.Ytggpblihieeggaa

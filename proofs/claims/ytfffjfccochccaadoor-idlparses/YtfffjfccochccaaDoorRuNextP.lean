/- What the program's Next answers, at every input: the rune at the place, its width, true; or nothing; nothing that was there has turned. -/
import Derived.Test.YtfffjfccochccaaDoorRuStep
namespace Go.Proofs.YtfffjfccochccaaDoor
open Go.ChangeShapes Go.WideShapes Go.ChangeAt Go.RowKit
set_option linter.unusedVariables false
set_option maxRecDepth 20000

set_option maxHeartbeats 1000000 in
theorem next_out (s : ByteArray) (i : Int) (w : World) (h : i < 0 ∨ (s.size : Int) ≤ i) :
    Calls Tryd.prog 26 #[.string s, .int .i64 i] w fun e w' => e = .returned (nxV (nxL (atL s i))) ∧ Below w.heap.size w w' := by
  have hx := atL_out s i h
  have HX : Hid (nxL (atL s i) = none) := hx
  clear hx
  rcases h with h | h
  · go_enter Tryd.func26, Tryd.ntmps26
    go_wp2
    go_ret3
    exact ⟨ret_none HX.out, Below.refl _ _⟩
  · by_cases h0 : i < 0
    all_goals
      go_enter Tryd.func26, Tryd.ntmps26
      go_wp2
      go_ret3
      exact ⟨ret_none HX.out, Below.refl _ _⟩

theorem extract_mk (s : ByteArray) (i : Nat) : s.extract i s.size = ⟨(s.data.toList.drop i).toArray⟩ := by
  have h := extract_drop s i
  generalize s.extract i s.size = t at *
  obtain ⟨⟨m⟩⟩ := t
  simp only at h
  rw [h]

theorem put_size {l : List UInt8} {c k : Nat} (h : nxL l = some (c, k)) : ((putS c).size : Int) = k := by
  obtain ⟨h1, _, h3, _⟩ := nxL_some l c k h
  rw [← putS_yes h1, h3]

set_option maxHeartbeats 1000000 in
theorem next_in (s : ByteArray) (i : Nat) (w : World) (hs : s.size ≤ 140737488351232) (h : i < s.size) :
    Calls Tryd.prog 26 #[.string s, .int .i64 (i : Int)] w fun e w' => e = .returned (nxV (nxL (atL s i))) ∧ Below w.heap.size w w' := by
  have hd1 : decide (s.size ≤ i) = false := by simp; omega
  have hd2 : decide ((i : Int) < 0) = false := by simp
  have HA : Hid (atL s i = s.data.toList.drop i) := by rw [atL_in s i (by omega), Int.toNat_natCast]; rfl
  have HL : Hid (s.data.toList.drop i ≠ []) := by rw [drop_cons s i h]; exact List.cons_ne_nil _ _
  rw [HA.out]
  obtain ⟨c, k, hd⟩ : ∃ c k, Utf8.decode ⟨(s.data.toList.drop i).toArray⟩ 0 = (c, k) := ⟨_, _, rfl⟩
  obtain ⟨H1, H2⟩ : Hid (standsB (s.data.toList.drop i) c = true → nxL (s.data.toList.drop i) = some (c, k)) ∧ Hid (standsB (s.data.toList.drop i) c = false → nxL (s.data.toList.drop i) = none) := nx_stands HL.out hd
  have HD : Hid (Utf8.decode (s.extract i s.size) 0 = (c, k)) := by rw [extract_mk]; exact hd
  have HZ : Hid (0 < (s.extract i s.size).size) := by show 0 < _; rw [ByteArray.size_extract]; omega
  clear hd
  go_enter Tryd.func26, Tryd.ntmps26
  go_wp2
  generalize s.extract i s.size = t at *
  have hnx : ∀ ty, (Instr.next (.pointer (some ⟨w.heap.size, 0, none⟩)) true ty).run Tryd.prog (w.iter t 0) = .ok (.tuple #[.bool true, .int .i64 0, .int .i32 (c : Int)]) (w.iter t (0 + k)) := by
    intro ty
    have := run_next_any (P := Tryd.prog) w t 0 ty HZ.out
    rw [HD.out] at this
    exact this
  go_loopw [] (fun wr => wr = w.iter t 0) (fun _ => 0)
  case atStart => rfl
  case round =>
    subst hrel
    go_wp2_with fail
    refine (stands_any s _ _ _ hs (by omega) (by omega)).mono ?_
    rintro e w' ⟨rfl, rfl⟩
    rw [Int.toNat_natCast]
    cases hst : standsB (s.data.toList.drop i) c with
    | false =>
      go_wp2
      go_ret3
      exact ⟨ret_none (H2.out hst), below_iter _ _ _⟩
    | true =>
      go_wp2_with fail
      refine (put_any _ _).mono ?_
      rintro e w' ⟨rfl, rfl⟩
      have hp : Hid (((putS c).size : Int) = k) := put_size (H1.out hst)
      generalize putS c = p at *
      go_wp2
      go_ret3
      exact ⟨ret_some _ _ (H1.out hst) rfl hp.out, below_iter _ _ _⟩

theorem next_any (s : ByteArray) (i : Int) (w : World) (hs : s.size ≤ 140737488351232) :
    Calls Tryd.prog 26 #[.string s, .int .i64 i] w fun e w' => e = .returned (nxV (nxL (atL s i))) ∧ Below w.heap.size w w' := by
  by_cases h : i < 0 ∨ (s.size : Int) ≤ i
  · exact next_out s i w h
  · obtain ⟨n, rfl⟩ := Int.eq_ofNat_of_zero_le (a := i) (by omega)
    exact next_in s n w hs (by omega)
end Go.Proofs.YtfffjfccochccaaDoor

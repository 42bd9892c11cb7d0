/- RunesCuts answers true at every text and every number. -/
import Derived.Test.YtggpblihieeggaaRuJoin
import Derived.Test.YtggpblihieeggaaRuNextP
import Derived.Test.YtggpblihieeggaaRuValid
import Derived.Test.YtggpblihieeggaaRuAwake
import Derived.Test.YtggpblihieeggaaQb
namespace Go.Proofs.Ytggpblihieeggaa
open Go.ChangeShapes Go.WideShapes Go.ChangeAt Go.RowKit
set_option linter.unusedVariables false
set_option maxRecDepth 20000

theorem take_data (s : ByteArray) (k : Nat) : (s.extract 0 k).data.toList = s.data.toList.take k := by
  obtain ⟨⟨l⟩⟩ := s
  simp [ByteArray.data_extract]
theorem tmod_bd (i : Int) (n : Nat) : -(n : Int) ≤ i.tmod ((n : Int) + 1) ∧ i.tmod ((n : Int) + 1) ≤ n := by
  have h1 := Int.tmod_lt_of_pos i (b := (n : Int) + 1) (by omega)
  have h2 := Int.lt_tmod_of_pos i (b := (n : Int) + 1) (by omega)
  omega
theorem ext_size (s : ByteArray) (a b : Nat) : (s.extract a b).size ≤ s.size := by
  rw [ByteArray.size_extract]; omega

/-- What is asked of the text at a place, ahead of the walk. -/
structure CutFacts (s : ByteArray) (K : Int) : Prop where
  yes : ∀ pos acc, CutAt s.data.toList pos acc → (pos : Int) = K → validB (s.extract 0 K.toNat).data.toList = true ∧ validB (s.extract K.toNat s.size).data.toList = true ∧
    (countN (s.extract 0 K.toNat).data.toList : Int) + (countN (s.extract K.toNat s.size).data.toList : Int) = (countN s.data.toList : Int)
  step : ∀ pos acc, CutAt s.data.toList pos acc → (pos : Int) < K → ∃ c k, nxL (atL s pos) = some (c, k) ∧ CutAt s.data.toList (pos + k) (acc ++ [c]) ∧ 1 ≤ k ∧ k ≤ 4 ∧ pos + k ≤ s.size ∧ (K < (pos : Int) + k → validB (s.extract 0 K.toNat).data.toList = false)

theorem cutFacts (s : ByteArray) (K : Int) (h0 : 0 ≤ K) (h1 : K ≤ s.size) (hv : validB s.data.toList = true) : CutFacts s K := by
  obtain ⟨rs, hrs⟩ : ∃ rs, runesOf s.data.toList = some rs := by
    unfold validB at hv
    cases e : runesOf s.data.toList with
    | none => rw [e] at hv; cases hv
    | some rs => exact ⟨rs, rfl⟩
  constructor
  · intro pos acc hc hp
    have hpn : K.toNat = pos := by omega
    rw [hpn, take_data, extract_drop]
    obtain ⟨g1, g2, g3⟩ := hc.done hrs
    exact ⟨g1, g2, by omega⟩
  · intro pos acc hc hp
    obtain ⟨c, k, g1, g2, g3, g4, g5, g6⟩ := hc.next hrs (by rw [len_data]; omega)
    rw [len_data] at g5
    refine ⟨c, k, ?_, g2, g3, g4, g5, ?_⟩
    · rw [atL_in s pos (by omega), Int.toNat_natCast]; exact g1
    · intro hk
      rw [take_data]
      unfold validB
      rw [g6 K.toNat (by omega) (by omega)]
      rfl

set_option maxHeartbeats 1000000 in
theorem cuts_walk1 (s : ByteArray) (i : Int) (w : World) (hs : s.size ≤ 500) (hs1 : 1 ≤ s.size) (hi : -9223372036854775808 ≤ i ∧ i ≤ 9223372036854775807) (hv : validB s.data.toList = true) :
    Calls Try.prog 7 #[.string s, .int .i64 i] w fun e w' => e = .returned (.bool true) ∧ Below w.heap.size w w' := by
  have HV : Hid (validB s.data.toList = true) := hv
  have hz : ((s.size : Int) == 0) = false := by rw [beq_eq_false_iff_ne]; omega
  have hd : decide (500 < (s.size : Int)) = false := by simp; omega
  obtain ⟨ht1, ht2⟩ := tmod_bd i s.size
  clear hv
  have HF1 : Hid (i.tmod ((s.size : Int) + 1) < 0 → CutFacts s (i.tmod ((s.size : Int) + 1) + s.size + 1)) := fun h => cutFacts s _ (by omega) (by omega) HV.out
  have HF2 : Hid (0 ≤ i.tmod ((s.size : Int) + 1) → CutFacts s (i.tmod ((s.size : Int) + 1))) := fun h => cutFacts s _ (by omega) (by omega) HV.out
  by_cases ht : i.tmod ((s.size : Int) + 1) < 0
  focus
    have HF : Hid (CutFacts s (i.tmod ((s.size : Int) + 1) + s.size + 1)) := HF1.out ht
    clear HF1 HF2
    go_enter Try.func7, Try.ntmps7
    go_wp2_with fail
    refine (valid_any s _ (by omega)).mono ?_
    rintro e w1 ⟨rfl, h1⟩
    rw [HV.out]
    go_wp2_with fail
    generalize hK : i.tmod ((s.size : Int) + 1) + s.size + 1 = K at *
    have hK0 : 0 ≤ K := by omega
    have hK1 : K ≤ s.size := by omega
    clear hK ht ht1 ht2
  rotate_left
  focus
    have HF : Hid (CutFacts s (i.tmod ((s.size : Int) + 1))) := HF2.out (by omega)
    clear HF1 HF2
    go_enter Try.func7, Try.ntmps7
    go_wp2_with fail
    refine (valid_any s _ (by omega)).mono ?_
    rintro e w1 ⟨rfl, h1⟩
    rw [HV.out]
    go_wp2_with fail
    generalize hK : i.tmod ((s.size : Int) + 1) = K at *
    have hK0 : 0 ≤ K := by omega
    have hK1 : K ≤ s.size := by omega
    clear hK ht ht1 ht2
  all_goals
    go_loopw [6] (fun ev wr => ∃ (pos : Nat) (acc : List Nat), ev = .int .i64 pos ∧ pos ≤ s.size ∧ Hid (CutAt s.data.toList pos acc) ∧ Hid (K < pos → validB (s.extract 0 K.toNat).data.toList = false) ∧ Below w.heap.size w wr) (fun ev _ => s.size - (intOf ev).toNat)
    case atStart => exact ⟨0, [], rfl, by omega, CutAt.start _, fun h => absurd h (by omega), h1⟩
    case round =>
      obtain ⟨pos, acc, rfl, hps, HC, HKf, hbel⟩ := hrel
      have hws := hbel.size
      by_cases hlt : (pos : Int) < K
      · obtain ⟨c, k, g1, g2, g3, g4, g5, g6⟩ := HF.out.step pos acc HC.out hlt
        have G1 : Hid (nxL (atL s pos) = some (c, k)) := g1
        have G2 : Hid (CutAt s.data.toList (pos + k) (acc ++ [c])) := g2
        have G6 : Hid (K < ((pos + k : Nat) : Int) → validB (s.extract 0 K.toNat).data.toList = false) := fun h => g6 (by omega)
        clear g1 g2 g6
        go_wp2_with fail
        refine (next_any s _ _ (by omega)).mono ?_
        rintro e w2 ⟨rfl, h2⟩
        rw [G1.out]
        simp only [nxV]
        go_wp2_with fail
        go_roundw
        case rel => exact ⟨pos + k, acc ++ [c], by go_num, g5, G2, G6, hbel.trans (h2.mono hws)⟩
        case measure => simp [intOf]; omega
      · by_cases heq : (pos : Int) = K
        · obtain ⟨q1, q2, q3⟩ := HF.out.yes pos acc HC.out heq
          have V1 : Hid (∀ W, Below w.heap.size w W → Calls Try.prog 12 #[.string (s.extract 0 K.toNat)] W fun e W' => e = .returned (.bool true) ∧ Below w.heap.size w W') := fun W hW =>
            (valid_any _ W (by have := ext_size s 0 K.toNat; omega)).mono fun e W' h => ⟨by rw [h.1, q1], hW.trans (h.2.mono hW.size)⟩
          have V2 : Hid (∀ W, Below w.heap.size w W → Calls Try.prog 12 #[.string (s.extract K.toNat s.size)] W fun e W' => e = .returned (.bool true) ∧ Below w.heap.size w W') := fun W hW =>
            (valid_any _ W (by have := ext_size s K.toNat s.size; omega)).mono fun e W' h => ⟨by rw [h.1, q2], hW.trans (h.2.mono hW.size)⟩
          have C0 : Hid (∀ t : ByteArray, t.size ≤ 500 → ∀ W, Below w.heap.size w W → Calls Try.prog 14 #[.string t] W fun e W' => e = .returned (.int .i64 (countN t.data.toList)) ∧ Below w.heap.size w W') := fun t ht W hW =>
            (count_any _ W (by omega)).mono fun e W' h => ⟨h.1, hW.trans (h.2.mono hW.size)⟩
          have C1 : Hid (∀ W, Below w.heap.size w W → Calls Try.prog 14 #[.string (s.extract 0 K.toNat)] W fun e W' => e = .returned (.int .i64 (countN (s.extract 0 K.toNat).data.toList)) ∧ Below w.heap.size w W') := C0.out _ (by have := ext_size s 0 K.toNat; omega)
          have C2 : Hid (∀ W, Below w.heap.size w W → Calls Try.prog 14 #[.string (s.extract K.toNat s.size)] W fun e W' => e = .returned (.int .i64 (countN (s.extract K.toNat s.size).data.toList)) ∧ Below w.heap.size w W') := C0.out _ (by have := ext_size s K.toNat s.size; omega)
          have C3 : Hid (∀ W, Below w.heap.size w W → Calls Try.prog 14 #[.string s] W fun e W' => e = .returned (.int .i64 (countN s.data.toList)) ∧ Below w.heap.size w W') := C0.out _ hs
          have A1 : Hid (∀ W, Below w.heap.size w W → Calls Try.prog 11 #[] W fun e W' => e = .returned (.bool true) ∧ Below w.heap.size w W') := fun W hW =>
            (awake_any W).mono fun e W' h => ⟨h.1, hW.trans (h.2.mono hW.size)⟩
          have b1 : countN (s.extract 0 K.toNat).data.toList ≤ 500 := by have := countN_le (s.extract 0 K.toNat).data.toList; rw [len_data] at this; have := ext_size s 0 K.toNat; omega
          have b2 : countN (s.extract K.toNat s.size).data.toList ≤ 500 := by have := countN_le (s.extract K.toNat s.size).data.toList; rw [len_data] at this; have := ext_size s K.toNat s.size; omega
          have e1 : ((pos : Int) == K) = true := by rw [beq_iff_eq]; exact heq
          have e2 : ((pos : Int) != K) = false := by rw [bne, e1]; rfl
          have e3 : (((countN (s.extract 0 K.toNat).data.toList : Int) + (countN (s.extract K.toNat s.size).data.toList : Int)) == (countN s.data.toList : Int)) = true := by rw [beq_iff_eq]; exact q3
          clear C0 q1 q2 q3 HF HC HKf heq
          generalize countN (s.extract 0 K.toNat).data.toList = n1 at *
          generalize countN (s.extract K.toNat s.size).data.toList = n2 at *
          generalize countN s.data.toList = n3 at *
          go_wp2_with fail
          haveI := nonempty_qb hbel
          refine wp_region_qb hbel (by kernel_rfl) (by kernel_rfl) ?_
          repeat (go_big_quiet_step (first
            | (go_at_call_of 12 (s.extract 0 K.toNat); exact qb_call V1.out)
            | (go_at_call_of 12 (s.extract K.toNat s.size); exact qb_call V2.out)
            | (go_at_call_of 14 (s.extract 0 K.toNat); exact qb_call C1.out)
            | (go_at_call_of 14 (s.extract K.toNat s.size); exact qb_call C2.out)
            | (go_at_call_of 14 (Value.string s); exact qb_call C3.out)
            | (go_at_call 11; exact qb_call A1.out)))
          refine wpQuiet_nil ?_
          rintro _ ⟨⟨W, hW⟩, rfl⟩
          go_wp2_with fail
          go_ret
          exact ⟨rfl, hW⟩
        · have q1 := HKf.out (by omega)
          have V1 : Hid (∀ W, Below w.heap.size w W → Calls Try.prog 12 #[.string (s.extract 0 K.toNat)] W fun e W' => e = .returned (.bool false) ∧ Below w.heap.size w W') := fun W hW =>
            (valid_any _ W (by have := ext_size s 0 K.toNat; omega)).mono fun e W' h => ⟨by rw [h.1, q1], hW.trans (h.2.mono hW.size)⟩
          have A1 : Hid (∀ W, Below w.heap.size w W → Calls Try.prog 11 #[] W fun e W' => e = .returned (.bool true) ∧ Below w.heap.size w W') := fun W hW =>
            (awake_any W).mono fun e W' h => ⟨h.1, hW.trans (h.2.mono hW.size)⟩
          have e1 : ((pos : Int) == K) = false := by rw [beq_eq_false_iff_ne]; exact heq
          have e2 : ((pos : Int) != K) = true := by rw [bne, e1]; rfl
          clear q1 HF HC HKf heq
          go_wp2_with fail
          haveI := nonempty_qb hbel
          refine wp_region_qb hbel (by kernel_rfl) (by kernel_rfl) ?_
          repeat (go_big_quiet_step (first
            | (go_at_call_of 12 (s.extract 0 K.toNat); exact qb_call V1.out)
            | (go_at_call 11; exact qb_call A1.out)))
          refine wpQuiet_nil ?_
          rintro _ ⟨⟨W, hW⟩, rfl⟩
          go_wp2_with fail
          go_ret
          exact ⟨rfl, hW⟩

theorem beq_false_of {a b : Int} (h : a ≠ b) : (a == b) = false := by rw [beq_eq_false_iff_ne]; exact h

set_option maxHeartbeats 1000000 in
theorem cuts_walk0 (s : ByteArray) (i : Int) (w : World) (hr : s.size ≤ 140737488351232) (hs : 500 < s.size) :
    Calls Try.prog 7 #[.string s, .int .i64 i] w fun e w' => e = .returned (.bool true) ∧ Below w.heap.size w w' := by
  have hd : decide (500 < (s.size : Int)) = true := by simp; omega
  go_enter Try.func7, Try.ntmps7
  go_wp2_with fail
  refine (awake_any _).mono ?_
  rintro e w4 ⟨rfl, h4⟩
  go_wp2_with fail
  go_ret
  exact ⟨rfl, h4⟩
set_option maxHeartbeats 1000000 in
theorem cuts_walk2 (s : ByteArray) (i : Int) (w : World) (hs : s.size ≤ 500) (hv : validB s.data.toList = false) :
    Calls Try.prog 7 #[.string s, .int .i64 i] w fun e w' => e = .returned (.bool true) ∧ Below w.heap.size w w' := by
  have HV : Hid (validB s.data.toList = false) := hv
  have hd : decide (500 < (s.size : Int)) = false := by simp; omega
  clear hv
  go_enter Try.func7, Try.ntmps7
  go_wp2_with fail
  refine (valid_any s _ (by omega)).mono ?_
  rintro e w1 ⟨rfl, h1⟩
  rw [HV.out]
  go_wp2_with fail
  refine (awake_any _).mono ?_
  rintro e w4 ⟨rfl, h4⟩
  go_wp2_with fail
  go_ret
  exact ⟨rfl, h1.trans (h4.mono h1.size)⟩
set_option maxHeartbeats 1000000 in
theorem cuts_walk3 (s : ByteArray) (i : Int) (w : World) (hs : s.size = 0) (hv : validB s.data.toList = true) :
    Calls Try.prog 7 #[.string s, .int .i64 i] w fun e w' => e = .returned (.bool true) ∧ Below w.heap.size w w' := by
  have HV : Hid (validB s.data.toList = true) := hv
  have hd : decide (500 < (s.size : Int)) = false := by simp; omega
  have hz : ((s.size : Int) == 0) = true := by rw [beq_iff_eq]; omega
  have hs2 : s.size ≤ 500 := by omega
  clear hv hs
  go_enter Try.func7, Try.ntmps7
  go_wp2_with fail
  refine (valid_any s _ (by omega)).mono ?_
  rintro e w1 ⟨rfl, h1⟩
  rw [HV.out]
  go_wp2_with fail
  refine (awake_any _).mono ?_
  rintro e w4 ⟨rfl, h4⟩
  go_wp2_with fail
  go_ret
  exact ⟨rfl, h1.trans (h4.mono h1.size)⟩

theorem runesCuts_walk (s : ByteArray) (i : Int) (hs : s.size ≤ 140737488351232) (hi : (Lit.int .i64 i).wf = true) (w : World) :
    Calls Try.prog 7 #[.string s, .int .i64 i] w fun e w' => e = .returned (.bool true) ∧ Below w.heap.size w w' := by
  by_cases h1 : 500 < s.size
  · exact cuts_walk0 s i w hs h1
  · cases hv : validB s.data.toList with
    | false => exact cuts_walk2 s i w (by omega) hv
    | true =>
      by_cases h2 : s.size = 0
      · exact cuts_walk3 s i w h2 hv
      · exact cuts_walk1 s i w (by omega) (by omega) (bounds_i64 hi) hv
end Go.Proofs.Ytggpblihieeggaa

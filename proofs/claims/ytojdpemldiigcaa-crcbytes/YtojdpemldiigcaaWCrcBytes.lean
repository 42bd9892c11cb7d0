/- CrcBytes answers true at all bytes. -/
import Derived.Test.YtojdpemldiigcaaCrOdd
import Derived.Test.YtojdpemldiigcaaCrIn
namespace Go.Proofs.Ytojdpemldiigcaa
open Go.ChangeShapes Go.WideShapes Go.ChangeAt Go.RowKit
set_option linter.unusedVariables false
set_option linter.unusedSimpArgs false
set_option maxRecDepth 20000

theorem more_take {ns : List Nat} {i s : Nat} (hi : i < ns.length) : more (more s (ns.take i)) [ns.getD i 0] = more s (ns.take (i + 1)) := by
  rw [more_append, List.take_add_one, List.getElem?_eq_getElem hi, Option.toList_some, List.getD_eq_getElem?_getD, List.getElem?_eq_getElem hi, Option.getD_some]
theorem one_holds {w : World} {g off : Nat} {ns : List Nat} (h : Holds w (some ⟨g, off, none⟩) ns) {i : Nat} (hi : i < ns.length) : Holds w (some ⟨g, off + i, none⟩) [ns.getD i 0] := by
  refine Holds.of fun j hj => ?_
  obtain rfl : j = 0 := by simp at hj; omega
  rw [Nat.add_zero, h.at i hi]
  simp

theorem of_none (a : Option Addr) (cap : Nat) (W : World) : Calls Try.prog 11 #[.slice a 0 cap] W fun e w' => e = .returned (.int .u32 0) ∧ w' = W := by
  refine (of_any a [] cap 0 W rfl (by decide) (.inl rfl) Holds.nil (by simp)).mono ?_
  rintro e w' ⟨rfl, rfl⟩
  exact ⟨by rw [more_nil]; rfl, rfl⟩
theorem more_none (a : Option Addr) (cap s : Nat) (z : Int) (hz : z = (s : Int)) (hs : s < 4294967296) (W : World) : Calls Try.prog 9 #[.int .u32 z, .slice a 0 cap] W fun e w' => e = .returned (.int .u32 z) ∧ w' = W := by
  subst hz
  refine (more_any a [] cap s 0 _ W rfl hs rfl (by decide) (.inl rfl) Holds.nil (by simp)).mono ?_
  rintro e w' ⟨rfl, rfl⟩
  exact ⟨by rw [more_nil], rfl⟩

set_option maxHeartbeats 2000000 in
theorem bytes_none (a : Option Addr) (cap : Nat) (w : World) :
    Calls Try.prog 6 #[.slice a 0 cap] w fun e w' => e = .returned (.bool true) ∧ Below w.heap.size w w' := by
  go_enter Try.func6, Try.ntmps6
  go_wp2_with fail
  refine (of_none _ _ _).mono ?_
  rintro e w1 ⟨rfl, rfl⟩
  go_wp2_with fail
  go_loop [3, 4] (fun sv iv => sv = .int .u32 0 ∧ iv = .int .i64 0) (fun _ _ => 0)
  case atStart => exact ⟨rfl, rfl⟩
  case round =>
    obtain ⟨rfl, rfl⟩ := hrel
    go_wp2_with fail
    refine (of_none _ _ _).mono ?_
    rintro e w2 ⟨rfl, rfl⟩
    go_wp2_with fail
    refine (more_none _ _ 0 0 rfl (by decide) _).mono ?_
    rintro e w2 ⟨rfl, rfl⟩
    go_wp2_with fail
    refine (awake_any _).mono ?_
    rintro e w3 ⟨rfl, hb3⟩
    go_wp2_with fail
    go_ret
    exact ⟨rfl, hb3⟩

set_option maxHeartbeats 2000000 in
theorem bytes_some (g off N cap : Nat) (ns : List Nat) (w : World) (h : CameIn w (some ⟨g, off, none⟩) N cap ns) :
    Calls Try.prog 6 #[.slice (some ⟨g, off, none⟩) N cap] w fun e w' => e = .returned (.bool true) ∧ Below w.heap.size w w' := by
  have H : Hid (CameIn w (some ⟨g, off, none⟩) N cap ns) := h
  have hN : N ≤ cap := h.le
  have hm : cap ≤ 140737488351232 := h.max
  clear h
  go_enter Try.func6, Try.ntmps6
  go_wp2_with fail
  refine (of_none _ _ _).mono ?_
  rintro e w1 ⟨rfl, rfl⟩
  go_wp2_with fail
  go_loop [3, 4] (fun sv iv => ∃ s i : Nat, sv = .int .u32 (s : Int) ∧ iv = .int .i64 (i : Int) ∧ i ≤ N ∧ s < 4294967296 ∧ Hid (s = more 0 (ns.take i))) (fun _ iv => N - (intOf iv).toNat)
  case atStart => exact ⟨0, 0, rfl, rfl, by omega, by decide, (more_nil 0).symm⟩
  case round =>
    obtain ⟨s, i, rfl, rfl, hi, hs, HE⟩ := hrel
    by_cases hlt : i < N
    · have hcap : ¬ cap = i := by omega
      have i1 : (i : Int) + 1 ≤ (cap : Int) := by omega
      obtain ⟨M, hM⟩ : ∃ M, more 0 (ns.take (i + 1)) = M := ⟨_, rfl⟩
      have hMl : M < 4294967296 := by rw [← hM]; exact more_lt _ (by decide) (fun n hn => H.out.lt n (List.mem_of_mem_take hn))
      have hi' : i < ns.length := by rw [H.out.len]; exact hlt
      have C : Hid (∀ L, L = 1 → Calls Try.prog 9 #[.int .u32 (s : Int), .slice (some ⟨g, off + i, none⟩) L (cap - i)] w1 fun e w' => e = .returned (.int .u32 (M : Int)) ∧ w' = w1) := fun L hL => by
        subst hL
        refine (more_any _ [ns.getD i 0] (cap - i) s 1 _ w1 rfl hs rfl (by decide) (.inr ⟨_, _, rfl⟩) (one_holds H.out.holds hi') (by simpa using getD_lt H.out.lt i)).mono ?_
        rintro e w' ⟨rfl, rfl⟩
        exact ⟨by rw [HE.out, more_take hi', hM], rfl⟩
      have HM : Hid (M = more 0 (ns.take (i + 1))) := hM.symm
      clear HE hM hi'
      go_wp2_with fail
      refine (C.out _ (by omega)).mono ?_
      rintro e w2 ⟨rfl, rfl⟩
      go_wp2_with fail
      go_round
      case rel => exact ⟨M, i + 1, rfl, by go_num, by omega, hMl, HM⟩
      case measure => simp [intOf]; omega
    · obtain rfl : i = N := by omega
      have C : Hid (Calls Try.prog 11 #[.slice (some ⟨g, off, none⟩) i cap] w1 fun e w' => e = .returned (.int .u32 (s : Int)) ∧ w' = w1) := by
        refine (of_any _ ns cap i w1 H.out.len (by omega) (.inr ⟨_, _, rfl⟩) H.out.holds H.out.lt).mono ?_
        rintro e w' ⟨rfl, rfl⟩
        exact ⟨by rw [HE.out, ← H.out.len, List.take_length], rfl⟩
      clear HE
      go_wp2_with fail
      refine C.out.mono ?_
      rintro e w2 ⟨rfl, rfl⟩
      go_wp2_with fail
      refine (more_none _ _ s _ rfl hs _).mono ?_
      rintro e w2 ⟨rfl, rfl⟩
      go_wp2_with fail
      refine (awake_any _).mono ?_
      rintro e w3 ⟨rfl, hb3⟩
      go_wp2_with fail
      go_ret
      exact ⟨rfl, hb3⟩

theorem crcBytes_walk (a : Option Addr) (len cap : Nat) (zs : List Int) (w : World) (h : IsRow .u8 w a len cap zs) (hb : cap * Try.prog.bytesOf 5 ≤ 140737488351232) :
    Calls Try.prog 6 #[.slice a len cap] w fun e w' => e = .returned (.bool true) ∧ Below w.heap.size w w' := by
  obtain ⟨ns, hi⟩ := row_in h hb
  rcases hi.adr with rfl | ⟨g, off, rfl⟩
  · obtain rfl : len = 0 := hi.len.symm
    exact bytes_none a cap w
  · exact bytes_some g off len cap ns w hi
end Go.Proofs.Ytojdpemldiigcaa

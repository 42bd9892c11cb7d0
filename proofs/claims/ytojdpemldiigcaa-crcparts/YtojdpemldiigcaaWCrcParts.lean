/- CrcParts answers true at all bytes and every place. -/
import Derived.Test.YtojdpemldiigcaaCrOdd
import Derived.Test.YtojdpemldiigcaaCrIn
import Derived.Test.YtojdpemldiigcaaLwPlace
import Derived.Test.YtojdpemldiigcaaQb
namespace Go.Proofs.Ytojdpemldiigcaa
open Go.ChangeShapes Go.WideShapes Go.ChangeAt Go.RowKit
set_option linter.unusedVariables false
set_option linter.unusedSimpArgs false
set_option maxRecDepth 20000

theorem Holds.drop {w : World} {g off : Nat} {ns : List Nat} (h : Holds w (some ⟨g, off, none⟩) ns) (k : Nat) : Holds w (some ⟨g, off + k, none⟩) (ns.drop k) := by
  refine Holds.of fun j hj => ?_
  rw [List.length_drop] at hj
  have := h.at (k + j) (by omega)
  rw [Nat.add_assoc, this]
  simp [List.getD_eq_getElem?_getD]
theorem Holds.taken {w : World} {a : Option Addr} {ns : List Nat} (h : Holds w a ns) (k : Nat) : Holds w a (ns.take k) := by
  rw [← List.take_append_drop k ns] at h
  exact h.take

/-- No bytes at all. -/
theorem of_none (a : Option Addr) (cap : Nat) (W : World) : Calls Try.prog 11 #[.slice a 0 cap] W fun e w' => e = .returned (.int .u32 0) ∧ w' = W := by
  refine (of_any a [] cap 0 W rfl (by decide) (.inl rfl) Holds.nil (by simp)).mono ?_
  rintro e w' ⟨rfl, rfl⟩
  exact ⟨by rw [more_nil]; rfl, rfl⟩
theorem more_none (a : Option Addr) (cap s : Nat) (z : Int) (hz : z = (s : Int)) (hs : s < 4294967296) (W : World) : Calls Try.prog 9 #[.int .u32 z, .slice a 0 cap] W fun e w' => e = .returned (.int .u32 z) ∧ w' = W := by
  subst hz
  refine (more_any a [] cap s 0 _ W rfl hs rfl (by decide) (.inl rfl) Holds.nil (by simp)).mono ?_
  rintro e w' ⟨rfl, rfl⟩
  exact ⟨by rw [more_nil], rfl⟩

set_option maxHeartbeats 2000000 in
theorem parts_some (g off N cap : Nat) (at' : Int) (ns : List Nat) (w : World) (h : CameIn w (some ⟨g, off, none⟩) N cap ns) (hp : 0 < N) (ha1 : -9223372036854775808 ≤ at') (ha2 : at' ≤ 9223372036854775807) :
    Calls Try.prog 4 #[.slice (some ⟨g, off, none⟩) N cap, .int .i64 at'] w fun e w' => e = .returned (.bool true) ∧ Below w.heap.size w w' := by
  have H : Hid (CameIn w (some ⟨g, off, none⟩) N cap ns) := h
  have hN : N ≤ cap := h.le
  have hm : cap ≤ 140737488351232 := h.max
  clear h
  go_enter Try.func4, Try.ntmps4
  go_wp2_with fail
  refine (place_any at' _ w ha1 ha2 (by omega) (by omega)).mono ?_
  rintro e w1 ⟨k, rfl, hk, rfl⟩
  have hkN : k ≤ N := by omega
  have i1 : (k : Int) ≤ (N : Int) := by omega
  have i2 : (k : Int) ≤ (cap : Int) := by omega
  obtain ⟨A, hA⟩ : ∃ A, more 0 (ns.take k) = A := ⟨_, rfl⟩
  obtain ⟨B, hB⟩ : ∃ B, more 0 ns = B := ⟨_, rfl⟩
  have hlt : A < 4294967296 := by rw [← hA]; exact more_lt _ (by decide) (fun n hn => H.out.lt n (List.mem_of_mem_take hn))
  have hAB : more A (ns.drop k) = B := by rw [← hA, ← hB, more_append, List.take_append_drop]
  have O1 : Hid (∀ W, Below w1.heap.size w1 W → Calls Try.prog 11 #[.slice (some ⟨g, off, none⟩) k cap] W fun e W' => e = .returned (.int .u32 (A : Int)) ∧ Below w1.heap.size w1 W') := fun W hW => by
    subst hA
    refine (of_any _ (ns.take k) cap k W (by rw [List.length_take, H.out.len]; omega) (by omega) (.inr ⟨_, _, rfl⟩) ((H.out.holds.below hW).taken k) (fun n hn => H.out.lt n (List.mem_of_mem_take hn))).mono ?_
    rintro e W' ⟨rfl, rfl⟩
    exact ⟨rfl, hW⟩
  have O2 : Hid (∀ W, Below w1.heap.size w1 W → Calls Try.prog 11 #[.slice (some ⟨g, off, none⟩) N cap] W fun e W' => e = .returned (.int .u32 (B : Int)) ∧ Below w1.heap.size w1 W') := fun W hW => by
    subst hB
    refine (of_any _ ns cap N W H.out.len (by omega) (.inr ⟨_, _, rfl⟩) (H.out.holds.below hW) H.out.lt).mono ?_
    rintro e W' ⟨rfl, rfl⟩
    exact ⟨rfl, hW⟩
  have A1 : Hid (∀ W, Below w1.heap.size w1 W → Calls Try.prog 12 #[] W fun e W' => e = .returned (.bool true) ∧ Below w1.heap.size w1 W') := fun W hW =>
    (awake_any W).mono fun e W' h => ⟨h.1, hW.trans (h.2.mono hW.size)⟩
  have hbel : Below w1.heap.size w1 w1 := Below.refl _ _
  by_cases hc : cap = k
  · obtain rfl : k = N := by omega
    obtain rfl : k = cap := by omega
    have M1 : Hid (∀ W, Below w1.heap.size w1 W → Calls Try.prog 9 #[.int .u32 (A : Int), .slice (some ⟨g, off, none⟩) 0 0] W fun e W' => e = .returned (.int .u32 (A : Int)) ∧ Below w1.heap.size w1 W') := fun W hW => by
      refine (more_none _ 0 A _ rfl hlt W).mono ?_
      rintro e W' ⟨rfl, rfl⟩
      exact ⟨rfl, hW⟩
    obtain rfl : A = B := by rw [← hA, ← hB, ← H.out.len, List.take_length]
    clear hAB hA hB
    go_wp2_with fail
    haveI := nonempty_qb hbel
    refine wp_region_qb hbel (by kernel_rfl) (by kernel_rfl) ?_
    repeat (go_big_quiet_step (first
      | (go_at_call 11; exact qb_call O1.out)
      | (go_at_call 9; exact qb_call M1.out)
      | (go_at_call 12; exact qb_call A1.out)))
    refine wpQuiet_nil ?_
    rintro _ ⟨⟨W, hW⟩, rfl⟩
    go_wp2_with fail
    go_ret
    exact ⟨rfl, hW⟩
  · have M1 : Hid (∀ W, Below w1.heap.size w1 W → Calls Try.prog 9 #[.int .u32 (A : Int), .slice (some ⟨g, off + k, none⟩) (N - k) (cap - k)] W fun e W' => e = .returned (.int .u32 (B : Int)) ∧ Below w1.heap.size w1 W') := fun W hW => by
      rw [← hAB]
      refine (more_any _ (ns.drop k) (cap - k) A (N - k) _ W rfl hlt (by rw [List.length_drop, H.out.len]) (by omega) (.inr ⟨_, _, rfl⟩) ((H.out.holds.below hW).drop k) (fun n hn => H.out.lt n (List.mem_of_mem_drop hn))).mono ?_
      rintro e W' ⟨rfl, rfl⟩
      exact ⟨rfl, hW⟩
    clear hAB hA hB
    go_wp2_with fail
    haveI := nonempty_qb hbel
    refine wp_region_qb hbel (by kernel_rfl) (by kernel_rfl) ?_
    repeat (go_big_quiet_step (first
      | (go_at_call 11; exact qb_call O1.out)
      | (go_at_call 11; exact qb_call O2.out)
      | (go_at_call 9; exact qb_call M1.out)
      | (go_at_call 12; exact qb_call A1.out)))
    refine wpQuiet_nil ?_
    rintro _ ⟨⟨W, hW⟩, rfl⟩
    go_wp2_with fail
    go_ret
    exact ⟨rfl, hW⟩

set_option maxHeartbeats 2000000 in
theorem parts_none (a : Option Addr) (cap : Nat) (at' : Int) (w : World) (hm : cap ≤ 140737488351232) (hn : a = none → cap = 0) (ha1 : -9223372036854775808 ≤ at') (ha2 : at' ≤ 9223372036854775807) :
    Calls Try.prog 4 #[.slice a 0 cap, .int .i64 at'] w fun e w' => e = .returned (.bool true) ∧ Below w.heap.size w w' := by
  have O1 : Hid (∀ A c W, Below w.heap.size w W → Calls Try.prog 11 #[.slice A 0 c] W fun e W' => e = .returned (.int .u32 0) ∧ Below w.heap.size w W') := fun A c W hW => by
    refine (of_none A c W).mono ?_
    rintro e W' ⟨rfl, rfl⟩
    exact ⟨rfl, hW⟩
  have M1 : Hid (∀ A c W, Below w.heap.size w W → Calls Try.prog 9 #[.int .u32 0, .slice A 0 c] W fun e W' => e = .returned (.int .u32 0) ∧ Below w.heap.size w W') := fun A c W hW => by
    refine (more_none A c 0 0 rfl (by decide) W).mono ?_
    rintro e W' ⟨rfl, rfl⟩
    exact ⟨rfl, hW⟩
  have A1 : Hid (∀ W, Below w.heap.size w W → Calls Try.prog 12 #[] W fun e W' => e = .returned (.bool true) ∧ Below w.heap.size w W') := fun W hW =>
    (awake_any W).mono fun e W' h => ⟨h.1, hW.trans (h.2.mono hW.size)⟩
  have hbel : Below w.heap.size w w := Below.refl _ _
  have P1 : Hid (Calls Try.prog 13 #[.int .i64 at', .int .i64 1] w fun e w' => e = .returned (.int .i64 0) ∧ w' = w) := by
    refine (place_any at' 1 w ha1 ha2 (by omega) (by omega)).mono ?_
    rintro e w1 ⟨k, rfl, hk, rfl⟩
    obtain rfl : k = 0 := by omega
    exact ⟨rfl, rfl⟩
  cases a with
  | none =>
    obtain rfl := hn rfl
    clear hn
    go_enter Try.func4, Try.ntmps4
    go_wp2_with fail
    refine P1.out.mono ?_
    rintro e w1 ⟨rfl, rfl⟩
    go_wp2_with fail
    haveI := nonempty_qb hbel
    refine wp_region_qb hbel (by kernel_rfl) (by kernel_rfl) ?_
    repeat (go_big_quiet_step (first
      | (go_at_call 11; exact qb_call (O1.out _ _))
      | (go_at_call 9; exact qb_call (M1.out _ _))
      | (go_at_call 12; exact qb_call A1.out)))
    refine wpQuiet_nil ?_
    rintro _ ⟨⟨W, hW⟩, rfl⟩
    go_wp2_with fail
    go_ret
    exact ⟨rfl, hW⟩
  | some x =>
    clear hn
    by_cases hc : cap = 0
    all_goals
      try subst hc
      go_enter Try.func4, Try.ntmps4
      go_wp2_with fail
      refine P1.out.mono ?_
      rintro e w1 ⟨rfl, rfl⟩
      go_wp2_with fail
      haveI := nonempty_qb hbel
      refine wp_region_qb hbel (by kernel_rfl) (by kernel_rfl) ?_
      repeat (go_big_quiet_step (first
        | (go_at_call 11; exact qb_call (O1.out _ _))
        | (go_at_call 9; exact qb_call (M1.out _ _))
        | (go_at_call 12; exact qb_call A1.out)))
      refine wpQuiet_nil ?_
      rintro _ ⟨⟨W, hW⟩, rfl⟩
      go_wp2_with fail
      go_ret
      exact ⟨rfl, hW⟩

theorem crcParts_walk (a : Option Addr) (len cap : Nat) (zs : List Int) (at' : Int) (w : World) (h : IsRow .u8 w a len cap zs) (hb : cap * Try.prog.bytesOf 5 ≤ 140737488351232) (ha : (Lit.int .i64 at').wf = true) :
    Calls Try.prog 4 #[.slice a len cap, .int .i64 at'] w fun e w' => e = .returned (.bool true) ∧ Below w.heap.size w w' := by
  obtain ⟨c1, c2⟩ := bounds_i64 ha
  obtain ⟨ns, hi⟩ := row_in h hb
  rcases Nat.eq_zero_or_pos len with rfl | hp
  · exact parts_none a cap at' w hi.max (fun h => (hi.nil h).2) c1 c2
  · rcases hi.adr with rfl | ⟨g, off, rfl⟩
    · have := hi.len; simp at this; omega
    · exact parts_some g off len cap at' ns w hi hp c1 c2
end Go.Proofs.Ytojdpemldiigcaa

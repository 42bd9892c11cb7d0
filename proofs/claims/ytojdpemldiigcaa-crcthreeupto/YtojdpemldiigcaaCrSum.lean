/- What crc's More and Of answer, of any bytes behind any sum. -/
import Derived.Test.YtojdpemldiigcaaCrLeaf
namespace Go.Proofs.Ytojdpemldiigcaa
open Go.ChangeShapes Go.WideShapes Go.ChangeAt Go.RowKit
set_option linter.unusedVariables false
set_option maxRecDepth 20000

theorem not_u32 {x : Nat} (h : x < 4294967296) : bits .xor .u32 IntKind.u32.max (x : Int) = ((x ^^^ 4294967295 : Nat) : Int) := by
  have e : IntKind.u32.max = ((4294967295 : Nat) : Int) := by decide
  rw [e, u32_xor_nat _ _ (by decide) h, Nat.xor_comm]
theorem xor_byte {r c : Nat} (hr : r < 4294967296) (hc : c < 256) : bits .xor .u32 (r : Int) (c : Int) = ((r ^^^ c : Nat) : Int) := u32_xor_nat _ _ hr (by omega)
theorem crcF_take {ns : List Nat} {i s r : Nat} (h : r = crcF s (ns.take i)) (hi : i < ns.length) : stepN 8 (r ^^^ ns.getD i 0) = crcF s (ns.take (i + 1)) := by
  rw [List.take_add_one, List.getElem?_eq_getElem hi, Option.toList_some, crcF_snoc, ← h, List.getD_eq_getElem?_getD, List.getElem?_eq_getElem hi, Option.getD_some]
theorem getD_lt {ns : List Nat} (hb : ∀ n ∈ ns, n < 256) (i : Nat) : ns.getD i 0 < 256 := by
  rw [List.getD_eq_getElem?_getD]
  cases e : ns[i]? with
  | none => simp
  | some x => exact hb x (List.mem_of_getElem? e)

set_option maxHeartbeats 1000000 in
theorem more_nil_call (a : Option Addr) (cap sum : Nat) (w : World) (hs : sum < 4294967296) :
    Calls Try.prog 9 #[.int .u32 (sum : Int), .slice a 0 cap] w fun e w' => e = .returned (.int .u32 ((more sum [] : Nat) : Int)) ∧ w' = w := by
  have h1 := not_u32 hs
  have h2 := not_u32 (xor_lt32 hs (by decide : 4294967295 < 4294967296))
  have HE : Hid (sum ^^^ 4294967295 ^^^ 4294967295 = more sum []) := rfl
  go_enter Try.func9, Try.ntmps9
  go_wp2_with fail
  go_loop [5, 12] (fun rv iv => rv = .int .u32 ((sum ^^^ 4294967295 : Nat) : Int) ∧ iv = .int .i64 0) (fun _ _ => 0)
  case atStart => exact ⟨rfl, rfl⟩
  case round =>
    obtain ⟨rfl, rfl⟩ := hrel
    go_wp2_with fail
    go_ret
    exact ⟨by rw [← HE.out]; rfl, rfl⟩

set_option maxHeartbeats 1000000 in
theorem more_some (g off : Nat) (ns : List Nat) (cap sum N : Nat) (w : World) (hs : sum < 4294967296) (hN : ns.length = N) (hl : N ≤ 140737488355328) (hh : Holds w (some ⟨g, off, none⟩) ns) (hb : ∀ n ∈ ns, n < 256) :
    Calls Try.prog 9 #[.int .u32 (sum : Int), .slice (some ⟨g, off, none⟩) N cap] w fun e w' => e = .returned (.int .u32 ((more sum ns : Nat) : Int)) ∧ w' = w := by
  have HH : Hid (Holds w (some ⟨g, off, none⟩) ns) := hh
  have HB : Hid (∀ n ∈ ns, n < 256) := hb
  have HN : Hid (ns.length = N) := hN
  clear hh hb hN
  have h1 := not_u32 hs
  go_enter Try.func9, Try.ntmps9
  go_wp2_with fail
  clear h1
  go_loop [5, 12] (fun rv iv => ∃ (r i : Nat), rv = .int .u32 (r : Int) ∧ iv = .int .i64 (i : Int) ∧ i ≤ N ∧ r < 4294967296 ∧ Hid (r = crcF (sum ^^^ 4294967295) (ns.take i))) (fun _ iv => N - (intOf iv).toNat)
  case atStart => exact ⟨sum ^^^ 4294967295, 0, rfl, rfl, by omega, xor_lt32 hs (by decide), rfl⟩
  case round =>
    obtain ⟨r, i, rfl, rfl, hi, hr, HE⟩ := hrel
    by_cases h : i < N
    · have hcell := HH.out.at i (by rw [HN.out]; exact h)
      have hc := getD_lt HB.out i
      have HE' : Hid (stepN 8 (r ^^^ ns.getD i 0) = crcF (sum ^^^ 4294967295) (ns.take (i + 1))) := crcF_take HE.out (by rw [HN.out]; exact h)
      clear HE
      generalize ns.getD i 0 = c at *
      have hx := xor_byte hr hc
      have hxl : r ^^^ c < 4294967296 := xor_lt32 hr (by omega)
      generalize r ^^^ c = x at *
      go_wp2_with fail
      refine (step_any x _ hxl).mono ?_
      rintro e w1 ⟨rfl, rfl⟩
      go_wp2_with fail
      go_round
      case rel => exact ⟨stepN 8 x, i + 1, rfl, by go_num, by omega, stepN_lt 8 hxl, HE'⟩
      case measure => simp [intOf]; omega
    · obtain rfl : i = N := by omega
      have h2 := not_u32 hr
      have HM : Hid (r ^^^ 4294967295 = more sum ns) := by
        show _ = _
        rw [HE.out, ← HN.out, List.take_length]; rfl
      clear HE
      go_wp2_with fail
      go_ret
      exact ⟨by rw [← HM.out]; rfl, rfl⟩

theorem more_any (a : Option Addr) (ns : List Nat) (cap sum N : Nat) (z : Int) (w : World) (hz : z = (sum : Int)) (hs : sum < 4294967296) (hN : ns.length = N) (hl : N ≤ 140737488355328) (ha : ns = [] ∨ ∃ g off, a = some ⟨g, off, none⟩) (hh : Holds w a ns) (hb : ∀ n ∈ ns, n < 256) :
    Calls Try.prog 9 #[.int .u32 z, .slice a N cap] w fun e w' => e = .returned (.int .u32 ((more sum ns : Nat) : Int)) ∧ w' = w := by
  subst hz
  rcases ha with rfl | ⟨g, off, rfl⟩
  · subst hN
    exact more_nil_call a cap sum w hs
  · exact more_some g off ns cap sum N w hs hN hl hh hb

set_option maxHeartbeats 1000000 in
theorem of_any (a : Option Addr) (ns : List Nat) (cap N : Nat) (w : World) (hN : ns.length = N) (hl : N ≤ 140737488355328) (ha : ns = [] ∨ ∃ g off, a = some ⟨g, off, none⟩) (hh : Holds w a ns) (hb : ∀ n ∈ ns, n < 256) :
    Calls Try.prog 11 #[.slice a N cap] w fun e w' => e = .returned (.int .u32 ((more 0 ns : Nat) : Int)) ∧ w' = w := by
  have C : Hid (Calls Try.prog 9 #[.int .u32 0, .slice a N cap] w fun e w' => e = .returned (.int .u32 ((more 0 ns : Nat) : Int)) ∧ w' = w) := more_any a ns cap 0 N 0 w rfl (by decide) hN hl ha hh hb
  clear hN hl ha hh hb
  go_enter Try.func11, Try.ntmps11
  go_wp2_with fail
  refine C.out.mono ?_
  rintro e w1 ⟨rfl, rfl⟩
  go_wp2_with fail
  go_ret
  exact ⟨rfl, rfl⟩
end Go.Proofs.Ytojdpemldiigcaa

/- What the document's own More answers. -/
import Derived.Test.YtojdpemldiigcaaCrSum
namespace Go.Proofs.Ytojdpemldiigcaa
open Go.ChangeShapes Go.WideShapes Go.ChangeAt Go.RowKit
set_option linter.unusedVariables false
set_option maxRecDepth 20000

theorem tmod_two {r b : Nat} (h : r % 2 = b) : (r : Int).tmod 2 = (b : Int) := by
  rw [show (2 : Int) = ((2 : Nat) : Int) from rfl, ← Int.ofNat_tmod, h]
theorem tdiv_two (r : Nat) : (r : Int).tdiv 2 = ((r / 2 : Nat) : Int) := by
  rw [show (2 : Int) = ((2 : Nat) : Int) from rfl, ← Int.ofNat_tdiv]
theorem poly_xor {r : Nat} (hr : r < 4294967296) : bits .xor .u32 (r : Int) 3988292384 = ((r ^^^ 3988292384 : Nat) : Int) := by
  rw [show (3988292384 : Int) = ((3988292384 : Nat) : Int) from rfl, u32_xor_nat _ _ hr (by decide)]
theorem ones_xor {r : Nat} (hr : r < 4294967296) : bits .xor .u32 (r : Int) 4294967295 = ((r ^^^ 4294967295 : Nat) : Int) := by
  rw [show (4294967295 : Int) = ((4294967295 : Nat) : Int) from rfl, u32_xor_nat _ _ hr (by decide)]

set_option maxHeartbeats 1000000 in
theorem rmore_nil_call (a : Option Addr) (cap sum : Nat) (w : World) (hs : sum < 4294967296) :
    Calls Try.prog 10 #[.int .u32 (sum : Int), .slice a 0 cap] w fun e w' => e = .returned (.int .u32 ((more sum [] : Nat) : Int)) ∧ w' = w := by
  have h1 := ones_xor hs
  have h2 := ones_xor (xor_lt32 hs (by decide : 4294967295 < 4294967296))
  have HE : Hid (sum ^^^ 4294967295 ^^^ 4294967295 = more sum []) := rfl
  go_enter Try.func10, Try.ntmps10
  go_wp2_with fail
  go_loop [5, 6] (fun rv iv => rv = .int .u32 ((sum ^^^ 4294967295 : Nat) : Int) ∧ iv = .int .i64 0) (fun _ _ => 0)
  case atStart => exact ⟨rfl, rfl⟩
  case round =>
    obtain ⟨rfl, rfl⟩ := hrel
    go_wp2_with fail
    go_ret
    exact ⟨by rw [← HE.out]; rfl, rfl⟩

set_option maxHeartbeats 1000000 in
theorem rmore_some (g off : Nat) (ns : List Nat) (cap sum N : Nat) (w : World) (hs : sum < 4294967296) (hN : ns.length = N) (hl : N ≤ 140737488355328) (hh : Holds w (some ⟨g, off, none⟩) ns) (hb : ∀ n ∈ ns, n < 256) :
    Calls Try.prog 10 #[.int .u32 (sum : Int), .slice (some ⟨g, off, none⟩) N cap] w fun e w' => e = .returned (.int .u32 ((more sum ns : Nat) : Int)) ∧ w' = w := by
  have HH : Hid (Holds w (some ⟨g, off, none⟩) ns) := hh
  have HB : Hid (∀ n ∈ ns, n < 256) := hb
  have HN : Hid (ns.length = N) := hN
  clear hh hb hN
  have h1 := ones_xor hs
  go_enter Try.func10, Try.ntmps10
  go_wp2_with fail
  clear h1
  go_loop [5, 6] (fun rv iv => ∃ (r i : Nat), rv = .int .u32 (r : Int) ∧ iv = .int .i64 (i : Int) ∧ i ≤ N ∧ r < 4294967296 ∧ Hid (r = crcF (sum ^^^ 4294967295) (ns.take i))) (fun _ iv => N - (intOf iv).toNat)
  case atStart => exact ⟨sum ^^^ 4294967295, 0, rfl, rfl, by omega, xor_lt32 hs (by decide), rfl⟩
  case round =>
    obtain ⟨r, i, rfl, rfl, hi, hr, HE⟩ := hrel
    by_cases h : i < N
    · have hcell := HH.out.at i (by rw [HN.out]; exact h)
      have hc := getD_lt HB.out i
      have HE' : Hid (stepN 8 (r ^^^ ns.getD i 0) = crcF (sum ^^^ 4294967295) (ns.take (i + 1))) := crcF_take HE.out (by rw [HN.out]; exact h)
      clear HE
      generalize ns.getD i 0 = c at *
      have hx := xor_byte hr hc
      have hxl : r ^^^ c < 4294967296 := xor_lt32 hr (by omega)
      generalize r ^^^ c = x at *
      go_wp2_with fail
      go_loop [5, 7] (fun rv kv => ∃ (k r' : Nat), rv = .int .u32 (r' : Int) ∧ kv = .int .i64 (k : Int) ∧ k ≤ 8 ∧ r' < 4294967296 ∧ Hid (stepN (8 - k) r' = stepN 8 x)) (fun _ kv => 8 - (intOf kv).toNat)
      case atStart => exact ⟨0, x, rfl, rfl, by omega, hxl, rfl⟩
      case round =>
        obtain ⟨k, r', rfl, rfl, hk, hr', HE⟩ := hrel
        by_cases h8 : k < 8
        · have HN' : Hid (stepN (8 - (k + 1)) (stepB r') = stepN 8 x) := by
            show _ = _
            rw [← HE.out, show 8 - k = (8 - (k + 1)) + 1 by omega]; rfl
          clear HE
          have hq := tdiv_two r'
          have hlt := stepB_lt hr'
          rcases Nat.mod_two_eq_zero_or_one r' with p | p
          · have ha := tmod_two p
            have he := stepB_even p
            go_wp2_with fail
            go_round
            case rel => exact ⟨k + 1, stepB r', by rw [he]; go_num, by go_num, by omega, hlt, HN'⟩
            case measure => simp [intOf]; omega
          · have ha := tmod_two p
            have he := stepB_odd p
            have hx2 := half_xor hr'
            go_wp2_with fail
            go_round
            case rel => exact ⟨k + 1, stepB r', by rw [he], by go_num, by omega, hlt, HN'⟩
            case measure => simp [intOf]; omega
        · obtain rfl : k = 8 := by omega
          have HR : Hid (r' = crcF (sum ^^^ 4294967295) (ns.take (i + 1))) := HE.out.trans HE'.out
          clear HE HE'
          go_wp2_with fail
          go_round
          case rel => exact ⟨r', i + 1, rfl, by go_num, by omega, hr', HR⟩
          case measure => simp [intOf]; omega
    · obtain rfl : i = N := by omega
      have h2 := ones_xor hr
      have HM : Hid (r ^^^ 4294967295 = more sum ns) := by
        show _ = _
        rw [HE.out, ← HN.out, List.take_length]; rfl
      clear HE
      go_wp2_with fail
      go_ret
      exact ⟨by rw [← HM.out]; rfl, rfl⟩

theorem rmore_any (a : Option Addr) (ns : List Nat) (cap sum N : Nat) (z : Int) (w : World) (hz : z = (sum : Int)) (hs : sum < 4294967296) (hN : ns.length = N) (hl : N ≤ 140737488355328) (ha : ns = [] ∨ ∃ g off, a = some ⟨g, off, none⟩) (hh : Holds w a ns) (hb : ∀ n ∈ ns, n < 256) :
    Calls Try.prog 10 #[.int .u32 z, .slice a N cap] w fun e w' => e = .returned (.int .u32 ((more sum ns : Nat) : Int)) ∧ w' = w := by
  subst hz
  rcases ha with rfl | ⟨g, off, rfl⟩
  · subst hN
    exact rmore_nil_call a cap sum w hs
  · exact rmore_some g off ns cap sum N w hs hN hl hh hb
end Go.Proofs.Ytojdpemldiigcaa

/- WireSorts answers true at any list. -/
import Derived.Test.YtfbekeebllcdbaaSoSort
import Derived.Test.YtfbekeebllcdbaaSoRefS
import Derived.Test.YtfbekeebllcdbaaWrOwn
import Derived.Test.YtfbekeebllcdbaaWrPut
import Derived.Test.YtfbekeebllcdbaaRwRaws
import Derived.Test.YtfbekeebllcdbaaRwOpen
namespace Go.Proofs.Ytfbekeebllcdbaa
open Go.ChangeShapes Go.WideShapes Go.ChangeAt Go.RowKit
set_option linter.unusedVariables false
set_option linter.unusedSimpArgs false
set_option maxRecDepth 20000

set_option maxHeartbeats 2000000 in
theorem wireSorts_walk (a : Option Addr) (N c : Nat) (rs : List Fd) (w : World) (ha : CameR w a N c rs) :
    Calls Try.prog 5 #[.slice a N c] w fun e w' => e = .returned (.bool true) ∧ Below w.heap.size w w' := by
  have HC : Hid (CameR w a N c rs) := ha
  have S1 : Hid (∀ W, Below w.heap.size w W → Calls Try.prog 9 #[.slice a N c] W fun e w' => e = .returned (.bool (smallB rs)) ∧ w' = W) := fun W hW => small_any a rs N c W ha.len ha.adr ha.le ha.max (ha.holds.below hW)
  clear ha
  cases hs1 : smallB rs with
  | false =>
    rw [hs1] at S1
    go_enter Try.func5, Try.ntmps5
    go_wp2_with fail
    refine (S1.out _ (Below.refl _ _)).mono ?_
    rintro e w1 ⟨rfl, rfl⟩
    clear S1
    go_wp2_with fail
    refine (wawake_any _).mono ?_
    rintro e w5 ⟨rfl, hb5⟩
    go_wp2_with fail
    go_ret
    exact ⟨rfl, hb5⟩
  | true =>
  rw [hs1] at S1
  have hN : N ≤ 60 := by rw [← HC.out.len]; exact small_len hs1
  clear hs1
  have RW : Hid (∀ W, Below w.heap.size w W → Calls Try.prog 15 #[.slice a N c] W fun e w' => ∃ a' c', e = .returned (.slice a' N c') ∧ (rs = [] ∨ ∃ g off, a' = some ⟨g, off, none⟩) ∧ N ≤ c' ∧ c' ≤ maxLen ∧ HoldsR w' a' rs ∧ Below W.heap.size W w') := fun W hW => by
    refine (raws_any a rs N c W HC.out.len (by omega) HC.out.nil (HC.out.holds.below hW)).mono ?_
    rintro e w' ⟨r, rfl, ho, hb⟩
    obtain ⟨a', c', rfl, -, h1, h2, h3, h4⟩ := own_openR ho
    rw [HC.out.len] at h2 ⊢
    exact ⟨a', c', rfl, own_adrR h1, h2, h3, h4, hb⟩
  go_enter Try.func5, Try.ntmps5
  go_wp2_with fail
  refine (S1.out _ (Below.refl _ _)).mono ?_
  rintro e w ⟨rfl, rfl⟩
  clear S1
  go_wp2_with fail
  refine (RW.out _ (Below.refl _ _)).mono ?_
  rintro e w1 ⟨a1, c1, rfl, h11, h12, h13, h14, hb1⟩
  have K1 : Hid (Calls Try.prog 22 #[.slice a1 N c1] w1 fun e w' => ∃ g, e = .returned (.slice (some ⟨g, 0, none⟩) N N) ∧ w1.heap.size ≤ g ∧ g < w'.heap.size ∧ HoldsR w' (some ⟨g, 0, none⟩) (sortF rs) ∧ Below w1.heap.size w1 w') := sorted_any rs.length rs a1 N c1 w1 (Nat.le_refl _) HC.out.len (by omega) h11 h12 h13 h14
  clear h11 h12 h13 h14
  go_wp2_with fail
  refine K1.out.mono ?_
  rintro e w2 ⟨gm, rfl, -, -, hm2, hb2⟩
  have hbb2 : Below w.heap.size w w2 := hb1.trans (hb2.mono hb1.size)
  have HM2 : Hid (HoldsR w2 (some ⟨gm, 0, none⟩) (sortF rs)) := hm2
  clear K1 hm2 hb1 hb2
  go_wp2_with fail
  refine (RW.out _ hbb2).mono ?_
  rintro e w3 ⟨a3, c3, rfl, h31, h32, h33, h34, hb3⟩
  have hbb3 : Below w.heap.size w w3 := hbb2.trans (hb3.mono hbb2.size)
  obtain ⟨R, hR⟩ : ∃ R, risesB rs = R := ⟨_, rfl⟩
  have K3 : Hid (Calls Try.prog 23 #[.slice a3 N c3] w3 fun e w' => e = .returned (.bool R) ∧ Below w3.heap.size w3 w') := by rw [← hR]; exact rising_any a3 rs N c3 w3 HC.out.len h31 h32 h33 h34
  have K4 : Hid (∀ W, Below w.heap.size w W → Calls Try.prog 24 #[.slice a N c] W fun e w' => e = .returned (.bool R) ∧ Below W.heap.size W w') := fun W hW => by rw [← hR]; exact rrising_any a rs N c W HC.out.len HC.out.adr HC.out.le HC.out.max (HC.out.holds.below hW)
  have HM3 : Hid (HoldsR w3 (some ⟨gm, 0, none⟩) (sortF rs)) := HM2.out.below hb3
  clear h31 h32 h33 h34 HM2 hb3 hbb2 RW hR
  go_wp2_with fail
  refine K3.out.mono ?_
  rintro e w4 ⟨rfl, hb4⟩
  have hbb4 : Below w.heap.size w w4 := hbb3.trans (hb4.mono hbb3.size)
  have HM4 : Hid (HoldsR w4 (some ⟨gm, 0, none⟩) (sortF rs)) := HM3.out.below hb4
  clear K3 hb4 hbb3 HM3
  go_wp2_with fail
  refine (K4.out _ hbb4).mono ?_
  rintro e w5 ⟨rfl, hb5⟩
  have hbb5 : Below w.heap.size w w5 := hbb4.trans (hb5.mono hbb4.size)
  have HM5 : Hid (HoldsR w5 (some ⟨gm, 0, none⟩) (sortF rs)) := HM4.out.below hb5
  have K5 : Hid (Calls Try.prog 25 #[.slice a N c] w5 fun e w' => ∃ v, e = .returned v ∧ w'.ownsRow w5.heap.size 24 4 v N (rawCells (sortF rs)) ∧ Below w5.heap.size w5 w') := rsorted_any a rs N c w5 HC.out.len (by omega) HC.out.adr HC.out.le HC.out.max (HC.out.holds.below hbb5)
  clear K4 hb5 hbb4 HM4
  have hall := sortF_all _ rs (Nat.le_refl _)
  have HSL : Hid ((sortF rs).length = N) := by show _ = _; rw [hall.2.1, HC.out.len]
  have HRS : Hid (risesB (sortF rs) = true) := (rises_iff _).2 hall.1
  clear hall
  cases R
  all_goals
    go_wp2_with fail
    refine K5.out.mono ?_
    rintro e w6 ⟨v6, rfl, ho6, hb6⟩
    have hbb6 : Below w.heap.size w w6 := hbb5.trans (hb6.mono hbb5.size)
    have HM6 : Hid (HoldsR w6 (some ⟨gm, 0, none⟩) (sortF rs)) := HM5.out.below hb6
    obtain ⟨a6, c6, rfl, -, h61, h62, h63, h64⟩ := own_openR ho6
    rw [HSL.out] at h62 ⊢
    have K6 : Hid (Calls Try.prog 21 #[.slice (some ⟨gm, 0, none⟩) N N, .slice a6 N c6] w6 fun e w' => e = .returned (.bool true) ∧ Below w6.heap.size w6 w') := same_any (some ⟨gm, 0, none⟩) a6 (sortF rs) N N c6 w6 HSL.out (.inr ⟨_, _, rfl⟩) (own_adrR h61) (Nat.le_refl _) h62 (by unfold maxLen; omega) h63 (by omega) HM6.out h64
    clear K5 ho6 hb6 h61 h62 h63 h64 hbb5 HM5
    go_wp2_with fail
    refine K6.out.mono ?_
    rintro e w7 ⟨rfl, hb7⟩
    have hbb7 : Below w.heap.size w w7 := hbb6.trans (hb7.mono hbb6.size)
    have K7 : Hid (Calls Try.prog 23 #[.slice (some ⟨gm, 0, none⟩) N N] w7 fun e w' => e = .returned (.bool true) ∧ Below w7.heap.size w7 w') := by
      have := rising_any (some ⟨gm, 0, none⟩) (sortF rs) N N w7 HSL.out (.inr ⟨_, _, rfl⟩) (Nat.le_refl _) (by unfold maxLen; omega) (HM6.out.below hb7)
      rw [HRS.out] at this
      exact this
    clear K6 hb7 hbb6 HM6
    go_wp2_with fail
    refine K7.out.mono ?_
    rintro e w8 ⟨rfl, hb8⟩
    have hbb8 : Below w.heap.size w w8 := hbb7.trans (hb8.mono hbb7.size)
    clear K7 hb8 hbb7
    go_wp2_with fail
    refine (wawake_any _).mono ?_
    rintro e w9 ⟨rfl, hb9⟩
    have hbb9 : Below w.heap.size w w9 := hbb8.trans (hb9.mono hbb8.size)
    clear hb9 hbb8
    go_wp2_with fail
    go_ret
    exact ⟨rfl, hbb9⟩
end Go.Proofs.Ytfbekeebllcdbaa

/- WireBack answers true at any list and all bytes. -/
import Derived.Test.YtfbekeebllcdbaaWrOwn
import Derived.Test.YtfbekeebllcdbaaWrBack
import Derived.Test.YtfbekeebllcdbaaWrPut
import Derived.Test.YtfbekeebllcdbaaRwRaws
import Derived.Test.YtfbekeebllcdbaaRwSame
import Derived.Test.YtfbekeebllcdbaaRwOpen
import Derived.Test.YtfbekeebllcdbaaLwBytes
import Derived.Test.YtfbekeebllcdbaaCrIn
namespace Go.Proofs.Ytfbekeebllcdbaa
open Go.ChangeShapes Go.WideShapes Go.ChangeAt Go.RowKit
set_option linter.unusedVariables false
set_option linter.unusedSimpArgs false
set_option maxRecDepth 20000

theorem putL_zero {rs : List Fd} {X : List Nat} (h : putL rs = (X, 0)) : rs.all okF = true ∧ (flatN rs).length ≤ 4096 ∧ X = flatN rs := by
  unfold putL at h
  split at h <;> rename_i h1
  · split at h <;> rename_i h2
    · exact ⟨h1, h2, (Prod.mk.inj h).1.symm⟩
    · simp at h
  · simp at h

set_option maxHeartbeats 2000000 in
theorem back_walk (a : Option Addr) (N c : Nat) (rs : List Fd) (b : Option Addr) (M d : Nat) (ns : List Nat) (w : World) (ha : CameR w a N c rs) (hb : CameIn w b M d ns) :
    Calls Try.prog 6 #[.slice a N c, .slice b M d] w fun e w' => e = .returned (.bool true) ∧ Below w.heap.size w w' := by
  have HA : Hid (CameR w a N c rs) := ha
  have HB : Hid (CameIn w b M d ns) := hb
  have hM1 := hb.le
  have hM2 := hb.max
  have S1 : Hid (∀ W, Below w.heap.size w W → Calls Try.prog 9 #[.slice a N c] W fun e w' => e = .returned (.bool (smallB rs)) ∧ w' = W) := fun W hW => small_any a rs N c W ha.len ha.adr ha.le ha.max (ha.holds.below hW)
  clear ha hb
  obtain ⟨G, hG⟩ : ∃ G, getL ns = G := ⟨_, rfl⟩
  have HG : Hid (getL ns = G) := hG
  clear hG
  cases hs1 : smallB rs with
  | false =>
    rw [hs1] at S1
    go_enter Try.func6, Try.ntmps6
    go_wp2_with fail
    refine (S1.out _ (Below.refl _ _)).mono ?_
    rintro e w1 ⟨rfl, rfl⟩
    clear S1
    go_wp2_with fail
    refine (wawake_any _).mono ?_
    rintro e w5 ⟨rfl, hb5⟩
    go_wp2_with fail
    go_ret
    exact ⟨rfl, hb5⟩
  | true =>
  rw [hs1] at S1
  have hN : N ≤ 60 := by rw [← HA.out.len]; exact small_len hs1
  obtain ⟨X, hX⟩ : ∃ X, putL rs = X := ⟨_, rfl⟩
  have HX : Hid (putL rs = X) := hX
  have P1 : Hid (∀ B W r n, W.ownsRow B 24 4 r n (rawCells rs) → Calls Try.prog 14 #[r] W fun e w' => ∃ v, e = .returned (.tuple #[v, .int .i64 (X.2 : Int)]) ∧ w'.ownsRow W.heap.size 5 1 v X.1.length (byteCells X.1) ∧ Below W.heap.size W w') := fun B W r n ho => by
    rw [← hX]; exact putall_own ho (by rw [HA.out.len]; omega) HA.out.n64
  clear hX hs1
  go_enter Try.func6, Try.ntmps6
  go_wp2_with fail
  refine (S1.out _ (Below.refl _ _)).mono ?_
  rintro e w ⟨rfl, rfl⟩
  clear S1
  go_wp2_with fail
  refine (raws_any a rs N c w HA.out.len (by omega) HA.out.nil HA.out.holds).mono ?_
  rintro e w1 ⟨r1, rfl, ho1, hb1⟩
  have C1 : Hid (Calls Try.prog 14 #[r1] w1 fun e w' => ∃ v, e = .returned (.tuple #[v, .int .i64 (X.2 : Int)]) ∧ w'.ownsRow w1.heap.size 5 1 v X.1.length (byteCells X.1) ∧ Below w1.heap.size w1 w') := P1.out _ _ _ _ ho1
  clear ho1 P1
  go_wp2_with fail
  refine C1.out.mono ?_
  rintro e w2 ⟨x, rfl, ho2, hb2⟩
  have hbb2 : Below w.heap.size w w2 := hb1.trans (hb2.mono hb1.size)
  clear C1 hb1 hb2
  by_cases hx0 : X.2 = 0
  · obtain ⟨X, e0⟩ := X
    simp only at hx0 ho2 HX
    subst hx0
    obtain ⟨hok, hlen, rfl⟩ := putL_zero HX.out
    have hgl := getL_put hok HA.out.n64 hlen
    have C2 : Hid (Calls Try.prog 18 #[x] w2 fun e w' => ∃ v, e = .returned (.tuple #[v, .int .i64 0]) ∧ w'.ownsRow w2.heap.size 24 4 v rs.length (rawCells rs) ∧ Below w2.heap.size w2 w') := get_own ho2 (flatN_lt rs) hgl
    clear ho2 hok hlen hgl
    go_wp2_with fail
    refine C2.out.mono ?_
    rintro e w3 ⟨m, rfl, ho3, hb3⟩
    have hbb3 : Below w.heap.size w w3 := hbb2.trans (hb3.mono hbb2.size)
    obtain ⟨a3, cap3, rfl, -, h31, h32, h33, h34⟩ := own_openR ho3
    have hs := same_any a3 a rs N cap3 c w3 HA.out.len (own_adrR h31) HA.out.adr (by rw [← HA.out.len]; exact h32) HA.out.le h33 HA.out.max (by omega) h34 (HA.out.holds.below hbb3)
    have HS : Hid (Calls Try.prog 21 #[.slice a3 N cap3, .slice a N c] w3 fun e w' => e = .returned (.bool true) ∧ Below w3.heap.size w3 w') := hs
    rw [HA.out.len]
    clear C2 ho3 hb3 h31 h32 h33 h34 hs hbb2 HX
    go_wp2_with fail
    refine HS.out.mono ?_
    rintro e w4 ⟨rfl, hb4⟩
    have hbb4 : Below w.heap.size w w4 := hbb3.trans (hb4.mono hbb3.size)
    clear HS hb4 hbb3
    go_wp2_with fail
    refine (bytes_any b ns d M w4 HB.out.len (by omega) HB.out.nil (HB.out.holds.below hbb4)).mono ?_
    rintro e v1 ⟨q1, rfl, hp1, hd1⟩
    have hbv1 : Below w.heap.size w v1 := hbb4.trans (hd1.mono hbb4.size)
    have D1 : Hid (Calls Try.prog 18 #[q1] v1 fun e w' => ∃ v, e = .returned (.tuple #[v, .int .i64 (G.2 : Int)]) ∧ w'.ownsRow v1.heap.size 24 4 v G.1.length (rawCells G.1) ∧ Below v1.heap.size v1 w') := get_own hp1 HB.out.lt HG.out
    clear hp1 hd1 hbb4
    go_wp2_with fail
    refine D1.out.mono ?_
    rintro e v2 ⟨q2, rfl, hp2, hd2⟩
    have hbv2 : Below w.heap.size w v2 := hbv1.trans (hd2.mono hbv1.size)
    clear D1 hd2 hbv1
    by_cases hG0 : G.2 = 0
    · obtain ⟨ms, e0⟩ := G
      simp only at hG0 hp2 HG
      subst hG0
      have hpg := putL_get HB.out.lt HG.out
      have hln : ms.length ≤ 4096 := by have := getL_len HB.out.lt; rw [HG.out] at this; exact this
      have D2 : Hid (Calls Try.prog 14 #[q2] v2 fun e w' => ∃ v, e = .returned (.tuple #[v, .int .i64 0]) ∧ w'.ownsRow v2.heap.size 5 1 v ns.length (byteCells ns) ∧ Below v2.heap.size v2 w') := by
        have := putall_own hp2 (by omega) hpg.2
        rw [hpg.1] at this
        exact this
      clear hp2 hpg
      go_wp2_with fail
      refine D2.out.mono ?_
      rintro e v3 ⟨q3, rfl, hp3, hd3⟩
      have hbv3 : Below w.heap.size w v3 := hbv2.trans (hd3.mono hbv2.size)
      have K1 := conv_own hp3
      have K2 := conv_holds v3 b ns d (fun h => (HB.out.nil h).1) (HB.out.holds.below hbv3)
      rw [HB.out.len] at K2
      clear D2 hp3 hd3 hbv2
      generalize strN ns = S at *
      go_wp2_with fail
      refine (wawake_any _).mono ?_
      rintro e v4 ⟨rfl, hd4⟩
      have hbv4 : Below w.heap.size w v4 := hbv3.trans (hd4.mono hbv3.size)
      clear hd4 K1 K2 hbv3
      go_wp2_with fail
      go_ret
      exact ⟨rfl, hbv4⟩
    · have hne : ((G.2 : Int) == 0) = false := by simp; omega
      clear hp2 HG
      generalize G.2 = g0 at *
      go_wp2_with fail
      refine (wawake_any _).mono ?_
      rintro e v4 ⟨rfl, hd4⟩
      have hbv4 : Below w.heap.size w v4 := hbv2.trans (hd4.mono hbv2.size)
      clear hd4 hbv2
      go_wp2_with fail
      go_ret
      exact ⟨rfl, hbv4⟩
  · have hne : ((X.2 : Int) == 0) = false := by simp; omega
    clear ho2 HX
    generalize X.2 = x0 at *
    go_wp2_with fail
    refine (bytes_any b ns d M w2 HB.out.len (by omega) HB.out.nil (HB.out.holds.below hbb2)).mono ?_
    rintro e v1 ⟨q1, rfl, hp1, hd1⟩
    have hbv1 : Below w.heap.size w v1 := hbb2.trans (hd1.mono hbb2.size)
    have D1 : Hid (Calls Try.prog 18 #[q1] v1 fun e w' => ∃ v, e = .returned (.tuple #[v, .int .i64 (G.2 : Int)]) ∧ w'.ownsRow v1.heap.size 24 4 v G.1.length (rawCells G.1) ∧ Below v1.heap.size v1 w') := get_own hp1 HB.out.lt HG.out
    clear hp1 hd1 hbb2
    go_wp2_with fail
    refine D1.out.mono ?_
    rintro e v2 ⟨q2, rfl, hp2, hd2⟩
    have hbv2 : Below w.heap.size w v2 := hbv1.trans (hd2.mono hbv1.size)
    clear D1 hd2 hbv1
    by_cases hG0 : G.2 = 0
    · obtain ⟨ms, e0⟩ := G
      simp only at hG0 hp2 HG
      subst hG0
      have hpg := putL_get HB.out.lt HG.out
      have hln : ms.length ≤ 4096 := by have := getL_len HB.out.lt; rw [HG.out] at this; exact this
      have D2 : Hid (Calls Try.prog 14 #[q2] v2 fun e w' => ∃ v, e = .returned (.tuple #[v, .int .i64 0]) ∧ w'.ownsRow v2.heap.size 5 1 v ns.length (byteCells ns) ∧ Below v2.heap.size v2 w') := by
        have := putall_own hp2 (by omega) hpg.2
        rw [hpg.1] at this
        exact this
      clear hp2 hpg
      go_wp2_with fail
      refine D2.out.mono ?_
      rintro e v3 ⟨q3, rfl, hp3, hd3⟩
      have hbv3 : Below w.heap.size w v3 := hbv2.trans (hd3.mono hbv2.size)
      have K1 := conv_own hp3
      have K2 := conv_holds v3 b ns d (fun h => (HB.out.nil h).1) (HB.out.holds.below hbv3)
      rw [HB.out.len] at K2
      clear D2 hp3 hd3 hbv2
      generalize strN ns = S at *
      go_wp2_with fail
      refine (wawake_any _).mono ?_
      rintro e v4 ⟨rfl, hd4⟩
      have hbv4 : Below w.heap.size w v4 := hbv3.trans (hd4.mono hbv3.size)
      clear hd4 K1 K2 hbv3
      go_wp2_with fail
      go_ret
      exact ⟨rfl, hbv4⟩
    · have hne : ((G.2 : Int) == 0) = false := by simp; omega
      clear hp2 HG
      generalize G.2 = g0 at *
      go_wp2_with fail
      refine (wawake_any _).mono ?_
      rintro e v4 ⟨rfl, hd4⟩
      have hbv4 : Below w.heap.size w v4 := hbv2.trans (hd4.mono hbv2.size)
      clear hd4 hbv2
      go_wp2_with fail
      go_ret
      exact ⟨rfl, hbv4⟩

theorem wireBack_walk (a : Option Addr) (N c : Nat) (rs : List Fd) (b : Option Addr) (M d : Nat) (zs : List Int) (w : World) (ha : CameR w a N c rs) (hz : IsRow .u8 w b M d zs) (hb : d * Try.prog.bytesOf 5 ≤ 140737488351232) :
    Calls Try.prog 6 #[.slice a N c, .slice b M d] w fun e w' => e = .returned (.bool true) ∧ Below w.heap.size w w' := by
  obtain ⟨ns, hc⟩ := row_in hz hb
  exact back_walk a N c rs b M d ns w ha hc
end Go.Proofs.Ytfbekeebllcdbaa

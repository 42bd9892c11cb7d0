/- CrcMore answers true at every sum and all bytes. -/
import Derived.Test.YtojdpemldiigcaaCrOdd
import Derived.Test.YtojdpemldiigcaaCrRef
import Derived.Test.YtojdpemldiigcaaCrIn
import Derived.Test.YtojdpemldiigcaaLwBytes
namespace Go.Proofs.Ytojdpemldiigcaa
open Go.ChangeShapes Go.WideShapes Go.ChangeAt Go.RowKit
set_option linter.unusedVariables false
set_option linter.unusedSimpArgs false
set_option maxRecDepth 20000

set_option maxHeartbeats 2000000 in
theorem more_walk (sum : Nat) (a : Option Addr) (N cap : Nat) (ns : List Nat) (w : World) (hs : sum < 4294967296) (h : CameIn w a N cap ns) :
    Calls Try.prog 3 #[.int .u32 (sum : Int), .slice a N cap] w fun e w' => e = .returned (.bool true) ∧ Below w.heap.size w w' := by
  have H : Hid (CameIn w a N cap ns) := h
  have hN : N ≤ 140737488351232 := Nat.le_trans h.le h.max
  clear h
  go_enter Try.func3, Try.ntmps3
  go_wp2_with fail
  refine (bytes_any a ns cap N w H.out.len (by omega) H.out.nil H.out.holds).mono ?_
  rintro e w1 ⟨r, rfl, ho, hb1⟩
  obtain ⟨a1, cap1, rfl, -, h11, h12, h13, h14⟩ := own_open ho
  have hN1 := H.out.len
  rw [hN1] at h12 ⊢
  have HI : Hid (CameIn w1 a N cap ns) := H.out.below hb1
  have hadr : ns = [] ∨ ∃ g off, a1 = some ⟨g, off, none⟩ := h11.imp (fun h => h.2.1) (fun ⟨g, h, _⟩ => ⟨g, 0, h⟩)
  have hnil : a1 = none → ns = [] := by
    rcases h11 with h | ⟨g, h, _⟩
    · exact fun _ => h.2.1
    · exact fun e => by rw [h] at e; cases e
  obtain ⟨M1, hM1⟩ : ∃ M, more sum ns = M := ⟨_, rfl⟩
  obtain ⟨M0, hM0⟩ : ∃ M, more 0 ns = M := ⟨_, rfl⟩
  have C1 : Hid (Calls Try.prog 9 #[.int .u32 (sum : Int), .slice a1 N cap1] w1 fun e w' => e = .returned (.int .u32 (M1 : Int)) ∧ w' = w1) := by subst hM1; exact more_any a1 ns cap1 sum N _ w1 rfl hs hN1 (by omega) hadr h14 HI.out.lt
  have C2 : Hid (Calls Try.prog 11 #[.slice a1 N cap1] w1 fun e w' => e = .returned (.int .u32 (M0 : Int)) ∧ w' = w1) := by subst hM0; exact of_any a1 ns cap1 N w1 hN1 (by omega) hadr h14 HI.out.lt
  have C3 : Hid (Calls Try.prog 10 #[.int .u32 (sum : Int), .slice a N cap] w1 fun e w' => e = .returned (.int .u32 (M1 : Int)) ∧ w' = w1) := by subst hM1; exact rmore_any a ns cap sum N _ w1 rfl hs hN1 (by omega) HI.out.adr HI.out.holds HI.out.lt
  have C4 : Hid (Calls Try.prog 10 #[.int .u32 0, .slice a N cap] w1 fun e w' => e = .returned (.int .u32 (M0 : Int)) ∧ w' = w1) := by subst hM0; exact rmore_any a ns cap 0 N _ w1 rfl (by decide) hN1 (by omega) HI.out.adr HI.out.holds HI.out.lt
  have K1 := conv_holds w1 a1 ns cap1 hnil h14
  have K2 := conv_holds w1 a ns cap (fun h => (HI.out.nil h).1) HI.out.holds
  rw [hN1] at K1 K2
  clear ho h11 h14 hadr hnil hN1 HI H hM1 hM0
  generalize strN ns = S at *
  go_wp2_with fail
  refine C1.out.mono ?_
  rintro e w2 ⟨rfl, rfl⟩
  go_wp2_with fail
  refine C3.out.mono ?_
  rintro e w2 ⟨rfl, rfl⟩
  go_wp2_with fail
  refine C2.out.mono ?_
  rintro e w2 ⟨rfl, rfl⟩
  go_wp2_with fail
  refine C4.out.mono ?_
  rintro e w2 ⟨rfl, rfl⟩
  go_wp2_with fail
  refine (awake_any _).mono ?_
  rintro e w3 ⟨rfl, hb3⟩
  go_wp2_with fail
  go_ret
  exact ⟨rfl, hb1.trans (hb3.mono hb1.size)⟩

theorem crcMore_walk (sum : Int) (a : Option Addr) (len cap : Nat) (zs : List Int) (w : World) (hs : (Lit.int .u32 sum).wf = true) (h : IsRow .u8 w a len cap zs) (hb : cap * Try.prog.bytesOf 5 ≤ 140737488351232) :
    Calls Try.prog 3 #[.int .u32 sum, .slice a len cap] w fun e w' => e = .returned (.bool true) ∧ Below w.heap.size w w' := by
  obtain ⟨a1, a2⟩ := bounds_u32 hs
  obtain ⟨x, rfl⟩ := Int.eq_ofNat_of_zero_le a1
  obtain ⟨ns, hi⟩ := row_in h hb
  exact more_walk x a len cap ns w (by omega) hi
end Go.Proofs.Ytojdpemldiigcaa

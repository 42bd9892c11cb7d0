/- CrcTurns answers true at all bytes, every place and every row of bits. -/
import Derived.Test.YtojdpemldiigcaaCrOdd
import Derived.Test.YtojdpemldiigcaaCrIn
import Derived.Test.YtojdpemldiigcaaLwPlace
import Derived.Test.YtojdpemldiigcaaLwBytes
import Derived.Laws.OwnMore
namespace Go.Proofs.Ytojdpemldiigcaa
open Go.ChangeShapes Go.WideShapes Go.ChangeAt Go.RowKit
set_option linter.unusedVariables false
set_option linter.unusedSimpArgs false
set_option maxRecDepth 20000

set_option maxHeartbeats 1000000 in
theorem turns_rest (a : Option Addr) (N cap row : Nat) (at' : Int) (w : World) (hN : N ≤ 140737488351232) (h : N < 4 ∨ row = 0) :
    Calls Try.prog 5 #[.slice a N cap, .int .i64 at', .int .u32 (row : Int)] w fun e w' => e = .returned (.bool true) ∧ Below w.heap.size w w' := by
  by_cases h4 : (N : Int) < 4
  · go_enter Try.func5, Try.ntmps5
    go_wp2_with fail
    refine (awake_any _).mono ?_
    rintro e w3 ⟨rfl, hb3⟩
    go_wp2_with fail
    go_ret
    exact ⟨rfl, hb3⟩
  · obtain rfl : row = 0 := by omega
    go_enter Try.func5, Try.ntmps5
    go_wp2_with fail
    refine (awake_any _).mono ?_
    rintro e w3 ⟨rfl, hb3⟩
    go_wp2_with fail
    go_ret
    exact ⟨rfl, hb3⟩

theorem set_cells (ns : List Nat) (j c : Nat) : (byteCells ns).set j (.int .u8 (c : Int)) = byteCells (ns.set j c) := by
  simp [byteCells, List.map_set]

theorem turn_bits (x row i : Nat) (hx : x < 256) : bits .xor .u8 (x : Int) ((row : Int) / 2 ^ (8 * i) % 256) = ((x ^^^ byteOf row i : Nat) : Int) := by
  have e : (row : Int) / 2 ^ (8 * i) % 256 = ((byteOf row i : Nat) : Int) := by unfold byteOf; push_cast; rfl
  rw [e, u8_xor_nat _ _ hx (byteOf_lt row i)]

set_option maxHeartbeats 2000000 in
theorem turns_walk (g off N cap row : Nat) (at' : Int) (ns : List Nat) (w : World) (h : CameIn w (some ⟨g, off, none⟩) N cap ns) (h4 : 4 ≤ N) (h0 : row ≠ 0) (h1 : row < 4294967296) (ha1 : -9223372036854775808 ≤ at') (ha2 : at' ≤ 9223372036854775807) :
    Calls Try.prog 5 #[.slice (some ⟨g, off, none⟩) N cap, .int .i64 at', .int .u32 (row : Int)] w fun e w' => e = .returned (.bool true) ∧ Below w.heap.size w w' := by
  have H : Hid (CameIn w (some ⟨g, off, none⟩) N cap ns) := h
  have hN : N ≤ cap := h.le
  have hm : cap ≤ 140737488351232 := h.max
  clear h
  have hr0 : ((row : Int) == 0) = false := by rw [beq_eq_false_iff_ne]; omega
  have hd4 : decide ((N : Int) < 4) = false := by simp; omega
  go_enter Try.func5, Try.ntmps5
  go_wp2_with fail
  refine (place_any at' _ w ha1 ha2 (by omega) (by omega)).mono ?_
  rintro e w0 ⟨k, rfl, hk, rfl⟩
  have hkN : k + 4 ≤ N := by omega
  clear hk
  go_wp2_with fail
  refine (bytes_any _ ns cap N w0 H.out.len (by omega) H.out.nil H.out.holds).mono ?_
  rintro e w1 ⟨r, rfl, ho, hb1⟩
  obtain ⟨a1, cap1, rfl, -, h11 | ⟨g1, rfl, h12, h13⟩, h14, h15, h16⟩ := own_open ho
  · have := H.out.len; rw [h11.2.1] at this; simp at this; omega
  have hN1 := H.out.len
  rw [hN1] at ho h14 ⊢
  have hd : Hid (∀ i, (turnL ns k row i).length = N) := fun i => by rw [turnL_len]; exact hN1
  clear hN1 h13 h16
  go_wp2_with fail
  go_loopw [9] (fun iv wr => ∃ i : Nat, iv = .int .i64 (i : Int) ∧ i ≤ 4 ∧ Hid (wr.ownsRow w0.heap.size 5 1 (.slice (some ⟨g1, 0, none⟩) N cap1) N (byteCells (turnL ns k row i))) ∧ Below w0.heap.size w0 wr) (fun iv _ => 4 - (intOf iv).toNat)
  case atStart => exact ⟨0, rfl, by omega, ho, hb1⟩
  case round =>
    obtain ⟨i, rfl, hi, HO, hb⟩ := hrel
    by_cases hlt : i < 4
    · have i1 : (k : Int) + (i : Int) < (N : Int) := by omega
      have hcell : wr.cell? ⟨g1, k + i, none⟩ = some (.int .u8 (((turnL ns k row i).getD (k + i) 0 : Nat) : Int)) := by
        rw [HO.out.cellAt (k + i) (by omega)]
        exact byteCells_get _ _ (by rw [hd.out]; omega)
      have hfro : wr.frozen? ⟨g1, k + i, none⟩ = false := HO.out.frozenAt (k + i)
      have hx8 := getD_lt (turnL_lt ns k row i H.out.lt) (k + i)
      have hx := turn_bits ((turnL ns k row i).getD (k + i) 0) row i hx8
      have HS : Hid ((wr.setCell ⟨g1, k + i, none⟩ (.int .u8 (((turnL ns k row i).getD (k + i) 0 ^^^ byteOf row i : Nat) : Int))).ownsRow w0.heap.size 5 1 (.slice (some ⟨g1, 0, none⟩) N cap1) N (byteCells (turnL ns k row (i + 1)))) := by
        have := (HO.out.stored (k + i) (.int .u8 (((turnL ns k row i).getD (k + i) 0 ^^^ byteOf row i : Nat) : Int))).1
        rw [set_cells] at this
        exact this
      generalize (turnL ns k row i).getD (k + i) 0 = x at *
      generalize x ^^^ byteOf row i = c at *
      clear HO
      go_wp2_with fail
      go_roundw
      case rel => exact ⟨i + 1, by go_num, by omega, HS, hb.setCell h12 _⟩
      case measure => simp [intOf]; omega
    · obtain rfl : i = 4 := by omega
      obtain ⟨A, hA⟩ : ∃ A, more 0 (turnL ns k row 4) = A := ⟨_, rfl⟩
      obtain ⟨B, hB⟩ : ∃ B, more 0 ns = B := ⟨_, rfl⟩
      have hAB : ((A : Int) == (B : Int)) = false := by
        rw [beq_eq_false_iff_ne]
        have := turns_told ns k row 0 (by decide) H.out.lt (by rw [H.out.len]; exact hkN) h0 h1
        rw [hA, hB] at this
        omega
      have hAB' : ((A : Int) != (B : Int)) = true := by rw [bne, hAB]; rfl
      have O1 : Hid (Calls Try.prog 11 #[.slice (some ⟨g1, 0, none⟩) N cap1] wr fun e w' => e = .returned (.int .u32 (A : Int)) ∧ w' = wr) := by
        obtain ⟨a2, cap2, e2, -, -, -, -, h26⟩ := own_open HO.out
        simp only [Value.slice.injEq] at e2
        obtain ⟨rfl, -, -⟩ := e2
        subst hA
        exact of_any _ (turnL ns k row 4) cap1 N wr (hd.out 4) (by omega) (.inr ⟨_, _, rfl⟩) h26 (turnL_lt ns k row 4 H.out.lt)
      have O2 : Hid (Calls Try.prog 11 #[.slice (some ⟨g, off, none⟩) N cap] wr fun e w' => e = .returned (.int .u32 (B : Int)) ∧ w' = wr) := by
        subst hB
        exact of_any _ ns cap N wr H.out.len (by omega) (.inr ⟨_, _, rfl⟩) (H.out.holds.below hb) H.out.lt
      clear HO hA hB
      go_wp2_with fail
      refine O1.out.mono ?_
      rintro e w2 ⟨rfl, rfl⟩
      go_wp2_with fail
      refine O2.out.mono ?_
      rintro e w2 ⟨rfl, rfl⟩
      go_wp2_with fail
      refine (awake_any _).mono ?_
      rintro e w3 ⟨rfl, hb3⟩
      go_wp2_with fail
      go_ret
      exact ⟨rfl, hb.trans (hb3.mono hb.size)⟩

theorem crcTurns_walk (a : Option Addr) (len cap : Nat) (zs : List Int) (at' row : Int) (w : World) (h : IsRow .u8 w a len cap zs) (hb : cap * Try.prog.bytesOf 5 ≤ 140737488351232) (ha : (Lit.int .i64 at').wf = true) (hr : (Lit.int .u32 row).wf = true) :
    Calls Try.prog 5 #[.slice a len cap, .int .i64 at', .int .u32 row] w fun e w' => e = .returned (.bool true) ∧ Below w.heap.size w w' := by
  obtain ⟨c1, c2⟩ := bounds_i64 ha
  obtain ⟨d1, d2⟩ := bounds_u32 hr
  obtain ⟨x, rfl⟩ := Int.eq_ofNat_of_zero_le d1
  obtain ⟨ns, hi⟩ := row_in h hb
  have hl := hi.le
  have hm := hi.max
  by_cases hc : len < 4 ∨ x = 0
  · exact turns_rest a len cap x at' w (by omega) hc
  · rcases hi.adr with rfl | ⟨g, off, rfl⟩
    · have := hi.len; simp at this; omega
    · exact turns_walk g off len cap x at' ns w hi (by omega) (by omega) (by omega) c1 c2
end Go.Proofs.Ytojdpemldiigcaa

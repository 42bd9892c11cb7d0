/- VintBack answers true at every input. -/
import Derived.Test.YtppdaohmddbhdaaVnIn
namespace Go.Proofs.Ytppdaohmddbhdaa
open Go.ChangeShapes Go.WideShapes Go.ChangeAt Go.RowKit
set_option linter.unusedVariables false
set_option maxRecDepth 20000

theorem eq_bool {a b : Int} (h : a = b) : (a == b) = true := by simp [h]
set_option maxHeartbeats 2000000 in
theorem back_walk (v : Nat) (n : Int) (a : Option Addr) (ms : List Nat) (cap : Nat) (w : World) (hv : v < 18446744073709551616) (hn1 : -9223372036854775808 ≤ n) (hn2 : n ≤ 9223372036854775807)
    (hh : Holds w a ms) (hb : ∀ n ∈ ms, n < 256) (hc : ms.length ≤ cap) (hm : cap ≤ 140737488351232) (ha : a = none → ms = [] ∧ cap = 0) :
    Calls Try.prog 4 #[.int .u64 (v : Int), .int .i64 n, .slice a ms.length cap] w fun e w' => e = .returned (.bool true) ∧ Below w.heap.size w w' := by
  obtain ⟨i0, hi, hz0, hz1, hz2⟩ := info_parts infoByte
  have HH : Hid (Holds w a ms) := hh
  have HB : Hid (∀ n ∈ ms, n < 256) := hb
  have HA : Hid (a = none → ms = [] ∧ cap = 0) := ha
  have hd := digs_len64 v hv
  clear hh hb ha
  go_enter Try.func4, Try.ntmps4
  go_wp2_with fail
  refine (put_any (some ⟨_, 0, none⟩) [7] 1 v _ (fun h => by cases h) (by decide) (by decide) (by decide) (holds_made w [7]) hv).mono ?_
  rintro e w1 ⟨r, rfl, ho, hb1⟩
  have hb1' : Below w.heap.size w w1 := (below_one w _).trans (hb1.mono (by simp))
  have hws1 := hb1'.size
  obtain ⟨L, hL⟩ : ∃ L, (digs v).length = L := ⟨_, rfl⟩
  have HLD : Hid ((digs v).length = L) := hL
  have HGR : Hid (getR (([7] ++ digs v) ++ ms) 1 = (v, 1 + L, 0)) := by
    have := getR_put [7] v ms hv
    rw [hL] at this
    exact this
  have HL1 : Hid (([7] ++ digs v).length = 1 + L) := by show _ = _; rw [← hL]; simp; omega
  have HLT : Hid (∀ n ∈ [7] ++ digs v, n < 256) := by
    intro n hn
    simp only [List.mem_append, List.mem_singleton] at hn
    rcases hn with rfl | hn
    · decide
    · exact digs_lt v n hn
  have HO1 : Hid (w1.ownsRow w.heap.size 5 1 r ([7] ++ digs v).length (byteCells ([7] ++ digs v))) := own_mono ho (by simp)
  clear ho hb1
  rw [hL] at hd
  clear hL
  generalize [7] ++ digs v = bs at *
  obtain ⟨a1, cap1, rfl, _, h1 | ⟨g1, rfl, h12, h13⟩, h14, h15, h16⟩ := own_open HO1.out
  · have := HL1.out; rw [h1.2.1] at this; simp at this; omega
  have HH1 : Hid (Holds w1 (some ⟨g1, 0, none⟩) bs) := h16
  clear h16
  rw [HL1.out] at h14 ⊢
  go_wp2_with (first
    | (at_builtin; refine wpList_join rfl _ _ rfl w.heap.size (.slice none 0 0) 0 [] rfl (World.ownsRow_nil _ _ _ _) (some ⟨g1, 0, none⟩) bs _ _ rfl ?c1 ?c2 HH1.out ?c3 ?c4 ?_)
    | fail)
  case c1 => rw [HL1.out]
  case c2 => intro h; cases h
  case c3 => rw [HL1.out]; simp; omega
  case c4 => exact hws1
  intro r2 w2 ho2 hg2
  have hb2 : Below w.heap.size w w2 := hb1'.grown hg2 hws1 (fun k hk => by cases hk)
  have hws2 := hb2.size
  have HO2 : Hid (w2.ownsRow w.heap.size 5 1 r2 bs.length (byteCells bs)) := by show World.ownsRow _ _ _ _ _ _ _; simpa using ho2
  clear ho2 hg2
  have HH2 : Hid (Holds w2 a ms) := HH.out.below hb2
  go_wp2_with (first
    | (at_builtin; refine wpList_join rfl _ _ rfl w.heap.size r2 _ bs rfl HO2.out a ms _ _ rfl rfl HA.out HH2.out ?c1 ?c2 ?_)
    | fail)
  case c1 => rw [HL1.out]; omega
  case c2 => exact hws2
  intro r3 w3 ho3 hg3
  have hb3 : Below w.heap.size w w3 := hb2.grown hg3 hws2 (fun k hk => (HO2.out.lt k hk).1)
  have hws3 := hb3.size
  clear hg3
  obtain ⟨a3, cap3, rfl, _, h3, h34, h35, h36⟩ := own_open ho3
  clear ho3
  have ha3 : (a3 = none ∧ bs ++ ms = [] ∧ cap3 = 0) ∨ ∃ g off, a3 = some ⟨g, off, none⟩ := by
    rcases h3 with h | ⟨g, h, _⟩
    · exact .inl h
    · exact .inr ⟨g, 0, h⟩
  have HL3 : Hid ((bs ++ ms).length = 1 + L + ms.length) := by show _ = _; rw [List.length_append, HL1.out]
  have HG := get_any a3 (bs ++ ms) cap3 1 w3 ha3 h34 h35 (by rw [HL3.out]; omega) h36 (by
    intro n hn
    simp only [List.mem_append] at hn
    rcases hn with hn | hn
    · exact HLT.out n hn
    · exact HB.out n hn)
  rw [HGR.out] at HG
  rw [HL3.out] at HG h34 ⊢
  clear h3 h36 ha3
  have HGH : Hid (Calls Try.prog 16 #[.slice a3 (1 + L + ms.length) cap3, .int .i64 1] w3 fun e w' => e = .returned (getV (v, 1 + L, 0)) ∧ w' = w3) := HG
  clear HG
  have Z1 : Hid (zagN (zigN n) = n) := zag_zig n
  have Z2 : Hid (zigN (zagN v) = v) := zig_zag v (by omega)
  have B1 := zigN_bd n hn1 hn2
  have B2 := zagN_bd (v : Int) (by omega) (by omega)
  go_wp2_with fail
  refine HGH.out.mono ?_
  rintro e w4 ⟨rfl, rfl⟩
  simp only [getV]
  clear HGH
  go_wp2_with fail
  refine (zig_any _ _ hn1 hn2).mono ?_
  rintro e w5 ⟨rfl, rfl⟩
  go_wp2_with fail
  refine (zag_any _ _ B1.1 B1.2).mono ?_
  rintro e w5 ⟨rfl, rfl⟩
  rw [Z1.out]
  go_wp2_with fail
  refine (zag_any _ _ (by omega) (by omega)).mono ?_
  rintro e w5 ⟨rfl, rfl⟩
  go_wp2_with fail
  refine (zig_any _ _ B2.1 B2.2).mono ?_
  rintro e w5 ⟨rfl, rfl⟩
  rw [Z2.out]
  go_wp2_with fail
  refine (len_any _ _ hv).mono ?_
  rintro e w5 ⟨rfl, rfl⟩
  rw [HLD.out]
  go_wp2_with fail
  refine (awake_any _).mono ?_
  rintro e w6 ⟨rfl, hb6⟩
  go_wp2_with fail
  go_ret
  exact ⟨rfl, hb3.trans (hb6.mono hws3)⟩

theorem vintBack_walk (v n : Int) (a : Option Addr) (len cap : Nat) (zs : List Int) (w : World) (hv : (Lit.int .u64 v).wf = true) (hn : (Lit.int .i64 n).wf = true) (h : IsRow .u8 w a len cap zs) (hb : cap * Try.prog.bytesOf 5 ≤ 140737488351232) :
    Calls Try.prog 4 #[.int .u64 v, .int .i64 n, .slice a len cap] w fun e w' => e = .returned (.bool true) ∧ Below w.heap.size w w' := by
  obtain ⟨a1, a2⟩ := bounds_u64 hv
  obtain ⟨b1, b2⟩ := bounds_i64 hn
  obtain ⟨x, rfl⟩ := Int.eq_ofNat_of_zero_le a1
  obtain ⟨ns, rfl, hh, hlt, hc, hm, ha⟩ := row_holds h hb
  exact back_walk x n a ns cap w (by omega) b1 b2 hh hlt hc hm ha
end Go.Proofs.Ytppdaohmddbhdaa

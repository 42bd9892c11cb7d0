/- VintCuts answers true at every input. -/
import Derived.Test.YtppdaohmddbhdaaVnJoin
namespace Go.Proofs.Ytppdaohmddbhdaa
open Go.ChangeShapes Go.WideShapes Go.ChangeAt Go.RowKit
set_option linter.unusedVariables false
set_option maxRecDepth 20000

theorem tmod_bd (z : Int) (L : Nat) (h : 0 < L) : -(L : Int) < z.tmod L ∧ z.tmod L < L := by
  have e := Int.natAbs_tmod z (L : Int)
  have := Nat.mod_lt z.natAbs h
  rw [Int.natAbs_natCast] at e
  omega
theorem or_128 (x : Nat) (h : x < 256) : bits .or .u8 (x : Int) 128 = ((x ||| 128 : Nat) : Int) ∧ x ||| 128 < 256 := by
  constructor
  · rw [show (128 : Int) = ((128 : Nat) : Int) from rfl, u8_or_nat _ _ h (by decide)]
  · exact Nat.or_lt_two_pow (n := 8) h (by decide)

/-- What is behind the cut: 'k' bytes of 'bs'. -/
theorem getR_cut (v k : Nat) (hv : v < 18446744073709551616) (hk : k < (digs v).length) : getR ((digs v).take k) 0 = (0, 0, 2) := by
  have h10 := (digs_len64 v hv).2
  have := getR_in (ns := (digs v).take k) (p := 0) (Nat.zero_le _)
  rw [List.drop_zero, getF_take v 0 0 0 k hk (by omega)] at this
  exact this
theorem getR_behind (v : Nat) (pre : List Nat) (x : Nat) (hv : v < 18446744073709551616) (hd : digs v = pre ++ [x]) : getR (pre ++ [x ||| 128, 0]) 0 = (0, 0, 3) := by
  have h10 := (digs_len64 v hv).2
  rw [hd] at h10
  simp at h10
  have := getR_in (ns := pre ++ [x ||| 128, 0]) (p := 0) (Nat.zero_le _)
  rw [List.drop_zero, getF_zero_behind v 0 0 0 pre x hd (by omega)] at this
  exact this

set_option maxHeartbeats 2000000 in
theorem cuts_walk (v : Nat) (z : Int) (w : World) (hv : v < 18446744073709551616) (hz1 : -9223372036854775808 ≤ z) (hz2 : z ≤ 9223372036854775807) :
    Calls Try.prog 5 #[.int .u64 (v : Int), .int .i64 z] w fun e w' => e = .returned (.bool true) ∧ Below w.heap.size w w' := by
  obtain ⟨i0, hi, hy0, hy1, hy2⟩ := info_parts infoByte
  obtain ⟨P, hP⟩ : ∃ P, (digs v).length = P + 1 := ⟨(digs v).length - 1, by have := (digs_len64 v hv).1; omega⟩
  obtain ⟨pre, x, hpx⟩ : ∃ pre x, digs v = pre ++ [x] := ⟨(digs v).dropLast, (digs v).getLast (digs_ne v), (List.dropLast_concat_getLast (digs_ne v)).symm⟩
  have hPl : pre.length = P := by rw [hpx] at hP; simp at hP; exact hP
  have hP9 : P ≤ 9 := by have := (digs_len64 v hv).2; omega
  have hx : x < 256 := digs_lt v x (by rw [hpx]; simp)
  have HLT : Hid (∀ n ∈ digs v, n < 256) := digs_lt v
  have HLP : Hid (∀ n ∈ pre, n < 256) := fun n hn => digs_lt v n (by rw [hpx]; simp [hn])
  have HCUT : Hid (∀ k, k < P + 1 → getR ((digs v).take k) 0 = (0, 0, 2)) := fun k hk => getR_cut v k hv (by omega)
  have HBEH : Hid (getR (pre ++ [x ||| 128, 0]) 0 = (0, 0, 3)) := getR_behind v pre x hv hpx
  obtain ⟨ho1, ho2⟩ := or_128 x hx
  have HP : Hid ((digs v).length = P + 1) := hP
  have HPX : Hid (digs v = pre ++ [x]) := hpx
  have HPL : Hid (pre.length = P) := hPl
  obtain ⟨tb1, tb2⟩ := tmod_bd z (P + 1) (by omega)
  obtain ⟨q, hq⟩ : ∃ q, z.tmod ((P + 1 : Nat) : Int) = q := ⟨_, rfl⟩
  rw [hq] at tb1 tb2
  have hq' : z.tmod ((P : Int) + 1) = q := by rw [← hq]; rfl
  clear hP hPl hpx hq
  go_enter Try.func5, Try.ntmps5
  go_wp2_with fail
  refine (put_nil v _ rfl _ hv).mono ?_
  rintro e w1 ⟨g, cap, rfl, h1, h2, h3, h4, h5, hb1⟩
  have HH1 : Hid (Holds w1 (some ⟨g, 0, none⟩) (digs v)) := h5
  rw [HP.out] at h3 ⊢
  have h4' := h4
  unfold maxLen at h4'
  clear h5
  generalize digs v = bs at *
  have hgo : ∃ k : Nat, k < P + 1 ∧ ((q < 0 ∧ q + ((P : Int) + 1) = k) ∨ (¬ q < 0 ∧ q = k)) := by
    by_cases hneg : q < 0
    · exact ⟨(q + ((P : Int) + 1)).toNat, by omega, .inl ⟨hneg, by omega⟩⟩
    · exact ⟨q.toNat, by omega, .inr ⟨hneg, by omega⟩⟩
  obtain ⟨k, hkP, hgo⟩ := hgo
  have HG1 : Hid (Calls Try.prog 16 #[.slice (some ⟨g, 0, none⟩) k cap, .int .i64 0] w1 fun e w' => e = .returned (getV (0, 0, 2)) ∧ w' = w1) := by
    have e : bs.length = P + 1 := HP.out
    have hl : (bs.take k).length = k := by simp; omega
    have := get_any (some ⟨g, 0, none⟩) (bs.take k) cap 0 w1 (.inr ⟨g, 0, rfl⟩) (by omega) h4 (by omega)
      (Holds.take (ms := bs.drop k) (by rw [List.take_append_drop]; exact HH1.out)) (fun n hn => HLT.out n (List.mem_of_mem_take hn))
    rw [hl, HCUT.out k hkP] at this
    exact this
  have hws1 := hb1.size
  rcases hgo with ⟨hneg, hk⟩ | ⟨hneg, rfl⟩
  all_goals
    go_wp2_with fail
    refine HG1.out.mono ?_
    rintro e w2 ⟨rfl, rfl⟩
    simp only [getV]
    go_wp2_with (first
      | (at_builtin; refine wpList_join rfl _ _ rfl w.heap.size (.slice none 0 0) 0 [] rfl (World.ownsRow_nil _ _ _ _) (some ⟨g, 0, none⟩) bs _ _ rfl ?c1 ?c2 HH1.out ?c3 ?c4 ?_)
      | fail)
    case c1 => rw [HP.out]
    case c2 => intro h; cases h
    case c3 => rw [HP.out]; simp; omega
    case c4 => exact hws1
    intro r2 w3 ho3 hg3
    have hb3 : Below w.heap.size w w3 := hb1.grown hg3 hws1 (fun k hk => by cases hk)
    have hws3 := hb3.size
    obtain ⟨a3, cap3, rfl, _, h31 | ⟨g3, rfl, h32, h33⟩, h34, h35, h36⟩ := own_open ho3
    · have := HP.out; rw [h31.2.1] at this; simp at this
    rw [HP.out] at ho3 h34 ⊢
    have hcell : w3.cell? ⟨g3, P, none⟩ = some (.int .u8 (x : Int)) := by
      rw [ho3.cellAt P (by omega), HPX.out]
      rw [show P = pre.length from HPL.out.symm]
      simp [byteCells]
    have hfro : w3.frozen? ⟨g3, P, none⟩ = false := ho3.frozenAt P
    have HO4 : Hid ((w3.setCell ⟨g3, P, none⟩ (.int .u8 ((x ||| 128 : Nat) : Int))).ownsRow w.heap.size 5 1 (.slice (some ⟨g3, 0, none⟩) (P + 1) cap3) (P + 1) (byteCells (pre ++ [x ||| 128]))) := by
      have := (ho3.stored P (.int .u8 ((x ||| 128 : Nat) : Int))).1
      have e : (byteCells bs).set P (.int .u8 ((x ||| 128 : Nat) : Int)) = byteCells (pre ++ [x ||| 128]) := by
        rw [HPX.out, byteCells_app, byteCells_app, show P = (byteCells pre).length from by rw [byteCells_len]; exact HPL.out.symm]
        simp [byteCells]
      rw [e] at this
      exact this
    have hb4 : Below w.heap.size w (w3.setCell ⟨g3, P, none⟩ (.int .u8 ((x ||| 128 : Nat) : Int))) := hb3.setCell h32 _
    have hws4 : w.heap.size ≤ (w3.setCell ⟨g3, P, none⟩ (.int .u8 ((x ||| 128 : Nat) : Int))).heap.size := hb4.size
    have HPL2 : Hid ((pre ++ [x ||| 128]).length = P + 1) := by show _ = _; rw [List.length_append, HPL.out]; rfl
    clear ho3 h36 hg3
    go_wp2_with (first
      | (at_builtin; refine wpList_join rfl _ _ rfl w.heap.size _ _ (pre ++ [x ||| 128]) rfl (HO4.out.alloc _) (some ⟨w3.heap.size, 0, none⟩) [0] _ _ rfl rfl (fun h => by cases h) ?c2 ?c3 ?c4 ?_)
      | fail)
    case c2 =>
      have := holds_made (w3.setCell ⟨g3, P, none⟩ (.int .u8 ((x ||| 128 : Nat) : Int))) [0]
      simpa [byteCells] using this
    case c3 => rw [HPL.out]; omega
    case c4 => omega
    intro r5 w5 ho5 hg5
    have hb5 : Below w.heap.size w w5 := (hb4.alloc hws4 _).grown hg5 (by simp; omega) (fun k hk => by simp [Value.ownBlock] at hk; omega)
    have hws5 := hb5.size
    clear hg5
    have HO5 : Hid (w5.ownsRow w.heap.size 5 1 r5 (pre ++ [x ||| 128, 0]).length (byteCells (pre ++ [x ||| 128, 0]))) := by
      show World.ownsRow _ _ _ _ _ _ _
      simpa using ho5
    clear ho5
    have HPL3 : Hid ((pre ++ [x ||| 128, 0]).length = P + 2) := by show _ = _; rw [List.length_append, HPL.out]; rfl
    have HLT5 : Hid (∀ n ∈ pre ++ [x ||| 128, 0], n < 256) := by
      intro n hn
      simp only [List.mem_append, List.mem_cons, List.not_mem_nil, or_false] at hn
      rcases hn with hn | rfl | rfl
      · exact HLP.out n hn
      · exact ho2
      · decide
    generalize pre ++ [x ||| 128, 0] = cs at *
    obtain ⟨a5, cap5, rfl, _, h51 | ⟨g5, rfl, h52, h53⟩, h54, h55, h56⟩ := own_open HO5.out
    · have := HPL3.out; rw [h51.2.1] at this; simp at this
    have HG5 : Hid (Calls Try.prog 16 #[.slice (some ⟨g5, 0, none⟩) (P + 2) cap5, .int .i64 0] w5 fun e w' => e = .returned (getV (0, 0, 3)) ∧ w' = w5) := by
      have := get_any (some ⟨g5, 0, none⟩) cs cap5 0 w5 (.inr ⟨g5, 0, rfl⟩) h54 h55 (by rw [HPL3.out]; omega) h56 HLT5.out
      rw [HBEH.out, HPL3.out] at this
      exact this
    rw [HPL3.out] at h54 ⊢
    clear h56
    go_wp2_with fail
    refine HG5.out.mono ?_
    rintro e w6 ⟨rfl, rfl⟩
    simp only [getV]
    go_wp2_with fail
    refine (awake_any _).mono ?_
    rintro e w7 ⟨rfl, hb7⟩
    go_wp2_with fail
    go_ret
    exact ⟨rfl, hb5.trans (hb7.mono hws5)⟩

theorem vintCuts_walk (v n : Int) (hv : (Lit.int .u64 v).wf = true) (hn : (Lit.int .i64 n).wf = true) (w : World) :
    Calls Try.prog 5 #[.int .u64 v, .int .i64 n] w fun e w' => e = .returned (.bool true) ∧ Below w.heap.size w w' := by
  obtain ⟨a1, a2⟩ := bounds_u64 hv
  obtain ⟨b1, b2⟩ := bounds_i64 hn
  obtain ⟨x, rfl⟩ := Int.eq_ofNat_of_zero_le a1
  exact cuts_walk x n w (by omega) b1 b2
end Go.Proofs.Ytppdaohmddbhdaa

/- What the reference's Check and Put answer. -/
import Derived.Test.YtfbekeebllcdbaaWrPut
import Derived.Test.YtfbekeebllcdbaaVnRef
import Derived.Test.YtfbekeebllcdbaaRwRow
namespace Go.Proofs.Ytfbekeebllcdbaa
open Go.ChangeShapes Go.WideShapes Go.ChangeAt Go.RowKit
set_option linter.unusedVariables false
set_option linter.unusedSimpArgs false
set_option maxRecDepth 20000

set_option maxHeartbeats 1000000 in
theorem rcheckV_any (t k n : Int) (b : ByteArray) (w : World) :
    Calls Try.prog 12 #[.agg #[.int .i64 t, .int .i64 k, .int .i64 n, .string b]] w fun e w' => e = .returned (.bool (okV t k n b)) ∧ Below w.heap.size w w' := by
  by_cases h1 : 1 ≤ t
  · by_cases h2 : t ≤ 500
    · by_cases hk : k = 0
      · subst hk
        go_enter Try.func12, Try.ntmps12
        go_wp2_with fail
        all_goals
          go_ret
          exact ⟨ret_bool (by simp [okV, h1, h2]), below_one _ _⟩
      · by_cases hk1 : k = 1
        · subst hk1
          by_cases hn : n = 0
          · subst hn
            go_enter Try.func12, Try.ntmps12
            go_wp2_with fail
            all_goals
              go_ret
              exact ⟨ret_bool (by simp [okV, h1, h2]), below_one _ _⟩
          · go_enter Try.func12, Try.ntmps12
            go_wp2_with fail
            all_goals
              go_ret
              exact ⟨ret_bool (by simp [okV, hn]), below_one _ _⟩
        · have e0 : (k == 0) = false := by simp [hk]
          have e1 : (k == 1) = false := by simp [hk1]
          go_enter Try.func12, Try.ntmps12
          go_wp2_with fail
          all_goals
            go_ret
            exact ⟨ret_bool (by simp [okV, hk, hk1]), below_one _ _⟩
    · have hok : okV t k n b = false := by simp [okV]; omega
      rw [hok]
      clear hok
      have hd : decide (t < 1) = false := by simp; omega
      have hd5 : decide (500 < t) = true := by simp; omega
      go_enter Try.func12, Try.ntmps12
      go_wp2_with fail
      all_goals
        go_ret
        exact ⟨rfl, below_one _ _⟩
  · have hok : okV t k n b = false := by simp [okV]; omega
    rw [hok]
    clear hok
    have hd : decide (t < 1) = true := by simp; omega
    go_enter Try.func12, Try.ntmps12
    go_wp2_with fail
    all_goals
      go_ret
      exact ⟨rfl, below_one _ _⟩
theorem rcheck_any (r : Fd) (w : World) : Calls Try.prog 12 #[r.val] w fun e w' => e = .returned (.bool (okF r)) ∧ Below w.heap.size w w' := rcheckV_any _ _ _ _ w


theorem own_holds {B : Nat} {w : World} {r : Value} {n : Nat} {ns : List Nat} (ho : w.ownsRow B 5 1 r n (byteCells ns)) : ∃ a c, r = .slice a ns.length c ∧ (a = none → ns = [] ∧ c = 0) ∧ Holds w a ns := by
  obtain ⟨a, c, rfl, -, h1, -, -, h4⟩ := own_open ho
  refine ⟨a, c, rfl, ?_, h4⟩
  rcases h1 with h | ⟨g, h, _⟩
  · exact fun _ => h.2
  · exact fun e => by rw [h] at e; cases e

set_option maxHeartbeats 2000000 in
theorem rfield_num (t : Nat) (n : Int) (b : ByteArray) (w : World) (h1 : 1 ≤ t) (h2 : t ≤ 500) (h3 : -9223372036854775808 ≤ n) (h4 : n ≤ 9223372036854775807) :
    Calls Try.prog 13 #[.agg #[.int .i64 (t : Int), .int .i64 0, .int .i64 n, .string b]] w fun e w' => ∃ v, e = .returned v ∧
      w'.ownsRow w.heap.size 5 1 v (digs (2 * t) ++ digs (zigN n).toNat).length (byteCells (digs (2 * t) ++ digs (zigN n).toNat)) ∧ Below w.heap.size w w' := by
  have hz := zigN_bd n h3 h4
  have l1 := digs_len64 (2 * t) (by omega)
  have hp := fun W => rput_any (2 * t) W (by omega)
  have HP : Hid (∀ W z, z = ((2 * t : Nat) : Int) → Calls Try.prog 28 #[.int .u64 z] W fun e w' => ∃ r, e = .returned r ∧ w'.ownsRow W.heap.size 5 1 r (digs (2 * t)).length (byteCells (digs (2 * t))) ∧ Below W.heap.size W w') := fun W z hz => by subst hz; exact hp W
  obtain ⟨z, hzz⟩ := Int.eq_ofNat_of_zero_le hz.1
  have l2 := digs_len64 z (by omega)
  have HP2 : Hid (∀ W, Calls Try.prog 28 #[.int .u64 (z : Int)] W fun e w' => ∃ r, e = .returned r ∧ w'.ownsRow W.heap.size 5 1 r (digs z).length (byteCells (digs z)) ∧ Below W.heap.size W w') := fun W => rput_any z W (by omega)
  obtain ⟨R, hR⟩ : ∃ R, digs (2 * t) ++ digs (zigN n).toNat = R := ⟨_, rfl⟩
  rw [hR]
  have HR : Hid (digs (2 * t) ++ digs z = R) := by show _ = _; rw [← hR, hzz, Int.toNat_natCast]
  have HZ : Hid (zigN n = (z : Int)) := hzz
  clear hR hp hz hzz
  generalize digs (2 * t) = ds at *
  generalize digs z = es at *
  have HL1 : Hid (ds.length ≤ 10) := l1.2
  have HL2 : Hid (es.length ≤ 10) := l2.2
  clear l1 l2
  go_enter Try.func13, Try.ntmps13
  go_wp2_with fail
  refine (HP.out _ _ (by omega)).mono ?_
  rintro e w1 ⟨r1, rfl, ho1, hb⟩
  have hb0 : Below w.heap.size w w1 := (below_one w _).trans (hb.mono (by simp))
  have hcell : w1.cell? ⟨w.heap.size, 1, none⟩ = some (.int .i64 0) := by rw [hb.cell (by simp)]; simp
  have hcell2 : w1.cell? ⟨w.heap.size, 2, none⟩ = some (.int .i64 n) := by rw [hb.cell (by simp)]; simp
  have HO1 : Hid (w1.ownsRow w.heap.size 5 1 r1 ds.length (byteCells ds)) := own_mono ho1 (by simp)
  clear ho1 hb HP
  go_wp2_with fail
  refine (rzig_any n _ h3 h4).mono ?_
  rintro e w2 ⟨rfl, rfl⟩
  rw [HZ.out]
  go_wp2_with fail
  refine (HP2.out _).mono ?_
  rintro e w3 ⟨r3, rfl, ho3, hb3⟩
  have hb3' : Below w.heap.size w w3 := hb0.trans (hb3.mono hb0.size)
  have HO3 := own_belowH HO1 hb3
  obtain ⟨a3, c3, rfl, hn3, hh3⟩ := own_holds ho3
  have HN3 : Hid (a3 = none → es = [] ∧ c3 = 0) := hn3
  have HH3 : Hid (Holds w3 a3 es) := hh3
  obtain ⟨M, hM⟩ : ∃ M, es.length = M := ⟨_, rfl⟩
  rw [hM]
  have HM : Hid (M = es.length) := hM.symm
  clear HP2 HO1 ho3 hb3 hn3 hh3 hb0 hM hcell hcell2
  go_wp2_with (first
    | (at_builtin; refine wpList_join rfl _ _ rfl w.heap.size _ _ ds rfl HO3.out a3 es M c3 rfl HM.out HN3.out HH3.out ?c1 ?c2 ?_)
    | fail)
  case c1 => have := HL1.out; have := HL2.out; omega
  case c2 => exact hb3'.size
  intro v w4 ho4 hg4
  have hb4 : Below w.heap.size w w4 := hb3'.grown hg4 hb3'.size (fun k hk => (HO3.out.lt k hk).1)
  have HO4 : Hid (w4.ownsRow w.heap.size 5 1 v R.length (byteCells R)) := by
    show World.ownsRow _ _ _ _ _ _ _
    have e : ds.length + es.length = R.length := by rw [← HR.out, List.length_append]
    rw [HR.out, e] at ho4
    exact ho4
  clear ho4 hg4 HO3
  go_wp2_with fail
  go_ret
  exact ⟨_, rfl, HO4.out, hb4⟩

set_option maxHeartbeats 2000000 in
theorem rfield_text (t : Nat) (n : Int) (b : ByteArray) (w : World) (h1 : 1 ≤ t) (h2 : t ≤ 500) (h3 : b.size ≤ 4096) :
    Calls Try.prog 13 #[.agg #[.int .i64 (t : Int), .int .i64 1, .int .i64 n, .string b]] w fun e w' => ∃ v, e = .returned v ∧
      w'.ownsRow w.heap.size 5 1 v (digs (2 * t + 1) ++ (digs b.size ++ bytesN b)).length (byteCells (digs (2 * t + 1) ++ (digs b.size ++ bytesN b))) ∧ Below w.heap.size w w' := by
  obtain ⟨i0, hi, hz0, hz1, hz2⟩ := info_parts infoByte
  have l1 := digs_len64 (2 * t + 1) (by omega)
  have l2 := digs_len64 b.size (by omega)
  have hp := fun W => rput_any (2 * t + 1) W (by omega)
  have HP : Hid (∀ W z, z = ((2 * t + 1 : Nat) : Int) → Calls Try.prog 28 #[.int .u64 z] W fun e w' => ∃ r, e = .returned r ∧ w'.ownsRow W.heap.size 5 1 r (digs (2 * t + 1)).length (byteCells (digs (2 * t + 1))) ∧ Below W.heap.size W w') := fun W z hz => by subst hz; exact hp W
  have HP2 : Hid (∀ W z, z = (b.size : Int) → Calls Try.prog 28 #[.int .u64 z] W fun e w' => ∃ r, e = .returned r ∧ w'.ownsRow W.heap.size 5 1 r (digs b.size).length (byteCells (digs b.size)) ∧ Below W.heap.size W w') := fun W z hz => by subst hz; exact rput_any b.size W (by omega)
  obtain ⟨R, hR⟩ : ∃ R, digs (2 * t + 1) ++ (digs b.size ++ bytesN b) = R := ⟨_, rfl⟩
  rw [hR]
  have HR : Hid (digs (2 * t + 1) ++ (digs b.size ++ bytesN b) = R) := hR
  clear hR hp
  generalize digs (2 * t + 1) = ds at *
  generalize digs b.size = es at *
  have HL1 : Hid (ds.length ≤ 10) := l1.2
  have HL2 : Hid (es.length ≤ 10) := l2.2
  clear l1 l2
  go_enter Try.func13, Try.ntmps13
  go_wp2_with fail
  refine (HP.out _ _ (by omega)).mono ?_
  rintro e w1 ⟨r1, rfl, ho1, hb⟩
  have hb0 : Below w.heap.size w w1 := (below_one w _).trans (hb.mono (by simp))
  have hcell : w1.cell? ⟨w.heap.size, 1, none⟩ = some (.int .i64 1) := by rw [hb.cell (by simp)]; simp
  have hcell3 : w1.cell? ⟨w.heap.size, 3, none⟩ = some (.string b) := by rw [hb.cell (by simp)]; simp
  have hlt : w.heap.size < w1.heap.size := by have := hb.size; simp at this; omega
  have HO1 : Hid (w1.ownsRow (w.heap.size + 1) 5 1 r1 ds.length (byteCells ds)) := own_mono ho1 (by simp)
  clear ho1 hb HP
  go_wp2_with fail
  refine (HP2.out _ _ (by omega)).mono ?_
  rintro e w3 ⟨r3, rfl, ho3, hb3⟩
  have hb3' : Below w.heap.size w w3 := hb0.trans (hb3.mono hb0.size)
  have HO3 := own_belowH HO1 hb3
  have hc33 : w3.cell? ⟨w.heap.size, 3, none⟩ = some (.string b) := by rw [hb3.cell hlt]; exact hcell3
  have hlt3 : w.heap.size < w3.heap.size := Nat.lt_of_lt_of_le hlt hb3.size
  obtain ⟨a3, c3, rfl, hn3, hh3⟩ := own_holds ho3
  have HN3 : Hid (a3 = none → es = [] ∧ c3 = 0) := hn3
  have HH3 : Hid (Holds w3 a3 es) := hh3
  obtain ⟨M, hM⟩ : ∃ M, es.length = M := ⟨_, rfl⟩
  rw [hM]
  have HM : Hid (M = es.length) := hM.symm
  clear HP2 HO1 ho3 hb3 hn3 hh3 hb0 hM hcell hcell3
  go_wp2_with (first
    | (at_builtin; refine wpList_join rfl _ _ rfl (w.heap.size + 1) _ _ ds rfl HO3.out a3 es M c3 rfl HM.out HN3.out HH3.out ?c1 ?c2 ?_)
    | fail)
  case c1 => have := HL1.out; have := HL2.out; omega
  case c2 => omega
  intro v4 w4 ho4 hg4
  have hb4 : Below w.heap.size w w4 := hb3'.grown hg4 hb3'.size (fun k hk => Nat.le_trans (Nat.le_succ _) (HO3.out.lt k hk).1)
  have hc43 : w4.cell? ⟨w.heap.size, 3, none⟩ = some (.string b) := hg4.cell hc33 (by intro e; exact Nat.not_succ_le_self _ (HO3.out.lt _ e.symm).1)
  have HO4 : Hid (w4.ownsRow w.heap.size 5 1 v4 (ds ++ es).length (byteCells (ds ++ es))) := by
    show World.ownsRow _ _ _ _ _ _ _
    rw [← List.length_append] at ho4
    exact own_mono ho4 (Nat.le_succ _)
  obtain ⟨K, hK⟩ : ∃ K, (ds ++ es).length = K := ⟨_, rfl⟩
  have hK20 : K ≤ 20 := by rw [← hK, List.length_append]; have := HL1.out; have := HL2.out; omega
  have HK : Hid ((ds ++ es).length = K) := hK
  rw [hK] at HO4
  clear ho4 hg4 HO3 hK hc33
  go_wp2_with (first
    | (at_builtin; refine Lib.wpList_append_own_string _ rfl _ _ 22 9 rfl w.heap.size 5 i0 Try.underlying22 Try.underlying9 hi hz0 hz1 hz2 _ _ _ rfl HO4.out b rfl ?d1 ?d2 ?d3 ?_)
    | fail)
  case d1 => unfold maxLen; omega
  case d2 => omega
  case d3 => exact hb4.size
  intro v5 w5 ho5 hg5 _
  have hb5 : Below w.heap.size w w5 := hb4.grown hg5 hb4.size (fun k hk => (HO4.out.lt k hk).1)
  have HO5 : Hid (w5.ownsRow w.heap.size 5 1 v5 R.length (byteCells R)) := by
    show World.ownsRow _ _ _ _ _ _ _
    have e : K + b.size = R.length := by rw [← HR.out, ← HK.out]; simp [bytesN_len]; omega
    rw [strCells_bytes, ← byteCells_app, List.append_assoc, HR.out, e] at ho5
    exact ho5
  clear ho5 hg5 HO4
  go_wp2_with fail
  go_ret
  exact ⟨_, rfl, HO5.out, hb5⟩

theorem rfield_any (r : Fd) (w : World) (h : okF r = true) (hn : Is64 r.n) :
    Calls Try.prog 13 #[r.val] w fun e w' => ∃ v, e = .returned v ∧ w'.ownsRow w.heap.size 5 1 v (fieldN r).length (byteCells (fieldN r)) ∧ Below w.heap.size w w' := by
  rcases ok_cases h hn with ⟨t, n, rfl, h1, h2, h3⟩ | ⟨t, b, rfl, h1, h2, h3⟩
  · rw [fieldN_num]; exact rfield_num t n _ w h1 h2 h3.1 h3.2
  · rw [fieldN_text]; exact rfield_text t 0 b w h1 h2 h3
end Go.Proofs.Ytfbekeebllcdbaa

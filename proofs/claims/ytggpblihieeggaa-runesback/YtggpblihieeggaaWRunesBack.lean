/- RunesBack answers true at every list of runes. -/
import Derived.Test.YtggpblihieeggaaRuJoin
import Derived.Test.YtggpblihieeggaaRuNextP
import Derived.Test.YtggpblihieeggaaRuValid
import Derived.Test.YtggpblihieeggaaRuAwake
namespace Go.Proofs.Ytggpblihieeggaa
open Go.ChangeShapes Go.WideShapes Go.ChangeAt Go.RowKit
set_option linter.unusedVariables false
set_option maxRecDepth 20000

/-- What the walk is told of a slice of integers that came in. -/
def IsRow (k : IntKind) (w : World) (a : Option Addr) (len cap : Nat) (zs : List Int) : Prop :=
  (a = none ∧ len = 0 ∧ cap = 0 ∧ zs = []) ∨
  ∃ x, a = some x ∧ len ≤ cap ∧ cap ≤ maxLen ∧ zs.length = cap ∧ (∀ i, i < zs.length → w.cell? (x.add i) = some (.int k (zs.getD i 0))) ∧ ∀ n ∈ zs, (Lit.int k n).wf = true

/-- A rune that is put: nothing, or bytes that are read as it. -/
theorem put_back (r : Int) : (putS r = ⟨#[]⟩ ∧ (putS r).toList = []) ∨ ∃ c : Nat, r = c ∧ nxL (atL (putS r) 0) = some (c, (putS r).size) ∧ (putS r).size ≤ 4 ∧ 1 ≤ (putS r).size ∧ runesOf (putS r).data.toList = some [c] := by
  cases hv : Utf8.valid r with
  | false =>
    left
    have e : putS r = ⟨#[]⟩ := (putS_no hv).symm
    exact ⟨e, by rw [e, ByteArray.toList_eq]⟩
  | true =>
    right
    have e := putS_yes hv
    have h0 := (valid_iff r).1 hv
    obtain ⟨c, rfl⟩ := Int.eq_ofNat_of_zero_le h0.1
    have e1 := nxL_encode c hv []
    rw [List.append_nil] at e1
    have e3 := runesOf_encode c hv
    obtain ⟨_, _, _, h4, _, h6, _⟩ := nxL_some _ _ _ e1
    rw [← e]
    refine ⟨c, rfl, ?_, h6, h4, e3⟩
    rw [atL_in _ _ (by omega)]
    exact e1

theorem take_len_le {α : Type} (l : List α) (n : Nat) : (l.take n).length ≤ n := List.length_take_le _ _

theorem app_data (s t : ByteArray) : (s ++ t).data.toList = s.data.toList ++ t.data.toList := by simp
theorem app_size (s t : ByteArray) : (s ++ t).size = s.size + t.size := by simp [ByteArray.size_append]

set_option maxHeartbeats 2000000 in
theorem back_some (b off : Nat) (len cap : Nat) (zs : List Int) (w : World) (hlen : len ≤ 200) (hz : len ≤ zs.length) (hb : b < w.heap.size)
    (hcell : ∀ i, i < zs.length → w.cell? ⟨b, off + i, none⟩ = some (.int .i32 (zs.getD i 0))) :
    Calls Try.prog 6 #[.slice (some ⟨b, off, none⟩) len cap] w fun e w' => e = .returned (.bool true) ∧ Below w.heap.size w w' := by
  have HC : Hid (∀ i, i < zs.length → w.cell? ⟨b, off + i, none⟩ = some (.int .i32 (zs.getD i 0))) := hcell
  clear hcell
  go_enter Try.func6, Try.ntmps6
  go_wp2_with fail
  go_loopw [3, 4, 5] (fun sv nv iv wr => ∃ (k : Nat) (s : ByteArray) (acc : List Nat), k ≤ len ∧ iv = .int .i64 k ∧ sv = .string s ∧ nv = .int .i64 acc.length ∧ s.size ≤ 4 * k ∧ acc.length ≤ k ∧ Hid (runesOf s.data.toList = some acc) ∧ Below w.heap.size w wr)
    (fun _ _ iv _ => len - (intOf iv).toNat)
  case atStart => exact ⟨0, ⟨#[]⟩, [], by omega, rfl, rfl, rfl, by decide, by decide, rfl, Below.refl _ _⟩
  case round =>
    obtain ⟨k, s, acc, hk, rfl, rfl, rfl, hss, hal, HR, hbel⟩ := hrel
    have hws := hbel.size
    by_cases hlt : k < len
    · have hc : wr.cell? ⟨b, off + k, none⟩ = some (.int .i32 (zs.getD k 0)) := by rw [hbel.cell (by exact hb)]; exact HC.out k (by omega)
      generalize zs.getD k 0 = r at *
      go_wp2_with fail
      refine (put_any _ _).mono ?_
      rintro e w1 ⟨rfl, rfl⟩
      have HP : Hid ((putS r = ⟨#[]⟩ ∧ (putS r).toList = []) ∨ ∃ c : Nat, r = c ∧ nxL (atL (putS r) 0) = some (c, (putS r).size) ∧ (putS r).size ≤ 4 ∧ 1 ≤ (putS r).size ∧ runesOf (putS r).data.toList = some [c]) := put_back r
      generalize putS r = t at *
      rcases HP.out with ⟨rfl, ht⟩ | ⟨c, rfl, e1, e2, e3, e4⟩
      · clear HP ht
        have HE : Hid (runesOf (s ++ ⟨#[]⟩).data.toList = some acc) := by show _ = _; rw [app_data]; simpa using HR.out
        have HZ : Hid ((s ++ ⟨#[]⟩).size ≤ 4 * (k + 1)) := by show _ ≤ _; rw [app_size]; show s.size + 0 ≤ _; omega
        go_wp2_with fail
        go_roundw
        case rel => exact ⟨k + 1, _, acc, by omega, by go_num, rfl, rfl, HZ.out, by omega, HE, hbel⟩
        case measure => simp [intOf]; omega
      · have HE : Hid (runesOf (s ++ t).data.toList = some (acc ++ [c])) := by show _ = _; rw [app_data, runes_join HR.out, e4]; rfl
        have HZ : Hid ((s ++ t).size ≤ 4 * (k + 1)) := by show _ ≤ _; rw [app_size]; omega
        have H1 : Hid (nxL (atL t 0) = some (c, t.size)) := e1
        have hne : (t.toList == []) = false := by
          rw [ByteArray.toList_eq]
          cases e : t.data.toList with
          | nil => have : t.size = 0 := by rw [← len_data, e]; rfl
                   omega
          | cons a r => rfl
        have hne2 : (t.toList != []) = true := by rw [bne, hne]; rfl
        clear HP e1 e4
        go_wp2_with fail
        refine (next_any t _ _ (by omega)).mono ?_
        rintro e w2 ⟨rfl, h2⟩
        rw [H1.out]
        simp only [nxV]
        have hb2 : Below w.heap.size w w2 := hbel.trans (h2.mono hws)
        have hc2 : w2.cell? ⟨b, off + k, none⟩ = some (.int .i32 (c : Int)) := by rw [h2.cell (by show b < _; omega)]; exact hc
        clear hc h2
        go_wp2_with fail
        go_roundw
        case rel => exact ⟨k + 1, _, acc ++ [c], by omega, by go_num, rfl, by simp, HZ.out, by simp; omega, HE, hb2⟩
        case measure => simp [intOf]; omega
    · have HV : Hid (validB s.data.toList = true) := by show _ = _; unfold validB; rw [HR.out]; rfl
      have HN : Hid (countN s.data.toList = acc.length) := by show _ = _; unfold countN; rw [HR.out]; rfl
      go_wp2_with fail
      refine (valid_any _ _ (by omega)).mono ?_
      rintro e w2 ⟨rfl, h2⟩
      rw [HV.out]
      go_wp2_with fail
      refine (count_any _ _ (by omega)).mono ?_
      rintro e w3 ⟨rfl, h3⟩
      rw [HN.out]
      go_wp2_with fail
      refine (awake_any _).mono ?_
      rintro e w4 ⟨rfl, h4⟩
      go_wp2_with fail
      go_ret
      exact ⟨rfl, hbel.trans ((h2.trans ((h3.trans (h4.mono h3.size)).mono h2.size)).mono hws)⟩

theorem runes_empty : runesOf (ByteArray.mk #[]).data.toList = some [] := rfl

set_option maxHeartbeats 2000000 in
theorem back_empty (a : Option Addr) (cap : Nat) (w : World) :
    Calls Try.prog 6 #[.slice a 0 cap] w fun e w' => e = .returned (.bool true) ∧ Below w.heap.size w w' := by
  have HV : Hid (validB (ByteArray.mk #[]).data.toList = true) := rfl
  have HN : Hid (countN (ByteArray.mk #[]).data.toList = 0) := rfl
  go_enter Try.func6, Try.ntmps6
  go_wp2_with fail
  go_loopw [3, 4, 5] (fun sv nv iv wr => sv = .string ⟨#[]⟩ ∧ nv = .int .i64 0 ∧ iv = .int .i64 0 ∧ wr = w) (fun _ _ _ _ => 0)
  case atStart => exact ⟨rfl, rfl, rfl, rfl⟩
  case round =>
    obtain ⟨rfl, rfl, rfl, rfl⟩ := hrel
    go_wp2_with fail
    refine (valid_any _ _ (by decide)).mono ?_
    rintro e w2 ⟨rfl, h2⟩
    rw [HV.out]
    go_wp2_with fail
    refine (count_any _ _ (by decide)).mono ?_
    rintro e w3 ⟨rfl, h3⟩
    rw [HN.out]
    go_wp2_with fail
    refine (awake_any _).mono ?_
    rintro e w4 ⟨rfl, h4⟩
    go_wp2_with fail
    go_ret
    exact ⟨rfl, h2.trans ((h3.trans (h4.mono h3.size)).mono h2.size)⟩

set_option maxHeartbeats 1000000 in
theorem back_long (a : Option Addr) (len cap : Nat) (w : World) (h : 200 < len) :
    Calls Try.prog 6 #[.slice a len cap] w fun e w' => e = .returned (.bool true) ∧ Below w.heap.size w w' := by
  go_enter Try.func6, Try.ntmps6
  go_wp2_with fail
  refine (awake_any _).mono ?_
  rintro e w4 ⟨rfl, h4⟩
  go_wp2_with fail
  go_ret
  exact ⟨rfl, h4⟩

theorem runesBack_walk (a : Option Addr) (len cap : Nat) (zs : List Int) (w : World) (h : IsRow .i32 w a len cap zs) (hb : cap * Try.prog.bytesOf 21 ≤ 140737488351232) :
    Calls Try.prog 6 #[.slice a len cap] w fun e w' => e = .returned (.bool true) ∧ Below w.heap.size w w' := by
  by_cases h0 : 200 < len
  · exact back_long a len cap w h0
  · by_cases h1 : len = 0
    · subst h1; exact back_empty a cap w
    · rcases h with ⟨_, h, _⟩ | ⟨x, rfl, hl, hm, hz, hc, hw⟩
      · exact absurd h h1
      · obtain ⟨b, off, rfl, hcell⟩ := ints_at hc (by omega)
        exact back_some b off len cap zs w (by omega) (by omega) (by have := World.block_lt_of_cell? _ _ (hcell 0 (by omega)); exact this) hcell
end Go.Proofs.Ytggpblihieeggaa

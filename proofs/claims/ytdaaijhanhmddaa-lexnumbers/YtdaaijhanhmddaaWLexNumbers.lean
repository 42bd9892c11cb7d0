/- LexNumbers answers true at every number. -/
import Derived.Test.YtdaaijhanhmddaaLxNum
import Derived.Test.YtdaaijhanhmddaaLxAwake
import Derived.Test.YtdaaijhanhmddaaLwPlace
import Derived.Test.YtdaaijhanhmddaaRuRefAll
namespace Go.Proofs.Ytdaaijhanhmddaa
open Go.ChangeShapes Go.WideShapes Go.ChangeAt Go.RowKit
set_option linter.unusedVariables false
set_option linter.unusedSimpArgs false
set_option maxRecDepth 20000

theorem numV_acc (L : List UInt8) : ∀ n, numV L n = n * 10 ^ L.length + numV L 0 := by
  induction L with
  | nil => intro n; simp [numV]
  | cons a r ih =>
    intro n
    simp only [numV, List.length_cons]
    rw [ih (10 * n + (a.toNat - 48)), ih (10 * 0 + (a.toNat - 48)), Nat.pow_succ]
    rw [Nat.add_mul, Nat.add_mul]
    have e1 : 10 * n * 10 ^ r.length = n * (10 ^ r.length * 10) := by rw [Nat.mul_comm 10 n, Nat.mul_assoc, Nat.mul_comm 10]
    rw [e1]; omega
/-- Digits so far, and what is left of the number. -/
structure Dg (v x : Nat) (L : List UInt8) : Prop where
  all : L.all digU = true
  sum : x * 10 ^ L.length + numV L 0 = v
  len : L.length ≤ 9
  head : x = 0 → L ≠ [] → headN L ≠ 48 ∨ L.length = 1
theorem Dg.start (v : Nat) : Dg v v [] := ⟨rfl, by simp [numV], by simp, fun _ h => absurd rfl h⟩
theorem dig_byte (r : Nat) (h : r < 10) : (UInt8.ofNat (48 + r)).toNat = 48 + r := by
  rw [UInt8.toNat_ofNat']; omega
theorem Dg.short {v x : Nat} {L : List UInt8} (h : Dg v x L) (hv : v < 1000000000) (hx : 0 < x ∨ L = []) : L.length ≤ 8 := by
  rcases hx with hx | rfl
  · have h1 := h.sum
    have h2 : 1 * 10 ^ L.length ≤ x * 10 ^ L.length := Nat.mul_le_mul_right _ hx
    by_cases h3 : L.length ≤ 8
    · exact h3
    · have h4 := Nat.pow_le_pow_right (n := 10) (by omega) (show 9 ≤ L.length from by omega)
      have : (10 : Nat) ^ 9 = 1000000000 := by decide
      omega
  · simp
theorem Dg.step {v x : Nat} {L : List UInt8} (h : Dg v x L) (hv : v < 1000000000) (hx : 0 < x ∨ L = []) : Dg v (x / 10) (UInt8.ofNat (48 + x % 10) :: L) := by
  have hs := h.short hv hx
  have hr : x % 10 < 10 := by omega
  have hb := dig_byte (x % 10) hr
  refine ⟨?_, ?_, by simp; omega, ?_⟩
  · simp only [List.all_cons, h.all, Bool.and_true]
    unfold digU
    rw [hb]; simp; omega
  · rw [List.length_cons]
    simp only [numV]
    have e3 : 10 * 0 + (48 + x % 10 - 48) = x % 10 := by omega
    rw [numV_acc L (10 * 0 + _), hb, e3, ← h.sum, Nat.pow_succ]
    have e1 : x / 10 * (10 ^ L.length * 10) = x / 10 * 10 * 10 ^ L.length := by rw [Nat.mul_comm (10 ^ L.length), Nat.mul_assoc]
    have e2 : x * 10 ^ L.length = (x / 10 * 10 + x % 10) * 10 ^ L.length := by
      congr 1; omega
    rw [e1, e2, Nat.add_mul]
    omega
  · intro h0 _
    rcases hx with hx | rfl
    · left
      simp only [headN]
      rw [hb]; omega
    · right; rfl
theorem digs_runes (L : List UInt8) (h : L.all digU = true) : runesOf L = some (L.map UInt8.toNat) := by
  induction L with
  | nil => rfl
  | cons a r ih =>
    simp only [List.all_cons, Bool.and_eq_true] at h
    have ha : a.toNat < 128 := by have := h.1; unfold digU at this; simp only [decide_eq_true_eq] at this; omega
    rw [runesOf_step (c := a.toNat) (k := 1) (by simp [nxL, ha])]
    rw [List.drop_succ_cons, List.drop_zero, ih h.2]; rfl
theorem digs_valid (L : List UInt8) (h : L.all digU = true) : validB L = true := by unfold validB; rw [digs_runes L h]; rfl
theorem Dg.num {v : Nat} {L : List UInt8} (h : Dg v 0 L) (hne : L ≠ []) : numA L = (v, true) := by
  have hl : 1 ≤ L.length := by cases L with
    | nil => exact absurd rfl hne
    | cons a r => simp
  have h1 := h.len
  have h2 := h.head rfl hne
  have h3 := h.sum
  unfold numA
  rw [if_neg (by omega), if_pos h.all]
  rw [Nat.zero_mul, Nat.zero_add] at h3
  rw [h3]
def strLen : Value → Nat
  | .string b => b.size
  | _ => 0
theorem slice_dig (W : World) (r : Nat) (h : r < 10) : (Instr.slice 9 (.string ⟨#[48, 49, 50, 51, 52, 53, 54, 55, 56, 57]⟩) (some (.int .i64 (r : Int))) (some (.int .i64 ((r : Int) + 1))) none).run Try.prog W = .ok (.string ⟨#[UInt8.ofNat (48 + r)]⟩) W := by
  have := run_slice_string (P := Try.prog) W 9 ⟨#[48, 49, 50, 51, 52, 53, 54, 55, 56, 57]⟩ .i64 .i64 (r : Int) ((r : Int) + 1) Try.underlying9 (by omega) (by omega) (by show (r : Int) + 1 ≤ 10; omega)
  rw [this]
  have e : (ByteArray.mk #[48, 49, 50, 51, 52, 53, 54, 55, 56, 57]).extract r (r + 1) = ⟨#[UInt8.ofNat (48 + r)]⟩ := by
    match r, h with
    | 0, _ | 1, _ | 2, _ | 3, _ | 4, _ | 5, _ | 6, _ | 7, _ | 8, _ | 9, _ => rfl
  rw [show ((r : Int) + 1).toNat = r + 1 from by omega, Int.toNat_natCast, e]
theorem cons_list (a : UInt8) (S : ByteArray) : ((ByteArray.mk #[a]) ++ S).data.toList = a :: S.data.toList := by
  rw [ByteArray.data_append]; simp

set_option maxHeartbeats 4000000 in
theorem lexNumbers_walk (n : Int) (hn : (Lit.int .i64 n).wf = true) (w : World) :
    Calls Try.prog 6 #[.int .i64 n] w fun e w' => e = .returned (.bool true) ∧ Below w.heap.size w w' := by
  obtain ⟨n1, n2⟩ := bounds_i64 hn
  clear hn
  go_enter Try.func6, Try.ntmps6
  go_wp2_with fail
  refine (place_any n 1000000000 _ n1 n2 (by omega) (by omega)).mono ?_
  rintro e w1 ⟨v, rfl, hv, rfl⟩
  have hv' : v < 1000000000 := by omega
  clear n1 n2 hv
  go_wp2_with fail
  go_loop [4, 5] (fun sv xv => ∃ (S : ByteArray) (x : Nat), sv = .string S ∧ xv = .int .i64 (x : Int) ∧ x < 1000000000 ∧ Hid (Dg v x S.data.toList)) (fun sv xv => (intOf xv).toNat + (1 - strLen sv))
  case atStart => exact ⟨⟨#[]⟩, v, rfl, rfl, hv', Dg.start v⟩
  case round =>
    obtain ⟨S, x, rfl, rfl, hx, H⟩ := hrel
    by_cases hgo : 0 < x ∨ S.data.toList = []
    · have HD : Hid (Dg v (x / 10) (ByteArray.mk #[UInt8.ofNat (48 + x % 10)] ++ S).data.toList) := by
        show Dg _ _ _
        rw [cons_list]; exact H.out.step hv' hgo
      have hss : S.size ≤ 8 := by have := H.out.short hv' hgo; rwa [len_data] at this
      have hm : (x : Int).tmod 10 = ((x % 10 : Nat) : Int) := by rw [Int.tmod_eq_emod_of_nonneg (by omega)]; omega
      have hq : (x : Int).tdiv 10 = ((x / 10 : Nat) : Int) := by rw [Int.tdiv_eq_ediv_of_nonneg (by omega)]; omega
      have hsd : ∀ W : World, (Instr.slice 9 (.string ⟨#[48, 49, 50, 51, 52, 53, 54, 55, 56, 57]⟩) (some (.int .i64 ((x % 10 : Nat) : Int))) (some (.int .i64 (((x % 10 : Nat) : Int) + 1))) none).run Try.prog W = .ok (.string ⟨#[UInt8.ofNat (48 + x % 10)]⟩) W := fun W => slice_dig W (x % 10) (by omega)
      have hr10 : x % 10 < 10 := by omega
      have hmeas : x / 10 + (1 - (S.size + 1)) < x + (1 - S.size) := by
        rcases hgo with h | h
        · omega
        · have : S.size = 0 := by rw [← len_data, h]; rfl
          omega
      have hy : x / 10 < 1000000000 := by omega
      have hcase : decide (0 < x) = true ∨ (decide (0 < x) = false ∧ (S.toList == ([] : List UInt8)) = true) := by
        rcases hgo with h | h
        · left; simp; omega
        · by_cases h0 : 0 < x
          · left; simp; omega
          · right
            refine ⟨by simp; omega, ?_⟩
            rw [beq_iff_eq, ByteArray.toList_eq]; exact h
      clear H hgo
      generalize x % 10 = r at *
      generalize x / 10 = y at *
      generalize UInt8.ofNat (48 + r) = D at *
      rcases hcase with h1 | ⟨h1, h2⟩
      all_goals
        go_wp2_with fail
        go_round
        case rel => exact ⟨_, y, rfl, rfl, hy, HD⟩
        case measure =>
          have e1 : (ByteArray.mk #[D] ++ S).size = S.size + 1 := by rw [ByteArray.size_append]; show 1 + _ = _; omega
          simp only [intOf, strLen, e1, Int.toNat_natCast]
          exact hmeas
    · have hx0 : x = 0 := by
        by_cases h : 0 < x
        · exact absurd (.inl h) hgo
        · omega
      have hne : S.data.toList ≠ [] := fun h => hgo (.inr h)
      have h1 : decide (0 < x) = false := by simp; omega
      have h2 : (S.toList == ([] : List UInt8)) = false := by rw [beq_eq_false_iff_ne, ByteArray.toList_eq]; exact hne
      have hD : Dg v 0 S.data.toList := by have := H.out; rwa [hx0] at this
      have hlen := hD.len
      rw [len_data] at hlen
      have hpos : 1 ≤ S.size := by
        rw [← len_data]
        cases e : S.data.toList with
        | nil => exact absurd e hne
        | cons a r => simp
      have HC1 : Hid (∀ W : World, Calls Try.prog 11 #[.string S] W fun q w' => q = .returned (.tuple #[.int .i64 (v : Int), .bool true]) ∧ Below W.heap.size W w') := fun W => by
        have := number_any S W (by omega)
        rwa [hD.num hne] at this
      have HC2 : Hid (∀ W : World, Calls Try.prog 11 #[.string (ByteArray.mk #[48] ++ S)] W fun q w' => q = .returned (.tuple #[.int .i64 ((0 : Nat) : Int), .bool false]) ∧ Below W.heap.size W w') := fun W => by
        have hz : (ByteArray.mk #[48] ++ S).size = S.size + 1 := by rw [ByteArray.size_append]; show 1 + _ = _; omega
        have := number_any (ByteArray.mk #[48] ++ S) W (by omega)
        rwa [numA_none (.inr (.inr ⟨by rw [len_data]; omega, by rw [cons_list]; rfl⟩))] at this
      obtain ⟨Z, hZ⟩ : ∃ Z, (ByteArray.mk #[48, 48, 48, 48, 48, 48, 48, 48, 48]).extract (S.size - 1) 9 = Z := ⟨_, rfl⟩
      have hZs : Z.size = 10 - S.size := by rw [← hZ, ByteArray.size_extract]; show min 9 9 - _ = _; omega
      have hsz : ∀ W : World, (Instr.slice 9 (.string ⟨#[48, 48, 48, 48, 48, 48, 48, 48, 48]⟩) (some (.int .i64 ((S.size : Int) - 1))) none none).run Try.prog W = .ok (.string Z) W := fun W => by
        rw [run_slice_string_from_if (P := Try.prog) W 9 _ .i64 _ Try.underlying9, if_pos ⟨by omega, by show (S.size : Int) - 1 ≤ 9; omega⟩]
        rw [← hZ, show ((S.size : Int) - 1).toNat = S.size - 1 from by omega]
        rfl
      have HC3 : Hid (∀ W : World, Calls Try.prog 11 #[.string (ByteArray.mk #[49] ++ Z ++ S)] W fun q w' => q = .returned (.tuple #[.int .i64 ((0 : Nat) : Int), .bool false]) ∧ Below W.heap.size W w') := fun W => by
        have hz : (ByteArray.mk #[49] ++ Z ++ S).size = 11 := by rw [ByteArray.size_append, ByteArray.size_append]; show 1 + _ + _ = _; omega
        have := number_any (ByteArray.mk #[49] ++ Z ++ S) W (by omega)
        rwa [numA_none (.inr (.inl (by rw [len_data]; omega)))] at this
      have HC4 : Hid (∀ W : World, Calls Try.prog 15 #[.string S] W fun q w' => q = .returned (.bool true) ∧ Below W.heap.size W w') := fun W => by
        have := rvalid_any S W (by omega)
        rwa [digs_valid _ hD.all] at this
      have hZb : Z.size ≤ 9 := by omega
      clear hx0 hne hD H hgo hZ hZs
      go_wp2_with fail
      refine (HC1.out _).mono ?_
      rintro q w2 ⟨rfl, hb2⟩
      go_wp2_with fail
      refine (HC2.out _).mono ?_
      rintro q w3 ⟨rfl, hb3⟩
      have hbb3 := hb2.trans (hb3.mono hb2.size)
      go_wp2_with fail
      refine (HC3.out _).mono ?_
      rintro q w4 ⟨rfl, hb4⟩
      have hbb4 := hbb3.trans (hb4.mono hbb3.size)
      go_wp2_with fail
      refine (HC4.out _).mono ?_
      rintro q w5 ⟨rfl, hb5⟩
      have hbb5 := hbb4.trans (hb5.mono hbb4.size)
      go_wp2_with fail
      refine (lawake_any _).mono ?_
      rintro q w6 ⟨rfl, hb6⟩
      go_wp2_with fail
      go_ret
      exact ⟨rfl, hbb5.trans (hb6.mono hbb5.size)⟩
end Go.Proofs.Ytdaaijhanhmddaa

/- Numbers in few bytes, in plain mathematics: the digits of a number, and how they are read. -/
import Derived.WalkKit
namespace Go.Proofs.Ytfbekeebllcdbaa

/-- A number's bytes, at most so many. -/
def digsF : Nat → Nat → List Nat
  | 0, v => [v]
  | f + 1, v => if v < 128 then [v] else (v % 128 + 128) :: digsF f (v / 128)
/-- A number's bytes. -/
def digs (v : Nat) : List Nat := digsF v v
theorem digsF_fuel (f : Nat) : ∀ g v, v ≤ f → v ≤ g → digsF f v = digsF g v := by
  induction f with
  | zero =>
    intro g v h1 _
    obtain rfl : v = 0 := by omega
    cases g <;> rfl
  | succ f ih =>
    intro g v h1 h2
    cases g with
    | zero =>
      obtain rfl : v = 0 := by omega
      rfl
    | succ g =>
      simp only [digsF]
      by_cases h : v < 128
      · rw [if_pos h, if_pos h]
      · rw [if_neg h, if_neg h, ih g (v / 128) (by omega) (by omega)]
theorem digs_small {v : Nat} (h : v < 128) : digs v = [v] := by
  unfold digs
  cases v with
  | zero => rfl
  | succ n => simp only [digsF]; rw [if_pos h]
theorem digs_big {v : Nat} (h : ¬ v < 128) : digs v = (v % 128 + 128) :: digs (v / 128) := by
  unfold digs
  cases v with
  | zero => omega
  | succ n =>
    simp only [digsF]
    rw [if_neg h, digsF_fuel n ((n + 1) / 128) ((n + 1) / 128) (by omega) (Nat.le_refl _)]
theorem digs_ind {M : Nat → Prop} (case1 : ∀ v, v < 128 → M v) (case2 : ∀ v, ¬ v < 128 → M (v / 128) → M v) (v : Nat) : M v := by
  induction v using Nat.strongRecOn with
  | _ v ih =>
    by_cases h : v < 128
    · exact case1 v h
    · exact case2 v h (ih (v / 128) (by omega))
theorem digs_ne (v : Nat) : digs v ≠ [] := by
  by_cases h : v < 128
  · rw [digs_small h]; simp
  · rw [digs_big h]; simp
theorem digs_lt (v : Nat) : ∀ n ∈ digs v, n < 256 := by
  induction v using digs_ind with
  | case1 v h => rw [digs_small h]; simp; omega
  | case2 v h ih => rw [digs_big h]; intro n hn; simp at hn; rcases hn with rfl | hn; · omega
                    exact ih n hn
theorem digs_len_le (k : Nat) : ∀ v, v < 128 * 128 ^ k → (digs v).length ≤ k + 1 := by
  induction k with
  | zero => intro v h; rw [digs_small (by omega)]; simp
  | succ k ih =>
    intro v h
    by_cases hv : v < 128
    · rw [digs_small hv]; simp
    · rw [digs_big hv]
      have := ih (v / 128) (by rw [Nat.div_lt_iff_lt_mul (by omega)]; rw [Nat.pow_succ] at h; omega)
      simp; omega
theorem digs_len_ge (k : Nat) : ∀ v, 128 ^ k ≤ v → k + 1 ≤ (digs v).length := by
  induction k with
  | zero => intro v h; have := List.length_pos_iff.2 (digs_ne v); omega
  | succ k ih =>
    intro v h
    have hp : 1 ≤ 128 ^ k := Nat.one_le_pow _ _ (by omega)
    rw [Nat.pow_succ] at h
    rw [digs_big (by omega)]
    have := ih (v / 128) (by rw [Nat.le_div_iff_mul_le (by omega)]; omega)
    simp; omega
theorem digs_len64 (v : Nat) (h : v < 18446744073709551616) : 1 ≤ (digs v).length ∧ (digs v).length ≤ 10 :=
  ⟨List.length_pos_iff.2 (digs_ne v), digs_len_le 9 v (by have : (128 : Nat) * 128 ^ 9 = 1180591620717411303424 := by decide
                                                          omega)⟩

/-- Reading: what is left, how many are read, what they make; the number, the place behind it, the error. -/
def getF : List Nat → Nat → Nat → Nat → Nat × Nat × Nat
  | [], _, _, _ => (0, 0, 2)
  | c :: r, i, v, at' => if i = 9 ∧ 1 < c then (0, 0, 3) else if 128 ≤ c then getF r (i + 1) (v + c % 128 * 128 ^ i) at' else if c = 0 ∧ 0 < i then (0, 0, 3) else (v + c % 128 * 128 ^ i, at' + i + 1, 0)
def getR (ns : List Nat) (at' : Int) : Nat × Nat × Nat := if at' < 0 ∨ (ns.length : Int) < at' then (0, 0, 1) else getF (ns.drop at'.toNat) 0 0 at'.toNat

theorem getF_nil (i v p : Nat) : getF [] i v p = (0, 0, 2) := rfl
theorem getF_ten {c : Nat} (r : List Nat) {i : Nat} (v p : Nat) (h : i = 9) (hc : 1 < c) : getF (c :: r) i v p = (0, 0, 3) := by rw [getF, if_pos ⟨h, hc⟩]
theorem getF_on {c : Nat} (r : List Nat) {i : Nat} (v p : Nat) (h : ¬ (i = 9 ∧ 1 < c)) (hc : 128 ≤ c) : getF (c :: r) i v p = getF r (i + 1) (v + c % 128 * 128 ^ i) p := by rw [getF, if_neg h, if_pos hc]
theorem getF_zero {c : Nat} (r : List Nat) {i : Nat} (v p : Nat) (h : ¬ (i = 9 ∧ 1 < c)) (hc : c = 0) (hi : 0 < i) : getF (c :: r) i v p = (0, 0, 3) := by rw [getF, if_neg h, if_neg (by omega), if_pos ⟨hc, hi⟩]
theorem getF_end {c : Nat} (r : List Nat) {i : Nat} (v p : Nat) (h : ¬ (i = 9 ∧ 1 < c)) (hc : c < 128) (hz : ¬ (c = 0 ∧ 0 < i)) : getF (c :: r) i v p = (v + c * 128 ^ i, p + i + 1, 0) := by
  rw [getF, if_neg h, if_neg (by omega), if_neg hz, Nat.mod_eq_of_lt hc]

theorem getF_digs (v : Nat) : ∀ (i acc p : Nat) (rest : List Nat), (0 < i → 0 < v) → i ≤ 9 → v * 128 ^ i < 18446744073709551616 → getF (digs v ++ rest) i acc p = (acc + v * 128 ^ i, p + i + (digs v).length, 0) := by
  induction v using digs_ind with
  | case1 v h =>
    intro i acc p rest h0 hi hv
    rw [digs_small h, List.singleton_append, getF_end rest acc p ?_ h (by omega)]
    · rfl
    · rintro ⟨rfl, h1⟩
      have : (128 : Nat) ^ 9 = 9223372036854775808 := by decide
      rw [this] at hv; omega
  | case2 v h ih =>
    intro i acc p rest h0 hi hv
    have hi9 : i ≠ 9 := by
      rintro rfl
      have : (128 : Nat) ^ 9 = 9223372036854775808 := by decide
      rw [this] at hv; omega
    have e : v / 128 * 128 ^ (i + 1) + v % 128 * 128 ^ i = v * 128 ^ i := by
      rw [Nat.pow_succ]
      have := Nat.div_add_mod v 128
      have e9 : v / 128 * (128 ^ i * 128) + v % 128 * 128 ^ i = (128 * (v / 128) + v % 128) * 128 ^ i := by rw [Nat.add_mul]; congr 1; rw [Nat.mul_comm (128 ^ i), ← Nat.mul_assoc, Nat.mul_comm (v / 128)]
      rw [e9, this]
    rw [digs_big h, List.cons_append, getF_on _ acc p (by omega) (by omega), ih (i + 1) _ p rest (by omega) (by omega) (by omega)]
    have e2 : (v % 128 + 128) % 128 = v % 128 := by omega
    rw [e2]
    simp only [Prod.mk.injEq, and_true, List.length_cons]
    omega
theorem getF_take (v : Nat) : ∀ (i acc p k : Nat), k < (digs v).length → i + k ≤ 9 → getF ((digs v).take k) i acc p = (0, 0, 2) := by
  induction v using digs_ind with
  | case1 v h =>
    intro i acc p k hk _
    rw [digs_small h] at hk ⊢
    obtain rfl : k = 0 := by simpa using hk
    rfl
  | case2 v h ih =>
    intro i acc p k hk hi
    rw [digs_big h] at hk ⊢
    cases k with
    | zero => rfl
    | succ k =>
      rw [List.take_succ_cons, getF_on _ acc p (by omega) (by omega)]
      exact ih _ _ _ _ (by simpa using hk) (by omega)
/-- With its last byte going on, and a byte 0 behind. -/
theorem getF_zero_behind (v : Nat) : ∀ (i acc p : Nat) (pre : List Nat) (x : Nat), digs v = pre ++ [x] → i + pre.length ≤ 9 → getF (pre ++ [x ||| 128, 0]) i acc p = (0, 0, 3) := by
  induction v using digs_ind with
  | case1 v h =>
    intro i acc p pre x hd hi
    rw [digs_small h] at hd
    have : pre = [] := by cases pre with
      | nil => rfl
      | cons a t => simp at hd
    subst this
    obtain rfl : v = x := by simpa using hd
    have hx : v ||| 128 ≥ 128 := Nat.right_le_or
    rw [List.nil_append]
    by_cases h9 : i = 9
    · exact getF_ten _ _ _ h9 (by omega)
    · rw [getF_on _ _ _ (by omega) hx]
      by_cases h8 : i + 1 = 9 ∧ 1 < 0
      · omega
      · exact getF_zero _ _ _ h8 rfl (by omega)
  | case2 v h ih =>
    intro i acc p pre x hd hi
    rw [digs_big h] at hd
    cases pre with
    | nil => simp at hd; exact absurd hd.2 (digs_ne _)
    | cons a t =>
      simp at hd
      obtain ⟨rfl, hd⟩ := hd
      rw [List.cons_append, getF_on _ _ _ (by simp at hi; omega) (by omega)]
      exact ih _ _ _ _ _ hd (by simp at hi; omega)
end Go.Proofs.Ytfbekeebllcdbaa

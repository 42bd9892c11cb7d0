/- The sum of layer 3 by plain mathematics: bit by bit; a sum goes on; turns within 32 bits in a row are told. -/
import Derived.Test.YtojdpemldiigcaaRows
namespace Go.Proofs.Ytojdpemldiigcaa
set_option linter.unusedVariables false
set_option linter.unusedSimpArgs false
set_option maxRecDepth 20000

/-- One bit is shifted out. -/
def stepB (r : Nat) : Nat := if r % 2 = 1 then (r / 2) ^^^ 3988292384 else r / 2
/-- So many bits. -/
def stepN : Nat → Nat → Nat
  | 0, r => r
  | k + 1, r => stepN k (stepB r)
/-- Bytes behind a rest. -/
def crcF : Nat → List Nat → Nat
  | s, [] => s
  | s, c :: l => crcF (stepN 8 (s ^^^ c)) l
/-- The sum with more bytes behind. -/
def more (s : Nat) (ns : List Nat) : Nat := crcF (s ^^^ 4294967295) ns ^^^ 4294967295

theorem xor_lt32 {a b : Nat} (ha : a < 4294967296) (hb : b < 4294967296) : a ^^^ b < 4294967296 := Nat.xor_lt_two_pow (n := 32) ha hb
theorem stepB_odd {r : Nat} (h : r % 2 = 1) : stepB r = (r / 2) ^^^ 3988292384 := by unfold stepB; rw [if_pos h]
theorem stepB_even {r : Nat} (h : r % 2 = 0) : stepB r = r / 2 := by unfold stepB; rw [if_neg (by omega)]
theorem stepB_lt {r : Nat} (h : r < 4294967296) : stepB r < 4294967296 := by
  unfold stepB
  split
  · exact xor_lt32 (by omega) (by decide)
  · omega
theorem stepN_lt (k : Nat) {r : Nat} (h : r < 4294967296) : stepN k r < 4294967296 := by
  induction k generalizing r with
  | zero => exact h
  | succ k ih => exact ih (stepB_lt h)
theorem stepN_add (a b r : Nat) : stepN (a + b) r = stepN b (stepN a r) := by
  induction a generalizing r with
  | zero => simp [stepN]
  | succ a ih => rw [show a + 1 + b = (a + b) + 1 by omega]; simp only [stepN]; exact ih _
theorem stepN_succ (k r : Nat) : stepN (k + 1) r = stepB (stepN k r) := by rw [stepN_add]; rfl
theorem crcF_lt (ns : List Nat) {s : Nat} (h : s < 4294967296) (hb : ∀ n ∈ ns, n < 256) : crcF s ns < 4294967296 := by
  induction ns generalizing s with
  | nil => exact h
  | cons c l ih => exact ih (stepN_lt 8 (xor_lt32 h (by have := hb c (by simp); omega))) (fun n hn => hb n (by simp [hn]))
theorem crcF_append (a b : List Nat) (s : Nat) : crcF s (a ++ b) = crcF (crcF s a) b := by
  induction a generalizing s with
  | nil => rfl
  | cons c l ih => exact ih _
theorem crcF_snoc (a : List Nat) (c s : Nat) : crcF s (a ++ [c]) = stepN 8 (crcF s a ^^^ c) := by rw [crcF_append]; rfl
theorem more_lt (ns : List Nat) {s : Nat} (h : s < 4294967296) (hb : ∀ n ∈ ns, n < 256) : more s ns < 4294967296 :=
  xor_lt32 (crcF_lt ns (xor_lt32 h (by decide)) hb) (by decide)
theorem xor_twice (a b : Nat) : a ^^^ b ^^^ b = a := by rw [Nat.xor_assoc, Nat.xor_self, Nat.xor_zero]
theorem more_append (s : Nat) (a b : List Nat) : more (more s a) b = more s (a ++ b) := by
  unfold more; rw [xor_twice, crcF_append]
theorem more_nil (s : Nat) : more s [] = s := by unfold more; exact xor_twice _ _

theorem xor_inj {a b c : Nat} (h : a ^^^ c = b ^^^ c) : a = b := by rw [← xor_twice a c, h, xor_twice]
theorem bit31 {a b : Nat} (ha : a < 2147483648) (hb : b < 2147483648) (h : a ^^^ 3988292384 = b) : False := by
  have e := congrArg (fun x => Nat.testBit x 31) h
  have h1 : a.testBit 31 = false := Nat.testBit_lt_two_pow (i := 31) ha
  have h2 : b.testBit 31 = false := Nat.testBit_lt_two_pow (i := 31) hb
  have h3 : Nat.testBit 3988292384 31 = true := by decide
  simp only [Nat.testBit_xor, h1, h2, h3] at e
  cases e
theorem stepB_inj {a b : Nat} (ha : a < 4294967296) (hb : b < 4294967296) (h : stepB a = stepB b) : a = b := by
  rcases Nat.mod_two_eq_zero_or_one a with p | p <;> rcases Nat.mod_two_eq_zero_or_one b with q | q
  · rw [stepB_even p, stepB_even q] at h; omega
  · rw [stepB_even p, stepB_odd q] at h; exact (bit31 (by omega) (by omega) h.symm).elim
  · rw [stepB_odd p, stepB_even q] at h; exact (bit31 (by omega) (by omega) h).elim
  · rw [stepB_odd p, stepB_odd q] at h; have := xor_inj h; omega
theorem stepN_inj (k : Nat) {a b : Nat} (ha : a < 4294967296) (hb : b < 4294967296) (h : stepN k a = stepN k b) : a = b := by
  induction k generalizing a b with
  | zero => exact h
  | succ k ih => exact stepB_inj ha hb (ih (stepB_lt ha) (stepB_lt hb) h)
theorem crcF_inj (ns : List Nat) {a b : Nat} (ha : a < 4294967296) (hb : b < 4294967296) (hn : ∀ n ∈ ns, n < 256) (h : crcF a ns = crcF b ns) : a = b := by
  induction ns generalizing a b with
  | nil => exact h
  | cons c l ih =>
    have hc : c < 4294967296 := by have := hn c (by simp); omega
    exact xor_inj (stepN_inj 8 (xor_lt32 ha hc) (xor_lt32 hb hc) (ih (stepN_lt 8 (xor_lt32 ha hc)) (stepN_lt 8 (xor_lt32 hb hc)) (fun n h => hn n (by simp [h])) h))

theorem stepB_shift (x y : Nat) : stepB (x ^^^ 2 * y) = stepB x ^^^ y := by
  have e1 : (x ^^^ 2 * y) % 2 = x % 2 := by
    have := Nat.xor_mod_two_pow (a := x) (b := 2 * y) (n := 1)
    simp only [Nat.pow_one, Nat.mul_mod_right, Nat.xor_zero] at this
    exact this
  have e2 : (x ^^^ 2 * y) / 2 = x / 2 ^^^ y := by
    have := Nat.xor_div_two_pow (a := x) (b := 2 * y) (n := 1)
    simp only [Nat.pow_one] at this
    rw [this, Nat.mul_div_cancel_left _ (by decide)]
  unfold stepB
  rw [e1, e2]
  split
  · rw [Nat.xor_assoc, Nat.xor_comm y, ← Nat.xor_assoc]
  · rfl
theorem stepN_shift (k x y : Nat) : stepN k (x ^^^ 2 ^ k * y) = stepN k x ^^^ y := by
  induction k generalizing x y with
  | zero => simp [stepN]
  | succ k ih =>
    simp only [stepN]
    rw [show 2 ^ (k + 1) * y = 2 * (2 ^ k * y) by rw [Nat.pow_succ, Nat.mul_comm (2 ^ k) 2, Nat.mul_assoc], stepB_shift]
    exact ih _ _

/-- Four bytes as a number, the lowest first. -/
def word (a b c d : Nat) : Nat := a ^^^ 2 ^ 8 * b ^^^ 2 ^ 16 * c ^^^ 2 ^ 24 * d
theorem crcF_four (s a b c d : Nat) : crcF s [a, b, c, d] = stepN 32 (s ^^^ word a b c d) := by
  have e : s ^^^ word a b c d = (((s ^^^ a) ^^^ 2 ^ 8 * b) ^^^ 2 ^ 16 * c) ^^^ 2 ^ 24 * d := by unfold word; simp only [Nat.xor_assoc]
  have h1 : ∀ x, stepN 32 x = stepN 8 (stepN 24 x) := fun x => stepN_add 24 8 x
  have h2 : ∀ x, stepN 24 x = stepN 8 (stepN 16 x) := fun x => stepN_add 16 8 x
  have h3 : ∀ x, stepN 16 x = stepN 8 (stepN 8 x) := fun x => stepN_add 8 8 x
  rw [e, h1, stepN_shift 24, h2, stepN_shift 16, h3, stepN_shift 8]
  rfl
theorem mul_xor (k a b : Nat) : 2 ^ k * (a ^^^ b) = 2 ^ k * a ^^^ 2 ^ k * b := by
  apply Nat.eq_of_testBit_eq
  intro i
  simp only [Nat.testBit_two_pow_mul, Nat.testBit_xor]
  cases decide (i ≥ k) <;> simp
theorem word_xor (a b c d p q r s : Nat) : word (a ^^^ p) (b ^^^ q) (c ^^^ r) (d ^^^ s) = word a b c d ^^^ word p q r s := by
  unfold word
  rw [mul_xor, mul_xor, mul_xor]
  apply Nat.eq_of_testBit_eq
  intro i
  simp only [Nat.testBit_xor]
  cases a.testBit i <;> cases p.testBit i <;> cases (2 ^ 8 * b).testBit i <;> cases (2 ^ 8 * q).testBit i <;> cases (2 ^ 16 * c).testBit i <;> cases (2 ^ 16 * r).testBit i <;> cases (2 ^ 24 * d).testBit i <;> cases (2 ^ 24 * s).testBit i <;> rfl
/-- A number's byte. -/
def byteOf (row i : Nat) : Nat := row / 2 ^ (8 * i) % 256
theorem byteOf_lt (row i : Nat) : byteOf row i < 256 := Nat.mod_lt _ (by decide)
theorem word_bytes (row : Nat) (h : row < 4294967296) : word (byteOf row 0) (byteOf row 1) (byteOf row 2) (byteOf row 3) = row := by
  unfold word byteOf
  apply Nat.eq_of_testBit_eq
  intro i
  rw [show (256 : Nat) = 2 ^ 8 from rfl]
  simp only [Nat.testBit_xor, Nat.testBit_two_pow_mul, Nat.testBit_mod_two_pow, Nat.testBit_div_two_pow]
  by_cases h1 : i < 8
  · simp [h1, show ¬ 8 ≤ i by omega, show ¬ 16 ≤ i by omega, show ¬ 24 ≤ i by omega]
  · by_cases h2 : i < 16
    · simp [h1, show 8 ≤ i by omega, show i - 8 < 8 by omega, show ¬ 16 ≤ i by omega, show ¬ 24 ≤ i by omega, show i - 8 + 8 = i by omega, show 8 + (i - 8) = i by omega]
    · by_cases h3 : i < 24
      · simp [h1, show 8 ≤ i by omega, show ¬ i - 8 < 8 by omega, show 16 ≤ i by omega, show i - 16 < 8 by omega, show ¬ 24 ≤ i by omega, show i - 16 + 16 = i by omega, show 16 + (i - 16) = i by omega]
      · by_cases h4 : i < 32
        · simp [h1, show 8 ≤ i by omega, show ¬ i - 8 < 8 by omega, show 16 ≤ i by omega, show ¬ i - 16 < 8 by omega, show 24 ≤ i by omega, show i - 24 < 8 by omega, show i - 24 + 24 = i by omega, show 24 + (i - 24) = i by omega]
        · have : row.testBit i = false := Nat.testBit_lt_two_pow (Nat.lt_of_lt_of_le h (by rw [show 4294967296 = 2 ^ 32 from by decide]; exact Nat.pow_le_pow_right (by decide) (by omega)))
          simp [this, h1, show 8 ≤ i by omega, show ¬ i - 8 < 8 by omega, show 16 ≤ i by omega, show ¬ i - 16 < 8 by omega, show 24 ≤ i by omega, show ¬ i - 24 < 8 by omega]

/-- Four bytes in a row are turned, of them so many. -/
def turnL (ns : List Nat) (k row : Nat) : Nat → List Nat
  | 0 => ns
  | i + 1 => (turnL ns k row i).set (k + i) ((turnL ns k row i).getD (k + i) 0 ^^^ byteOf row i)
theorem turnL_len (ns : List Nat) (k row i : Nat) : (turnL ns k row i).length = ns.length := by
  induction i with
  | zero => rfl
  | succ i ih => simp only [turnL, List.length_set]; exact ih
theorem turnL_lt (ns : List Nat) (k row i : Nat) (hb : ∀ n ∈ ns, n < 256) : ∀ n ∈ turnL ns k row i, n < 256 := by
  induction i with
  | zero => exact hb
  | succ i ih =>
    intro n hn
    simp only [turnL] at hn
    rcases List.mem_or_eq_of_mem_set hn with h | rfl
    · exact ih n h
    · refine Nat.xor_lt_two_pow (n := 8) ?_ (byteOf_lt row i)
      rw [List.getD_eq_getElem?_getD]
      cases e : (turnL ns k row i)[k + i]? with
      | none => simp
      | some x => exact ih x (List.mem_of_getElem? e)
theorem four_split (ns : List Nat) (k : Nat) (h : k + 4 ≤ ns.length) : ∃ pre a b c d post, ns = pre ++ a :: b :: c :: d :: post ∧ pre.length = k := by
  refine ⟨ns.take k, ns[k], ns[k + 1], ns[k + 2], ns[k + 3], ns.drop (k + 4), ?_, by simp; omega⟩
  rw [← List.drop_eq_getElem_cons (i := k + 3), ← List.drop_eq_getElem_cons (i := k + 2), ← List.drop_eq_getElem_cons (i := k + 1), ← List.drop_eq_getElem_cons (i := k), List.take_append_drop]
theorem turnL_four (pre : List Nat) (a b c d : Nat) (post : List Nat) (row : Nat) :
    turnL (pre ++ a :: b :: c :: d :: post) pre.length row 4 = pre ++ (a ^^^ byteOf row 0) :: (b ^^^ byteOf row 1) :: (c ^^^ byteOf row 2) :: (d ^^^ byteOf row 3) :: post := by
  simp [turnL, List.set_append_right, List.getD_eq_getElem?_getD, List.getElem?_append_right]
theorem turns_told (ns : List Nat) (k row s : Nat) (hs : s < 4294967296) (hb : ∀ n ∈ ns, n < 256) (h : k + 4 ≤ ns.length) (h0 : row ≠ 0) (h1 : row < 4294967296) : more s (turnL ns k row 4) ≠ more s ns := by
  obtain ⟨pre, a, b, c, d, post, rfl, rfl⟩ := four_split ns k h
  rw [turnL_four]
  intro e
  have e' := xor_inj e
  rw [crcF_append, crcF_append] at e'
  have hpre := crcF_lt pre (xor_lt32 hs (by decide : 4294967295 < 4294967296)) (fun n hn => hb n (by simp [hn]))
  have hr : ∀ i, byteOf row i < 256 := byteOf_lt row
  have x8 : ∀ {x y : Nat}, x < 256 → y < 256 → x ^^^ y < 256 := fun hx hy => Nat.xor_lt_two_pow (n := 8) hx hy
  have ha : a < 256 := hb a (by simp)
  have hb' : b < 256 := hb b (by simp)
  have hc : c < 256 := hb c (by simp)
  have hd : d < 256 := hb d (by simp)
  have f4 : ∀ w x y z, crcF (crcF (s ^^^ 4294967295) pre) (w :: x :: y :: z :: post) = crcF (crcF (crcF (s ^^^ 4294967295) pre) [w, x, y, z]) post := fun w x y z => crcF_append [w, x, y, z] post _
  rw [f4, f4] at e'
  have lt4 : ∀ w x y z, w < 256 → x < 256 → y < 256 → z < 256 → word w x y z < 4294967296 := by
    intro w x y z hw hx hy hz
    unfold word
    exact xor_lt32 (xor_lt32 (xor_lt32 (by omega) (by omega)) (by omega)) (by omega)
  have l1 : ∀ w x y z, w < 256 → x < 256 → y < 256 → z < 256 → crcF (crcF (s ^^^ 4294967295) pre) [w, x, y, z] < 4294967296 := fun w x y z hw hx hy hz => crcF_lt _ hpre (by simp; exact ⟨hw, hx, hy, hz⟩)
  have e2 := crcF_inj post (l1 _ _ _ _ (x8 ha (hr 0)) (x8 hb' (hr 1)) (x8 hc (hr 2)) (x8 hd (hr 3))) (l1 _ _ _ _ ha hb' hc hd) (fun n hn => hb n (by simp [hn])) e'
  rw [crcF_four, crcF_four] at e2
  have e3 := stepN_inj 32 (xor_lt32 hpre (lt4 _ _ _ _ (x8 ha (hr 0)) (x8 hb' (hr 1)) (x8 hc (hr 2)) (x8 hd (hr 3)))) (xor_lt32 hpre (lt4 _ _ _ _ ha hb' hc hd)) e2
  rw [word_xor, word_bytes row h1, Nat.xor_comm, Nat.xor_comm _ (word a b c d)] at e3
  have e4 := xor_inj e3
  have e5 : row = 0 := by
    have := congrArg (fun x => word a b c d ^^^ x) e4
    simp only [Nat.xor_self, ← Nat.xor_assoc, Nat.zero_xor] at this
    exact this
  exact h0 e5
end Go.Proofs.Ytojdpemldiigcaa

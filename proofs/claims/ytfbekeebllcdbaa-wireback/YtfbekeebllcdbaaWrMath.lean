/- Fields on the wire, in plain mathematics: which may be, their bytes, and how bytes are read as fields. -/
import Derived.Test.YtfbekeebllcdbaaVnMade
import Derived.Lib.AppendStr
namespace Go.Proofs.Ytfbekeebllcdbaa
open Go.ChangeShapes Go.WideShapes Go.ChangeAt Go.RowKit
set_option linter.unusedVariables false
set_option maxRecDepth 20000

/-- A field on the wire. -/
structure Fd where
  tag : Int
  wire : Int
  n : Int
  b : ByteArray

def Fd.val (r : Fd) : Value := .agg #[.int .i64 r.tag, .int .i64 r.wire, .int .i64 r.n, .string r.b]
def Fd.cells (r : Fd) : List Value := [.int .i64 r.tag, .int .i64 r.wire, .int .i64 r.n, .string r.b]
def fd0 : Fd := ⟨0, 0, 0, ⟨#[]⟩⟩

/-- May it be? -/
def okV (t k n : Int) (b : ByteArray) : Bool := decide (1 ≤ t) && decide (t ≤ 500) && (((k == 0) && b.toList.isEmpty) || ((k == 1) && (n == 0) && decide ((b.size : Int) ≤ 4096)))
def okF (r : Fd) : Bool := okV r.tag r.wire r.n r.b

theorem toList_empty (b : ByteArray) : b.toList.isEmpty = true ↔ b = ⟨#[]⟩ := by
  rw [ByteArray.toList_eq]
  obtain ⟨⟨l⟩⟩ := b
  cases l <;> simp

/-- A number of 64 bits. -/
def Is64 (n : Int) : Prop := -9223372036854775808 ≤ n ∧ n ≤ 9223372036854775807
/-- What a field that may be is. -/
theorem ok_cases {r : Fd} (h : okF r = true) (hn : Is64 r.n) :
    (∃ (t : Nat) (n : Int), r = ⟨t, 0, n, ⟨#[]⟩⟩ ∧ 1 ≤ t ∧ t ≤ 500 ∧ Is64 n) ∨ (∃ (t : Nat) (b : ByteArray), r = ⟨t, 1, 0, b⟩ ∧ 1 ≤ t ∧ t ≤ 500 ∧ b.size ≤ 4096) := by
  obtain ⟨t, k, n, b⟩ := r
  simp only [okF, okV, Bool.and_eq_true, Bool.or_eq_true, decide_eq_true_eq, beq_iff_eq, toList_empty] at h
  obtain ⟨⟨h1, h2⟩, ⟨rfl, rfl⟩ | ⟨⟨rfl, rfl⟩, h5⟩⟩ := h
  · exact .inl ⟨t.toNat, n, by rw [Int.toNat_of_nonneg (by omega)], by omega, by omega, hn⟩
  · exact .inr ⟨t.toNat, b, by rw [Int.toNat_of_nonneg (by omega)], by omega, by omega, by omega⟩

/-- A text's bytes. -/
def bytesN (b : ByteArray) : List Nat := b.data.toList.map UInt8.toNat
theorem bytesN_len (b : ByteArray) : (bytesN b).length = b.size := by
  rw [bytesN, List.length_map, Array.length_toList]
  rfl
theorem bytesN_lt (b : ByteArray) : ∀ n ∈ bytesN b, n < 256 := by
  intro n hn
  simp only [bytesN, List.mem_map] at hn
  obtain ⟨u, _, rfl⟩ := hn
  exact u.toNat_lt
theorem strN_bytesN (b : ByteArray) : strN (bytesN b) = b := by
  apply ByteArray.ext
  apply Array.ext'
  simp only [strN, bytesN, List.map_map]
  conv => rhs; rw [← List.map_id b.data.toList]
  apply List.map_congr_left
  intro u _
  simp
theorem bytesN_strN (ns : List Nat) (h : ∀ n ∈ ns, n < 256) : bytesN (strN ns) = ns := by
  simp only [strN, bytesN, List.map_map]
  conv => rhs; rw [← List.map_id ns]
  apply List.map_congr_left
  intro n hn
  have := h n hn
  simp [UInt8.toNat_ofNat']
  omega
theorem strCells_bytes (b : ByteArray) : Lib.strCells b = byteCells (bytesN b) := by
  simp [Lib.strCells, byteCells, bytesN]

/-- A field's bytes. -/
def fieldN (r : Fd) : List Nat := digs (2 * r.tag + r.wire).toNat ++ if r.wire = 0 then digs (zigN r.n).toNat else digs r.b.size ++ bytesN r.b
theorem fieldN_num (t : Nat) (n : Int) (b : ByteArray) : fieldN ⟨t, 0, n, b⟩ = digs (2 * t) ++ digs (zigN n).toNat := by
  simp only [fieldN, if_pos]; congr 2
theorem fieldN_text (t : Nat) (n : Int) (b : ByteArray) : fieldN ⟨t, 1, n, b⟩ = digs (2 * t + 1) ++ (digs b.size ++ bytesN b) := by
  simp only [fieldN]; rw [if_neg (by decide)]; congr 2
def flatN (rs : List Fd) : List Nat := rs.flatMap fieldN
theorem flatN_app (a b : List Fd) : flatN (a ++ b) = flatN a ++ flatN b := by simp [flatN]
theorem flatN_nil : flatN [] = [] := rfl
theorem flatN_cons (r : Fd) (l : List Fd) : flatN (r :: l) = fieldN r ++ flatN l := by simp [flatN]
theorem fieldN_lt (r : Fd) : ∀ n ∈ fieldN r, n < 256 := by
  intro n hn
  simp only [fieldN, List.mem_append] at hn
  rcases hn with hn | hn
  · exact digs_lt _ _ hn
  · split at hn
    · exact digs_lt _ _ hn
    · rcases List.mem_append.1 hn with hn | hn
      · exact digs_lt _ _ hn
      · exact bytesN_lt _ _ hn
theorem flatN_lt (rs : List Fd) : ∀ n ∈ flatN rs, n < 256 := by
  intro n hn
  simp only [flatN, List.mem_flatMap] at hn
  obtain ⟨r, _, h⟩ := hn
  exact fieldN_lt r n h
theorem fieldN_len {r : Fd} (h : okF r = true) (hn : Is64 r.n) : 2 ≤ (fieldN r).length ∧ (fieldN r).length ≤ 4116 := by
  rcases ok_cases h hn with ⟨t, n, rfl, h1, h2, h3⟩ | ⟨t, b, rfl, h1, h2, h3⟩
  · have hz := zigN_bd n h3.1 h3.2
    have l1 := digs_len64 (2 * t) (by omega)
    have l2 := digs_len64 (zigN n).toNat (by omega)
    rw [fieldN_num, List.length_append]; omega
  · have l1 := digs_len64 (2 * t + 1) (by omega)
    have l2 := digs_len64 b.size (by omega)
    rw [fieldN_text, List.length_append, List.length_append, bytesN_len]; omega

/-- All fields' bytes, and how it ends. -/
def putL (rs : List Fd) : List Nat × Nat := if rs.all okF = true then if (flatN rs).length ≤ 4096 then (flatN rs, 0) else ([], 4) else ([], 1)
theorem putL_bad {rs : List Fd} (h : rs.all okF = false) : putL rs = ([], 1) := by rw [putL, if_neg (by simp [h])]
theorem putL_big {rs : List Fd} (h : rs.all okF = true) (hb : 4096 < (flatN rs).length) : putL rs = ([], 4) := by rw [putL, if_pos h, if_neg (by omega)]
theorem putL_ok {rs : List Fd} (h : rs.all okF = true) (hb : (flatN rs).length ≤ 4096) : putL rs = (flatN rs, 0) := by rw [putL, if_pos h, if_pos hb]

/-- The field that stands at a place. -/
def nextN (ns : List Nat) (p : Nat) : Fd × Nat × Nat :=
  let h := getF (ns.drop p) 0 0 p
  if h.2.2 ≠ 0 then (fd0, 0, h.2.2) else
  if h.1 / 2 = 0 ∨ 500 < h.1 / 2 then (fd0, 0, 7) else
  let v := getF (ns.drop h.2.1) 0 0 h.2.1
  if v.2.2 ≠ 0 then (fd0, 0, v.2.2) else
  if h.1 % 2 = 0 then (⟨(h.1 / 2 : Nat), 0, zagN v.1, ⟨#[]⟩⟩, v.2.1, 0) else
  if ns.length - v.2.1 < v.1 then (fd0, 0, 2) else (⟨(h.1 / 2 : Nat), 1, 0, strN ((ns.drop v.2.1).take v.1)⟩, v.2.1 + v.1, 0)

theorem next_e1 {ns : List Nat} {p h q e : Nat} (g : getF (ns.drop p) 0 0 p = (h, q, e)) (he : e ≠ 0) : nextN ns p = (fd0, 0, e) := by
  simp only [nextN, g]; rw [if_pos he]
theorem next_tag {ns : List Nat} {p h q : Nat} (g : getF (ns.drop p) 0 0 p = (h, q, 0)) (ht : h / 2 = 0 ∨ 500 < h / 2) : nextN ns p = (fd0, 0, 7) := by
  simp only [nextN, g]; rw [if_neg (by simp), if_pos ht]
theorem next_e2 {ns : List Nat} {p h q v q2 e : Nat} (g : getF (ns.drop p) 0 0 p = (h, q, 0)) (ht : ¬ (h / 2 = 0 ∨ 500 < h / 2)) (g2 : getF (ns.drop q) 0 0 q = (v, q2, e)) (he : e ≠ 0) : nextN ns p = (fd0, 0, e) := by
  simp only [nextN, g, g2]; rw [if_neg (by simp), if_neg ht, if_pos he]
theorem next_num {ns : List Nat} {p h q v q2 : Nat} (g : getF (ns.drop p) 0 0 p = (h, q, 0)) (ht : ¬ (h / 2 = 0 ∨ 500 < h / 2)) (g2 : getF (ns.drop q) 0 0 q = (v, q2, 0)) (hw : h % 2 = 0) :
    nextN ns p = (⟨(h / 2 : Nat), 0, zagN v, ⟨#[]⟩⟩, q2, 0) := by
  simp only [nextN, g, g2]; rw [if_neg (by simp), if_neg ht, if_neg (by simp), if_pos hw]
theorem next_short {ns : List Nat} {p h q v q2 : Nat} (g : getF (ns.drop p) 0 0 p = (h, q, 0)) (ht : ¬ (h / 2 = 0 ∨ 500 < h / 2)) (g2 : getF (ns.drop q) 0 0 q = (v, q2, 0)) (hw : h % 2 ≠ 0) (hv : ns.length - q2 < v) :
    nextN ns p = (fd0, 0, 2) := by
  simp only [nextN, g, g2]; rw [if_neg (by simp), if_neg ht, if_neg (by simp), if_neg hw, if_pos hv]
theorem next_text {ns : List Nat} {p h q v q2 : Nat} (g : getF (ns.drop p) 0 0 p = (h, q, 0)) (ht : ¬ (h / 2 = 0 ∨ 500 < h / 2)) (g2 : getF (ns.drop q) 0 0 q = (v, q2, 0)) (hw : h % 2 ≠ 0) (hv : v ≤ ns.length - q2) :
    nextN ns p = (⟨(h / 2 : Nat), 1, 0, strN ((ns.drop q2).take v)⟩, q2 + v, 0) := by
  simp only [nextN, g, g2]; rw [if_neg (by simp), if_neg ht, if_neg (by simp), if_neg hw, if_neg (by omega)]

/-- What is read of a number: where it ends, and that it is one of 64 bits. -/
theorem getF_end_bd : ∀ (l : List Nat) (i v p h q : Nat), getF l i v p = (h, q, 0) → (∀ n ∈ l, n < 256) → i ≤ 9 → v < 128 ^ i → p + i < q ∧ q ≤ p + i + l.length ∧ h < 18446744073709551616
  | [], i, v, p, h, q, hg, _, _, _ => by simp [getF] at hg
  | c :: r, i, v, p, h, q, hg, hb, hi, hv => by
    have hc := hb c (by simp)
    by_cases h9 : i = 9 ∧ 1 < c
    · rw [getF_ten r v p h9.1 h9.2] at hg; simp at hg
    · by_cases h1 : 128 ≤ c
      · rw [getF_on r v p h9 h1] at hg
        have hi8 : i ≤ 8 := by omega
        have hs : v + c % 128 * 128 ^ i < 128 ^ (i + 1) := by
          rw [Nat.pow_succ]
          have := Nat.mul_le_mul_right (128 ^ i) (show c % 128 + 1 ≤ 128 by omega)
          rw [Nat.add_mul] at this
          omega
        have := getF_end_bd r (i + 1) _ p h q hg (fun n hn => hb n (by simp [hn])) (by omega) hs
        simp only [List.length_cons]
        omega
      · by_cases h0 : c = 0 ∧ 0 < i
        · rw [getF_zero r v p h9 h0.1 h0.2] at hg; simp at hg
        · rw [getF_end r v p h9 (by omega) h0] at hg
          simp only [Prod.mk.injEq, and_true] at hg
          obtain ⟨rfl, rfl⟩ := hg
          simp only [List.length_cons]
          refine ⟨by omega, by omega, ?_⟩
          have hp9 : (128 : Nat) ^ 9 = 9223372036854775808 := by decide
          by_cases hi9 : i = 9
          · subst hi9
            have := Nat.mul_le_mul_right (128 ^ 9) (show c ≤ 1 by omega)
            omega
          · have hp8 : 128 ^ i ≤ 128 ^ 8 := Nat.pow_le_pow_right (by decide) (by omega)
            have := Nat.mul_le_mul (show c ≤ 127 by omega) hp8
            have h8 : (127 : Nat) * 128 ^ 8 = 9151314442816847872 := by decide
            have h88 : (128 : Nat) ^ 8 = 72057594037927936 := by decide
            omega
theorem getF_at_bd {ns : List Nat} {p h q : Nat} (hg : getF (ns.drop p) 0 0 p = (h, q, 0)) (hb : ∀ n ∈ ns, n < 256) (hp : p ≤ ns.length) : p < q ∧ q ≤ ns.length ∧ h < 18446744073709551616 := by
  have := getF_end_bd _ 0 0 p h q hg (fun n hn => hb n (List.mem_of_mem_drop hn)) (by omega) (by decide)
  rw [List.length_drop] at this
  omega
theorem getF_err : ∀ (l : List Nat) (i v p : Nat), (getF l i v p).2.2 ≤ 3
  | [], i, v, p => by simp [getF]
  | c :: r, i, v, p => by
    rw [getF]
    split
    · simp
    · split
      · exact getF_err r _ _ _
      · split <;> simp
theorem nextN_bd {ns : List Nat} {p q : Nat} {r : Fd} (hx : nextN ns p = (r, q, 0)) (hb : ∀ n ∈ ns, n < 256) (hp : p ≤ ns.length) : p < q ∧ q ≤ ns.length := by
  obtain ⟨⟨h, q1, e1⟩, g1⟩ : ∃ x, getF (ns.drop p) 0 0 p = x := ⟨_, rfl⟩
  by_cases he1 : e1 = 0
  · subst he1
    by_cases ht : h / 2 = 0 ∨ 500 < h / 2
    · rw [next_tag g1 ht] at hx; simp at hx
    · have b1 := getF_at_bd g1 hb hp
      obtain ⟨⟨v, q2, e2⟩, g2⟩ : ∃ x, getF (ns.drop q1) 0 0 q1 = x := ⟨_, rfl⟩
      by_cases he2 : e2 = 0
      · subst he2
        have b2 := getF_at_bd g2 hb (by omega)
        by_cases hw : h % 2 = 0
        · rw [next_num g1 ht g2 hw] at hx; simp at hx; omega
        · by_cases hv : ns.length - q2 < v
          · rw [next_short g1 ht g2 hw hv] at hx; simp at hx
          · rw [next_text g1 ht g2 hw (by omega)] at hx; simp at hx; omega
      · rw [next_e2 g1 ht g2 he2] at hx; simp at hx; omega
  · rw [next_e1 g1 he1] at hx; simp at hx; omega

/-- The fields from a place on, at most so many, and how it ends. -/
def getAF : Nat → List Nat → Nat → List Fd × Nat
  | 0, ns, p => if p < ns.length then ([], (nextN ns p).2.2) else ([], 0)
  | f + 1, ns, p =>
    if p < ns.length ∧ p < (nextN ns p).2.1 ∧ (nextN ns p).2.2 = 0 then
      let x := getAF f ns (nextN ns p).2.1
      if x.2 = 0 then ((nextN ns p).1 :: x.1, 0) else ([], x.2)
    else if p < ns.length then ([], (nextN ns p).2.2) else ([], 0)
/-- The fields from a place on, and how it ends. -/
def getA (ns : List Nat) (p : Nat) : List Fd × Nat := getAF (ns.length - p) ns p
theorem getAF_fuel (f : Nat) : ∀ (g : Nat) (ns : List Nat) (p : Nat), ns.length - p ≤ f → ns.length - p ≤ g → getAF f ns p = getAF g ns p := by
  induction f with
  | zero =>
    intro g ns p h1 _
    have h : ¬ p < ns.length := by omega
    cases g with
    | zero => rfl
    | succ g => simp only [getAF]; rw [if_neg h, if_neg (fun x => h x.1)]
  | succ f ih =>
    intro g ns p h1 h2
    cases g with
    | zero =>
      have h : ¬ p < ns.length := by omega
      simp only [getAF]; rw [if_neg (fun x => h x.1), if_neg h]
    | succ g =>
      simp only [getAF]
      by_cases h : p < ns.length ∧ p < (nextN ns p).2.1 ∧ (nextN ns p).2.2 = 0
      · rw [if_pos h, if_pos h, ih g ns (nextN ns p).2.1 (by omega) (by omega)]
      · rw [if_neg h, if_neg h]
theorem getA_eq (ns : List Nat) (p : Nat) : getA ns p = if p < ns.length ∧ p < (nextN ns p).2.1 ∧ (nextN ns p).2.2 = 0 then
    let x := getA ns (nextN ns p).2.1
    if x.2 = 0 then ((nextN ns p).1 :: x.1, 0) else ([], x.2)
  else if p < ns.length then ([], (nextN ns p).2.2) else ([], 0) := by
  unfold getA
  cases e : ns.length - p with
  | zero =>
    have h : ¬ p < ns.length := by omega
    simp only [getAF]; rw [if_neg h, if_neg (fun x => h x.1)]
  | succ f =>
    simp only [getAF]
    by_cases h : p < ns.length ∧ p < (nextN ns p).2.1 ∧ (nextN ns p).2.2 = 0
    · rw [if_pos h, if_pos h, getAF_fuel f (ns.length - (nextN ns p).2.1) ns (nextN ns p).2.1 (by omega) (Nat.le_refl _)]
    · rw [if_neg h, if_neg h]
/-- With fields ahead. -/
def joinA (acc : List Fd) (x : List Fd × Nat) : List Fd × Nat := if x.2 = 0 then (acc ++ x.1, 0) else ([], x.2)
theorem getA_end {ns : List Nat} {p : Nat} (h : ns.length ≤ p) : getA ns p = ([], 0) := by
  rw [getA_eq, if_neg (by omega), if_neg (by omega)]
theorem getA_err {ns : List Nat} {p q e : Nat} {r : Fd} (h : p < ns.length) (hx : nextN ns p = (r, q, e)) (he : e ≠ 0) : getA ns p = ([], e) := by
  rw [getA_eq, if_neg (by rw [hx]; simp; omega), if_pos h, hx]
theorem getA_on {ns : List Nat} {p q : Nat} {r : Fd} (h : p < ns.length) (hx : nextN ns p = (r, q, 0)) (hb : ∀ n ∈ ns, n < 256) : getA ns p = joinA [r] (getA ns q) := by
  have := (nextN_bd hx hb (by omega)).1
  rw [getA_eq, if_pos (by rw [hx]; exact ⟨h, this, rfl⟩), hx]
  simp only [joinA, List.singleton_append]
theorem joinA_join (a b : List Fd) (x : List Fd × Nat) : joinA a (joinA b x) = joinA (a ++ b) x := by
  unfold joinA
  by_cases h : x.2 = 0
  · simp [h]
  · simp [h]
theorem joinA_nil (x : List Fd × Nat) (h : x.2 ≠ 0 → x.1 = []) : joinA [] x = x := by
  unfold joinA
  split <;> rename_i h2
  · rw [List.nil_append]; exact Prod.ext rfl h2.symm
  · exact Prod.ext (h h2).symm rfl
theorem getA_nil (ns : List Nat) (p : Nat) : (getA ns p).2 ≠ 0 → (getA ns p).1 = [] := by
  rw [getA_eq]
  split
  · dsimp only
    split
    · intro h; exact absurd rfl h
    · intro _; rfl
  · split <;> intro _ <;> rfl
theorem getA_len {ns : List Nat} (hb : ∀ n ∈ ns, n < 256) : ∀ k p, ns.length - p ≤ k → (getA ns p).1.length ≤ ns.length - p
  | 0, p, h => by rw [getA_end (by omega)]; simp
  | k + 1, p, h => by
    by_cases hp : p < ns.length
    · obtain ⟨⟨r, q, e⟩, hx⟩ : ∃ x, nextN ns p = x := ⟨_, rfl⟩
      by_cases he : e = 0
      · subst he
        have hq := nextN_bd hx hb (by omega)
        have ih := getA_len hb k q (by omega)
        rw [getA_on hp hx hb, joinA]
        split
        · simp; omega
        · simp
      · rw [getA_err hp hx he]; simp
    · rw [getA_end (by omega)]; simp
/-- All fields that bytes are. -/
def getL (ns : List Nat) : List Fd × Nat := if 4096 < ns.length then ([], 4) else getA ns 0
theorem getL_len {ns : List Nat} (hb : ∀ n ∈ ns, n < 256) : (getL ns).1.length ≤ 4096 := by
  rw [getL]
  split
  · simp
  · have := getA_len hb ns.length 0 (by omega); omega
end Go.Proofs.Ytfbekeebllcdbaa

/- What is put is got; what is got is put as it was; what is cut is short: plain mathematics. -/
import Derived.Test.YtfbekeebllcdbabWrMath
namespace Go.Proofs.Ytfbekeebllcdbab
open Go.ChangeShapes Go.WideShapes Go.ChangeAt Go.RowKit
set_option linter.unusedVariables false
set_option linter.unusedSimpArgs false
set_option maxRecDepth 20000

theorem getF_put0 (v p : Nat) (rest : List Nat) (hv : v < 18446744073709551616) : getF (digs v ++ rest) 0 0 p = (v, p + (digs v).length, 0) := by
  rw [getF_digs v 0 0 p rest (by omega) (by omega) (by omega)]
  simp
theorem drop_pre (pre l : List Nat) : (pre ++ l).drop pre.length = l := List.drop_left
theorem drop_pre2 (pre l m : List Nat) (q : Nat) (hq : q = pre.length + l.length) : (pre ++ (l ++ m)).drop q = m := by
  rw [← List.append_assoc, hq, ← List.length_append]
  exact List.drop_left

theorem next_put {r : Fd} (h : okF r = true) (hn : Is64 r.n) (pre rest : List Nat) : nextN (pre ++ (fieldN r ++ rest)) pre.length = (r, pre.length + (fieldN r).length, 0) := by
  rcases ok_cases h hn with ⟨t, n, rfl, h1, h2, h3⟩ | ⟨t, b, rfl, h1, h2, h3⟩
  · have hz := zigN_bd n h3.1 h3.2
    have hzz : ((zigN n).toNat : Int) = zigN n := Int.toNat_of_nonneg hz.1
    rw [fieldN_num]
    have g1 : getF ((pre ++ (digs (2 * t) ++ digs (zigN n).toNat ++ rest)).drop pre.length) 0 0 pre.length = (2 * t, pre.length + (digs (2 * t)).length, 0) := by
      rw [drop_pre, List.append_assoc]; exact getF_put0 _ _ _ (by omega)
    have g2 : getF ((pre ++ (digs (2 * t) ++ digs (zigN n).toNat ++ rest)).drop (pre.length + (digs (2 * t)).length)) 0 0 (pre.length + (digs (2 * t)).length) = ((zigN n).toNat, pre.length + (digs (2 * t)).length + (digs (zigN n).toNat).length, 0) := by
      rw [List.append_assoc, drop_pre2 pre _ _ _ rfl]; exact getF_put0 _ _ _ (by omega)
    rw [next_num g1 (by omega) g2 (by omega), hzz, zag_zig, show 2 * t / 2 = t by omega, List.length_append, Nat.add_assoc]
  · rw [fieldN_text]
    have g1 : getF ((pre ++ (digs (2 * t + 1) ++ (digs b.size ++ bytesN b) ++ rest)).drop pre.length) 0 0 pre.length = (2 * t + 1, pre.length + (digs (2 * t + 1)).length, 0) := by
      rw [drop_pre, List.append_assoc]; exact getF_put0 _ _ _ (by omega)
    have g2 : getF ((pre ++ (digs (2 * t + 1) ++ (digs b.size ++ bytesN b) ++ rest)).drop (pre.length + (digs (2 * t + 1)).length)) 0 0 (pre.length + (digs (2 * t + 1)).length) = (b.size, pre.length + (digs (2 * t + 1)).length + (digs b.size).length, 0) := by
      rw [List.append_assoc, drop_pre2 pre _ _ _ rfl, List.append_assoc]; exact getF_put0 _ _ _ (by omega)
    have hd : (pre ++ (digs (2 * t + 1) ++ (digs b.size ++ bytesN b) ++ rest)).drop (pre.length + (digs (2 * t + 1)).length + (digs b.size).length) = bytesN b ++ rest := by
      have e : pre ++ (digs (2 * t + 1) ++ (digs b.size ++ bytesN b) ++ rest) = (pre ++ digs (2 * t + 1)) ++ (digs b.size ++ (bytesN b ++ rest)) := by simp
      rw [e, drop_pre2 _ _ _ _ (by rw [List.length_append])]
    rw [next_text g1 (by omega) g2 (by omega) (by simp [bytesN_len]; omega), hd]
    have ht : (bytesN b ++ rest).take b.size = bytesN b := by rw [← bytesN_len b]; exact List.take_left
    rw [ht, strN_bytesN, show (2 * t + 1) / 2 = t by omega, List.length_append, List.length_append, bytesN_len]
    simp only [Prod.mk.injEq, true_and, and_true]
    omega

/-- Over whole fields. -/
theorem getA_skip : ∀ (rs : List Fd) (pre tail : List Nat), (∀ r ∈ rs, okF r = true) → (∀ r ∈ rs, Is64 r.n) → (∀ n ∈ pre ++ (flatN rs ++ tail), n < 256) →
    getA (pre ++ (flatN rs ++ tail)) pre.length = joinA rs (getA (pre ++ (flatN rs ++ tail)) (pre.length + (flatN rs).length))
  | [], pre, tail, _, _, hb => by
    rw [flatN_nil, List.length_nil, Nat.add_zero, joinA_nil _ (getA_nil _ _)]
  | r :: rs, pre, tail, ho, hn, hb => by
    have hr := ho r (by simp)
    have hr64 := hn r (by simp)
    have hl := (fieldN_len hr hr64).1
    have e : pre ++ (flatN (r :: rs) ++ tail) = pre ++ (fieldN r ++ (flatN rs ++ tail)) := by rw [flatN_cons, List.append_assoc]
    have e2 : pre ++ (fieldN r ++ (flatN rs ++ tail)) = (pre ++ fieldN r) ++ (flatN rs ++ tail) := by rw [List.append_assoc]
    have hx := next_put hr hr64 pre (flatN rs ++ tail)
    rw [e] at hb ⊢
    rw [getA_on (by simp; omega) hx hb]
    have ih := getA_skip rs (pre ++ fieldN r) tail (fun x hx => ho x (by simp [hx])) (fun x hx => hn x (by simp [hx])) (by rw [← e2]; exact hb)
    rw [← e2, List.length_append] at ih
    rw [ih, joinA_join, List.singleton_append, flatN_cons, List.length_append, Nat.add_assoc]
theorem getL_put {rs : List Fd} (ho : rs.all okF = true) (hn : ∀ r ∈ rs, Is64 r.n) (hl : (flatN rs).length ≤ 4096) : getL (flatN rs) = (rs, 0) := by
  have := getA_skip rs [] [] (List.all_eq_true.1 ho) hn (by simpa using flatN_lt rs)
  simp only [List.nil_append, List.append_nil, List.length_nil, Nat.zero_add] at this
  rw [getL, if_neg (by omega), this, getA_end (Nat.le_refl _), joinA, if_pos rfl, List.append_nil]

/-- A field that is cut. -/
theorem next_cut {r : Fd} (h : okF r = true) (hn : Is64 r.n) (pre : List Nat) (m : Nat) (hm : m < (fieldN r).length) : nextN (pre ++ (fieldN r).take m) pre.length = (fd0, 0, 2) := by
  rcases ok_cases h hn with ⟨t, n, rfl, h1, h2, h3⟩ | ⟨t, b, rfl, h1, h2, h3⟩
  · have hz := zigN_bd n h3.1 h3.2
    have l1 := digs_len64 (2 * t) (by omega)
    have l2 := digs_len64 (zigN n).toNat (by omega)
    rw [fieldN_num] at hm ⊢
    rw [List.length_append] at hm
    by_cases hc : m < (digs (2 * t)).length
    · refine next_e1 (h := 0) (q := 0) (e := 2) ?_ (by decide)
      rw [drop_pre, List.take_append_of_le_length (by omega)]
      exact getF_take _ _ _ _ _ hc (by omega)
    · have et : (digs (2 * t) ++ digs (zigN n).toNat).take m = digs (2 * t) ++ (digs (zigN n).toNat).take (m - (digs (2 * t)).length) := by
        rw [List.take_append, List.take_of_length_le (by omega)]
      rw [et]
      refine next_e2 (h := 2 * t) (q := pre.length + (digs (2 * t)).length) (v := 0) (q2 := 0) (e := 2) ?_ (by omega) ?_ (by decide)
      · rw [drop_pre]; exact getF_put0 _ _ _ (by omega)
      · rw [drop_pre2 pre _ _ _ rfl]
        exact getF_take _ _ _ _ _ (by omega) (by omega)
  · have l1 := digs_len64 (2 * t + 1) (by omega)
    have l2 := digs_len64 b.size (by omega)
    rw [fieldN_text] at hm ⊢
    rw [List.length_append, List.length_append, bytesN_len] at hm
    by_cases hc : m < (digs (2 * t + 1)).length
    · refine next_e1 (h := 0) (q := 0) (e := 2) ?_ (by decide)
      rw [drop_pre, List.take_append_of_le_length (by omega)]
      exact getF_take _ _ _ _ _ hc (by omega)
    · have et : (digs (2 * t + 1) ++ (digs b.size ++ bytesN b)).take m = digs (2 * t + 1) ++ (digs b.size ++ bytesN b).take (m - (digs (2 * t + 1)).length) := by
        rw [List.take_append, List.take_of_length_le (by omega)]
      rw [et]
      obtain ⟨j, hj⟩ : ∃ j, m - (digs (2 * t + 1)).length = j := ⟨_, rfl⟩
      rw [hj]
      have g1 : ∀ l, getF ((pre ++ (digs (2 * t + 1) ++ l)).drop pre.length) 0 0 pre.length = (2 * t + 1, pre.length + (digs (2 * t + 1)).length, 0) := fun l => by
        rw [drop_pre]; exact getF_put0 _ _ _ (by omega)
      by_cases hc2 : j < (digs b.size).length
      · refine next_e2 (h := 2 * t + 1) (q := pre.length + (digs (2 * t + 1)).length) (v := 0) (q2 := 0) (e := 2) (g1 _) (by omega) ?_ (by decide)
        rw [drop_pre2 pre _ _ _ rfl, List.take_append_of_le_length (by omega)]
        exact getF_take _ _ _ _ _ hc2 (by omega)
      · have et2 : (digs b.size ++ bytesN b).take j = digs b.size ++ (bytesN b).take (j - (digs b.size).length) := by
          rw [List.take_append, List.take_of_length_le (by omega)]
        rw [et2]
        refine next_short (h := 2 * t + 1) (q := pre.length + (digs (2 * t + 1)).length) (v := b.size) (q2 := pre.length + (digs (2 * t + 1)).length + (digs b.size).length) (g1 _) (by omega) ?_ (by omega) ?_
        · rw [drop_pre2 pre _ _ _ rfl]; exact getF_put0 _ _ _ (by omega)
        · simp only [List.length_append, List.length_take, bytesN_len]; omega
/-- Fields that are cut: between two. -/
theorem take_flat (rs : List Fd) (n : Nat) : (flatN rs).take (flatN (rs.take n)).length = flatN (rs.take n) := by
  conv => lhs; rw [← List.take_append_drop n rs, flatN_app]
  rw [List.take_append_drop]
  exact List.take_left
theorem getL_cut {rs : List Fd} (ho : rs.all okF = true) (hn : ∀ r ∈ rs, Is64 r.n) (hl : (flatN rs).length ≤ 4096) (n : Nat) : getL ((flatN rs).take (flatN (rs.take n)).length) = (rs.take n, 0) := by
  rw [take_flat]
  refine getL_put ?_ (fun r hr => hn r (List.mem_of_mem_take hr)) ?_
  · rw [List.all_eq_true] at ho ⊢
    exact fun r hr => ho r (List.mem_of_mem_take hr)
  · have : (flatN (rs.take n)).length ≤ (flatN rs).length := by
      conv => rhs; rw [← List.take_append_drop n rs, flatN_app, List.length_append]
      omega
    omega
/-- .. within one. -/
theorem getL_within {rs : List Fd} (ho : rs.all okF = true) (hn : ∀ r ∈ rs, Is64 r.n) (hl : (flatN rs).length ≤ 4096) (n k : Nat) (r : Fd) (hr : rs[n]? = some r) (h1 : (flatN (rs.take n)).length < k) (h2 : k < (flatN (rs.take n)).length + (fieldN r).length) :
    getL ((flatN rs).take k) = ([], 2) := by
  have hmem := List.mem_of_getElem? hr
  have hok := List.all_eq_true.1 ho r hmem
  have hr64 := hn r hmem
  have hsplit : rs = rs.take n ++ (r :: rs.drop (n + 1)) := by
    have hlt := (List.getElem?_eq_some_iff.1 hr).1
    have hrr := (List.getElem?_eq_some_iff.1 hr).2
    rw [← hrr, ← List.drop_eq_getElem_cons hlt, List.take_append_drop]
  have ef : (flatN rs).take k = flatN (rs.take n) ++ (fieldN r).take (k - (flatN (rs.take n)).length) := by
    conv => lhs; rw [hsplit, flatN_app, flatN_cons]
    rw [List.take_append, List.take_of_length_le (by omega), List.take_append_of_le_length (by omega)]
  have hlen : ((flatN rs).take k).length ≤ 4096 := by rw [List.length_take]; omega
  rw [getL, if_neg (by omega), ef]
  have hsk := getA_skip (rs.take n) [] ((fieldN r).take (k - (flatN (rs.take n)).length)) (fun x hx => List.all_eq_true.1 ho x (List.mem_of_mem_take hx)) (fun x hx => hn x (List.mem_of_mem_take hx))
    (by
      intro x hx
      rw [List.nil_append, List.mem_append] at hx
      rcases hx with hx | hx
      · exact flatN_lt _ _ hx
      · exact fieldN_lt _ _ (List.mem_of_mem_take hx))
  simp only [List.nil_append, List.length_nil, Nat.zero_add] at hsk
  have hcut := next_cut hok hr64 (flatN (rs.take n)) (k - (flatN (rs.take n)).length) (by omega)
  rw [hsk, getA_err (by rw [List.length_append, List.length_take]; omega) hcut (by decide), joinA, if_neg (by decide)]

/-- What is read of a number is that number's bytes. -/
theorem getF_inv : ∀ (l : List Nat) (i acc p v q : Nat), getF l i acc p = (v, q, 0) → (∀ n ∈ l, n < 256) → ∃ u rest, l = digs u ++ rest ∧ v = acc + u * 128 ^ i ∧ q = p + i + (digs u).length ∧ (0 < i → 0 < u)
  | [], i, acc, p, v, q, hg, _ => by simp [getF] at hg
  | c :: r, i, acc, p, v, q, hg, hb => by
    have hc := hb c (by simp)
    by_cases h9 : i = 9 ∧ 1 < c
    · rw [getF_ten r acc p h9.1 h9.2] at hg; simp at hg
    · by_cases h1 : 128 ≤ c
      · rw [getF_on r acc p h9 h1] at hg
        obtain ⟨u, rest, rfl, rfl, rfl, hu⟩ := getF_inv r (i + 1) _ p v q hg (fun n hn => hb n (by simp [hn]))
        have hu0 := hu (by omega)
        refine ⟨c % 128 + 128 * u, rest, ?_, ?_, ?_, fun _ => by omega⟩
        · rw [digs_big (v := c % 128 + 128 * u) (by omega), show (c % 128 + 128 * u) % 128 + 128 = c by omega, show (c % 128 + 128 * u) / 128 = u by omega]
          rfl
        · rw [Nat.pow_succ, Nat.add_mul, Nat.add_assoc]
          congr 2
          rw [Nat.mul_comm 128 u, Nat.mul_assoc, Nat.mul_comm 128]
        · rw [digs_big (v := c % 128 + 128 * u) (by omega), show (c % 128 + 128 * u) / 128 = u by omega, List.length_cons]
          omega
      · by_cases h0 : c = 0 ∧ 0 < i
        · rw [getF_zero r acc p h9 h0.1 h0.2] at hg; simp at hg
        · rw [getF_end r acc p h9 (by omega) h0] at hg
          simp only [Prod.mk.injEq, and_true] at hg
          obtain ⟨rfl, rfl⟩ := hg
          refine ⟨c, r, ?_, rfl, ?_, fun hi => by omega⟩
          · rw [digs_small (by omega)]; rfl
          · rw [digs_small (by omega)]; simp
theorem getF_at_inv {ns : List Nat} {p v q : Nat} (hg : getF (ns.drop p) 0 0 p = (v, q, 0)) (hb : ∀ n ∈ ns, n < 256) : ns.drop p = digs v ++ ns.drop q ∧ q = p + (digs v).length := by
  obtain ⟨u, rest, hl, hv, hq, -⟩ := getF_inv _ 0 0 p v q hg (fun n hn => hb n (List.mem_of_mem_drop hn))
  simp only [Nat.pow_zero, Nat.mul_one, Nat.zero_add, Nat.add_zero] at hv hq
  subst hv
  have hd : ns.drop q = rest := by
    rw [hq, ← List.drop_drop, hl]
    exact List.drop_left
  rw [hd]
  exact ⟨hl, hq⟩
theorem next_inv {ns : List Nat} {p q : Nat} {r : Fd} (hx : nextN ns p = (r, q, 0)) (hb : ∀ n ∈ ns, n < 256) (hp : p ≤ ns.length) (hl : ns.length ≤ 4096) : okF r = true ∧ Is64 r.n ∧ ns.drop p = fieldN r ++ ns.drop q := by
  obtain ⟨⟨h, q1, e1⟩, g1⟩ : ∃ x, getF (ns.drop p) 0 0 p = x := ⟨_, rfl⟩
  by_cases he1 : e1 = 0
  · subst he1
    by_cases ht : h / 2 = 0 ∨ 500 < h / 2
    · rw [next_tag g1 ht] at hx; simp at hx
    · have b1 := getF_at_bd g1 hb hp
      have i1 := getF_at_inv g1 hb
      obtain ⟨⟨v, q2, e2⟩, g2⟩ : ∃ x, getF (ns.drop q1) 0 0 q1 = x := ⟨_, rfl⟩
      by_cases he2 : e2 = 0
      · subst he2
        have b2 := getF_at_bd g2 hb (by omega)
        have i2 := getF_at_inv g2 hb
        by_cases hw : h % 2 = 0
        · rw [next_num g1 ht g2 hw] at hx
          simp only [Prod.mk.injEq, and_true] at hx
          obtain ⟨rfl, rfl⟩ := hx
          have hz := zagN_bd v (by omega) (by omega)
          refine ⟨?_, hz, ?_⟩
          · unfold okF okV
            rw [(toList_empty _).2 rfl]
            simp
            omega
          · rw [fieldN_num, zig_zag v (by omega), show 2 * (h / 2) = h by omega, Int.toNat_natCast, i1.1, i2.1, List.append_assoc]
        · by_cases hv : ns.length - q2 < v
          · rw [next_short g1 ht g2 hw hv] at hx; simp at hx
          · rw [next_text g1 ht g2 hw (by omega)] at hx
            simp only [Prod.mk.injEq, and_true] at hx
            obtain ⟨rfl, rfl⟩ := hx
            have hlen : ((ns.drop q2).take v).length = v := by simp; omega
            have hsz : (strN ((ns.drop q2).take v)).size = v := by rw [strN_size, hlen]
            refine ⟨?_, by unfold Is64; simp, ?_⟩
            · unfold okF okV
              simp [hsz]
              omega
            · rw [fieldN_text, hsz, bytesN_strN _ (fun n hn => hb n (List.mem_of_mem_drop (List.mem_of_mem_take hn))), show 2 * (h / 2) + 1 = h by omega, i1.1, i2.1]
              simp only [List.append_assoc]
              rw [← List.drop_drop, List.take_append_drop]
      · rw [next_e2 g1 ht g2 he2] at hx; simp at hx; omega
  · rw [next_e1 g1 he1] at hx; simp at hx; omega
theorem getA_inv {ns : List Nat} (hb : ∀ n ∈ ns, n < 256) (hl : ns.length ≤ 4096) : ∀ k p rs, ns.length - p ≤ k → p ≤ ns.length → getA ns p = (rs, 0) → (∀ r ∈ rs, okF r = true ∧ Is64 r.n) ∧ flatN rs = ns.drop p
  | 0, p, rs, hk, hp, h => by
    rw [getA_end (by omega)] at h
    obtain rfl : [] = rs := (Prod.mk.inj h).1
    exact ⟨by simp, by rw [List.drop_of_length_le (by omega), flatN_nil]⟩
  | k + 1, p, rs, hk, hp, h => by
    by_cases hlt : p < ns.length
    · obtain ⟨⟨r, q, e⟩, hx⟩ : ∃ x, nextN ns p = x := ⟨_, rfl⟩
      by_cases he : e = 0
      · subst he
        have hq := nextN_bd hx hb hp
        have hi := next_inv hx hb hp hl
        rw [getA_on hlt hx hb, joinA] at h
        split at h <;> rename_i h2
        · obtain rfl : [r] ++ (getA ns q).1 = rs := (Prod.mk.inj h).1
          have ih := getA_inv hb hl k q (getA ns q).1 (by omega) hq.2 (Prod.ext rfl h2)
          refine ⟨?_, ?_⟩
          · intro x hx
            rcases List.mem_append.1 hx with hx | hx
            · obtain rfl : x = r := by simpa using hx
              exact ⟨hi.1, hi.2.1⟩
            · exact ih.1 x hx
          · rw [flatN_app, flatN_cons, flatN_nil, List.append_nil, ih.2, hi.2.2]
        · exact absurd (Prod.mk.inj h).2 h2
      · rw [getA_err hlt hx he] at h
        exact absurd (Prod.mk.inj h).2 he
    · rw [getA_end (by omega)] at h
      obtain rfl : [] = rs := (Prod.mk.inj h).1
      exact ⟨by simp, by rw [List.drop_of_length_le (by omega), flatN_nil]⟩
theorem putL_get {ns : List Nat} (hb : ∀ n ∈ ns, n < 256) {rs : List Fd} (h : getL ns = (rs, 0)) : putL rs = (ns, 0) ∧ (∀ r ∈ rs, Is64 r.n) := by
  rw [getL] at h
  split at h
  · simp at h
  · rename_i hl
    have hi := getA_inv hb (by omega) ns.length 0 rs (by omega) (by omega) h
    rw [List.drop_zero] at hi
    refine ⟨?_, fun r hr => (hi.1 r hr).2⟩
    rw [putL_ok (List.all_eq_true.2 fun r hr => (hi.1 r hr).1) (by rw [hi.2]; omega), hi.2]
end Go.Proofs.Ytfbekeebllcdbab

/- A tree that differs in its first level is another one, and that is told at once. -/
import Derived.Test.YtgedelgdjcnogabVsMod
import Derived.Laws.Bits64
namespace Go.Proofs.Ytgedelgdjcnogab
open Go.ChangeShapes Go.WideShapes Go.ChangeAt Go.RowKit
set_option linter.unusedVariables false
set_option linter.unusedSimpArgs false
set_option maxRecDepth 20000

theorem xor_one (x : Int) (hx : Is64 x) : Is64 (bits .xor .i64 x 1) ∧ bits .xor .i64 x 1 ≠ x := by
  have h1 : bits .xor .i64 x 1 = IntKind.i64.wrap ((BitVec.ofInt 64 x ^^^ BitVec.ofInt 64 1).toNat : Int) := rfl
  have h2 : (BitVec.ofInt 64 x ^^^ BitVec.ofInt 64 1).toNat = (x % 18446744073709551616).toNat ^^^ 1 := by
    rw [BitVec.toNat_xor, BitVec.toNat_ofInt]
    rfl
  have h3 : ((x % 18446744073709551616).toNat ^^^ 1) < 2 ^ 64 := Nat.xor_lt_two_pow (by omega) (by omega)
  have h4 : ((x % 18446744073709551616).toNat ^^^ 1) ≠ (x % 18446744073709551616).toNat := fun h => by
    have h5 : (x % 18446744073709551616).toNat ^^^ ((x % 18446744073709551616).toNat ^^^ 1) = (x % 18446744073709551616).toNat ^^^ (x % 18446744073709551616).toNat := congrArg _ h
    rw [← Nat.xor_assoc, Nat.xor_self, Nat.zero_xor] at h5
    omega
  rw [h1, h2, IntKind.wrap_i64]
  obtain ⟨N, hN⟩ : ∃ N, ((x % 18446744073709551616).toNat ^^^ 1) = N := ⟨_, rfl⟩
  rw [hN] at h3 h4 ⊢
  unfold Is64 at *
  constructor
  · omega
  · omega
theorem okc_no {ea eb : Ens} {i : Nat} {e f : Int × List Tr} (h1 : ea[i]? = some e) (h2 : eb[i]? = some f) (h : ¬ EntA e f) : ¬ OkC ea eb := fun ho => h (ho i e f h1 h2)
theorem set_at {es : Ens} {i : Nat} {e f : Int × List Tr} (h : es[i]? = some e) : (es.set i f)[i]? = some f := by
  rw [List.getElem?_set, if_pos rfl, if_pos (List.getElem?_eq_some_iff.1 h).1]
theorem not_tag {e : Int × List Tr} {z : Int} (h : z ≠ e.1) : ¬ EntA e (z, e.2) ∧ ¬ EntA (z, e.2) e := ⟨fun k => h k.1.symm, fun k => h k.1⟩
theorem not_more {e : Int × List Tr} (x : Tr) : ¬ EntA e (e.1, e.2 ++ [x]) ∧ ¬ EntA (e.1, e.2 ++ [x]) e := ⟨fun k => by have := k.2.1; simp at this, fun k => by have := k.2.1; simp at this⟩
theorem not_n {e : Int × List Tr} {x : Tr} {z : Int} (h0 : e.2[0]? = some x) (h : z ≠ x.n) : ¬ EntA e (e.1, e.2.set 0 { x with n := z }) ∧ ¬ EntA (e.1, e.2.set 0 { x with n := z }) e := by
  have hs : (e.2.set 0 ({ x with n := z } : Tr))[0]? = some { x with n := z } := by rw [List.getElem?_set, if_pos rfl, if_pos (List.getElem?_eq_some_iff.1 h0).1]
  exact ⟨fun k => h (k.2.2 0 _ _ h0 hs).2.1.symm, fun k => h (k.2.2 0 _ _ hs h0).2.1⟩
theorem sum_set (f : Tr → Nat) : ∀ (es : Ens) (i : Nat) (e e' : Int × List Tr), es[i]? = some e → ((subs (es.set i e')).map f).sum + (e.2.map f).sum = ((subs es).map f).sum + (e'.2.map f).sum
  | [], i, e, e', h => by simp at h
  | x :: l, 0, e, e', h => by
    obtain rfl : x = e := by simpa using h
    simp only [List.set_cons_zero, subs, List.flatMap_cons, List.map_append, List.sum_append]
    omega
  | x :: l, i + 1, e, e', h => by
    have := sum_set f l i e e' (by simpa using h)
    simp only [List.set_cons_succ, subs, List.flatMap_cons, List.map_append, List.sum_append] at this ⊢
    omega
theorem wt_tag {d i : Nat} {es : Ens} {e : Int × List Tr} (h : es[i]? = some e) (z : Int) : wtE d (es.set i (z, e.2)) = wtE d es := by
  have := sum_set (cntN d) es i e (z, e.2) h
  unfold wtE
  simp only at this
  omega
theorem wt_more {d i : Nat} {es : Ens} {e : Int × List Tr} (h : es[i]? = some e) {x : Tr} (hx : cntN d x ≤ 1) : wtE d (es.set i (e.1, e.2 ++ [x])) ≤ wtE d es + 1 := by
  have := sum_set (cntN d) es i e (e.1, e.2 ++ [x]) h
  unfold wtE
  simp only [List.map_append, List.sum_append, List.map_cons, List.map_nil, List.sum_cons, List.sum_nil] at this
  omega
theorem cnt_n (d : Nat) (x : Tr) (z : Int) : cntN d { x with n := z } = cntN d x := by
  cases d with
  | zero => rfl
  | succ d => rfl
theorem wt_n {d i : Nat} {es : Ens} {e : Int × List Tr} (h : es[i]? = some e) {x : Tr} (h0 : e.2[0]? = some x) (z : Int) : wtE d (es.set i (e.1, e.2.set 0 { x with n := z })) = wtE d es := by
  have := sum_set (cntN d) es i e (e.1, e.2.set 0 { x with n := z }) h
  have h2 : ((e.2.set 0 ({ x with n := z } : Tr)).map (cntN d)).sum = (e.2.map (cntN d)).sum := by
    cases hl : e.2 with
    | nil => rw [hl] at h0; simp at h0
    | cons y l =>
      rw [hl] at h0
      obtain rfl : y = x := by simpa using h0
      simp only [List.set_cons_zero, List.map_cons, cnt_n]
  unfold wtE
  simp only at this
  omega
theorem HeadF.below {d : Nat} {w W : World} {v : Value} {es : Ens} (h : HeadF w v) (hE : EnsIn d w v es) (hb : Below w.heap.size w W) : HeadF W v := fun g off n c e hn => by
  subst e
  obtain ⟨a, cap, e1, _⟩ := RowP.open hE
  simp only [Value.slice.injEq] at e1
  obtain ⟨rfl, rfl, rfl⟩ := e1
  obtain ⟨x, hx⟩ : ∃ x, es[0]? = some x := ⟨_, List.getElem?_eq_getElem (by omega)⟩
  obtain ⟨g', off', a', n', c', e2, _, h3, _⟩ := cellE_of hE hx
  have hl := World.block_lt_of_cell? _ _ h3
  simp only [Value.slice.injEq, Option.some.injEq, Addr.mk.injEq, and_true] at e2
  obtain ⟨⟨rfl, rfl⟩, -⟩ := e2
  have := h g off _ _ rfl hn
  rw [← this]
  simp only at hl
  simp only [World.frozen?, hb.block g hl]
theorem EnsF.below : ∀ {m d : Nat} {w W : World} {v : Value} {es : Ens}, EnsF m w v → EnsIn d w v es → Below w.heap.size w W → EnsF m W v
  | 0, d, w, W, v, es, h, hE, hb => HeadF.below h hE hb
  | m + 1, d, w, W, v, es, h, hE, hb => by
    refine ⟨HeadF.below h.1 hE hb, fun i k hi hk => ?_⟩
    obtain ⟨a, cap, e1, _⟩ := RowP.open hE
    have hlen : lenV v = es.length := by rw [e1]; rfl
    obtain ⟨e, he⟩ : ∃ e, es[i]? = some e := ⟨_, List.getElem?_eq_getElem (by omega)⟩
    obtain ⟨g, off, a2, n2, c2, e2, e3, _, _, q⟩ := cellE_of hE he
    rw [cellE_below hE hb he] at hk ⊢
    rw [e3] at hk
    obtain ⟨t, ht⟩ : ∃ t, e.2[k]? = some t := ⟨_, List.getElem?_eq_getElem hk⟩
    cases d with
    | zero =>
      have h0 := ens_zero hE
      have : t ∈ subs es := mem_subs.2 ⟨e, List.mem_of_getElem? he, List.mem_of_getElem? ht⟩
      rw [h0] at this
      cases this
    | succ d =>
      rw [e3, cellT_below q hb ht]
      refine EnsF.below (es := t.es) (d := d) ?_ (cellT_of q ht) hb
      have := h.2 i k hi (by rw [e3]; exact hk)
      rw [e3] at this
      exact this
theorem TrF.below {n m : Nat} {w W : World} {v : Value} {t : Tr} (h : TrF m w v) (hi : TrIn n w v t) (hb : Below w.heap.size w W) : TrF m W v := by
  intro c0 c1 c2 ve vr hv
  obtain ⟨n', ve', vr', _, e, _, _, _, _, _, ea⟩ := hi.open
  rw [hv] at e
  simp only [Value.agg.injEq, Array.mk.injEq, List.cons.injEq, and_true] at e
  obtain ⟨_, _, _, rfl, _⟩ := e
  exact (h c0 c1 c2 ve vr hv).below ea hb
/-- A copy's own first block. -/
theorem TrV.form6 {n B : Nat} {w : World} {v : Value} {t : Tr} {bs : List Nat} (h : TrV (n + 1) B w v t bs) (hl : t.es.length ≠ 0) : ∃ ge ec pr cr, v = .agg #[.int .i64 t.kind, .int .i64 t.n, .string t.s, .slice (some ⟨ge, 0, none⟩) t.es.length ec, .slice pr t.rest.length cr] := by
  obtain ⟨ve, vr, cs, e1, e2, _⟩ := h.ens
  obtain ⟨g, cap, _, _, _, rfl, _⟩ := e2.head hl
  obtain ⟨m, ve', vr', -, e3, -, -, -, -, ra, ea⟩ := h.tr.open
  rw [e1] at e3
  simp only [Value.agg.injEq, Array.mk.injEq, List.cons.injEq, and_true, true_and] at e3
  obtain ⟨-, rfl⟩ := e3
  obtain ⟨pr, cr, rfl, -⟩ := rest_holds ra
  exact ⟨g, cap, pr, cr, e1⟩
theorem TrV.kpM {n B : Nat} {w w' : World} {v : Value} {t : Tr} {bs : List Nat} (h : TrV n B w v t bs) (hk : Kp (fun q => q < B) w w') : TrV n B w' v t bs := by
  obtain ⟨r, h1, h2, h3⟩ := h
  exact ⟨r, h1, h2.sm fun k hb => hk.block k (h3.2 k hb).2 (by have := (h3.2 k hb).1; omega), h3.mono hk.size⟩
theorem TrV.belowM {n B : Nat} {w w' : World} {v : Value} {t : Tr} {bs : List Nat} (h : TrV n B w v t bs) (hk : Below w.heap.size w w') : TrV n B w' v t bs := h.kpM (Kp.ofBelow hk)
end Go.Proofs.Ytgedelgdjcnogab

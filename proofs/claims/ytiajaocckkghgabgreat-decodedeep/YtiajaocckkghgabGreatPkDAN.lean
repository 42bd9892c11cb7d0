/- Part 14 of what the proof stands on. -/
import Derived.Test.YtiajaocckkghgabGreatPkDAM
import Derived.Deep.DeepAppendWide
namespace Go.Proofs.YtiajaocckkghgabGreat
set_option linter.unusedVariables false
set_option linter.unusedSimpArgs false
open Go.ChangeShapes Go.WideShapes Go.ChangeAt Go.RowKit
set_option maxRecDepth 20000
theorem TrO.trIn {n B : Nat} {w : World} {r : List Value} {t : Tr} {bs : List Nat} (h : TrO n B w r t bs) : TrIn n w (.agg r.toArray) t := ⟨r, rfl, h.trC⟩
theorem zero_trIn (w : World) : TrIn 1 w (.agg #[.int .i64 0, .int .i64 0, .string ⟨#[]⟩, .slice none 0 0, .slice none 0 0]) tr0 := (TrO.zeroO 0 0 w).trIn
theorem rsame_eq {n m : Nat} {t : Tr} {va vb : Value} {w : World} (ha : TrIn n w va t) (hb : TrIn m w vb t) : Calls Tryz.prog 15 #[va, vb] w fun e w' => e = .returned (.bool true) ∧ Below w.heap.size w w' := by
 refine (rsame_any n m t t va vb w ha hb).mono ?_
 rintro e w' ⟨⟨R, rfl, h⟩, hb⟩
 have : R = true := h.2 rfl
 subst this
 exact ⟨rfl, hb⟩
def s1A (tag label kind : Int) (tn : ByteArray) : ScS := ⟨⟨#[97]⟩, [⟨⟨#[109]⟩, [⟨⟨#[120]⟩, tag, label, kind, tn⟩], []⟩], [], []⟩
theorem s1_few (tag label kind : Int) (tn : ByteArray) : FewL (s1A tag label kind tn) := ⟨by simp [s1A], by simp [s1A], by simp [s1A], fun m hm => by simp [s1A] at hm; subst hm; simp, fun m hm => by simp [s1A] at hm⟩
theorem s1_w (tag label kind : Int) (tn : ByteArray) (h1 : I64 tag) (h2 : I64 label) (h3 : I64 kind) (h4 : tn.size ≤ 140737488351232) : ScW (s1A tag label kind tn) := ⟨(by decide : (ByteArray.mk #[97]).size ≤ 140737488351232), fun m hm => by simp [s1A] at hm; subst hm; exact ⟨(by decide : (ByteArray.mk #[109]).size ≤ 140737488351232), (fun f hf => by simp at hf; subst hf; exact ⟨(by decide : (ByteArray.mk #[120]).size ≤ 140737488351232), h4, h1, h2, h3⟩), by simp⟩, fun m hm => by simp [s1A] at hm, fun m hm => by simp [s1A] at hm⟩
theorem s1_msg (tag label kind : Int) (tn : ByteArray) : msgOf (s1A tag label kind tn) ⟨#[109]⟩ = some ⟨⟨#[109]⟩, [⟨⟨#[120]⟩, tag, label, kind, tn⟩], []⟩ := by simp [msgOf, s1A]
theorem s1_in {w : World} {b0 b1 : Nat} {tag label kind : Int} {tn : ByteArray} (BF : Blk w b0 #[.string ⟨#[120]⟩, .int .i64 tag, .int .i64 label, .int .i64 kind, .string tn] 56) (BM : Blk w b1 #[.string ⟨#[109]⟩, .slice (some ⟨b0, 0, none⟩) 1 1, .slice none 0 0] 34) :
  ScIn w (.agg #[.string ⟨#[97]⟩, .slice (some ⟨b1, 0, none⟩) 1 1, .slice none 0 0, .slice none 0 0]) (s1A tag label kind tn) :=
 sc_one BM (RowG.blk BF rfl (fun r hr => by simp [flRows] at hr; subst hr; rfl) rfl (by decide))
def mxN (n : Nat) (l : List Tr) : Nat := (l.map (dpN n)).foldr max 0
theorem mx_app (n : Nat) (a b : List Tr) : mxN n (a ++ b) = max (mxN n a) (mxN n b) := by
 unfold mxN
 induction a with
 | nil => simp
 | cons x a ih => simp only [List.cons_append, List.map_cons, List.foldr_cons, ih]; omega
theorem mx_one (n : Nat) (x : Tr) : mxN n [x] = dpN n x := by simp [mxN]
theorem mx_step (n : Nat) {a l : List Tr} {j : Nat} {x : Tr} (h : l[j]? = some x) : mxN n (a ++ l.take (j + 1)) = max (mxN n (a ++ l.take j)) (dpN n x) := by
 have : l.take (j + 1) = l.take j ++ [x] := by rw [List.take_add_one, h]; rfl
 rw [this, ← List.append_assoc, mx_app, mx_one]
theorem subs_step {es : List (Int × List Tr)} {i : Nat} {e : Int × List Tr} (h : es[i]? = some e) : subs (es.take (i + 1)) = subs (es.take i) ++ e.2 := by
 have : es.take (i + 1) = es.take i ++ [e] := by rw [List.take_add_one, h]; rfl
 rw [this]; simp [subs]
set_option maxHeartbeats 4000000 in
theorem rdepth_step (n : Nat) (IH : ∀ t v (d : Nat) w, TrIn n w v t → d + n ≤ 100 → Calls Tryz.prog 31 #[v, .int .i64 (d : Int)] w fun e w' => e = .returned (.int .i64 (dpN n t : Nat)) ∧ Below w.heap.size w w') (t : Tr) (v : Value) (d : Nat) (w : World) (ht : TrIn (n + 1) w v t) (hd : d + (n + 1) ≤ 100) :
  Calls Tryz.prog 31 #[v, .int .i64 (d : Int)] w fun e w' => e = .returned (.int .i64 (dpN (n + 1) t : Nat)) ∧ Below w.heap.size w w' := by
 obtain ⟨n', ve, vr, e0, rfl, ka, na, sa, fa, ra, ea⟩ := ht.open
 obtain rfl : n' = n := by omega
 clear e0 ht
 obtain ⟨pe, ce, rfl, u1, u2, -⟩ := ea.open
 obtain ⟨pr, cr, rfl, x1, x2, -⟩ := rest_holds ra
 unfold maxLen at u2 x2
 obtain ⟨Ke, hKe⟩ : ∃ K, t.es.length = K := ⟨_, rfl⟩
 rw [hKe] at u1 ⊢
 have EA : Hid (EnsIn n' w (.slice pe Ke ce) t.es) := (by rw [← hKe]; exact ea : EnsIn n' w (.slice pe Ke ce) t.es)
 have HKe : Hid (t.es.length = Ke) := hKe
 have HI : Hid (∀ t v (d : Nat) w, TrIn n' w v t → d + n' ≤ 100 → Calls Tryz.prog 31 #[v, .int .i64 (d : Int)] w fun e w' => e = .returned (.int .i64 (dpN n' t : Nat)) ∧ Below w.heap.size w w') := IH
 clear hKe ea ra fa ka na sa IH
 by_cases hk : t.kind = 3
 ·have HR : Hid (dpN (n' + 1) t = 1 + mxN n' (subs t.es)) := (by simp [dpN, hk, mxN] : dpN (n' + 1) t = 1 + mxN n' (subs t.es))
  generalize dpN (n' + 1) t = R at *
  have HES : Hid (t.es = t.es) := rfl
  rw [hk]
  clear hk
  generalize t.rest.length = Kr at *
  obtain ⟨N, hN⟩ : ∃ K, t.n = K := ⟨_, rfl⟩
  obtain ⟨S, hS⟩ : ∃ K, t.s = K := ⟨_, rfl⟩
  rw [hN, hS]
  clear hN hS
  have B0 : Blk (w.alloc (Obj.cells #[.int .i64 3, .int .i64 N, .string S, .slice pe Ke ce, .slice pr Kr cr] 39)) w.heap.size #[.int .i64 3, .int .i64 N, .string S, .slice pe Ke ce, .slice pr Kr cr] 39 := Blk.new w _ _
  have hb0 : Below w.heap.size w (w.alloc (Obj.cells #[.int .i64 3, .int .i64 N, .string S, .slice pe Ke ce, .slice pr Kr cr] 39)) := (Below.refl _ _).alloc (Nat.le_refl _) _
  have hd1 : decide ((d : Int) > 100) = false := by simp; omega
  go_enter Tryz.func31, Tryz.ntmps31
  go_wp2_with fail
  generalize (w.alloc (Obj.cells #[.int .i64 3, .int .i64 N, .string S, .slice pe Ke ce, .slice pr Kr cr] 39)) = WA at *
  obtain ⟨b0, hb0'⟩ : ∃ b, w.heap.size = b := ⟨_, rfl⟩
  have HBZ : Hid (w.heap.size = b0) := hb0'
  rw [hb0'] at B0
  rw [hb0']
  clear hb0'
  go_loopw [5, 6] (fun mv iv wr => ∃ (i M : Nat), mv = .int .i64 (M : Int) ∧ iv = .int .i64 (i : Int) ∧ i ≤ Ke ∧ M ≤ 100 ∧ Hid (M = mxN n' (subs (t.es.take i))) ∧ Hid (Blk wr b0 #[.int .i64 3, .int .i64 N, .string S, .slice pe Ke ce, .slice pr Kr cr] 39) ∧ Below w.heap.size w wr) (fun _ iv _ => Ke - (intOf iv).toNat)
  case atStart => exact ⟨0, 0, rfl, rfl, by omega, by omega, (by simp [subs, mxN] : 0 = mxN n' (subs (t.es.take 0))), B0, hb0⟩
  case round =>
   clear B0 hb0
   obtain ⟨i, M, rfl, rfl, hi, hM, HM, HB, hbel⟩ := hrel
   have a3 := (HB.out.cell 3).trans rfl
   by_cases hlt : i < Ke
   ·obtain ⟨x, hx⟩ : ∃ r, t.es[i]? = some r := ⟨_, List.getElem?_eq_getElem (by rw [HKe.out]; exact hlt)⟩
    obtain ⟨ge, off, rfl, cc⟩ := (EA.out.belowE hbel).get hx
    obtain ⟨vt, p0, p1, p2, p3⟩ := ens_at cc
    obtain ⟨pt, ct, rfl, t1, t2, -⟩ := p3.open
    have HX : Hid (t.es[i]? = some x) := hx
    obtain ⟨Xl, hXl⟩ : ∃ K, x.2.length = K := ⟨_, rfl⟩
    rw [hXl] at p1 p3 t1
    have HXl : Hid (x.2.length = Xl) := hXl
    have HT : Hid (TrsIn n' wr (.slice pt Xl ct) x.2) := p3
    have HP1 : Hid (wr.cell? ⟨ge, off + i * 2 + 1, none⟩ = some (.slice pt Xl ct)) := p1
    unfold maxLen at t2
    clear hx cc p0 p1 p2 p3 hXl
    go_wp2_with fail
    clear a3
    have HW : Hid (Below wr.heap.size wr wr) := Below.refl _ _
    obtain ⟨W, hW⟩ : ∃ W, wr = W := ⟨_, rfl⟩
    rw [hW] at HW HT HP1 HB hbel ⊢
    clear hW
    go_loopw [5, 7] (fun mv jv wz => ∃ (j M : Nat), mv = .int .i64 (M : Int) ∧ jv = .int .i64 (j : Int) ∧ j ≤ Xl ∧ M ≤ 100 ∧ Hid (M = mxN n' (subs (t.es.take i) ++ x.2.take j)) ∧ Below w.heap.size w wz ∧ Below W.heap.size W wz) (fun _ jv _ => Xl - (intOf jv).toNat)
    case atStart => exact ⟨0, M, rfl, rfl, by omega, hM, (by rw [HM.out]; simp : M = mxN n' (subs (t.es.take i) ++ x.2.take 0)), hbel, Below.refl _ _⟩
    case round =>
     clear hM HM hbel
     obtain ⟨j, M, rfl, rfl, hj, hM, HM, hbel, hbW⟩ := hrel
     have B1 := HB.out.below hbW
     have a3 := (B1.cell 3).trans rfl
     have p1 : wr.cell? ⟨ge, off + i * 2 + 1, none⟩ = some (.slice pt Xl ct) := (hbW.cell (World.block_lt_of_cell? _ _ HP1.out)).trans HP1.out
     by_cases hlt2 : j < Xl
     ·obtain ⟨y, hy⟩ : ∃ r, x.2[j]? = some r := ⟨_, List.getElem?_eq_getElem (by rw [HXl.out]; exact hlt2)⟩
      obtain ⟨g3, off3, rfl, c1⟩ := (HT.out.belowT hbW).get hy
      obtain ⟨z1, n1, d1, z2, n2, d2, o0, o1, o2, o3, o4, o5⟩ := trs_get c1
      have HY : Hid (x.2[j]? = some y) := hy
      have HC : Hid (Calls Tryz.prog 31 #[.agg #[.int .i64 y.kind, .int .i64 y.n, .string y.s, .slice z1 n1 d1, .slice z2 n2 d2], .int .i64 ((d : Int) + 1)] wr fun e w' => e = .returned (.int .i64 (dpN n' y : Nat)) ∧ Below wr.heap.size wr w') := HI.out y _ (d + 1) wr o5 (by omega)
      clear c1 hy o5 B1
      go_wp2_with fail
      refine HC.out.mono ?_
      rintro e w2 ⟨rfl, hb2⟩
      have HS : Hid (mxN n' (subs (t.es.take i) ++ x.2.take (j + 1)) = max M (dpN n' y)) := (by rw [HM.out, mx_step n' HY.out] : mxN n' (subs (t.es.take i) ++ x.2.take (j + 1)) = max M (dpN n' y))
      have hyd := dpN_le n' y
      generalize dpN n' y = Y at *
      have hb3 := hbel.trans (hb2.mono hbel.size)
      have hb4 := hbW.trans (hb2.mono hbW.size)
      have hmx : max (M : Int) (Y : Int) = ((max M Y : Nat) : Int) := by omega
      clear o0 o1 o2 o3 o4 hb2 hbel hbW HC a3 p1
      go_wp2_with fail
      go_roundw
      case rel => exact ⟨j + 1, max M Y, by first | rfl | (rw [hmx]) | go_num, by go_num, by omega, by omega, HS.out.symm, hb3, hb4⟩
      case measure => simp [intOf]; omega
     ·obtain rfl : j = Xl := by omega
      have HM2 : Hid (M = mxN n' (subs (t.es.take (i + 1)))) := (by rw [HM.out, subs_step HX.out, List.take_of_length_le (l := x.2) (by rw [HXl.out]; omega)] : M = mxN n' (subs (t.es.take (i + 1))))
      have HB5 : Hid (Blk wr b0 #[.int .i64 3, .int .i64 N, .string S, .slice (some ⟨ge, off, none⟩) Ke ce, .slice pr Kr cr] 39) := B1
      clear B1 HM HB
      go_wp2_with fail
      clear a3 p1
      go_roundw
      case rel => exact ⟨i + 1, M, rfl, by go_num, by omega, hM, HM2, HB5, hbel⟩
      case measure => simp [intOf]; omega
   ·obtain rfl : i = Ke := by omega
    have hR : R = 1 + M := by rw [HR.out, HM.out, List.take_of_length_le (by rw [HKe.out]; omega)]
    subst hR
    have hmn : min ((M : Int) + 1) 101 = ((1 + M : Nat) : Int) := by omega
    clear HR HM HB
    go_wp2_with fail
    go_ret
    exact ⟨by first | rfl | (rw [hmn]) | go_num, hbel⟩
 ·have h0 : dpN (n' + 1) t = 0 := by simp [dpN, hk]
  rw [h0]
  have hd1 : (t.kind != 3) = true := by simpa using hk
  generalize t.kind = K at *
  generalize t.n = N at *
  generalize t.s = S at *
  generalize t.rest.length = Kr at *
  clear h0 HKe
  go_enter Tryz.func31, Tryz.ntmps31
  go_wp2_with fail
  go_ret
  exact ⟨rfl, (Below.refl _ _).alloc (Nat.le_refl _) _⟩
theorem rdepth_any : ∀ (n : Nat) (t : Tr) (v : Value) (d : Nat) (w : World), TrIn n w v t → d + n ≤ 100 → Calls Tryz.prog 31 #[v, .int .i64 (d : Int)] w fun e w' => e = .returned (.int .i64 (dpN n t : Nat)) ∧ Below w.heap.size w w'
 | 0, _, _, _, _, h, _ => by obtain ⟨r, _, h⟩ := h; exact h.elim
 | n + 1, t, v, d, w, h, hd => rdepth_step n (fun t v d w h hd => rdepth_any n t v d w h hd) t v d w h hd
theorem rDepth_any (n : Nat) (t : Tr) (v : Value) (w : World) (h : TrIn n w v t) (hn : n ≤ 100) : Calls Tryz.prog 17 #[v] w fun e w' => e = .returned (.int .i64 (dpN n t : Nat)) ∧ Below w.heap.size w w' := by
 have hal : ∀ o, Below w.heap.size w (w.alloc o) := fun o => (Below.refl _ _).alloc (Nat.le_refl _) _
 have HC : Hid (∀ W, Below w.heap.size w W → Calls Tryz.prog 31 #[v, .int .i64 0] W fun e w' => e = .returned (.int .i64 (dpN n t : Nat)) ∧ Below W.heap.size W w') := fun W hW => rdepth_any n t v 0 W (h.below hW) (by omega)
 obtain ⟨n', ve, vr, e0, rfl, -, -, -, -, ra, ea⟩ := h.open
 obtain ⟨pe, ce, rfl, -⟩ := ea.open
 obtain ⟨pr, cr, rfl, -⟩ := rest_holds ra
 generalize t.es.length = Ke at *
 generalize t.rest.length = Kr at *
 generalize dpN n t = R at *
 generalize t.kind = K at *
 generalize t.n = N at *
 generalize t.s = S at *
 clear h ra ea e0
 go_enter Tryz.func17, Tryz.ntmps17
 go_wp2_with fail
 refine (HC.out _ (hal _)).mono ?_
 rintro e w1 ⟨rfl, hb⟩
 have hbw : Below w.heap.size w w1 := (hal _).trans (hb.mono (by simp))
 clear hb HC
 go_wp2_with fail
 go_ret
 exact ⟨rfl, hbw⟩
def placeI (v n : Int) : Int := if v.tmod n < 0 then v.tmod n + n else v.tmod n
theorem placeI_in (v n : Int) (hn : 1 ≤ n) : 0 ≤ placeI v n ∧ placeI v n < n := by
 have t1 := Int.tmod_lt_of_pos v (b := n) (by omega)
 have t2 := Int.lt_tmod_of_pos v (b := n) (by omega)
 unfold placeI; split <;> omega
set_option maxHeartbeats 1000000 in
theorem place_is (v n : Int) (hv1 : -9223372036854775808 ≤ v) (hv2 : v ≤ 9223372036854775807) (hn1 : 1 ≤ n) (hn2 : n ≤ 4611686018427387904) (w : World) :
  Calls Tryz.prog 9 #[.int .i64 v, .int .i64 n] w fun e w' => e = .returned (.int .i64 (placeI v n)) ∧ w' = w := by
 have t1 := Int.tmod_lt_of_pos v (b := n) (by omega)
 have t2 := Int.lt_tmod_of_pos v (b := n) (by omega)
 have hz : (n == 0) = false := by rw [beq_eq_false_iff_ne]; omega
 by_cases h : v.tmod n < 0
 ·have HP : Hid (v.tmod n + n = placeI v n) := by show _ = _; unfold placeI; rw [if_pos h]
  go_enter Tryz.func9, Tryz.ntmps9
  go_wp2_with fail
  go_ret
  exact ⟨by rw [← HP.out]; rfl, rfl⟩
 ·have HP : Hid (v.tmod n = placeI v n) := by show _ = _; unfold placeI; rw [if_neg h]
  go_enter Tryz.func9, Tryz.ntmps9
  go_wp2_with fail
  go_ret
  exact ⟨by rw [← HP.out]; rfl, rfl⟩
theorem run_full (w : World) (ao : Option Addr) (ns ms : List Nat) (n m c : Nat) (ad : Addr) (ty : TypeId) (hn : ns.length = n) (hm : ms.length = m) (hao : ao = none → ns = []) (hh : Holds w ao ns) (hh2 : Holds w (some ad) ms) (h0 : 0 < m) (hb : n + m ≤ 200000000000000) :
  ∃ v' w', (Builtin.append_ #[45, 45] ty #[.slice ao n n, .slice (some ad) m c]).run Tryz.prog w = .ok v' w' ∧ w'.ownsRow w.heap.size 5 1 v' (ns ++ ms).length (byteCells (ns ++ ms)) ∧ w.grownBy w' none := by
 obtain ⟨i0, hi, hz0, hz1, hz2⟩ := info_parts infoByte
 subst hn hm
 cases ao with
 | none =>
  obtain rfl := hao rfl
  obtain ⟨v', w', hr, h1, h2, _⟩ := run_append_own_wide (P := Tryz.prog) w w.heap.size 45 ty 5 i0 (.int .u8 0) 1 1 Tryz.underlying45 hi hz0 hz1 hz2 rfl (by decide) (.slice none 0 0) 0 [] (World.ownsRow_nil _ _ _ _) ad ms.length c (byteCells ms) (by rw [byteCells_len]; omega) (hh2 ad rfl) (byteCells_one ms) (by unfold maxLen; simp at hb; omega) (by simp at hb ⊢; omega) (Nat.le_refl _)
  refine ⟨v', w', hr, ?_, h2⟩
  rw [List.nil_append]
  simpa using h1
 | some b =>
  have h63 : ns.length + ms.length ≤ maxLen := by unfold maxLen; omega
  have hlen : (byteCells (ns ++ ms)).length = (ns.length + ms.length) * 1 := by rw [byteCells_len, List.length_append, Nat.mul_one]
  have hge := grownCap_ge w (ns.length + ms.length) ns.length 5
  have hcm : grownCap w (ns.length + ms.length) ns.length 5 ≤ maxLen := grownCap_le_maxLen w _ _ _ h63
  have hr := run_append_grow (P := Tryz.prog) w 45 ty 5 i0 (.int .u8 0) Tryz.underlying45 hi hz0 b ns.length ns.length (byteCells ns) (by rw [byteCells_len, hz1]; omega) (hh b rfl) ad ms.length c (byteCells ms) (by rw [byteCells_len, hz1]; omega) (hh2 ad rfl) (by omega) (by omega) (growslice_fits_wide (by omega) (by rw [hz2]; omega))
  refine ⟨_, _, hr, ⟨by rw [hlen, List.length_append], .inr ⟨w.heap.size, _, _, by rw [List.length_append], Nat.le_refl _, heap_alloc_new w.drew _, by rw [List.length_append]; exact hge, hcm, ?_, ?_⟩⟩, ⟨rfl, rfl, rfl, by simp, fun k hk _ => heap_alloc_old w.drew _ hk⟩⟩
  ·have hz : (Value.int IntKind.u8 0).cells.size = 1 := rfl
   simp only [Array.size_append, List.size_toArray, size_zeroCells, hz, byteCells_len]
   omega
  ·simp only [Array.toList_append, List.append_assoc]
   rw [← List.append_assoc, ← byteCells_app, List.length_append, ← hlen]
   exact List.take_left
theorem wpList_full {w : World} {ops : Array Oper} {rest : List Oper} {o : Oper} {a : Act} {Q : Exit → Act → World → Prop} (hgd : o.guard = none) (s x : Operand)
  (ho : o.op = .call { callee := .builtin .append, args := #[s, x], argTypes := #[45, 45] }) (ao : Option Addr) (ns ms : List Nat) (n m c : Nat) (ad : Addr) (hs : a.eval s = .slice ao n n) (hx : a.eval x = .slice (some ad) m c)
  (hn : ns.length = n) (hm : ms.length = m) (hao : ao = none → ns = []) (hh : Holds w ao ns) (hh2 : Holds w (some ad) ms) (h0 : 0 < m) (hb : n + m ≤ 200000000000000)
  (h : ∀ v' w', w'.ownsRow w.heap.size 5 1 v' (ns ++ ms).length (byteCells (ns ++ ms)) → w.grownBy w' none → wpList Tryz.prog ops Q rest (a.put o.dst v') w') : wpList Tryz.prog ops Q (o :: rest) a w := by
 obtain ⟨v', w', hr, h1, h2⟩ := run_full w ao ns ms n m c ad o.type hn hm hao hh hh2 h0 hb
 refine wpList_plain hgd fun K hK => ?_
 unfold Oper.wp
 rw [append_run ho hs hx hr]
 exact hK _ _ (h v' w' h1 h2)
theorem okV_of {r : Fd} (h : okF r = true) : okV r.tag r.wire r.n r.b = true := h
set_option maxHeartbeats 4000000 in
theorem wput_ok (r : Fd) (a : Option Addr) (ns : List Nat) (N cap : Nat) (w : World) (hr : okF r = true) (hn : Is64 r.n) (hN : ns.length = N) (ha : a = none → ns = [] ∧ cap = 0) (hc : N ≤ cap) (hm : cap ≤ maxLen) (hl : N ≤ 140737488355328) (hh : Holds w a ns) :
  Calls Tryz.prog 16 #[.slice a N cap, .agg #[.int .i64 r.tag, .int .i64 r.wire, .int .i64 r.n, .string r.b]] w fun e w' => ∃ v, e = .returned (.tuple #[v, .bool true]) ∧
   w'.ownsRow w.heap.size 5 1 v (ns ++ fieldN r).length (byteCells (ns ++ fieldN r)) ∧ Below w.heap.size w w' := by
 unfold maxLen at hm
 have HA : Hid (a = none → ns = [] ∧ cap = 0) := ha
 have HH : Hid (Holds w a ns) := hh
 have HN : Hid (ns.length = N) := hN
 have HL := fieldN_len hr hn
 have HF : Hid (∀ W, Calls Tryz.prog 27 #[.agg #[.int .i64 r.tag, .int .i64 r.wire, .int .i64 r.n, .string r.b]] W fun e w' => ∃ v, e = .returned v ∧ w'.ownsRow W.heap.size 5 1 v (fieldN r).length (byteCells (fieldN r)) ∧ Below W.heap.size W w') := fun W => field_any r W hr hn
 have hok := okV_of hr
 obtain ⟨t, k, n, b⟩ := r
 simp only at hok HF hn ⊢
 generalize fieldN ⟨t, k, n, b⟩ = fs at *
 obtain ⟨R, hR⟩ : ∃ R, ns ++ fs = R := ⟨_, rfl⟩
 have HR : Hid (ns ++ fs = R) := hR
 rw [hR]
 clear ha hh hN hR hr
 by_cases hc0 : cap = 0
 ·subst hc0
  obtain rfl : N = 0 := by omega
  go_enter Tryz.func16, Tryz.ntmps16
  go_wp2_with fail
  refine (checkV_any t k n b _).mono ?_
  rintro e w1 ⟨rfl, hb⟩
  rw [hok]
  have hcs : ∀ j v, [Value.int .i64 t, .int .i64 k, .int .i64 n, .string b][j]? = some v → w1.cell? ⟨w.heap.size, j, none⟩ = some v := by
   intro j v hj; rw [hb.cell (by simp)]; simpa using hj
  have c0 := hcs 0 _ rfl
  have c1 := hcs 1 _ rfl
  have c2 := hcs 2 _ rfl
  have c3 := hcs 3 _ rfl
  have HB : Hid (Below w.heap.size w w1) := (below_one w _).trans (hb.mono (by simp))
  clear hb hcs
  go_wp2_with fail
  refine (HF.out _).mono ?_
  rintro e w2 ⟨v, rfl, ho, hb2⟩
  have HB2 : Hid (Below w.heap.size w w2) := HB.out.trans (hb2.mono HB.out.size)
  obtain ⟨a2, cap2, rfl, _, h1 | ⟨g2, rfl, h2, h3⟩, h4, h5, h6⟩ := own_open ho
  ·exact absurd h1.2.1 (by rintro rfl; simp at HL)
  obtain ⟨M, hM⟩ : ∃ M, fs.length = M := ⟨_, rfl⟩
  have HM : Hid (fs.length = M) := hM
  rw [hM] at HL ⊢
  have HH2 : Hid (Holds w2 (some ⟨g2, 0, none⟩) fs) := h6
  clear ho hb2 HB h4 h5 h6 hM
  go_wp2_with (first
   | (at_builtin; refine wpList_full rfl _ _ rfl _ ns fs _ M cap2 ⟨g2, 0, none⟩ rfl rfl HN.out HM.out (fun h => (HA.out h).1) (HH.out.below HB2.out) HH2.out ?c1 ?c2 ?_)
   | fail)
  case c1 => omega
  case c2 => omega
  intro v' w3 ho3 hg3
  have HB3 : Hid (Below w.heap.size w w3) := HB2.out.grown hg3 HB2.out.size (fun k hk => by cases hk)
  have HO3 : Hid (w3.ownsRow w.heap.size 5 1 v' R.length (byteCells R)) := by
   show World.ownsRow _ _ _ _ _ _ _
   have e : ns.length + fs.length = R.length := by rw [← HR.out, List.length_append]
   rw [HR.out, e] at ho3
   exact own_mono ho3 HB2.out.size
  clear ho3 hg3
  go_wp2_with fail
  go_ret2
  exact ⟨_, rfl, HO3.out, HB3.out⟩
 ·cases a with
  | none => exact absurd (HA.out rfl).2 hc0
  | some ad =>
  go_enter Tryz.func16, Tryz.ntmps16
  go_wp2_with fail
  refine (checkV_any t k n b _).mono ?_
  rintro e w1 ⟨rfl, hb⟩
  rw [hok]
  have hcs : ∀ j v, [Value.int .i64 t, .int .i64 k, .int .i64 n, .string b][j]? = some v → w1.cell? ⟨w.heap.size, j, none⟩ = some v := by
   intro j v hj; rw [hb.cell (by simp)]; simpa using hj
  have c0 := hcs 0 _ rfl
  have c1 := hcs 1 _ rfl
  have c2 := hcs 2 _ rfl
  have c3 := hcs 3 _ rfl
  have HB : Hid (Below w.heap.size w w1) := (below_one w _).trans (hb.mono (by simp))
  clear hb hcs
  go_wp2_with fail
  refine (HF.out _).mono ?_
  rintro e w2 ⟨v, rfl, ho, hb2⟩
  have HB2 : Hid (Below w.heap.size w w2) := HB.out.trans (hb2.mono HB.out.size)
  obtain ⟨a2, cap2, rfl, _, h1 | ⟨g2, rfl, h2, h3⟩, h4, h5, h6⟩ := own_open ho
  ·exact absurd h1.2.1 (by rintro rfl; simp at HL)
  obtain ⟨M, hM⟩ : ∃ M, fs.length = M := ⟨_, rfl⟩
  have HM : Hid (fs.length = M) := hM
  rw [hM] at HL ⊢
  have HH2 : Hid (Holds w2 (some ⟨g2, 0, none⟩) fs) := h6
  clear ho hb2 HB h4 h5 h6 hM
  go_wp2_with (first
   | (at_builtin; refine wpList_full rfl _ _ rfl _ ns fs _ M cap2 ⟨g2, 0, none⟩ rfl rfl HN.out HM.out (fun h => (HA.out h).1) (HH.out.below HB2.out) HH2.out ?c1 ?c2 ?_)
   | fail)
  case c1 => omega
  case c2 => omega
  intro v' w3 ho3 hg3
  have HB3 : Hid (Below w.heap.size w w3) := HB2.out.grown hg3 HB2.out.size (fun k hk => by cases hk)
  have HO3 : Hid (w3.ownsRow w.heap.size 5 1 v' R.length (byteCells R)) := by
   show World.ownsRow _ _ _ _ _ _ _
   have e : ns.length + fs.length = R.length := by rw [← HR.out, List.length_append]
   rw [HR.out, e] at ho3
   exact own_mono ho3 HB2.out.size
  clear ho3 hg3
  go_wp2_with fail
  go_ret2
  exact ⟨_, rfl, HO3.out, HB3.out⟩
theorem deep_len : ∀ i, i < 15 → (deepN i).length ≤ 100 := by decide +kernel
theorem deep_s : checkA (s1A 1 2 7 ⟨#[109]⟩) = 0 := by decide +kernel
theorem deep_dp : ∀ k, k < 10 → dpN 11 (deepT k) = k + 1 := by decide +kernel
theorem deep_A {k : Nat} (h : k < 14) : decA (s1A 1 2 7 ⟨#[109]⟩) ⟨#[109]⟩ (deepN k) = if k < 10 then (deepT k, 0) else (tr0, 10) := by
 unfold decA
 rw [deep_s, if_neg (by simp)]
 exact deep_dec (s1_msg 1 2 7 ⟨#[109]⟩) rfl rfl rfl rfl rfl k 10 fun i hi => by have := deep_len i (by omega); omega
theorem deep_ok (b : ByteArray) (h : b.size ≤ 4096) : okF ⟨1, 1, 0, b⟩ = true := by
 simp only [okF, okV, Bool.and_eq_true, Bool.or_eq_true, decide_eq_true_eq, beq_iff_eq]
 exact ⟨by omega, .inr ⟨⟨trivial, trivial⟩, by omega⟩⟩
set_option maxHeartbeats 2000000 in
theorem decodeDeep_walk (n : Int) (g1 : (Lit.int .i64 n).wf = true) (w : World) :
  Calls Tryz.prog 4 #[.int .i64 n] w fun e w' => e = .returned (.bool true) ∧ Below w.heap.size w w' := by
 obtain ⟨i1, i2⟩ := bounds_i64 g1
 obtain ⟨b0, hb0⟩ : ∃ z, w.heap.size = z := ⟨_, rfl⟩
 obtain ⟨BF, BM, BS, hbw⟩ := dblk3 w #[.string ⟨#[120]⟩, .int .i64 1, .int .i64 2, .int .i64 7, .string ⟨#[109]⟩] #[.string ⟨#[109]⟩, .slice (some ⟨b0, 0, none⟩) 1 1, .slice none 0 0] #[.string ⟨#[97]⟩, .slice (some ⟨b0 + 1, 0, none⟩) 1 1, .slice none 0 0, .slice none 0 0] 56 34 26
 rw [hb0] at BF BM BS
 obtain ⟨hp1, hp2⟩ := placeI_in n 14 (by omega)
 obtain ⟨k, hk⟩ : ∃ z : Nat, placeI n 14 = (z : Int) := ⟨(placeI n 14).toNat, by omega⟩
 have hk14 : k < 14 := by omega
 have HPL : Hid (∀ W, Calls Tryz.prog 9 #[.int .i64 n, .int .i64 14] W fun e w1 => e = .returned (.int .i64 (k : Int)) ∧ w1 = W) := fun W => by
  have h1 := place_is n 14 i1 i2 (by omega) (by omega) W
  rw [hk] at h1
  exact h1
 clear hp1 hp2 hk g1 i1 i2
 go_enter Tryz.func4, Tryz.ntmps4
 go_wp2_with fail
 generalize (((w.alloc (Obj.cells #[.string ⟨#[120]⟩, .int .i64 1, .int .i64 2, .int .i64 7, .string ⟨#[109]⟩] 56)).alloc (Obj.cells #[.string ⟨#[109]⟩, .slice (some ⟨b0, 0, none⟩) 1 1, .slice none 0 0] 34)).alloc (Obj.cells #[.string ⟨#[97]⟩, .slice (some ⟨b0 + 1, 0, none⟩) 1 1, .slice none 0 0, .slice none 0 0] 26)) = W0 at *
 have HBW : Hid (Below w.heap.size w W0) := hbw
 have HBS : Hid (Blk W0 (b0 + 2) #[.string ⟨#[97]⟩, .slice (some ⟨b0 + 1, 0, none⟩) 1 1, .slice none 0 0, .slice none 0 0] 26) := BS
 have HSI : Hid (ScIn W0 (.agg #[.string ⟨#[97]⟩, .slice (some ⟨b0 + 1, 0, none⟩) 1 1, .slice none 0 0, .slice none 0 0]) (s1A 1 2 7 ⟨#[109]⟩)) := s1_in BF BM
 clear BF BM BS hbw hb0
 refine (HPL.out _).mono ?_
 rintro e w1 ⟨rfl, rfl⟩
 clear HPL
 have HB0 : Hid (ByS w1 (.slice none 0 0) (deepN 0)) := ⟨none, 0, rfl, Holds.nil, by simp [deepN], by simp [deepN], by decide, .inl rfl⟩
 go_wp2_with fail
 go_loopw [5, 6] (fun bv iv wr => ∃ (i : Nat) (vb : Value), iv = .int .i64 (i : Int) ∧ bv = vb ∧ i ≤ k ∧ Hid (ByS wr vb (deepN i)) ∧ Below w1.heap.size w1 wr) (fun _ iv _ => k - (intOf iv).toNat)
 case atStart => exact ⟨0, _, rfl, rfl, by omega, HB0, Below.refl _ _⟩
 case round =>
  obtain ⟨i, bv, rfl, rfl, hi, HB, hbr⟩ := hrel
  by_cases hlt : i < k
  ·have hcv := HB.out.conv
   obtain ⟨S, hS⟩ : ∃ z, strN (deepN i) = z := ⟨_, rfl⟩
   have hsz : S.size ≤ 4096 := by rw [← hS, strN_size]; have := deep_len i (by omega); omega
   have HPU : Hid (Calls Tryz.prog 16 #[.slice none 0 0, .agg #[.int .i64 1, .int .i64 1, .int .i64 0, .string S]] wr fun e w' => ∃ v, e = .returned (.tuple #[v, .bool true]) ∧ w'.ownsRow wr.heap.size 5 1 v (deepN (i + 1)).length (byteCells (deepN (i + 1))) ∧ Below wr.heap.size wr w') := (by
    have h1 := wput_ok ⟨1, 1, 0, S⟩ none [] 0 0 wr (deep_ok S hsz) is64_0 rfl (fun _ => ⟨rfl, rfl⟩) (Nat.le_refl _) (by decide) (by decide) Holds.nil
    have e1 : deepN (i + 1) = [] ++ fieldN ⟨1, 1, 0, S⟩ := by rw [← hS]; rfl
    rw [e1]; exact h1 : Calls Tryz.prog _ _ _ _)
   rw [hS] at hcv
   clear hS hsz
   go_wp2_with fail
   refine HPU.out.mono ?_
   rintro e w4 ⟨v, rfl, hown, hb4⟩
   have HB4 : Hid (ByS w4 v (deepN (i + 1))) := ByS.own hown (deepN_lt (i + 1))
   have hbr4 : Below w1.heap.size w1 w4 := hbr.trans (hb4.mono hbr.size)
   clear HPU hown hb4 hcv HB
   go_wp2_with fail
   go_roundw
   case rel => exact ⟨i + 1, _, by go_num, rfl, by omega, HB4, hbr4⟩
   case measure => simp [intOf]; omega
  ·obtain rfl : i = k := by omega
   have hA := deep_A hk14
   have HDE : Hid (Calls Tryz.prog 13 #[.agg #[.string ⟨#[97]⟩, .slice (some ⟨b0 + 1, 0, none⟩) 1 1, .slice none 0 0, .slice none 0 0], .string ⟨#[109]⟩, u5] wr (DtrP 11 (if i < 10 then (deepT i, 0) else (tr0, 10)) wr)) := (by
    rw [← hA]
    exact decode_any (HSI.out.below hbr) (s1_w 1 2 7 ⟨#[109]⟩ (by unfold I64; omega) (by unfold I64; omega) (by unfold I64; omega) (by decide)) (s1_few 1 2 7 ⟨#[109]⟩) HB.out : Calls Tryz.prog _ _ _ _)
   have BS1 := HBS.out.below hbr
   have s0 := (BS1.cell 0).trans rfl
   have s1 := (BS1.cell 1).trans rfl
   have s2 := (BS1.cell 2).trans rfl
   have s3 := (BS1.cell 3).trans rfl
   clear BS1 hA HB
   go_wp2_with fail
   refine HDE.out.mono ?_
   rintro e w5 ⟨r, bs, rfl, ht, hap, hb5⟩
   have hbw5 : Below w.heap.size w w5 := HBW.out.trans ((hbr.trans (hb5.mono hbr.size)).mono HBW.out.size)
   clear HDE s0 s1 s2 s3 hap hb5
   obtain ⟨a1, n1, c1, a2, n2, c2, rfl⟩ := ht.open
   have hTI := ht.trIn
   clear ht
   by_cases h10 : i < 10
   ·simp only [if_pos h10] at hTI ⊢
    have HDP : Hid (dpN 11 (deepT i) = i + 1) := deep_dp i h10
    generalize deepT i = T at *
    generalize T.kind = K0 at *
    generalize T.n = N0 at *
    generalize T.s = S0 at *
    have hd : decide (10 < (i : Int) + 1) = false := by simp; omega
    have al : Below w5.heap.size w5 (w5.alloc (Obj.cells #[.int .i64 K0, .int .i64 N0, .string S0, .slice a1 n1 c1, .slice a2 n2 c2] 39)) := (Below.refl _ _).alloc (Nat.le_refl _) _
    have HDD : Hid (Calls Tryz.prog 17 #[.agg #[.int .i64 K0, .int .i64 N0, .string S0, .slice a1 n1 c1, .slice a2 n2 c2]] (w5.alloc (Obj.cells #[.int .i64 K0, .int .i64 N0, .string S0, .slice a1 n1 c1, .slice a2 n2 c2] 39)) fun e w' => e = .returned (.int .i64 ((i : Int) + 1)) ∧ Below (w5.alloc (Obj.cells #[.int .i64 K0, .int .i64 N0, .string S0, .slice a1 n1 c1, .slice a2 n2 c2] 39)).heap.size (w5.alloc (Obj.cells #[.int .i64 K0, .int .i64 N0, .string S0, .slice a1 n1 c1, .slice a2 n2 c2] 39)) w') := (by
     have h1 := rDepth_any 11 T _ _ (hTI.below al) (by decide)
     rw [HDP.out] at h1
     simpa using h1 : Calls Tryz.prog _ _ _ _)
    have hbw6 : Below w.heap.size w (w5.alloc (Obj.cells #[.int .i64 K0, .int .i64 N0, .string S0, .slice a1 n1 c1, .slice a2 n2 c2] 39)) := hbw5.trans (al.mono hbw5.size)
    clear hTI al
    go_wp2_with fail
    refine HDD.out.mono ?_
    rintro e w7 ⟨rfl, hb7⟩
    have hbw7 : Below w.heap.size w w7 := hbw6.trans (hb7.mono hbw6.size)
    clear HDD hb7 hbw6
    go_wp2_with fail
    refine (dcawake_any _).mono ?_
    rintro e wz ⟨rfl, hbz⟩
    have hbwz : Below w.heap.size w wz := hbw7.trans (hbz.mono hbw7.size)
    clear hbz
    go_wp2_with fail
    go_ret
    exact ⟨rfl, hbwz⟩
   ·simp only [if_neg h10] at hTI ⊢
    simp only [tr0] at hTI ⊢
    have hd : decide (10 < (i : Int) + 1) = true := by simp; omega
    have al : Below w5.heap.size w5 (w5.alloc (Obj.cells #[.int .i64 0, .int .i64 0, .string ⟨#[]⟩, .slice a1 n1 c1, .slice a2 n2 c2] 39)) := (Below.refl _ _).alloc (Nat.le_refl _) _
    have HSM : Hid (Calls Tryz.prog 15 #[.agg #[.int .i64 0, .int .i64 0, .string ⟨#[]⟩, .slice a1 n1 c1, .slice a2 n2 c2], .agg #[.int .i64 0, .int .i64 0, .string ⟨#[]⟩, .slice none 0 0, .slice none 0 0]] (w5.alloc (Obj.cells #[.int .i64 0, .int .i64 0, .string ⟨#[]⟩, .slice a1 n1 c1, .slice a2 n2 c2] 39)) fun e w' => e = .returned (.bool true) ∧ Below (w5.alloc (Obj.cells #[.int .i64 0, .int .i64 0, .string ⟨#[]⟩, .slice a1 n1 c1, .slice a2 n2 c2] 39)).heap.size (w5.alloc (Obj.cells #[.int .i64 0, .int .i64 0, .string ⟨#[]⟩, .slice a1 n1 c1, .slice a2 n2 c2] 39)) w') :=
     rsame_eq (hTI.below al) (zero_trIn _)
    have hbw6 : Below w.heap.size w (w5.alloc (Obj.cells #[.int .i64 0, .int .i64 0, .string ⟨#[]⟩, .slice a1 n1 c1, .slice a2 n2 c2] 39)) := hbw5.trans (al.mono hbw5.size)
    clear hTI al
    go_wp2_with fail
    refine HSM.out.mono ?_
    rintro e w7 ⟨rfl, hb7⟩
    have hbw7 : Below w.heap.size w w7 := hbw6.trans (hb7.mono hbw6.size)
    clear HSM hb7 hbw6
    go_wp2_with fail
    refine (dcawake_any _).mono ?_
    rintro e wz ⟨rfl, hbz⟩
    have hbwz : Below w.heap.size w wz := hbw7.trans (hbz.mono hbw7.size)
    clear hbz
    go_wp2_with fail
    go_ret
    exact ⟨rfl, hbwz⟩
end Go.Proofs.YtiajaocckkghgabGreat

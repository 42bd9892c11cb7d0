/- The reference's Depth. -/
import Derived.Test.YtgedelgdjcnogaaTvRow
import Derived.Test.YtgedelgdjcnogaaBlkT
namespace Go.Proofs.Ytgedelgdjcnogaa
open Go.ChangeShapes Go.WideShapes Go.ChangeAt Go.RowKit
set_option linter.unusedVariables false
set_option linter.unusedSimpArgs false
set_option maxRecDepth 20000

def mxN (n : Nat) (l : List Tr) : Nat := (l.map (dpN n)).foldr max 0
theorem mx_app (n : Nat) (a b : List Tr) : mxN n (a ++ b) = max (mxN n a) (mxN n b) := by
  unfold mxN
  induction a with
  | nil => simp
  | cons x a ih => simp only [List.cons_append, List.map_cons, List.foldr_cons, ih]; omega
theorem mx_one (n : Nat) (x : Tr) : mxN n [x] = dpN n x := by simp [mxN]
theorem mx_le (n : Nat) (l : List Tr) : mxN n l ≤ n := foldr_max_le fun x hx => by
  obtain ⟨y, _, rfl⟩ := List.mem_map.1 hx
  exact dpN_le n y
theorem mx_step (n : Nat) {a l : List Tr} {j : Nat} {x : Tr} (h : l[j]? = some x) : mxN n (a ++ l.take (j + 1)) = max (mxN n (a ++ l.take j)) (dpN n x) := by
  have : l.take (j + 1) = l.take j ++ [x] := by rw [List.take_add_one, h]; rfl
  rw [this, ← List.append_assoc, mx_app, mx_one]
theorem subs_step {es : List (Int × List Tr)} {i : Nat} {e : Int × List Tr} (h : es[i]? = some e) : subs (es.take (i + 1)) = subs (es.take i) ++ e.2 := by
  have : es.take (i + 1) = es.take i ++ [e] := by rw [List.take_add_one, h]; rfl
  rw [this]; simp [subs]
set_option maxHeartbeats 4000000 in
theorem rdepth_step (n : Nat) (IH : ∀ t v (d : Nat) w, TrIn n w v t → d + n ≤ 100 → Calls Try.prog 40 #[v, .int .i64 (d : Int)] w fun e w' => e = .returned (.int .i64 (dpN n t : Nat)) ∧ Below w.heap.size w w') (t : Tr) (v : Value) (d : Nat) (w : World) (ht : TrIn (n + 1) w v t) (hd : d + (n + 1) ≤ 100) :
    Calls Try.prog 40 #[v, .int .i64 (d : Int)] w fun e w' => e = .returned (.int .i64 (dpN (n + 1) t : Nat)) ∧ Below w.heap.size w w' := by
  obtain ⟨n', ve, vr, e0, rfl, ka, na, sa, fa, ra, ea⟩ := ht.open
  obtain rfl : n' = n := by omega
  clear e0 ht
  obtain ⟨pe, ce, rfl, u1, u2, -⟩ := ea.open
  obtain ⟨pr, cr, rfl, x1, x2, -⟩ := rest_holds ra
  unfold maxLen at u2 x2
  obtain ⟨Ke, hKe⟩ : ∃ K, t.es.length = K := ⟨_, rfl⟩
  rw [hKe] at u1 ⊢
  have EA : Hid (EnsIn n' w (.slice pe Ke ce) t.es) := (by rw [← hKe]; exact ea : EnsIn n' w (.slice pe Ke ce) t.es)
  have HKe : Hid (t.es.length = Ke) := hKe
  have HI : Hid (∀ t v (d : Nat) w, TrIn n' w v t → d + n' ≤ 100 → Calls Try.prog 40 #[v, .int .i64 (d : Int)] w fun e w' => e = .returned (.int .i64 (dpN n' t : Nat)) ∧ Below w.heap.size w w') := IH
  clear hKe ea ra fa ka na sa IH
  by_cases hk : t.kind = 3
  · have HR : Hid (dpN (n' + 1) t = 1 + mxN n' (subs t.es)) := (by simp [dpN, hk, mxN] : dpN (n' + 1) t = 1 + mxN n' (subs t.es))
    generalize dpN (n' + 1) t = R at *
    have HES : Hid (t.es = t.es) := rfl
    rw [hk]
    clear hk
    generalize t.rest.length = Kr at *
    obtain ⟨N, hN⟩ : ∃ K, t.n = K := ⟨_, rfl⟩
    obtain ⟨S, hS⟩ : ∃ K, t.s = K := ⟨_, rfl⟩
    rw [hN, hS]
    clear hN hS
    have B0 : Blk (w.alloc (Obj.cells #[.int .i64 3, .int .i64 N, .string S, .slice pe Ke ce, .slice pr Kr cr] 25)) w.heap.size #[.int .i64 3, .int .i64 N, .string S, .slice pe Ke ce, .slice pr Kr cr] 25 := Blk.new w _ _
    have hb0 : Below w.heap.size w (w.alloc (Obj.cells #[.int .i64 3, .int .i64 N, .string S, .slice pe Ke ce, .slice pr Kr cr] 25)) := (Below.refl _ _).alloc (Nat.le_refl _) _
    have hd1 : decide ((d : Int) > 100) = false := by simp; omega
    go_enter Try.func40, Try.ntmps40
    go_wp2_with fail
    generalize (w.alloc (Obj.cells #[.int .i64 3, .int .i64 N, .string S, .slice pe Ke ce, .slice pr Kr cr] 25)) = WA at *
    obtain ⟨b0, hb0'⟩ : ∃ b, w.heap.size = b := ⟨_, rfl⟩
    have HBZ : Hid (w.heap.size = b0) := hb0'
    rw [hb0'] at B0
    rw [hb0']
    clear hb0'
    go_loopw [5, 6] (fun mv iv wr => ∃ (i M : Nat), mv = .int .i64 (M : Int) ∧ iv = .int .i64 (i : Int) ∧ i ≤ Ke ∧ M ≤ 100 ∧ Hid (M = mxN n' (subs (t.es.take i))) ∧ Hid (Blk wr b0 #[.int .i64 3, .int .i64 N, .string S, .slice pe Ke ce, .slice pr Kr cr] 25) ∧ Below w.heap.size w wr) (fun _ iv _ => Ke - (intOf iv).toNat)
    case atStart => exact ⟨0, 0, rfl, rfl, by omega, by omega, (by simp [subs, mxN] : 0 = mxN n' (subs (t.es.take 0))), B0, hb0⟩
    case round =>
      clear B0 hb0
      obtain ⟨i, M, rfl, rfl, hi, hM, HM, HB, hbel⟩ := hrel
      have a3 := (HB.out.cell 3).trans rfl
      by_cases hlt : i < Ke
      · obtain ⟨x, hx⟩ : ∃ r, t.es[i]? = some r := ⟨_, List.getElem?_eq_getElem (by rw [HKe.out]; exact hlt)⟩
        obtain ⟨ge, off, rfl, cc⟩ := (EA.out.belowE hbel).get hx
        obtain ⟨vt, p0, p1, p2, p3⟩ := ens_at cc
        obtain ⟨pt, ct, rfl, t1, t2, -⟩ := p3.open
        have HX : Hid (t.es[i]? = some x) := hx
        obtain ⟨Xl, hXl⟩ : ∃ K, x.2.length = K := ⟨_, rfl⟩
        rw [hXl] at p1 p3 t1
        have HXl : Hid (x.2.length = Xl) := hXl
        have HT : Hid (TrsIn n' wr (.slice pt Xl ct) x.2) := p3
        have HP1 : Hid (wr.cell? ⟨ge, off + i * 2 + 1, none⟩ = some (.slice pt Xl ct)) := p1
        unfold maxLen at t2
        clear hx cc p0 p1 p2 p3 hXl
        go_wp2_with fail
        clear a3
        have HW : Hid (Below wr.heap.size wr wr) := Below.refl _ _
        obtain ⟨W, hW⟩ : ∃ W, wr = W := ⟨_, rfl⟩
        rw [hW] at HW HT HP1 HB hbel ⊢
        clear hW
        go_loopw [5, 7] (fun mv jv wz => ∃ (j M : Nat), mv = .int .i64 (M : Int) ∧ jv = .int .i64 (j : Int) ∧ j ≤ Xl ∧ M ≤ 100 ∧ Hid (M = mxN n' (subs (t.es.take i) ++ x.2.take j)) ∧ Below w.heap.size w wz ∧ Below W.heap.size W wz) (fun _ jv _ => Xl - (intOf jv).toNat)
        case atStart => exact ⟨0, M, rfl, rfl, by omega, hM, (by rw [HM.out]; simp : M = mxN n' (subs (t.es.take i) ++ x.2.take 0)), hbel, Below.refl _ _⟩
        case round =>
          clear hM HM hbel
          obtain ⟨j, M, rfl, rfl, hj, hM, HM, hbel, hbW⟩ := hrel
          have B1 := HB.out.below hbW
          have a3 := (B1.cell 3).trans rfl
          have p1 : wr.cell? ⟨ge, off + i * 2 + 1, none⟩ = some (.slice pt Xl ct) := (hbW.cell (World.block_lt_of_cell? _ _ HP1.out)).trans HP1.out
          by_cases hlt2 : j < Xl
          · obtain ⟨y, hy⟩ : ∃ r, x.2[j]? = some r := ⟨_, List.getElem?_eq_getElem (by rw [HXl.out]; exact hlt2)⟩
            obtain ⟨g3, off3, rfl, c1⟩ := (HT.out.belowT hbW).get hy
            obtain ⟨z1, n1, d1, z2, n2, d2, o0, o1, o2, o3, o4, o5⟩ := trs_get c1
            have HY : Hid (x.2[j]? = some y) := hy
            have HC : Hid (Calls Try.prog 40 #[.agg #[.int .i64 y.kind, .int .i64 y.n, .string y.s, .slice z1 n1 d1, .slice z2 n2 d2], .int .i64 ((d : Int) + 1)] wr fun e w' => e = .returned (.int .i64 (dpN n' y : Nat)) ∧ Below wr.heap.size wr w') := HI.out y _ (d + 1) wr o5 (by omega)
            clear c1 hy o5 B1
            go_wp2_with fail
            refine HC.out.mono ?_
            rintro e w2 ⟨rfl, hb2⟩
            have HS : Hid (mxN n' (subs (t.es.take i) ++ x.2.take (j + 1)) = max M (dpN n' y)) := (by rw [HM.out, mx_step n' HY.out] : mxN n' (subs (t.es.take i) ++ x.2.take (j + 1)) = max M (dpN n' y))
            have hyd := dpN_le n' y
            generalize dpN n' y = Y at *
            have hb3 := hbel.trans (hb2.mono hbel.size)
            have hb4 := hbW.trans (hb2.mono hbW.size)
            have hmx : max (M : Int) (Y : Int) = ((max M Y : Nat) : Int) := by omega
            clear o0 o1 o2 o3 o4 hb2 hbel hbW HC a3 p1
            go_wp2_with fail
            go_roundw
            case rel => exact ⟨j + 1, max M Y, by first | rfl | (rw [hmx]) | go_num, by go_num, by omega, by omega, HS.out.symm, hb3, hb4⟩
            case measure => simp [intOf]; omega
          · obtain rfl : j = Xl := by omega
            have HM2 : Hid (M = mxN n' (subs (t.es.take (i + 1)))) := (by rw [HM.out, subs_step HX.out, List.take_of_length_le (l := x.2) (by rw [HXl.out]; omega)] : M = mxN n' (subs (t.es.take (i + 1))))
            have HB5 : Hid (Blk wr b0 #[.int .i64 3, .int .i64 N, .string S, .slice (some ⟨ge, off, none⟩) Ke ce, .slice pr Kr cr] 25) := B1
            clear B1 HM HB
            go_wp2_with fail
            clear a3 p1
            go_roundw
            case rel => exact ⟨i + 1, M, rfl, by go_num, by omega, hM, HM2, HB5, hbel⟩
            case measure => simp [intOf]; omega
      · obtain rfl : i = Ke := by omega
        have hR : R = 1 + M := by rw [HR.out, HM.out, List.take_of_length_le (by rw [HKe.out]; omega)]
        subst hR
        have hmn : min ((M : Int) + 1) 101 = ((1 + M : Nat) : Int) := by omega
        clear HR HM HB
        go_wp2_with fail
        go_ret
        exact ⟨by first | rfl | (rw [hmn]) | go_num, hbel⟩
  · have h0 : dpN (n' + 1) t = 0 := by simp [dpN, hk]
    rw [h0]
    have hd1 : (t.kind != 3) = true := by simpa using hk
    generalize t.kind = K at *
    generalize t.n = N at *
    generalize t.s = S at *
    generalize t.rest.length = Kr at *
    clear h0 HKe
    go_enter Try.func40, Try.ntmps40
    go_wp2_with fail
    go_ret
    exact ⟨rfl, (Below.refl _ _).alloc (Nat.le_refl _) _⟩
theorem rdepth_any : ∀ (n : Nat) (t : Tr) (v : Value) (d : Nat) (w : World), TrIn n w v t → d + n ≤ 100 → Calls Try.prog 40 #[v, .int .i64 (d : Int)] w fun e w' => e = .returned (.int .i64 (dpN n t : Nat)) ∧ Below w.heap.size w w'
  | 0, _, _, _, _, h, _ => by obtain ⟨r, _, h⟩ := h; exact h.elim
  | n + 1, t, v, d, w, h, hd => rdepth_step n (fun t v d w h hd => rdepth_any n t v d w h hd) t v d w h hd
theorem rDepth_any (n : Nat) (t : Tr) (v : Value) (w : World) (h : TrIn n w v t) (hn : n ≤ 100) : Calls Try.prog 15 #[v] w fun e w' => e = .returned (.int .i64 (dpN n t : Nat)) ∧ Below w.heap.size w w' := by
  have hal : ∀ o, Below w.heap.size w (w.alloc o) := fun o => (Below.refl _ _).alloc (Nat.le_refl _) _
  have HC : Hid (∀ W, Below w.heap.size w W → Calls Try.prog 40 #[v, .int .i64 0] W fun e w' => e = .returned (.int .i64 (dpN n t : Nat)) ∧ Below W.heap.size W w') := fun W hW => rdepth_any n t v 0 W (h.below hW) (by omega)
  obtain ⟨n', ve, vr, e0, rfl, -, -, -, -, ra, ea⟩ := h.open
  obtain ⟨pe, ce, rfl, -⟩ := ea.open
  obtain ⟨pr, cr, rfl, -⟩ := rest_holds ra
  generalize t.es.length = Ke at *
  generalize t.rest.length = Kr at *
  generalize dpN n t = R at *
  generalize t.kind = K at *
  generalize t.n = N at *
  generalize t.s = S at *
  clear h ra ea e0
  go_enter Try.func15, Try.ntmps15
  go_wp2_with fail
  refine (HC.out _ (hal _)).mono ?_
  rintro e w1 ⟨rfl, hb⟩
  have hbw : Below w.heap.size w w1 := (hal _).trans (hb.mono (by simp))
  clear hb HC
  go_wp2_with fail
  go_ret
  exact ⟨rfl, hbw⟩
end Go.Proofs.Ytgedelgdjcnogaa

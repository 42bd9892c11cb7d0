/- ValueSame answers true at every tree and two numbers. -/
import Derived.Test.YtgedelgdjcnogabVsNot
import Derived.Test.YtgedelgdjcnogabTvSmall
import Derived.Test.YtgedelgdjcnogabTvRSame
import Derived.Test.YtgedelgdjcnogabVaTree
import Derived.Test.YtgedelgdjcnogabVsOpen
import Derived.Test.YtgedelgdjcnogabLwPlaceV
import Derived.Test.YtgedelgdjcnogabJoinR
namespace Go.Proofs.Ytgedelgdjcnogab
open Go.ChangeShapes Go.WideShapes Go.ChangeAt Go.RowKit
set_option linter.unusedVariables false
set_option linter.unusedSimpArgs false
set_option maxRecDepth 20000

theorem ne_first {a b : Tr} (h : AliT a b → ¬ OkC a.es b.es) : a ≠ b := by
  rintro rfl
  refine h ⟨rfl, rfl, rfl, rfl, rfl⟩ fun i e f h1 h2 => ?_
  rw [h1] at h2
  cases h2
  exact ⟨rfl, rfl, fun k t u h3 h4 => by rw [h3] at h4; cases h4; exact ⟨rfl, rfl, rfl, rfl, rfl⟩⟩
theorem TrV.apt2 {n B : Nat} {w : World} {v : Value} {t : Tr} {bs : List Nat} (h : TrV n B w v t bs) : ∀ k ∈ bs, B ≤ k ∧ k < w.heap.size := by
  obtain ⟨r, _, _, h3⟩ := h
  exact h3.2
theorem row_one {w : World} {g : Nat} {r : List Value} {ty : TypeId} {s : Nat} (hb : Blk w g r.toArray ty) : RowG w (.slice (some ⟨g, 0, none⟩) 1 1) s [r] := by
  refine ⟨some ⟨g, 0, none⟩, 1, rfl, Nat.le_refl _, by decide, fun e => (by cases e), fun _ => ⟨g, 0, rfl, fun i c u j hi hj => ?_⟩⟩
  cases i with
  | zero =>
    obtain rfl : r = c := by simpa using hi
    simp only [Nat.zero_mul, Nat.zero_add]
    rw [hb.cell j]
    simpa using hj
  | succ i => simp at hi
theorem leafO {n B : Nat} (W : World) : TrO (n + 1) B W [.int .i64 1, .int .i64 0, .string ⟨#[]⟩, .slice none 0 0, .slice none 0 0] ⟨1, 0, ⟨#[]⟩, [], []⟩ [] :=
  ⟨.slice none 0 0, .slice none 0 0, [], [], rfl, ⟨by decide, by decide⟩, ⟨by decide, by decide⟩, by decide, (fun f hf => by cases hf), World.ownsRow_nil _ _ _ _, RowO.nil _ _ _ _ _, rfl⟩
theorem EntO.geB {n B : Nat} {w : World} {r : List Value} {t : Tr} {bs : List Nat} {i : Nat} {e : Int × List Tr} {ge ec : Nat} {va vr : Value} {rows rows' : List (List Value)} {bss bss' : List (List Nat)} (h : EntO n B w r t bs i e ge ec va vr rows rows' bss bss') : ∃ cg, w.heap[ge]? = some (.cells cg 33 (0, 0)) := by
  rcases h.row.own.2 with ⟨e2, _⟩ | ⟨g', cap, cur, e2, _, e3, _⟩
  · cases e2
  · simp only [Value.slice.injEq, Option.some.injEq, Addr.mk.injEq, and_true, true_and] at e2
    obtain ⟨rfl, rfl⟩ := e2
    exact ⟨cur, e3⟩
theorem EntO.vaB {n B : Nat} {w : World} {r : List Value} {t : Tr} {bs : List Nat} {i : Nat} {e : Int × List Tr} {ge ec : Nat} {va vr : Value} {rows rows' : List (List Value)} {bss bss' : List (List Nat)} (h : EntO n B w r t bs i e ge ec va vr rows rows' bss bss') {q : Nat} (hq : va.ownBlock = some q) : q ∈ bs := by
  rw [h.blk]
  exact List.mem_append.2 (.inr (List.mem_cons_of_mem _ (List.mem_flatten.2 ⟨_, List.mem_of_getElem? h.bi, List.mem_append.2 (.inl (mem_blkOf.2 hq))⟩)))
theorem kp_one (w : World) (g o : Nat) (u : Value) : Kp (fun q => q = g) w (w.setCell ⟨g, o, none⟩ u) := Kp.setCell (p := ⟨g, o, none⟩) (Kp.refl (fun q => q = g) w) (fun _ => by simp) u
theorem infoTv : (Try.prog.info? 25).map (fun i => (i.zero, i.size, i.bytes)) = some (some (.agg #[.int .i64 0, .int .i64 0, .string ⟨#[]⟩, .slice none 0 0, .slice none 0 0]), 5, 80) := by kernel_rfl
theorem infoRv : (Try.prog.info? 36).map (fun i => (i.zero, i.size, i.bytes)) = some (some (.agg #[.int .i64 0, .int .i64 0, .int .i64 0, .string ⟨#[]⟩]), 4, 40) := by kernel_rfl
set_option maxHeartbeats 8000000 in
theorem valueSame_walk (v : Value) (n : Nat) (t : Tr) (av hv : Int) (w : World) (h : TrIn n w v t) (gav : (Lit.int .i64 av).wf = true) (ghv : (Lit.int .i64 hv).wf = true) (hf : ∀ m, TrF m w v) :
    Calls Try.prog 3 #[v, .int .i64 av, .int .i64 hv] w fun e w' => e = .returned (.bool true) ∧ Below w.heap.size w w' := by
  have HAV : Hid (Is64 av ∧ Is64 hv) := ⟨bounds_i64 gav, bounds_i64 ghv⟩
  clear gav ghv
  have HS : Hid (∀ W, Below w.heap.size w W → Calls Try.prog 5 #[v] W fun e w' => SmallP t v W e ∧ Below W.heap.size W w') := fun W hW => small_any n t v W (h.below hW)
  have HF : Hid (∀ W, Below w.heap.size w W → TrF 13 W v) := fun W hW => (hf 13).below h hW
  clear hf
  obtain ⟨m, ve, vr, -, rfl, -, -, -, -, ra, ea⟩ := h.open
  obtain ⟨pe, ce, rfl, -⟩ := RowP.open ea
  obtain ⟨pr, cr, rfl, -⟩ := rest_holds ra
  clear ea ra h
  obtain ⟨Ke, hKe⟩ : ∃ z, t.es.length = z := ⟨_, rfl⟩
  obtain ⟨Kr, hKr⟩ : ∃ z, t.rest.length = z := ⟨_, rfl⟩
  obtain ⟨K, hK⟩ : ∃ z, t.kind = z := ⟨_, rfl⟩
  obtain ⟨N, hN⟩ : ∃ z, t.n = z := ⟨_, rfl⟩
  obtain ⟨S, hS⟩ : ∃ z, t.s = z := ⟨_, rfl⟩
  have HK : Hid (t.es.length = Ke ∧ t.rest.length = Kr ∧ t.kind = K ∧ t.n = N ∧ t.s = S) := ⟨hKe, hKr, hK, hN, hS⟩
  rw [hKe, hKr, hK, hN, hS] at HS HF ⊢
  clear hK hN hS hKe hKr
  have al : Below w.heap.size w (w.alloc (Obj.cells #[.int .i64 K, .int .i64 N, .string S, .slice pe Ke ce, .slice pr Kr cr] 25)) := (Below.refl _ _).alloc (Nat.le_refl _) _
  have HB : Hid (Blk (w.alloc (Obj.cells #[.int .i64 K, .int .i64 N, .string S, .slice pe Ke ce, .slice pr Kr cr] 25)) w.heap.size #[.int .i64 K, .int .i64 N, .string S, .slice pe Ke ce, .slice pr Kr cr] 25) := Blk.new w _ _
  go_enter Try.func3, Try.ntmps3
  go_wp2_with fail
  refine (HS.out _ al).mono ?_
  rintro e w1 ⟨⟨R, rfl, hR⟩, hb1⟩
  have hbw1 : Below w.heap.size w w1 := al.trans (hb1.mono al.size)
  have B1 : Blk w1 w.heap.size #[.int .i64 K, .int .i64 N, .string S, .slice pe Ke ce, .slice pr Kr cr] 25 := HB.out.below hb1
  have HRR : Hid (R = true → SmN 14 t ∧ cntN 14 t ≤ 200 ∧ TrIn 14 w1 (.agg #[.int .i64 K, .int .i64 N, .string S, .slice pe Ke ce, .slice pr Kr cr]) t) := fun hr => ⟨(hR hr).1, (hR hr).2.1, (hR hr).2.2.below hb1⟩
  clear hR hb1 al HB HS
  cases R with
  | false =>
    clear B1
    go_wp2_with fail
    refine (awake_any _).mono ?_
    rintro ee wz ⟨rfl, hwz⟩
    have hbz : Below w.heap.size w wz := hbw1.trans (hwz.mono hbw1.size)
    go_wp2_with fail
    go_ret
    exact ⟨rfl, hbz⟩
  | true =>
    obtain ⟨ga1, ga2, ga3⟩ := HRR.out rfl
    have HT1 : Hid (TrIn 14 w1 (.agg #[.int .i64 K, .int .i64 N, .string S, .slice pe Ke ce, .slice pr Kr cr]) t) := ga3
    have HSM : Hid (SmN 14 t ∧ cntN 14 t ≤ 200) := ⟨ga1, ga2⟩
    clear ga1 ga2 ga3 HRR
    have p0 := (B1.cell 0).trans rfl
    have p3 := (B1.cell 3).trans rfl
    by_cases h3 : ¬ K = 3
    · have d3 : (K != 3) = true := by simpa using h3
      clear B1 h3
      go_wp2_with fail
      refine (awake_any _).mono ?_
      rintro ee wz ⟨rfl, hwz⟩
      have hbz : Below w.heap.size w wz := hbw1.trans (hwz.mono hbw1.size)
      go_wp2_with fail
      go_ret
      exact ⟨rfl, hbz⟩
    replace h3 := Decidable.of_not_not h3
    subst h3
    by_cases h0 : Ke = 0
    · subst h0
      clear B1
      go_wp2_with fail
      refine (awake_any _).mono ?_
      rintro ee wz ⟨rfl, hwz⟩
      have hbz : Below w.heap.size w wz := hbw1.trans (hwz.mono hbw1.size)
      go_wp2_with fail
      go_ret
      exact ⟨rfl, hbz⟩
    have d0 : ((Ke : Int) == 0) = false := by simp; omega
    have HKE : Hid (Ke ≠ 0) := h0
    have p1 := (B1.cell 1).trans rfl
    have p2 := (B1.cell 2).trans rfl
    have p4 := (B1.cell 4).trans rfl
    clear h0
    go_wp2_with fail
    clear p0 p1 p2 p3 p4 d0
    refine Calls.mono (copy_any 14 t _ w1 HT1.out HSM.out.1) ?_
    rintro ee w2 ⟨vu, bs, rfl, C1, hb2⟩
    have hbw2 : Below w.heap.size w w2 := hbw1.trans (hb2.mono hbw1.size)
    obtain ⟨ge, ec, qr, dr, hvu⟩ := C1.form6 (by rw [HK.out.1]; exact HKE.out)
    rw [HK.out.1, HK.out.2.1, HK.out.2.2.1, HK.out.2.2.2.1, HK.out.2.2.2.2] at hvu
    subst hvu
    obtain ⟨D, hD⟩ : ∃ z, w1.heap.size = z := ⟨_, rfl⟩
    have HD1 : Hid (D ≤ w1.heap.size) := (by omega : D ≤ w1.heap.size)
    have HD2 : Hid (D ≤ w2.heap.size ∧ w.heap.size < D) := (by have h1 := hb2.size; have h2 := B1.lt; omega : D ≤ w2.heap.size ∧ w.heap.size < D)
    rw [hD] at C1
    have HAP : Hid (∀ k ∈ bs, D ≤ k ∧ k < w2.heap.size) := C1.apt2
    obtain ⟨b0, hb0⟩ : ∃ z, w.heap.size = z := ⟨_, rfl⟩
    have HBD : Hid (∀ W, Below D w1 W → TrIn 14 W (.agg #[.int .i64 3, .int .i64 N, .string S, .slice pe Ke ce, .slice pr Kr cr]) t ∧ Blk W b0 #[.int .i64 3, .int .i64 N, .string S, .slice pe Ke ce, .slice pr Kr cr] 25 ∧ Below w.heap.size w W) := fun W hW => by
      rw [← hD] at hW
      exact ⟨HT1.out.below hW, by rw [← hb0]; exact B1.below hW, hbw1.trans (hW.mono hbw1.size)⟩
    have hD2 : Below D w1 w2 := by rw [← hD]; exact hb2
    have B2 := (HBD.out _ hD2).2.1
    have HB0 : Hid (w.heap.size = b0) := hb0
    have al3 : Below w2.heap.size w2 (w2.alloc (Obj.cells #[.int .i64 3, .int .i64 N, .string S, .slice (some ⟨ge, 0, none⟩) Ke ec, .slice qr Kr dr] 25)) := (Below.refl _ _).alloc (Nat.le_refl _) _
    have hD3 : Below D w1 (w2.alloc (Obj.cells #[.int .i64 3, .int .i64 N, .string S, .slice (some ⟨ge, 0, none⟩) Ke ec, .slice qr Kr dr] 25)) := hD2.trans (al3.mono HD2.out.1)
    have HBU3 : Hid (Blk (w2.alloc (Obj.cells #[.int .i64 3, .int .i64 N, .string S, .slice (some ⟨ge, 0, none⟩) Ke ec, .slice qr Kr dr] 25)) w2.heap.size #[.int .i64 3, .int .i64 N, .string S, .slice (some ⟨ge, 0, none⟩) Ke ec, .slice qr Kr dr] 25) := Blk.new w2 _ _
    have HC3 : Hid (TrV 14 D (w2.alloc (Obj.cells #[.int .i64 3, .int .i64 N, .string S, .slice (some ⟨ge, 0, none⟩) Ke ec, .slice qr Kr dr] 25)) (.agg #[.int .i64 3, .int .i64 N, .string S, .slice (some ⟨ge, 0, none⟩) Ke ec, .slice qr Kr dr]) t bs) := C1.belowM al3
    have HF3 : Hid (TrF 13 (w2.alloc (Obj.cells #[.int .i64 3, .int .i64 N, .string S, .slice (some ⟨ge, 0, none⟩) Ke ec, .slice qr Kr dr] 25)) (.agg #[.int .i64 3, .int .i64 N, .string S, .slice pe Ke ce, .slice pr Kr cr])) := HF.out _ (HBD.out _ hD3).2.2
    have HWT : Hid (wtE 13 t.es ≤ 201) := (by
      have h1 := HSM.out.2
      have h2 : cntN 14 t = wtE 13 t.es := rfl
      omega : wtE 13 t.es ≤ 201)
    have HE5 : Hid (Ke ≤ 500) := (by rw [← HK.out.1]; exact HSM.out.1.2.2.1 : Ke ≤ 500)
    have hlb : b0 < w2.heap.size := B2.lt
    have x0 := (B2.cell 0).trans rfl
    have x1 := (B2.cell 1).trans rfl
    have x2 := (B2.cell 2).trans rfl
    have x3 := (B2.cell 3).trans rfl
    have x4 := (B2.cell 4).trans rfl
    simp only [hb0]
    clear hb0 C1 HT1 hD al3 B2 hb2 B1 hbw1
    go_wp2_with fail
    clear x0 x1 x2 x3 x4 hlb
    obtain ⟨b7, hb7⟩ : ∃ z, w2.heap.size = z := ⟨_, rfl⟩
    rw [hb7] at HBU3 HAP HD2
    simp only [hb7]
    clear hb7 hD2
    generalize w2.alloc (Obj.cells #[.int .i64 3, .int .i64 N, .string S, .slice (some ⟨ge, 0, none⟩) Ke ec, .slice qr Kr dr] 25) = w3 at *
    refine (same_any true 13 D t t _ _ w3 (HBD.out _ hD3).1 HC3.out.tr ⟨bs, HC3.out⟩ (fun _ => HF3.out) (by have := HWT.out; omega)).mono ?_
    rintro ee w4 ⟨⟨R, rfl, hR⟩, hb4⟩
    obtain rfl : R = true := hR.2 rfl
    have hD4 : Below D w1 w4 := hD3.trans (hb4.mono (by have := hD3.size; have := HD2.out; have := HBU3.out.lt; omega))
    have BU4 : Blk w4 b7 #[.int .i64 3, .int .i64 N, .string S, .slice (some ⟨ge, 0, none⟩) Ke ec, .slice qr Kr dr] 25 := HBU3.out.below hb4
    have HC4 : Hid (TrV 14 D w4 (.agg #[.int .i64 3, .int .i64 N, .string S, .slice (some ⟨ge, 0, none⟩) Ke ec, .slice qr Kr dr]) t bs) := HC3.out.belowM hb4
    clear hR hb4 HBU3 HC3 HF3 hD3 hbw2 HF
    go_upto_region 6 with fail
    have hS : Below w4.heap.size w4 w4.drew := (Below.refl _ _).drew
    have hK1 : (1 : Int) ≤ (Ke : Int) := by have := HKE.out; omega
    have hK2 : Ke ≤ 500 := HE5.out
    refine wp_region_held_drew (S := fun w' => Below w4.heap.size w4 w') (by kernel_rfl) hS (fun hS => ?_)
    refine rg_take 0 30 (.pointer (some ⟨b7, 3, none⟩)) _ rfl rfl (by kernel_rfl) (by kernel_rfl) (by kernel_rfl) (fun _ _ _ h => h) (by rfl) (fun w' hw' => ?_) hS (listed' := #[true, false, false, false, false, false, false, false, false]) (by kernel_rfl) rfl ?_
    · go_simp
    simp only [List.setIfInBounds_toArray, List.set_cons_zero, List.set_cons_succ]
    refine rg_take 1 31 (.slice (some ⟨ge, 0, none⟩) Ke ec) _ rfl rfl (by kernel_rfl) (by kernel_rfl) (by kernel_rfl) (fun _ _ _ h => h) (by rfl) (fun w' hw' => ?_) hS (listed' := #[true, true, false, false, false, false, false, false, false]) (by kernel_rfl) rfl ?_
    · have f3 := ((BU4.below hw').cell 3).trans rfl; go_simp
    simp only [List.setIfInBounds_toArray, List.set_cons_zero, List.set_cons_succ]
    refine rg_take 2 32 (.int .i64 av) _ rfl rfl (by kernel_rfl) (by kernel_rfl) (by kernel_rfl) (fun _ _ _ h => h) (by rfl) (fun w' hw' => ?_) hS (listed' := #[true, true, true, false, false, false, false, false, false]) (by kernel_rfl) rfl ?_
    · go_simp
    simp only [List.setIfInBounds_toArray, List.set_cons_zero, List.set_cons_succ]
    refine rg_take 3 33 (.pointer (some ⟨b7, 3, none⟩)) _ rfl rfl (by kernel_rfl) (by kernel_rfl) (by kernel_rfl) (fun _ _ _ h => h) (by rfl) (fun w' hw' => ?_) hS (listed' := #[true, true, true, true, false, false, false, false, false]) (by kernel_rfl) rfl ?_
    · go_simp
    simp only [List.setIfInBounds_toArray, List.set_cons_zero, List.set_cons_succ]
    refine rg_take 4 34 (.slice (some ⟨ge, 0, none⟩) Ke ec) _ rfl rfl (by kernel_rfl) (by kernel_rfl) (by kernel_rfl) (fun _ _ _ h => h) (by rfl) (fun w' hw' => ?_) hS (listed' := #[true, true, true, true, true, false, false, false, false]) (by kernel_rfl) rfl ?_
    · have f3 := ((BU4.below hw').cell 3).trans rfl; go_simp
    simp only [List.setIfInBounds_toArray, List.set_cons_zero, List.set_cons_succ]
    refine rg_take 5 35 (.int .i64 (Ke : Int)) _ rfl rfl (by kernel_rfl) (by kernel_rfl) (by kernel_rfl) (fun _ _ _ h => h) (by rfl) (fun w' hw' => ?_) hS (listed' := #[true, true, true, true, true, true, false, false, false]) (by kernel_rfl) rfl ?_
    · go_simp
    simp only [List.setIfInBounds_toArray, List.set_cons_zero, List.set_cons_succ]
    refine rg_call 6 36 9 #[.int .i64 av, .int .i64 (Ke : Int)] rfl rfl (by kernel_rfl) (by rfl) (listed' := #[true, true, true, true, true, true, true, false, false]) (by kernel_rfl) (fun W => by go_simp) ?_
    refine (lawPlace_any av Ke _ (by have := HAV.out.1; unfold Is64 at this; omega) (by have := HAV.out.1; unfold Is64 at this; omega) hK1 (by omega)).mono ?_
    rintro ee X1 ⟨i, rfl, hi, rfl⟩
    have hik : i < Ke := by omega
    refine ⟨_, rfl, hS, ?_⟩
    simp only [List.setIfInBounds_toArray, List.set_cons_zero, List.set_cons_succ]
    refine rg_take 7 37 (.pointer (some ⟨ge, i * 2, none⟩)) _ rfl rfl (by kernel_rfl) (by kernel_rfl) (by kernel_rfl) (fun _ _ _ h => h) (by rfl) (fun w' hw' => ?_) hS (listed' := #[true, true, true, true, true, true, true, true, false]) (by kernel_rfl) rfl ?_
    · go_simp
    simp only [List.setIfInBounds_toArray, List.set_cons_zero, List.set_cons_succ]
    refine rg_take 8 8 (.pointer (some ⟨ge, i * 2, none⟩)) _ rfl rfl (by kernel_rfl) (by kernel_rfl) (by kernel_rfl) (fun _ _ _ h => h) (by rfl) (fun w' hw' => ?_) hS (listed' := #[true, true, true, true, true, true, true, true, true]) (by kernel_rfl) rfl ?_
    · go_simp
    simp only [List.setIfInBounds_toArray, List.set_cons_zero, List.set_cons_succ]
    refine wpAnyH_done (by kernel_rfl) ?_ _
    clear hi hK1
    have HI : Hid (i < Ke) := hik
    go_wp2_with fail
    refine (lawPlace_any hv 4 _ (by have := HAV.out.2; unfold Is64 at this; omega) (by have := HAV.out.2; unfold Is64 at this; omega) (by omega) (by omega)).mono ?_
    rintro ee X1 ⟨j, rfl, hj, rfl⟩
    have al5 : Below w4.heap.size w4 w4.drew := hS
    have hD5 : Below D w1 w4.drew := hD4.trans (al5.mono (by have := hD4.size; have := HD2.out; have := BU4.lt; omega))
    have HBU5 : Hid (Blk w4.drew b7 #[.int .i64 3, .int .i64 N, .string S, .slice (some ⟨ge, 0, none⟩) Ke ec, .slice qr Kr dr] 25) := BU4.below al5
    have HC5 : Hid (TrV 14 D w4.drew (.agg #[.int .i64 3, .int .i64 N, .string S, .slice (some ⟨ge, 0, none⟩) Ke ec, .slice qr Kr dr]) t bs) := HC4.out.belowM al5
    clear hS al5 hD4 BU4 HC4 hik hK2
    generalize w4.drew = w5 at *
    obtain ⟨e, he⟩ : ∃ e, t.es[i]? = some e := ⟨_, List.getElem?_eq_getElem (by rw [HK.out.1]; exact HI.out)⟩
    have HE : Hid (t.es[i]? = some e) := he
    have HEN : Hid (∀ W, TrV 14 D W (.agg #[.int .i64 3, .int .i64 N, .string S, .slice (some ⟨ge, 0, none⟩) Ke ec, .slice qr Kr dr]) t bs → ∃ va rows rows' bss bss', EntO 13 D W [.int .i64 3, .int .i64 N, .string S, .slice (some ⟨ge, 0, none⟩) Ke ec, .slice qr Kr dr] t bs i e ge ec va (.slice qr Kr dr) rows rows' bss bss' ∧ Apt D W bs) := fun W hW => by
      obtain ⟨r, hr, hO, hap⟩ := hW
      simp only [Value.agg.injEq] at hr
      have hr2 := congrArg Array.toList hr
      simp only at hr2
      subst hr2
      obtain ⟨ge', ec', va, vr, rows, rows', bss, bss', hE⟩ := hO.ent hap.1 HE.out
      have hfo := hE.form
      simp only [List.cons.injEq, and_true, Value.slice.injEq, Option.some.injEq, Addr.mk.injEq] at hfo
      obtain ⟨-, -, -, ⟨rfl, -, rfl⟩, rfl⟩ := hfo
      exact ⟨va, rows, rows', bss, bss', hE, hap⟩
    clear he
    obtain rfl | rfl | rfl | rfl : j = 0 ∨ j = 1 ∨ j = 2 ∨ j = 3 := by omega
    · skip
      simp only [show ((0 : Nat) : Int) = 0 from rfl]
      obtain ⟨va, rows, rows', bss, bss', hE, hap⟩ := HEN.out _ HC5.out
      obtain ⟨c0, c1, f0, f1⟩ := hE.cells
      obtain ⟨x, hx⟩ : ∃ z, e.1 = z := ⟨_, rfl⟩
      rw [hx] at c0
      have HZ := xor_one x (by rw [← hx]; exact hE.e64)
      obtain ⟨z, hz⟩ : ∃ z, bits .xor .i64 x 1 = z := ⟨_, rfl⟩
      rw [hz] at HZ
      obtain ⟨cs, hO6⟩ := hE.setTag HZ.1
      have kp6 : Kp (fun q => q = ge) w5 (w5.setCell ⟨ge, i * 2, none⟩ (.int .i64 z)) := kp_one _ _ _ _
      have hge : ge ∈ bs := by rw [hE.blk]; simp
      have hlt := HAP.out ge hge
      have hD6 : Below D w1 (w5.setCell ⟨ge, i * 2, none⟩ (.int .i64 z)) := hD5.trans (kp6.toBelow (by have := HBU5.out.lt; have := HD2.out; omega) (fun q e => by rw [e]; exact hlt.1))
      have BU6 : Blk (w5.setCell ⟨ge, i * 2, none⟩ (.int .i64 z)) b7 #[.int .i64 3, .int .i64 N, .string S, .slice (some ⟨ge, 0, none⟩) Ke ec, .slice qr Kr dr] 25 := HBU5.out.kp kp6 (fun e => by omega)
      obtain ⟨u, hu⟩ : ∃ u : Tr, { t with es := t.es.set i (z, e.2) } = u := ⟨_, rfl⟩
      have hue : u.es = t.es.set i (z, e.2) := by rw [← hu]
      have HU6 : Hid (TrIn 14 (w5.setCell ⟨ge, i * 2, none⟩ (.int .i64 z)) (.agg #[.int .i64 3, .int .i64 N, .string S, .slice (some ⟨ge, 0, none⟩) Ke ec, .slice qr Kr dr]) u) := (⟨_, rfl, by rw [← hu]; exact hO6.trC⟩ : TrIn 14 (w5.setCell ⟨ge, i * 2, none⟩ (.int .i64 z)) (.agg #[.int .i64 3, .int .i64 N, .string S, .slice (some ⟨ge, 0, none⟩) Ke ec, .slice qr Kr dr]) u)
      have HN1 : Hid (AliT t u → ¬ OkC t.es u.es) := fun _ => by rw [hue]; exact okc_no HE.out (set_at HE.out) (not_tag (by rw [hx]; exact HZ.2)).1
      have HN2 : Hid (AliT u t → ¬ OkC u.es t.es) := fun _ => by rw [hue]; exact okc_no (set_at HE.out) HE.out (not_tag (by rw [hx]; exact HZ.2)).2
      have HW2 : Hid (wtE 13 u.es ≤ 400) := (by rw [hue, wt_tag HE.out]; have := HWT.out; omega : wtE 13 u.es ≤ 400)
      clear hO6 kp6 hlt hge hue hu HZ hx hE c1 f1 hap
      go_upto_region 17 with fail
      clear c0 f0 hz
      generalize (w5.setCell ⟨ge, i * 2, none⟩ (.int .i64 z)) = w6 at *
      go_upto_region 17 with fail
      have BA6 : Blk w6 b0 #[.int .i64 3, .int .i64 N, .string S, .slice pe Ke ce, .slice pr Kr cr] 25 := (HBD.out _ hD6).2.1
      have hbw6 : Below w.heap.size w w6 := (HBD.out _ hD6).2.2
      have HT6 : Hid (TrIn 14 w6 (.agg #[.int .i64 3, .int .i64 N, .string S, .slice pe Ke ce, .slice pr Kr cr]) t) := (HBD.out _ hD6).1
      have HV1 : Hid (∀ W, Below w6.heap.size w6 W → Calls Try.prog 8 #[.agg #[.int .i64 3, .int .i64 N, .string S, .slice pe Ke ce, .slice pr Kr cr], .agg #[.int .i64 3, .int .i64 N, .string S, .slice (some ⟨ge, 0, none⟩) Ke ec, .slice qr Kr dr]] W fun e w' => Says (t = u) e ∧ Below W.heap.size W w') := fun W hW => same_all false 13 0 t u _ _ W (HT6.out.below hW) (HU6.out.below hW) (fun hali => .inr (HN1.out hali)) (by have := HWT.out; omega)
      have HV2 : Hid (∀ W, Below w6.heap.size w6 W → Calls Try.prog 8 #[.agg #[.int .i64 3, .int .i64 N, .string S, .slice (some ⟨ge, 0, none⟩) Ke ec, .slice qr Kr dr], .agg #[.int .i64 3, .int .i64 N, .string S, .slice pe Ke ce, .slice pr Kr cr]] W fun e w' => Says (u = t) e ∧ Below W.heap.size W w') := fun W hW => same_all false 13 0 u t _ _ W (HU6.out.below hW) (HT6.out.below hW) (fun hali => .inr (HN2.out hali)) (by have := HW2.out; omega)
      have hS : Below w6.heap.size w6 w6.drew := (Below.refl _ _).drew
      refine wp_region_held_drew (S := fun w' => Below w6.heap.size w6 w') (by kernel_rfl) hS (fun hS => ?_)
      refine rg_take 0 91 (.agg #[.int .i64 3, .int .i64 N, .string S, .slice pe Ke ce, .slice pr Kr cr]) _ rfl rfl (by kernel_rfl) (by kernel_rfl) (by kernel_rfl) (fun _ _ _ h => h) (by rfl) (fun w' hw' => ?_) hS (listed' := #[true, false, false, false, false, false, false, false, false, false, false, false, false, false, false, false, false, false, false, false]) (by kernel_rfl) rfl ?_
      · have f0 := ((BA6.below hw').cell 0).trans rfl; have f1 := ((BA6.below hw').cell 1).trans rfl; have f2 := ((BA6.below hw').cell 2).trans rfl; have f3 := ((BA6.below hw').cell 3).trans rfl; have f4 := ((BA6.below hw').cell 4).trans rfl; go_simp
      simp only [List.setIfInBounds_toArray, List.set_cons_zero, List.set_cons_succ]
      refine rg_take 1 92 (.agg #[.int .i64 3, .int .i64 N, .string S, .slice (some ⟨ge, 0, none⟩) Ke ec, .slice qr Kr dr]) _ rfl rfl (by kernel_rfl) (by kernel_rfl) (by kernel_rfl) (fun _ _ _ h => h) (by rfl) (fun w' hw' => ?_) hS (listed' := #[true, true, false, false, false, false, false, false, false, false, false, false, false, false, false, false, false, false, false, false]) (by kernel_rfl) rfl ?_
      · have f0 := ((BU6.below hw').cell 0).trans rfl; have f1 := ((BU6.below hw').cell 1).trans rfl; have f2 := ((BU6.below hw').cell 2).trans rfl; have f3 := ((BU6.below hw').cell 3).trans rfl; have f4 := ((BU6.below hw').cell 4).trans rfl; go_simp
      simp only [List.setIfInBounds_toArray, List.set_cons_zero, List.set_cons_succ]
      refine rg_call 2 93 8 #[.agg #[.int .i64 3, .int .i64 N, .string S, .slice pe Ke ce, .slice pr Kr cr], .agg #[.int .i64 3, .int .i64 N, .string S, .slice (some ⟨ge, 0, none⟩) Ke ec, .slice qr Kr dr]] rfl rfl (by kernel_rfl) (by rfl) (listed' := #[true, true, true, false, false, false, false, false, false, false, false, false, false, false, false, false, false, false, false, false]) (by kernel_rfl) (fun W => by go_simp) ?_
      refine (HV1.out _ hS).mono ?_
      rintro ee X1 ⟨⟨R1, rfl, hR1⟩, hbX⟩
      obtain rfl : R1 = false := by cases R1; rfl; exact absurd (hR1.1 rfl) (ne_first HN1.out)
      clear hR1
      have hS0 := hS
      have hS : Below w6.heap.size w6 X1 := hS0.trans (hbX.mono hS0.size)
      clear hS0 hbX
      refine ⟨_, rfl, hS, ?_⟩
      simp only [List.setIfInBounds_toArray, List.set_cons_zero, List.set_cons_succ]
      refine rg_take 3 94 (.bool true) _ rfl rfl (by kernel_rfl) (by kernel_rfl) (by kernel_rfl) (fun _ _ _ h => h) (by rfl) (fun w' hw' => ?_) hS (listed' := #[true, true, true, true, false, false, false, false, false, false, false, false, false, false, false, false, false, false, false, false]) (by kernel_rfl) rfl ?_
      · go_simp
      simp only [List.setIfInBounds_toArray, List.set_cons_zero, List.set_cons_succ]
      refine rg_take 4 95 (.bool true) _ rfl rfl (by kernel_rfl) (by kernel_rfl) (by kernel_rfl) (fun _ _ _ h => h) (by rfl) (fun w' hw' => ?_) hS (listed' := #[true, true, true, true, true, false, false, false, false, false, false, false, false, false, false, false, false, false, false, false]) (by kernel_rfl) rfl ?_
      · go_simp
      simp only [List.setIfInBounds_toArray, List.set_cons_zero, List.set_cons_succ]
      refine rg_take 5 96 (.agg #[.int .i64 3, .int .i64 N, .string S, .slice (some ⟨ge, 0, none⟩) Ke ec, .slice qr Kr dr]) _ rfl rfl (by kernel_rfl) (by kernel_rfl) (by kernel_rfl) (fun _ _ _ h => h) (by rfl) (fun w' hw' => ?_) hS (listed' := #[true, true, true, true, true, true, false, false, false, false, false, false, false, false, false, false, false, false, false, false]) (by kernel_rfl) rfl ?_
      · have f0 := ((BU6.below hw').cell 0).trans rfl; have f1 := ((BU6.below hw').cell 1).trans rfl; have f2 := ((BU6.below hw').cell 2).trans rfl; have f3 := ((BU6.below hw').cell 3).trans rfl; have f4 := ((BU6.below hw').cell 4).trans rfl; go_simp
      simp only [List.setIfInBounds_toArray, List.set_cons_zero, List.set_cons_succ]
      refine rg_take 6 97 (.agg #[.int .i64 3, .int .i64 N, .string S, .slice pe Ke ce, .slice pr Kr cr]) _ rfl rfl (by kernel_rfl) (by kernel_rfl) (by kernel_rfl) (fun _ _ _ h => h) (by rfl) (fun w' hw' => ?_) hS (listed' := #[true, true, true, true, true, true, true, false, false, false, false, false, false, false, false, false, false, false, false, false]) (by kernel_rfl) rfl ?_
      · have f0 := ((BA6.below hw').cell 0).trans rfl; have f1 := ((BA6.below hw').cell 1).trans rfl; have f2 := ((BA6.below hw').cell 2).trans rfl; have f3 := ((BA6.below hw').cell 3).trans rfl; have f4 := ((BA6.below hw').cell 4).trans rfl; go_simp
      simp only [List.setIfInBounds_toArray, List.set_cons_zero, List.set_cons_succ]
      refine rg_call 7 98 8 #[.agg #[.int .i64 3, .int .i64 N, .string S, .slice (some ⟨ge, 0, none⟩) Ke ec, .slice qr Kr dr], .agg #[.int .i64 3, .int .i64 N, .string S, .slice pe Ke ce, .slice pr Kr cr]] rfl rfl (by kernel_rfl) (by rfl) (listed' := #[true, true, true, true, true, true, true, true, false, false, false, false, false, false, false, false, false, false, false, false]) (by kernel_rfl) (fun W => by go_simp) ?_
      refine (HV2.out _ hS).mono ?_
      rintro ee X2 ⟨⟨R2, rfl, hR2⟩, hbX⟩
      obtain rfl : R2 = false := by cases R2; rfl; exact absurd (hR2.1 rfl) (ne_first HN2.out)
      clear hR2
      have hS0 := hS
      have hS : Below w6.heap.size w6 X2 := hS0.trans (hbX.mono hS0.size)
      clear hS0 hbX
      refine ⟨_, rfl, hS, ?_⟩
      simp only [List.setIfInBounds_toArray, List.set_cons_zero, List.set_cons_succ]
      refine rg_take 8 99 (.bool true) _ rfl rfl (by kernel_rfl) (by kernel_rfl) (by kernel_rfl) (fun _ _ _ h => h) (by rfl) (fun w' hw' => ?_) hS (listed' := #[true, true, true, true, true, true, true, true, true, false, false, false, false, false, false, false, false, false, false, false]) (by kernel_rfl) rfl ?_
      · go_simp
      simp only [List.setIfInBounds_toArray, List.set_cons_zero, List.set_cons_succ]
      refine rg_take 9 100 (.bool true) _ rfl rfl (by kernel_rfl) (by kernel_rfl) (by kernel_rfl) (fun _ _ _ h => h) (by rfl) (fun w' hw' => ?_) hS (listed' := #[true, true, true, true, true, true, true, true, true, true, false, false, false, false, false, false, false, false, false, false]) (by kernel_rfl) rfl ?_
      · go_simp
      simp only [List.setIfInBounds_toArray, List.set_cons_zero, List.set_cons_succ]
      refine rg_take 10 101 (.bool true) _ rfl rfl (by kernel_rfl) (by kernel_rfl) (by kernel_rfl) (fun _ _ _ h => h) (by rfl) (fun w' hw' => ?_) hS (listed' := #[true, true, true, true, true, true, true, true, true, true, true, false, false, false, false, false, false, false, false, false]) (by kernel_rfl) rfl ?_
      · go_simp
      simp only [List.setIfInBounds_toArray, List.set_cons_zero, List.set_cons_succ]
      refine rg_take 11 102 (.agg #[.int .i64 3, .int .i64 N, .string S, .slice pe Ke ce, .slice pr Kr cr]) _ rfl rfl (by kernel_rfl) (by kernel_rfl) (by kernel_rfl) (fun _ _ _ h => h) (by rfl) (fun w' hw' => ?_) hS (listed' := #[true, true, true, true, true, true, true, true, true, true, true, true, false, false, false, false, false, false, false, false]) (by kernel_rfl) rfl ?_
      · have f0 := ((BA6.below hw').cell 0).trans rfl; have f1 := ((BA6.below hw').cell 1).trans rfl; have f2 := ((BA6.below hw').cell 2).trans rfl; have f3 := ((BA6.below hw').cell 3).trans rfl; have f4 := ((BA6.below hw').cell 4).trans rfl; go_simp
      simp only [List.setIfInBounds_toArray, List.set_cons_zero, List.set_cons_succ]
      refine rg_take 12 103 (.agg #[.int .i64 3, .int .i64 N, .string S, .slice pe Ke ce, .slice pr Kr cr]) _ rfl rfl (by kernel_rfl) (by kernel_rfl) (by kernel_rfl) (fun _ _ _ h => h) (by rfl) (fun w' hw' => ?_) hS (listed' := #[true, true, true, true, true, true, true, true, true, true, true, true, true, false, false, false, false, false, false, false]) (by kernel_rfl) rfl ?_
      · have f0 := ((BA6.below hw').cell 0).trans rfl; have f1 := ((BA6.below hw').cell 1).trans rfl; have f2 := ((BA6.below hw').cell 2).trans rfl; have f3 := ((BA6.below hw').cell 3).trans rfl; have f4 := ((BA6.below hw').cell 4).trans rfl; go_simp
      simp only [List.setIfInBounds_toArray, List.set_cons_zero, List.set_cons_succ]
      refine rg_call 13 104 7 #[.agg #[.int .i64 3, .int .i64 N, .string S, .slice pe Ke ce, .slice pr Kr cr]] rfl rfl (by kernel_rfl) (by rfl) (listed' := #[true, true, true, true, true, true, true, true, true, true, true, true, true, true, false, false, false, false, false, false]) (by kernel_rfl) (fun W => by go_simp) ?_
      refine Calls.mono (copy_any 14 t _ _ (HT6.out.below hS) HSM.out.1) ?_
      rintro ee X3 ⟨vq, bq, rfl, hq, hbX⟩
      have HQ : Hid (TrIn 14 X3 vq t) := hq.tr
      clear hq
      have hS0 := hS
      have hS : Below w6.heap.size w6 X3 := hS0.trans (hbX.mono hS0.size)
      clear hS0 hbX
      refine ⟨_, rfl, hS, ?_⟩
      simp only [List.setIfInBounds_toArray, List.set_cons_zero, List.set_cons_succ]
      refine rg_call 14 105 10 #[.agg #[.int .i64 3, .int .i64 N, .string S, .slice pe Ke ce, .slice pr Kr cr], vq] rfl rfl (by kernel_rfl) (by rfl) (listed' := #[true, true, true, true, true, true, true, true, true, true, true, true, true, true, true, false, false, false, false, false]) (by kernel_rfl) (fun W => by go_simp) ?_
      refine Calls.mono (rsame_any 14 14 t t _ _ X3 (HT6.out.below hS) HQ.out) ?_
      rintro ee X4 ⟨⟨R3, rfl, hR3⟩, hbX⟩
      obtain rfl : R3 = true := hR3.2 rfl
      clear hR3
      have hS0 := hS
      have hS : Below w6.heap.size w6 X4 := hS0.trans (hbX.mono hS0.size)
      clear hS0 hbX
      refine ⟨_, rfl, hS, ?_⟩
      simp only [List.setIfInBounds_toArray, List.set_cons_zero, List.set_cons_succ]
      refine rg_take 15 106 (.bool true) _ rfl rfl (by kernel_rfl) (by kernel_rfl) (by kernel_rfl) (fun _ _ _ h => h) (by rfl) (fun w' hw' => ?_) hS (listed' := #[true, true, true, true, true, true, true, true, true, true, true, true, true, true, true, true, false, false, false, false]) (by kernel_rfl) rfl ?_
      · go_simp
      simp only [List.setIfInBounds_toArray, List.set_cons_zero, List.set_cons_succ]
      refine rg_take 16 107 (.bool true) _ rfl rfl (by kernel_rfl) (by kernel_rfl) (by kernel_rfl) (fun _ _ _ h => h) (by rfl) (fun w' hw' => ?_) hS (listed' := #[true, true, true, true, true, true, true, true, true, true, true, true, true, true, true, true, true, false, false, false]) (by kernel_rfl) rfl ?_
      · go_simp
      simp only [List.setIfInBounds_toArray, List.set_cons_zero, List.set_cons_succ]
      refine rg_call 17 108 6 #[] rfl rfl (by kernel_rfl) (by rfl) (listed' := #[true, true, true, true, true, true, true, true, true, true, true, true, true, true, true, true, true, true, false, false]) (by kernel_rfl) (fun W => by go_simp) ?_
      refine (awake_any _).mono ?_
      rintro ee X5 ⟨rfl, hbX⟩
      have hS0 := hS
      have hS : Below w6.heap.size w6 X5 := hS0.trans (hbX.mono hS0.size)
      clear hS0 hbX
      refine ⟨_, rfl, hS, ?_⟩
      simp only [List.setIfInBounds_toArray, List.set_cons_zero, List.set_cons_succ]
      refine rg_take 18 109 (.bool true) _ rfl rfl (by kernel_rfl) (by kernel_rfl) (by kernel_rfl) (fun _ _ _ h => h) (by rfl) (fun w' hw' => ?_) hS (listed' := #[true, true, true, true, true, true, true, true, true, true, true, true, true, true, true, true, true, true, true, false]) (by kernel_rfl) rfl ?_
      · go_simp
      simp only [List.setIfInBounds_toArray, List.set_cons_zero, List.set_cons_succ]
      refine rg_take 19 6 (.bool true) _ rfl rfl (by kernel_rfl) (by kernel_rfl) (by kernel_rfl) (fun _ _ _ h => h) (by rfl) (fun w' hw' => ?_) hS (listed' := #[true, true, true, true, true, true, true, true, true, true, true, true, true, true, true, true, true, true, true, true]) (by kernel_rfl) rfl ?_
      · go_simp
      simp only [List.setIfInBounds_toArray, List.set_cons_zero, List.set_cons_succ]
      refine wpAnyH_done (by kernel_rfl) ?_ _
      have hbw9 : Below w.heap.size w X5 := hbw6.trans (hS.mono hbw6.size)
      clear hS BA6 BU6
      go_wp2_with fail
      go_ret
      exact ⟨rfl, hbw9⟩
    · skip
      simp only [show ((1 : Nat) : Int) = 1 from rfl]
      have al5 : Below w5.heap.size w5 (w5.alloc (Obj.cells #[.int .i64 1, .int .i64 0, .string ⟨#[]⟩, .slice none 0 0, .slice none 0 0] 25)) := (Below.refl _ _).alloc (Nat.le_refl _) _
      have hDa : Below D w1 (w5.alloc (Obj.cells #[.int .i64 1, .int .i64 0, .string ⟨#[]⟩, .slice none 0 0, .slice none 0 0] 25)) := hD5.trans (al5.mono (by have := HBU5.out.lt; have := HD2.out; omega))
      obtain ⟨va, rows, rows', bss, bss', hE, hap⟩ := HEN.out _ (HC5.out.belowM al5)
      obtain ⟨ta, tc, hva⟩ := own_form hE.trs.own
      obtain ⟨Tl, hTl⟩ : ∃ z, e.2.length = z := ⟨_, rfl⟩
      rw [hTl] at hva
      subst hva
      obtain ⟨-, c1, -, f1⟩ := hE.cells
      have hge : ge ∈ bs := by rw [hE.blk]; simp
      have hlt := HAP.out ge hge
      have hg5 : ge < w5.heap.size := by have := HBU5.out.lt; omega
      have c15 : w5.cell? ⟨ge, i * 2 + 1, none⟩ = some (.slice ta Tl tc) := (al5.cell (p := ⟨ge, i * 2 + 1, none⟩) hg5).symm.trans c1
      have hTl5 : Tl ≤ 70 := by
        rw [← hTl]
        exact (HSM.out.1.2.2.2.2 e (List.mem_of_getElem? HE.out)).1
      have BL : Blk (w5.alloc (Obj.cells #[.int .i64 1, .int .i64 0, .string ⟨#[]⟩, .slice none 0 0, .slice none 0 0] 25)) w5.heap.size #[.int .i64 1, .int .i64 0, .string ⟨#[]⟩, .slice none 0 0, .slice none 0 0] 25 := Blk.new w5 _ _
      have htr := hE.trs.own
      rw [hTl] at htr
      obtain ⟨v', W7, s1, s2, s3⟩ := run_joinG (w := (w5.alloc (Obj.cells #[.int .i64 1, .int .i64 0, .string ⟨#[]⟩, .slice none 0 0, .slice none 0 0] 25))) 31 31 25 5 80 _ Try.underlying31 infoTv rfl (by decide) D (.slice ta Tl tc) Tl _ htr (.slice (some ⟨w5.heap.size, 0, none⟩) 1 1) [[.int .i64 1, .int .i64 0, .string ⟨#[]⟩, .slice none 0 0, .slice none 0 0]] (row_one BL) (fun r hr => by
        obtain rfl := List.mem_singleton.1 hr
        rfl) (fun u hu => by
        simp only [List.flatten_cons, List.flatten_nil, List.append_nil, List.mem_cons, List.not_mem_nil, or_false] at hu
        rcases hu with rfl | rfl | rfl | rfl | rfl <;> rfl) (by simp only [List.length_singleton]; omega) (by decide) (Nat.le_trans HD1.out hDa.size)
      have HRUN : Hid _ := s1
      rw [List.length_singleton] at s2
      simp only [List.flatten_cons, List.flatten_nil, List.append_nil] at s2
      obtain ⟨na, nc, hv'⟩ := own_form s2
      subst hv'
      have BG5 : ∃ cg, (w5.alloc (Obj.cells #[.int .i64 1, .int .i64 0, .string ⟨#[]⟩, .slice none 0 0, .slice none 0 0] 25)).heap[ge]? = some (.cells cg 33 (0, 0)) := hE.geB
      obtain ⟨cg, hcg⟩ := BG5
      have hnge : ¬ (Value.slice ta Tl tc).ownBlock = some ge := own_ne hE.trs.own hcg (by decide)
      have hW7g : W7.heap[ge]? = some (.cells cg 33 (0, 0)) := (s3.block ge (by have := al5.size; omega) (fun e => hnge e.symm)).trans hcg
      have c17 : W7.cell? ⟨ge, i * 2 + 1, none⟩ = some (.slice ta Tl tc) := by
        rw [block_cell hcg] at c1
        rw [block_cell hW7g]
        exact c1
      have f17 : W7.frozen? ⟨ge, i * 2 + 1, none⟩ = false := block_froz hW7g _
      have hat : (Value.slice na (Tl + 1) nc).ownBlock ≠ some ge := own_ne s2 hW7g (by decide)
      obtain ⟨cs, hO6⟩ := hE.setTrees hap (x := ⟨1, 0, ⟨#[]⟩, [], []⟩) (rx := [.int .i64 1, .int .i64 0, .string ⟨#[]⟩, .slice none 0 0, .slice none 0 0]) (fun W => leafO W) rfl (by rw [hTl]; exact s2) s3 hat
      have kp7 : Kp (fun q => (Value.slice ta Tl tc).ownBlock = some q) (w5.alloc (Obj.cells #[.int .i64 1, .int .i64 0, .string ⟨#[]⟩, .slice none 0 0, .slice none 0 0] 25)) W7 := (Kp.refl _ _).grown s3 (fun q hq _ => hq)
      have hva7 : ∀ q, (Value.slice ta Tl tc).ownBlock = some q → D ≤ q ∧ q < b7 := fun q hq => HAP.out q (hE.vaB hq)
      have hD7 : Below D w1 W7 := hDa.trans (kp7.toBelow (Nat.le_trans HD1.out hDa.size) (fun q hq => (hva7 q hq).1))
      have BU7 : Blk W7 b7 #[.int .i64 3, .int .i64 N, .string S, .slice (some ⟨ge, 0, none⟩) Ke ec, .slice qr Kr dr] 25 := (HBU5.out.below al5).kp kp7 (fun hq => by have := (hva7 _ hq).2; omega)
      have kp8 : Kp (fun q => q = ge) W7 (W7.setCell ⟨ge, i * 2 + 1, none⟩ (.slice na (Tl + 1) nc)) := kp_one _ _ _ _
      have hD6 : Below D w1 (W7.setCell ⟨ge, i * 2 + 1, none⟩ (.slice na (Tl + 1) nc)) := hD7.trans (kp8.toBelow (Nat.le_trans HD1.out hD7.size) (fun q e => by rw [e]; exact hlt.1))
      have BU6 : Blk (W7.setCell ⟨ge, i * 2 + 1, none⟩ (.slice na (Tl + 1) nc)) b7 #[.int .i64 3, .int .i64 N, .string S, .slice (some ⟨ge, 0, none⟩) Ke ec, .slice qr Kr dr] 25 := BU7.kp kp8 (fun e => by omega)
      obtain ⟨u, hu⟩ : ∃ u : Tr, { t with es := t.es.set i (e.1, e.2 ++ [⟨1, 0, ⟨#[]⟩, [], []⟩]) } = u := ⟨_, rfl⟩
      have hue : u.es = t.es.set i (e.1, e.2 ++ [⟨1, 0, ⟨#[]⟩, [], []⟩]) := by rw [← hu]
      have HU6 : Hid (TrIn 14 (W7.setCell ⟨ge, i * 2 + 1, none⟩ (.slice na (Tl + 1) nc)) (.agg #[.int .i64 3, .int .i64 N, .string S, .slice (some ⟨ge, 0, none⟩) Ke ec, .slice qr Kr dr]) u) := (⟨_, rfl, by rw [← hu]; exact hO6.trC⟩ : TrIn 14 (W7.setCell ⟨ge, i * 2 + 1, none⟩ (.slice na (Tl + 1) nc)) (.agg #[.int .i64 3, .int .i64 N, .string S, .slice (some ⟨ge, 0, none⟩) Ke ec, .slice qr Kr dr]) u)
      have HN1 : Hid (AliT t u → ¬ OkC t.es u.es) := fun _ => by rw [hue]; exact okc_no HE.out (set_at HE.out) (not_more _).1
      have HN2 : Hid (AliT u t → ¬ OkC u.es t.es) := fun _ => by rw [hue]; exact okc_no (set_at HE.out) HE.out (not_more _).2
      have HW2 : Hid (wtE 13 u.es ≤ 400) := (by rw [hue]; have h1 := wt_more HE.out (d := 13) (x := ⟨1, 0, ⟨#[]⟩, [], []⟩) (by decide); have := HWT.out; omega : wtE 13 u.es ≤ 400)
      clear htr hO6 kp7 kp8 hlt hge hue hu hE hap s1 s2 s3 BL hcg hW7g hnge hat hva7 hD7 BU7 hTl hTl5 hDa c1 f1 al5 HEN HC5 HBU5 hD5
      generalize Tl + 1 = Tm at *
      go_upto_region 17 with (first | (at_builtin; refine wpList_ran rfl (append_run rfl rfl rfl HRUN.out) ?_) | fail)
      clear c15 c17 f17 HRUN hg5
      generalize (W7.setCell ⟨ge, i * 2 + 1, none⟩ (.slice na Tm nc)) = w6 at *
      go_upto_region 17 with fail
      have BA6 : Blk w6 b0 #[.int .i64 3, .int .i64 N, .string S, .slice pe Ke ce, .slice pr Kr cr] 25 := (HBD.out _ hD6).2.1
      have hbw6 : Below w.heap.size w w6 := (HBD.out _ hD6).2.2
      have HT6 : Hid (TrIn 14 w6 (.agg #[.int .i64 3, .int .i64 N, .string S, .slice pe Ke ce, .slice pr Kr cr]) t) := (HBD.out _ hD6).1
      have HV1 : Hid (∀ W, Below w6.heap.size w6 W → Calls Try.prog 8 #[.agg #[.int .i64 3, .int .i64 N, .string S, .slice pe Ke ce, .slice pr Kr cr], .agg #[.int .i64 3, .int .i64 N, .string S, .slice (some ⟨ge, 0, none⟩) Ke ec, .slice qr Kr dr]] W fun e w' => Says (t = u) e ∧ Below W.heap.size W w') := fun W hW => same_all false 13 0 t u _ _ W (HT6.out.below hW) (HU6.out.below hW) (fun hali => .inr (HN1.out hali)) (by have := HWT.out; omega)
      have HV2 : Hid (∀ W, Below w6.heap.size w6 W → Calls Try.prog 8 #[.agg #[.int .i64 3, .int .i64 N, .string S, .slice (some ⟨ge, 0, none⟩) Ke ec, .slice qr Kr dr], .agg #[.int .i64 3, .int .i64 N, .string S, .slice pe Ke ce, .slice pr Kr cr]] W fun e w' => Says (u = t) e ∧ Below W.heap.size W w') := fun W hW => same_all false 13 0 u t _ _ W (HU6.out.below hW) (HT6.out.below hW) (fun hali => .inr (HN2.out hali)) (by have := HW2.out; omega)
      have hS : Below w6.heap.size w6 w6.drew := (Below.refl _ _).drew
      refine wp_region_held_drew (S := fun w' => Below w6.heap.size w6 w') (by kernel_rfl) hS (fun hS => ?_)
      refine rg_take 0 91 (.agg #[.int .i64 3, .int .i64 N, .string S, .slice pe Ke ce, .slice pr Kr cr]) _ rfl rfl (by kernel_rfl) (by kernel_rfl) (by kernel_rfl) (fun _ _ _ h => h) (by rfl) (fun w' hw' => ?_) hS (listed' := #[true, false, false, false, false, false, false, false, false, false, false, false, false, false, false, false, false, false, false, false]) (by kernel_rfl) rfl ?_
      · have f0 := ((BA6.below hw').cell 0).trans rfl; have f1 := ((BA6.below hw').cell 1).trans rfl; have f2 := ((BA6.below hw').cell 2).trans rfl; have f3 := ((BA6.below hw').cell 3).trans rfl; have f4 := ((BA6.below hw').cell 4).trans rfl; go_simp
      simp only [List.setIfInBounds_toArray, List.set_cons_zero, List.set_cons_succ]
      refine rg_take 1 92 (.agg #[.int .i64 3, .int .i64 N, .string S, .slice (some ⟨ge, 0, none⟩) Ke ec, .slice qr Kr dr]) _ rfl rfl (by kernel_rfl) (by kernel_rfl) (by kernel_rfl) (fun _ _ _ h => h) (by rfl) (fun w' hw' => ?_) hS (listed' := #[true, true, false, false, false, false, false, false, false, false, false, false, false, false, false, false, false, false, false, false]) (by kernel_rfl) rfl ?_
      · have f0 := ((BU6.below hw').cell 0).trans rfl; have f1 := ((BU6.below hw').cell 1).trans rfl; have f2 := ((BU6.below hw').cell 2).trans rfl; have f3 := ((BU6.below hw').cell 3).trans rfl; have f4 := ((BU6.below hw').cell 4).trans rfl; go_simp
      simp only [List.setIfInBounds_toArray, List.set_cons_zero, List.set_cons_succ]
      refine rg_call 2 93 8 #[.agg #[.int .i64 3, .int .i64 N, .string S, .slice pe Ke ce, .slice pr Kr cr], .agg #[.int .i64 3, .int .i64 N, .string S, .slice (some ⟨ge, 0, none⟩) Ke ec, .slice qr Kr dr]] rfl rfl (by kernel_rfl) (by rfl) (listed' := #[true, true, true, false, false, false, false, false, false, false, false, false, false, false, false, false, false, false, false, false]) (by kernel_rfl) (fun W => by go_simp) ?_
      refine (HV1.out _ hS).mono ?_
      rintro ee X1 ⟨⟨R1, rfl, hR1⟩, hbX⟩
      obtain rfl : R1 = false := by cases R1; rfl; exact absurd (hR1.1 rfl) (ne_first HN1.out)
      clear hR1
      have hS0 := hS
      have hS : Below w6.heap.size w6 X1 := hS0.trans (hbX.mono hS0.size)
      clear hS0 hbX
      refine ⟨_, rfl, hS, ?_⟩
      simp only [List.setIfInBounds_toArray, List.set_cons_zero, List.set_cons_succ]
      refine rg_take 3 94 (.bool true) _ rfl rfl (by kernel_rfl) (by kernel_rfl) (by kernel_rfl) (fun _ _ _ h => h) (by rfl) (fun w' hw' => ?_) hS (listed' := #[true, true, true, true, false, false, false, false, false, false, false, false, false, false, false, false, false, false, false, false]) (by kernel_rfl) rfl ?_
      · go_simp
      simp only [List.setIfInBounds_toArray, List.set_cons_zero, List.set_cons_succ]
      refine rg_take 4 95 (.bool true) _ rfl rfl (by kernel_rfl) (by kernel_rfl) (by kernel_rfl) (fun _ _ _ h => h) (by rfl) (fun w' hw' => ?_) hS (listed' := #[true, true, true, true, true, false, false, false, false, false, false, false, false, false, false, false, false, false, false, false]) (by kernel_rfl) rfl ?_
      · go_simp
      simp only [List.setIfInBounds_toArray, List.set_cons_zero, List.set_cons_succ]
      refine rg_take 5 96 (.agg #[.int .i64 3, .int .i64 N, .string S, .slice (some ⟨ge, 0, none⟩) Ke ec, .slice qr Kr dr]) _ rfl rfl (by kernel_rfl) (by kernel_rfl) (by kernel_rfl) (fun _ _ _ h => h) (by rfl) (fun w' hw' => ?_) hS (listed' := #[true, true, true, true, true, true, false, false, false, false, false, false, false, false, false, false, false, false, false, false]) (by kernel_rfl) rfl ?_
      · have f0 := ((BU6.below hw').cell 0).trans rfl; have f1 := ((BU6.below hw').cell 1).trans rfl; have f2 := ((BU6.below hw').cell 2).trans rfl; have f3 := ((BU6.below hw').cell 3).trans rfl; have f4 := ((BU6.below hw').cell 4).trans rfl; go_simp
      simp only [List.setIfInBounds_toArray, List.set_cons_zero, List.set_cons_succ]
      refine rg_take 6 97 (.agg #[.int .i64 3, .int .i64 N, .string S, .slice pe Ke ce, .slice pr Kr cr]) _ rfl rfl (by kernel_rfl) (by kernel_rfl) (by kernel_rfl) (fun _ _ _ h => h) (by rfl) (fun w' hw' => ?_) hS (listed' := #[true, true, true, true, true, true, true, false, false, false, false, false, false, false, false, false, false, false, false, false]) (by kernel_rfl) rfl ?_
      · have f0 := ((BA6.below hw').cell 0).trans rfl; have f1 := ((BA6.below hw').cell 1).trans rfl; have f2 := ((BA6.below hw').cell 2).trans rfl; have f3 := ((BA6.below hw').cell 3).trans rfl; have f4 := ((BA6.below hw').cell 4).trans rfl; go_simp
      simp only [List.setIfInBounds_toArray, List.set_cons_zero, List.set_cons_succ]
      refine rg_call 7 98 8 #[.agg #[.int .i64 3, .int .i64 N, .string S, .slice (some ⟨ge, 0, none⟩) Ke ec, .slice qr Kr dr], .agg #[.int .i64 3, .int .i64 N, .string S, .slice pe Ke ce, .slice pr Kr cr]] rfl rfl (by kernel_rfl) (by rfl) (listed' := #[true, true, true, true, true, true, true, true, false, false, false, false, false, false, false, false, false, false, false, false]) (by kernel_rfl) (fun W => by go_simp) ?_
      refine (HV2.out _ hS).mono ?_
      rintro ee X2 ⟨⟨R2, rfl, hR2⟩, hbX⟩
      obtain rfl : R2 = false := by cases R2; rfl; exact absurd (hR2.1 rfl) (ne_first HN2.out)
      clear hR2
      have hS0 := hS
      have hS : Below w6.heap.size w6 X2 := hS0.trans (hbX.mono hS0.size)
      clear hS0 hbX
      refine ⟨_, rfl, hS, ?_⟩
      simp only [List.setIfInBounds_toArray, List.set_cons_zero, List.set_cons_succ]
      refine rg_take 8 99 (.bool true) _ rfl rfl (by kernel_rfl) (by kernel_rfl) (by kernel_rfl) (fun _ _ _ h => h) (by rfl) (fun w' hw' => ?_) hS (listed' := #[true, true, true, true, true, true, true, true, true, false, false, false, false, false, false, false, false, false, false, false]) (by kernel_rfl) rfl ?_
      · go_simp
      simp only [List.setIfInBounds_toArray, List.set_cons_zero, List.set_cons_succ]
      refine rg_take 9 100 (.bool true) _ rfl rfl (by kernel_rfl) (by kernel_rfl) (by kernel_rfl) (fun _ _ _ h => h) (by rfl) (fun w' hw' => ?_) hS (listed' := #[true, true, true, true, true, true, true, true, true, true, false, false, false, false, false, false, false, false, false, false]) (by kernel_rfl) rfl ?_
      · go_simp
      simp only [List.setIfInBounds_toArray, List.set_cons_zero, List.set_cons_succ]
      refine rg_take 10 101 (.bool true) _ rfl rfl (by kernel_rfl) (by kernel_rfl) (by kernel_rfl) (fun _ _ _ h => h) (by rfl) (fun w' hw' => ?_) hS (listed' := #[true, true, true, true, true, true, true, true, true, true, true, false, false, false, false, false, false, false, false, false]) (by kernel_rfl) rfl ?_
      · go_simp
      simp only [List.setIfInBounds_toArray, List.set_cons_zero, List.set_cons_succ]
      refine rg_take 11 102 (.agg #[.int .i64 3, .int .i64 N, .string S, .slice pe Ke ce, .slice pr Kr cr]) _ rfl rfl (by kernel_rfl) (by kernel_rfl) (by kernel_rfl) (fun _ _ _ h => h) (by rfl) (fun w' hw' => ?_) hS (listed' := #[true, true, true, true, true, true, true, true, true, true, true, true, false, false, false, false, false, false, false, false]) (by kernel_rfl) rfl ?_
      · have f0 := ((BA6.below hw').cell 0).trans rfl; have f1 := ((BA6.below hw').cell 1).trans rfl; have f2 := ((BA6.below hw').cell 2).trans rfl; have f3 := ((BA6.below hw').cell 3).trans rfl; have f4 := ((BA6.below hw').cell 4).trans rfl; go_simp
      simp only [List.setIfInBounds_toArray, List.set_cons_zero, List.set_cons_succ]
      refine rg_take 12 103 (.agg #[.int .i64 3, .int .i64 N, .string S, .slice pe Ke ce, .slice pr Kr cr]) _ rfl rfl (by kernel_rfl) (by kernel_rfl) (by kernel_rfl) (fun _ _ _ h => h) (by rfl) (fun w' hw' => ?_) hS (listed' := #[true, true, true, true, true, true, true, true, true, true, true, true, true, false, false, false, false, false, false, false]) (by kernel_rfl) rfl ?_
      · have f0 := ((BA6.below hw').cell 0).trans rfl; have f1 := ((BA6.below hw').cell 1).trans rfl; have f2 := ((BA6.below hw').cell 2).trans rfl; have f3 := ((BA6.below hw').cell 3).trans rfl; have f4 := ((BA6.below hw').cell 4).trans rfl; go_simp
      simp only [List.setIfInBounds_toArray, List.set_cons_zero, List.set_cons_succ]
      refine rg_call 13 104 7 #[.agg #[.int .i64 3, .int .i64 N, .string S, .slice pe Ke ce, .slice pr Kr cr]] rfl rfl (by kernel_rfl) (by rfl) (listed' := #[true, true, true, true, true, true, true, true, true, true, true, true, true, true, false, false, false, false, false, false]) (by kernel_rfl) (fun W => by go_simp) ?_
      refine Calls.mono (copy_any 14 t _ _ (HT6.out.below hS) HSM.out.1) ?_
      rintro ee X3 ⟨vq, bq, rfl, hq, hbX⟩
      have HQ : Hid (TrIn 14 X3 vq t) := hq.tr
      clear hq
      have hS0 := hS
      have hS : Below w6.heap.size w6 X3 := hS0.trans (hbX.mono hS0.size)
      clear hS0 hbX
      refine ⟨_, rfl, hS, ?_⟩
      simp only [List.setIfInBounds_toArray, List.set_cons_zero, List.set_cons_succ]
      refine rg_call 14 105 10 #[.agg #[.int .i64 3, .int .i64 N, .string S, .slice pe Ke ce, .slice pr Kr cr], vq] rfl rfl (by kernel_rfl) (by rfl) (listed' := #[true, true, true, true, true, true, true, true, true, true, true, true, true, true, true, false, false, false, false, false]) (by kernel_rfl) (fun W => by go_simp) ?_
      refine Calls.mono (rsame_any 14 14 t t _ _ X3 (HT6.out.below hS) HQ.out) ?_
      rintro ee X4 ⟨⟨R3, rfl, hR3⟩, hbX⟩
      obtain rfl : R3 = true := hR3.2 rfl
      clear hR3
      have hS0 := hS
      have hS : Below w6.heap.size w6 X4 := hS0.trans (hbX.mono hS0.size)
      clear hS0 hbX
      refine ⟨_, rfl, hS, ?_⟩
      simp only [List.setIfInBounds_toArray, List.set_cons_zero, List.set_cons_succ]
      refine rg_take 15 106 (.bool true) _ rfl rfl (by kernel_rfl) (by kernel_rfl) (by kernel_rfl) (fun _ _ _ h => h) (by rfl) (fun w' hw' => ?_) hS (listed' := #[true, true, true, true, true, true, true, true, true, true, true, true, true, true, true, true, false, false, false, false]) (by kernel_rfl) rfl ?_
      · go_simp
      simp only [List.setIfInBounds_toArray, List.set_cons_zero, List.set_cons_succ]
      refine rg_take 16 107 (.bool true) _ rfl rfl (by kernel_rfl) (by kernel_rfl) (by kernel_rfl) (fun _ _ _ h => h) (by rfl) (fun w' hw' => ?_) hS (listed' := #[true, true, true, true, true, true, true, true, true, true, true, true, true, true, true, true, true, false, false, false]) (by kernel_rfl) rfl ?_
      · go_simp
      simp only [List.setIfInBounds_toArray, List.set_cons_zero, List.set_cons_succ]
      refine rg_call 17 108 6 #[] rfl rfl (by kernel_rfl) (by rfl) (listed' := #[true, true, true, true, true, true, true, true, true, true, true, true, true, true, true, true, true, true, false, false]) (by kernel_rfl) (fun W => by go_simp) ?_
      refine (awake_any _).mono ?_
      rintro ee X5 ⟨rfl, hbX⟩
      have hS0 := hS
      have hS : Below w6.heap.size w6 X5 := hS0.trans (hbX.mono hS0.size)
      clear hS0 hbX
      refine ⟨_, rfl, hS, ?_⟩
      simp only [List.setIfInBounds_toArray, List.set_cons_zero, List.set_cons_succ]
      refine rg_take 18 109 (.bool true) _ rfl rfl (by kernel_rfl) (by kernel_rfl) (by kernel_rfl) (fun _ _ _ h => h) (by rfl) (fun w' hw' => ?_) hS (listed' := #[true, true, true, true, true, true, true, true, true, true, true, true, true, true, true, true, true, true, true, false]) (by kernel_rfl) rfl ?_
      · go_simp
      simp only [List.setIfInBounds_toArray, List.set_cons_zero, List.set_cons_succ]
      refine rg_take 19 6 (.bool true) _ rfl rfl (by kernel_rfl) (by kernel_rfl) (by kernel_rfl) (fun _ _ _ h => h) (by rfl) (fun w' hw' => ?_) hS (listed' := #[true, true, true, true, true, true, true, true, true, true, true, true, true, true, true, true, true, true, true, true]) (by kernel_rfl) rfl ?_
      · go_simp
      simp only [List.setIfInBounds_toArray, List.set_cons_zero, List.set_cons_succ]
      refine wpAnyH_done (by kernel_rfl) ?_ _
      have hbw9 : Below w.heap.size w X5 := hbw6.trans (hS.mono hbw6.size)
      clear hS BA6 BU6
      go_wp2_with fail
      go_ret
      exact ⟨rfl, hbw9⟩
    · skip
      simp only [show ((2 : Nat) : Int) = 2 from rfl]
      have al5 : Below w5.heap.size w5 (w5.alloc (Obj.cells #[.int .i64 3, .int .i64 0, .int .i64 0, .string ⟨#[]⟩] 36)) := (Below.refl _ _).alloc (Nat.le_refl _) _
      have hDa : Below D w1 (w5.alloc (Obj.cells #[.int .i64 3, .int .i64 0, .int .i64 0, .string ⟨#[]⟩] 36)) := hD5.trans (al5.mono (by have := HBU5.out.lt; have := HD2.out; omega))
      obtain ⟨va, rows, rows', bss, bss', hE, hap⟩ := HEN.out _ (HC5.out.belowM al5)
      have BU5 := HBU5.out
      have c15 := (BU5.cell 4).trans rfl
      have hb75 : b7 < w5.heap.size := BU5.lt
      have hKr5 : Kr ≤ 5000 := by rw [← HK.out.2.1]; exact HSM.out.1.2.1
      have BL : Blk (w5.alloc (Obj.cells #[.int .i64 3, .int .i64 0, .int .i64 0, .string ⟨#[]⟩] 36)) w5.heap.size #[.int .i64 3, .int .i64 0, .int .i64 0, .string ⟨#[]⟩] 36 := Blk.new w5 _ _
      have hro := hE.rest
      rw [HK.out.2.1] at hro
      obtain ⟨v', W7, s1, s2, s3⟩ := run_joinG (w := (w5.alloc (Obj.cells #[.int .i64 3, .int .i64 0, .int .i64 0, .string ⟨#[]⟩] 36))) 23 23 36 4 40 _ Try.underlying23 infoRv rfl (by decide) D (.slice qr Kr dr) Kr _ hro (.slice (some ⟨w5.heap.size, 0, none⟩) 1 1) [[.int .i64 3, .int .i64 0, .int .i64 0, .string ⟨#[]⟩]] (row_one BL) (fun r hr => by
        obtain rfl := List.mem_singleton.1 hr
        rfl) (fun u hu => by
        simp only [List.flatten_cons, List.flatten_nil, List.append_nil, List.mem_cons, List.not_mem_nil, or_false] at hu
        rcases hu with rfl | rfl | rfl | rfl <;> rfl) (by simp only [List.length_singleton]; omega) (by decide) (Nat.le_trans HD1.out hDa.size)
      have HRUN : Hid _ := s1
      rw [List.length_singleton] at s2
      simp only [List.flatten_cons, List.flatten_nil, List.append_nil] at s2
      obtain ⟨na, nc, hv'⟩ := own_form s2
      subst hv'
      have BU5a := BU5.below al5
      have hn7 : ¬ (Value.slice qr Kr dr).ownBlock = some b7 := own_ne hro BU5a (by decide)
      have kp7 : Kp (fun q => (Value.slice qr Kr dr).ownBlock = some q) (w5.alloc (Obj.cells #[.int .i64 3, .int .i64 0, .int .i64 0, .string ⟨#[]⟩] 36)) W7 := (Kp.refl _ _).grown s3 (fun q hq _ => hq)
      have hD7 : Below D w1 W7 := hDa.trans (kp7.toBelow (Nat.le_trans HD1.out hDa.size) (fun q hq => (own_lt hro hq).1))
      have BU7 : Blk W7 b7 #[.int .i64 3, .int .i64 N, .string S, .slice (some ⟨ge, 0, none⟩) Ke ec, .slice qr Kr dr] 25 := BU5a.kp kp7 hn7
      have c17 := (BU7.cell 4).trans rfl
      have f17 := BU7.froz 4
      have hat : ¬ (Value.slice na (Kr + 1) nc).ownBlock = some b7 := own_ne s2 BU7 (by decide)
      obtain ⟨cs, hO7, hcs⟩ := hE.setRest hap (f := ⟨3, 0, 0, ⟨#[]⟩⟩) ⟨⟨by decide, by decide⟩, ⟨by decide, by decide⟩, ⟨by decide, by decide⟩, by decide⟩ (v' := .slice na (Kr + 1) nc) (by rw [HK.out.2.1]; exact s2) s3
      have kp8 : Kp (fun q => q = b7) W7 (W7.setCell ⟨b7, 4, none⟩ (.slice na (Kr + 1) nc)) := kp_one _ _ _ _
      have hD6 : Below D w1 (W7.setCell ⟨b7, 4, none⟩ (.slice na (Kr + 1) nc)) := hD7.trans (kp8.toBelow (Nat.le_trans HD1.out hD7.size) (fun q e => by rw [e]; exact HD2.out.1))
      have BU6 : Blk (W7.setCell ⟨b7, 4, none⟩ (.slice na (Kr + 1) nc)) b7 #[.int .i64 3, .int .i64 N, .string S, .slice (some ⟨ge, 0, none⟩) Ke ec, .slice na (Kr + 1) nc] 25 := BU7.set 4 _ rfl
      have hO6 := hO7.sm (w' := (W7.setCell ⟨b7, 4, none⟩ (.slice na (Kr + 1) nc))) (fun k hk => kp8.block k (by
        rcases hcs k hk with h1 | h1
        · exact (own_lt s2 h1).2
        · exact Nat.lt_of_lt_of_le (hap.2 k h1).2 kp7.size) (fun e => by
        rcases hcs k hk with h1 | h1
        · exact hat (by rw [← e]; exact h1)
        · have := (HAP.out k h1).2
          omega))
      obtain ⟨u, hu⟩ : ∃ u : Tr, { t with rest := t.rest ++ [⟨3, 0, 0, ⟨#[]⟩⟩] } = u := ⟨_, rfl⟩
      have hue : u.rest = t.rest ++ [⟨3, 0, 0, ⟨#[]⟩⟩] ∧ u.es = t.es := by rw [← hu]; exact ⟨rfl, rfl⟩
      have HU6 : Hid (TrIn 14 (W7.setCell ⟨b7, 4, none⟩ (.slice na (Kr + 1) nc)) (.agg #[.int .i64 3, .int .i64 N, .string S, .slice (some ⟨ge, 0, none⟩) Ke ec, .slice na (Kr + 1) nc]) u) := (⟨_, rfl, by
        have h1 := hO6.trC
        rw [hu, HK.out.1, HK.out.2.2.1, HK.out.2.2.2.1, HK.out.2.2.2.2] at h1
        exact h1⟩ : TrIn 14 (W7.setCell ⟨b7, 4, none⟩ (.slice na (Kr + 1) nc)) (.agg #[.int .i64 3, .int .i64 N, .string S, .slice (some ⟨ge, 0, none⟩) Ke ec, .slice na (Kr + 1) nc]) u)
      have HN1 : Hid (AliT t u → ¬ OkC t.es u.es) := fun h => absurd (congrArg List.length h.2.2.2.2) (by rw [hue.1]; simp)
      have HN2 : Hid (AliT u t → ¬ OkC u.es t.es) := fun h => absurd (congrArg List.length h.2.2.2.2) (by rw [hue.1]; simp)
      have HW2 : Hid (wtE 13 u.es ≤ 400) := (by rw [hue.2]; have := HWT.out; omega : wtE 13 u.es ≤ 400)
      clear hO6 hO7 kp7 kp8 hcs hue hu hE hap s1 s2 s3 BL hn7 hat hD7 BU7 BU5 BU5a hKr5 hDa al5 HEN HC5 HBU5 hD5 hro
      generalize Kr + 1 = Km at *
      go_upto_region 17 with (first | (at_builtin; refine wpList_ran rfl (append_run rfl rfl rfl HRUN.out) ?_) | fail)
      clear c15 c17 f17 HRUN hb75
      generalize (W7.setCell ⟨b7, 4, none⟩ (.slice na Km nc)) = w6 at *
      go_upto_region 17 with fail
      have BA6 : Blk w6 b0 #[.int .i64 3, .int .i64 N, .string S, .slice pe Ke ce, .slice pr Kr cr] 25 := (HBD.out _ hD6).2.1
      have hbw6 : Below w.heap.size w w6 := (HBD.out _ hD6).2.2
      have HT6 : Hid (TrIn 14 w6 (.agg #[.int .i64 3, .int .i64 N, .string S, .slice pe Ke ce, .slice pr Kr cr]) t) := (HBD.out _ hD6).1
      have HV1 : Hid (∀ W, Below w6.heap.size w6 W → Calls Try.prog 8 #[.agg #[.int .i64 3, .int .i64 N, .string S, .slice pe Ke ce, .slice pr Kr cr], .agg #[.int .i64 3, .int .i64 N, .string S, .slice (some ⟨ge, 0, none⟩) Ke ec, .slice na Km nc]] W fun e w' => Says (t = u) e ∧ Below W.heap.size W w') := fun W hW => same_all false 13 0 t u _ _ W (HT6.out.below hW) (HU6.out.below hW) (fun hali => .inr (HN1.out hali)) (by have := HWT.out; omega)
      have HV2 : Hid (∀ W, Below w6.heap.size w6 W → Calls Try.prog 8 #[.agg #[.int .i64 3, .int .i64 N, .string S, .slice (some ⟨ge, 0, none⟩) Ke ec, .slice na Km nc], .agg #[.int .i64 3, .int .i64 N, .string S, .slice pe Ke ce, .slice pr Kr cr]] W fun e w' => Says (u = t) e ∧ Below W.heap.size W w') := fun W hW => same_all false 13 0 u t _ _ W (HU6.out.below hW) (HT6.out.below hW) (fun hali => .inr (HN2.out hali)) (by have := HW2.out; omega)
      have hS : Below w6.heap.size w6 w6.drew := (Below.refl _ _).drew
      refine wp_region_held_drew (S := fun w' => Below w6.heap.size w6 w') (by kernel_rfl) hS (fun hS => ?_)
      refine rg_take 0 91 (.agg #[.int .i64 3, .int .i64 N, .string S, .slice pe Ke ce, .slice pr Kr cr]) _ rfl rfl (by kernel_rfl) (by kernel_rfl) (by kernel_rfl) (fun _ _ _ h => h) (by rfl) (fun w' hw' => ?_) hS (listed' := #[true, false, false, false, false, false, false, false, false, false, false, false, false, false, false, false, false, false, false, false]) (by kernel_rfl) rfl ?_
      · have f0 := ((BA6.below hw').cell 0).trans rfl; have f1 := ((BA6.below hw').cell 1).trans rfl; have f2 := ((BA6.below hw').cell 2).trans rfl; have f3 := ((BA6.below hw').cell 3).trans rfl; have f4 := ((BA6.below hw').cell 4).trans rfl; go_simp
      simp only [List.setIfInBounds_toArray, List.set_cons_zero, List.set_cons_succ]
      refine rg_take 1 92 (.agg #[.int .i64 3, .int .i64 N, .string S, .slice (some ⟨ge, 0, none⟩) Ke ec, .slice na Km nc]) _ rfl rfl (by kernel_rfl) (by kernel_rfl) (by kernel_rfl) (fun _ _ _ h => h) (by rfl) (fun w' hw' => ?_) hS (listed' := #[true, true, false, false, false, false, false, false, false, false, false, false, false, false, false, false, false, false, false, false]) (by kernel_rfl) rfl ?_
      · have f0 := ((BU6.below hw').cell 0).trans rfl; have f1 := ((BU6.below hw').cell 1).trans rfl; have f2 := ((BU6.below hw').cell 2).trans rfl; have f3 := ((BU6.below hw').cell 3).trans rfl; have f4 := ((BU6.below hw').cell 4).trans rfl; go_simp
      simp only [List.setIfInBounds_toArray, List.set_cons_zero, List.set_cons_succ]
      refine rg_call 2 93 8 #[.agg #[.int .i64 3, .int .i64 N, .string S, .slice pe Ke ce, .slice pr Kr cr], .agg #[.int .i64 3, .int .i64 N, .string S, .slice (some ⟨ge, 0, none⟩) Ke ec, .slice na Km nc]] rfl rfl (by kernel_rfl) (by rfl) (listed' := #[true, true, true, false, false, false, false, false, false, false, false, false, false, false, false, false, false, false, false, false]) (by kernel_rfl) (fun W => by go_simp) ?_
      refine (HV1.out _ hS).mono ?_
      rintro ee X1 ⟨⟨R1, rfl, hR1⟩, hbX⟩
      obtain rfl : R1 = false := by cases R1; rfl; exact absurd (hR1.1 rfl) (ne_first HN1.out)
      clear hR1
      have hS0 := hS
      have hS : Below w6.heap.size w6 X1 := hS0.trans (hbX.mono hS0.size)
      clear hS0 hbX
      refine ⟨_, rfl, hS, ?_⟩
      simp only [List.setIfInBounds_toArray, List.set_cons_zero, List.set_cons_succ]
      refine rg_take 3 94 (.bool true) _ rfl rfl (by kernel_rfl) (by kernel_rfl) (by kernel_rfl) (fun _ _ _ h => h) (by rfl) (fun w' hw' => ?_) hS (listed' := #[true, true, true, true, false, false, false, false, false, false, false, false, false, false, false, false, false, false, false, false]) (by kernel_rfl) rfl ?_
      · go_simp
      simp only [List.setIfInBounds_toArray, List.set_cons_zero, List.set_cons_succ]
      refine rg_take 4 95 (.bool true) _ rfl rfl (by kernel_rfl) (by kernel_rfl) (by kernel_rfl) (fun _ _ _ h => h) (by rfl) (fun w' hw' => ?_) hS (listed' := #[true, true, true, true, true, false, false, false, false, false, false, false, false, false, false, false, false, false, false, false]) (by kernel_rfl) rfl ?_
      · go_simp
      simp only [List.setIfInBounds_toArray, List.set_cons_zero, List.set_cons_succ]
      refine rg_take 5 96 (.agg #[.int .i64 3, .int .i64 N, .string S, .slice (some ⟨ge, 0, none⟩) Ke ec, .slice na Km nc]) _ rfl rfl (by kernel_rfl) (by kernel_rfl) (by kernel_rfl) (fun _ _ _ h => h) (by rfl) (fun w' hw' => ?_) hS (listed' := #[true, true, true, true, true, true, false, false, false, false, false, false, false, false, false, false, false, false, false, false]) (by kernel_rfl) rfl ?_
      · have f0 := ((BU6.below hw').cell 0).trans rfl; have f1 := ((BU6.below hw').cell 1).trans rfl; have f2 := ((BU6.below hw').cell 2).trans rfl; have f3 := ((BU6.below hw').cell 3).trans rfl; have f4 := ((BU6.below hw').cell 4).trans rfl; go_simp
      simp only [List.setIfInBounds_toArray, List.set_cons_zero, List.set_cons_succ]
      refine rg_take 6 97 (.agg #[.int .i64 3, .int .i64 N, .string S, .slice pe Ke ce, .slice pr Kr cr]) _ rfl rfl (by kernel_rfl) (by kernel_rfl) (by kernel_rfl) (fun _ _ _ h => h) (by rfl) (fun w' hw' => ?_) hS (listed' := #[true, true, true, true, true, true, true, false, false, false, false, false, false, false, false, false, false, false, false, false]) (by kernel_rfl) rfl ?_
      · have f0 := ((BA6.below hw').cell 0).trans rfl; have f1 := ((BA6.below hw').cell 1).trans rfl; have f2 := ((BA6.below hw').cell 2).trans rfl; have f3 := ((BA6.below hw').cell 3).trans rfl; have f4 := ((BA6.below hw').cell 4).trans rfl; go_simp
      simp only [List.setIfInBounds_toArray, List.set_cons_zero, List.set_cons_succ]
      refine rg_call 7 98 8 #[.agg #[.int .i64 3, .int .i64 N, .string S, .slice (some ⟨ge, 0, none⟩) Ke ec, .slice na Km nc], .agg #[.int .i64 3, .int .i64 N, .string S, .slice pe Ke ce, .slice pr Kr cr]] rfl rfl (by kernel_rfl) (by rfl) (listed' := #[true, true, true, true, true, true, true, true, false, false, false, false, false, false, false, false, false, false, false, false]) (by kernel_rfl) (fun W => by go_simp) ?_
      refine (HV2.out _ hS).mono ?_
      rintro ee X2 ⟨⟨R2, rfl, hR2⟩, hbX⟩
      obtain rfl : R2 = false := by cases R2; rfl; exact absurd (hR2.1 rfl) (ne_first HN2.out)
      clear hR2
      have hS0 := hS
      have hS : Below w6.heap.size w6 X2 := hS0.trans (hbX.mono hS0.size)
      clear hS0 hbX
      refine ⟨_, rfl, hS, ?_⟩
      simp only [List.setIfInBounds_toArray, List.set_cons_zero, List.set_cons_succ]
      refine rg_take 8 99 (.bool true) _ rfl rfl (by kernel_rfl) (by kernel_rfl) (by kernel_rfl) (fun _ _ _ h => h) (by rfl) (fun w' hw' => ?_) hS (listed' := #[true, true, true, true, true, true, true, true, true, false, false, false, false, false, false, false, false, false, false, false]) (by kernel_rfl) rfl ?_
      · go_simp
      simp only [List.setIfInBounds_toArray, List.set_cons_zero, List.set_cons_succ]
      refine rg_take 9 100 (.bool true) _ rfl rfl (by kernel_rfl) (by kernel_rfl) (by kernel_rfl) (fun _ _ _ h => h) (by rfl) (fun w' hw' => ?_) hS (listed' := #[true, true, true, true, true, true, true, true, true, true, false, false, false, false, false, false, false, false, false, false]) (by kernel_rfl) rfl ?_
      · go_simp
      simp only [List.setIfInBounds_toArray, List.set_cons_zero, List.set_cons_succ]
      refine rg_take 10 101 (.bool true) _ rfl rfl (by kernel_rfl) (by kernel_rfl) (by kernel_rfl) (fun _ _ _ h => h) (by rfl) (fun w' hw' => ?_) hS (listed' := #[true, true, true, true, true, true, true, true, true, true, true, false, false, false, false, false, false, false, false, false]) (by kernel_rfl) rfl ?_
      · go_simp
      simp only [List.setIfInBounds_toArray, List.set_cons_zero, List.set_cons_succ]
      refine rg_take 11 102 (.agg #[.int .i64 3, .int .i64 N, .string S, .slice pe Ke ce, .slice pr Kr cr]) _ rfl rfl (by kernel_rfl) (by kernel_rfl) (by kernel_rfl) (fun _ _ _ h => h) (by rfl) (fun w' hw' => ?_) hS (listed' := #[true, true, true, true, true, true, true, true, true, true, true, true, false, false, false, false, false, false, false, false]) (by kernel_rfl) rfl ?_
      · have f0 := ((BA6.below hw').cell 0).trans rfl; have f1 := ((BA6.below hw').cell 1).trans rfl; have f2 := ((BA6.below hw').cell 2).trans rfl; have f3 := ((BA6.below hw').cell 3).trans rfl; have f4 := ((BA6.below hw').cell 4).trans rfl; go_simp
      simp only [List.setIfInBounds_toArray, List.set_cons_zero, List.set_cons_succ]
      refine rg_take 12 103 (.agg #[.int .i64 3, .int .i64 N, .string S, .slice pe Ke ce, .slice pr Kr cr]) _ rfl rfl (by kernel_rfl) (by kernel_rfl) (by kernel_rfl) (fun _ _ _ h => h) (by rfl) (fun w' hw' => ?_) hS (listed' := #[true, true, true, true, true, true, true, true, true, true, true, true, true, false, false, false, false, false, false, false]) (by kernel_rfl) rfl ?_
      · have f0 := ((BA6.below hw').cell 0).trans rfl; have f1 := ((BA6.below hw').cell 1).trans rfl; have f2 := ((BA6.below hw').cell 2).trans rfl; have f3 := ((BA6.below hw').cell 3).trans rfl; have f4 := ((BA6.below hw').cell 4).trans rfl; go_simp
      simp only [List.setIfInBounds_toArray, List.set_cons_zero, List.set_cons_succ]
      refine rg_call 13 104 7 #[.agg #[.int .i64 3, .int .i64 N, .string S, .slice pe Ke ce, .slice pr Kr cr]] rfl rfl (by kernel_rfl) (by rfl) (listed' := #[true, true, true, true, true, true, true, true, true, true, true, true, true, true, false, false, false, false, false, false]) (by kernel_rfl) (fun W => by go_simp) ?_
      refine Calls.mono (copy_any 14 t _ _ (HT6.out.below hS) HSM.out.1) ?_
      rintro ee X3 ⟨vq, bq, rfl, hq, hbX⟩
      have HQ : Hid (TrIn 14 X3 vq t) := hq.tr
      clear hq
      have hS0 := hS
      have hS : Below w6.heap.size w6 X3 := hS0.trans (hbX.mono hS0.size)
      clear hS0 hbX
      refine ⟨_, rfl, hS, ?_⟩
      simp only [List.setIfInBounds_toArray, List.set_cons_zero, List.set_cons_succ]
      refine rg_call 14 105 10 #[.agg #[.int .i64 3, .int .i64 N, .string S, .slice pe Ke ce, .slice pr Kr cr], vq] rfl rfl (by kernel_rfl) (by rfl) (listed' := #[true, true, true, true, true, true, true, true, true, true, true, true, true, true, true, false, false, false, false, false]) (by kernel_rfl) (fun W => by go_simp) ?_
      refine Calls.mono (rsame_any 14 14 t t _ _ X3 (HT6.out.below hS) HQ.out) ?_
      rintro ee X4 ⟨⟨R3, rfl, hR3⟩, hbX⟩
      obtain rfl : R3 = true := hR3.2 rfl
      clear hR3
      have hS0 := hS
      have hS : Below w6.heap.size w6 X4 := hS0.trans (hbX.mono hS0.size)
      clear hS0 hbX
      refine ⟨_, rfl, hS, ?_⟩
      simp only [List.setIfInBounds_toArray, List.set_cons_zero, List.set_cons_succ]
      refine rg_take 15 106 (.bool true) _ rfl rfl (by kernel_rfl) (by kernel_rfl) (by kernel_rfl) (fun _ _ _ h => h) (by rfl) (fun w' hw' => ?_) hS (listed' := #[true, true, true, true, true, true, true, true, true, true, true, true, true, true, true, true, false, false, false, false]) (by kernel_rfl) rfl ?_
      · go_simp
      simp only [List.setIfInBounds_toArray, List.set_cons_zero, List.set_cons_succ]
      refine rg_take 16 107 (.bool true) _ rfl rfl (by kernel_rfl) (by kernel_rfl) (by kernel_rfl) (fun _ _ _ h => h) (by rfl) (fun w' hw' => ?_) hS (listed' := #[true, true, true, true, true, true, true, true, true, true, true, true, true, true, true, true, true, false, false, false]) (by kernel_rfl) rfl ?_
      · go_simp
      simp only [List.setIfInBounds_toArray, List.set_cons_zero, List.set_cons_succ]
      refine rg_call 17 108 6 #[] rfl rfl (by kernel_rfl) (by rfl) (listed' := #[true, true, true, true, true, true, true, true, true, true, true, true, true, true, true, true, true, true, false, false]) (by kernel_rfl) (fun W => by go_simp) ?_
      refine (awake_any _).mono ?_
      rintro ee X5 ⟨rfl, hbX⟩
      have hS0 := hS
      have hS : Below w6.heap.size w6 X5 := hS0.trans (hbX.mono hS0.size)
      clear hS0 hbX
      refine ⟨_, rfl, hS, ?_⟩
      simp only [List.setIfInBounds_toArray, List.set_cons_zero, List.set_cons_succ]
      refine rg_take 18 109 (.bool true) _ rfl rfl (by kernel_rfl) (by kernel_rfl) (by kernel_rfl) (fun _ _ _ h => h) (by rfl) (fun w' hw' => ?_) hS (listed' := #[true, true, true, true, true, true, true, true, true, true, true, true, true, true, true, true, true, true, true, false]) (by kernel_rfl) rfl ?_
      · go_simp
      simp only [List.setIfInBounds_toArray, List.set_cons_zero, List.set_cons_succ]
      refine rg_take 19 6 (.bool true) _ rfl rfl (by kernel_rfl) (by kernel_rfl) (by kernel_rfl) (fun _ _ _ h => h) (by rfl) (fun w' hw' => ?_) hS (listed' := #[true, true, true, true, true, true, true, true, true, true, true, true, true, true, true, true, true, true, true, true]) (by kernel_rfl) rfl ?_
      · go_simp
      simp only [List.setIfInBounds_toArray, List.set_cons_zero, List.set_cons_succ]
      refine wpAnyH_done (by kernel_rfl) ?_ _
      have hbw9 : Below w.heap.size w X5 := hbw6.trans (hS.mono hbw6.size)
      clear hS BA6 BU6
      go_wp2_with fail
      go_ret
      exact ⟨rfl, hbw9⟩
    · skip
      simp only [show ((3 : Nat) : Int) = 3 from rfl]
      obtain ⟨va, rows, rows', bss, bss', hE, hap⟩ := HEN.out _ (HC5.out.belowM ((Below.refl _ _).drew : Below w5.heap.size w5 w5.drew))
      obtain ⟨ta, tc0, hva⟩ := own_form hE.trs.own
      obtain ⟨Tl, hTl⟩ : ∃ z, e.2.length = z := ⟨_, rfl⟩
      rw [hTl] at hva
      obtain ⟨-, c1, -, -⟩ := hE.cells
      have hge : ge ∈ bs := by rw [hE.blk]; simp
      have hlt := HAP.out ge hge
      by_cases hT0 : Tl = 0
      · subst hT0 hva
        have c15 : w5.cell? ⟨ge, i * 2 + 1, none⟩ = some (.slice ta 0 tc0) := c1
        have hbw5 := (HBD.out _ hD5).2.2
        clear c1 hE hap
        go_wp2_with fail
        refine (awake_any _).mono ?_
        rintro ee wz ⟨rfl, hwz⟩
        have hbz : Below w.heap.size w wz := hbw5.trans (hwz.mono hbw5.size)
        go_wp2_with fail
        go_ret
        exact ⟨rfl, hbz⟩
      obtain ⟨x, hx⟩ : ∃ x, e.2[0]? = some x := ⟨_, List.getElem?_eq_getElem (by omega)⟩
      obtain ⟨gt, tc, hva2, n1, nf, n64, hgt⟩ := hE.first hx
      rw [hTl] at hva2
      clear hva
      have c15 : w5.cell? ⟨ge, i * 2 + 1, none⟩ = some (.slice (some ⟨gt, 0, none⟩) Tl tc) := by rw [← hva2]; exact c1
      have d0 : ((Tl : Int) == 0) = false := by simp; omega
      have hTp : 0 < Tl := by omega
      obtain ⟨xn, hxn⟩ : ∃ z, x.n = z := ⟨_, rfl⟩
      have HZ := xor_one x.n n64
      obtain ⟨z, hz⟩ : ∃ z, bits .xor .i64 x.n 1 = z := ⟨_, rfl⟩
      rw [hz] at HZ
      obtain ⟨cs, hO6⟩ := hE.setN hx (by rw [hTl]; exact hva2) HZ.1
      rw [hxn] at hz n1
      have kp6 : Kp (fun q => q = gt) w5.drew (w5.drew.setCell ⟨gt, 1, none⟩ (.int .i64 z)) := kp_one _ _ _ _
      have hlg := HAP.out gt hgt
      have hDd : Below D w1 w5.drew := hD5.trans (((Below.refl _ _).drew : Below w5.heap.size w5 w5.drew).mono (by have := HBU5.out.lt; have := HD2.out; omega))
      have hD6 : Below D w1 (w5.drew.setCell ⟨gt, 1, none⟩ (.int .i64 z)) := hDd.trans (kp6.toBelow (Nat.le_trans HD1.out hDd.size) (fun q e => by rw [e]; exact hlg.1))
      have BU6 : Blk (w5.drew.setCell ⟨gt, 1, none⟩ (.int .i64 z)) b7 #[.int .i64 3, .int .i64 N, .string S, .slice (some ⟨ge, 0, none⟩) Ke ec, .slice qr Kr dr] 25 := (HBU5.out.below ((Below.refl _ _).drew : Below w5.heap.size w5 w5.drew)).kp kp6 (fun e => by omega)
      obtain ⟨u, hu⟩ : ∃ u : Tr, { t with es := t.es.set i (e.1, e.2.set 0 { x with n := z }) } = u := ⟨_, rfl⟩
      have hue : u.es = t.es.set i (e.1, e.2.set 0 { x with n := z }) := by rw [← hu]
      have HU6 : Hid (TrIn 14 (w5.drew.setCell ⟨gt, 1, none⟩ (.int .i64 z)) (.agg #[.int .i64 3, .int .i64 N, .string S, .slice (some ⟨ge, 0, none⟩) Ke ec, .slice qr Kr dr]) u) := (⟨_, rfl, by rw [← hu]; exact hO6.trC⟩ : TrIn 14 (w5.drew.setCell ⟨gt, 1, none⟩ (.int .i64 z)) (.agg #[.int .i64 3, .int .i64 N, .string S, .slice (some ⟨ge, 0, none⟩) Ke ec, .slice qr Kr dr]) u)
      have HN1 : Hid (AliT t u → ¬ OkC t.es u.es) := fun _ => by rw [hue]; exact okc_no HE.out (set_at HE.out) (not_n hx HZ.2).1
      have HN2 : Hid (AliT u t → ¬ OkC u.es t.es) := fun _ => by rw [hue]; exact okc_no (set_at HE.out) HE.out (not_n hx HZ.2).2
      have HW2 : Hid (wtE 13 u.es ≤ 400) := (by rw [hue, wt_n HE.out hx]; have := HWT.out; omega : wtE 13 u.es ≤ 400)
      have n15 : w5.cell? ⟨gt, 1, none⟩ = some (.int .i64 xn) := n1
      have nf5 : w5.drew.frozen? ⟨gt, 1, none⟩ = false := nf
      clear hO6 kp6 hlt hge hue hu HZ hE hap hx n64 hgt hlg hva2 c1 n1 nf hT0 hDd hxn HEN HC5 HBU5 hD5
      go_upto_region 10 with fail
      clear d0
      refine M_region (T := fun W => W.cell? ⟨ge, i * 2 + 1, none⟩ = some (.slice (some ⟨gt, 0, none⟩) Tl tc) ∧ W.cell? ⟨gt, 1, none⟩ = some (.int .i64 xn)) (m := 14) (by kernel_rfl) ?_
      have hS : w5.drew.cell? ⟨ge, i * 2 + 1, none⟩ = some (.slice (some ⟨gt, 0, none⟩) Tl tc) ∧ w5.drew.cell? ⟨gt, 1, none⟩ = some (.int .i64 xn) := ⟨c15, n15⟩
      refine M_take 0 47 (.pointer (some ⟨ge, i * 2, none⟩)) _ rfl rfl (by kernel_rfl) (by kernel_rfl) (by kernel_rfl) (by kernel_rfl) (by kernel_rfl) (fun _ _ _ h => h) (by rfl) (fun w' hw' => ?_) hS (listed' := #[true, false, false, false, false, false, false, false, false, false, false, false, false, false, false]) (by kernel_rfl) rfl ?_
      · go_simp
      simp only [List.setIfInBounds_toArray, List.set_cons_zero, List.set_cons_succ]
      refine M_take 1 48 (.pointer (some ⟨ge, i * 2, none⟩)) _ rfl rfl (by kernel_rfl) (by kernel_rfl) (by kernel_rfl) (by kernel_rfl) (by kernel_rfl) (fun _ _ _ h => h) (by rfl) (fun w' hw' => ?_) hS (listed' := #[true, true, false, false, false, false, false, false, false, false, false, false, false, false, false]) (by kernel_rfl) rfl ?_
      · go_simp
      simp only [List.setIfInBounds_toArray, List.set_cons_zero, List.set_cons_succ]
      refine M_take 2 49 (.pointer (some ⟨ge, i * 2 + 1, none⟩)) _ rfl rfl (by kernel_rfl) (by kernel_rfl) (by kernel_rfl) (by kernel_rfl) (by kernel_rfl) (fun _ _ _ h => h) (by rfl) (fun w' hw' => ?_) hS (listed' := #[true, true, true, false, false, false, false, false, false, false, false, false, false, false, false]) (by kernel_rfl) rfl ?_
      · go_simp
      simp only [List.setIfInBounds_toArray, List.set_cons_zero, List.set_cons_succ]
      refine M_take 3 50 (.slice (some ⟨gt, 0, none⟩) Tl tc) _ rfl rfl (by kernel_rfl) (by kernel_rfl) (by kernel_rfl) (by kernel_rfl) (by kernel_rfl) (fun _ _ _ h => h) (by rfl) (fun w' hw' => ?_) hS (listed' := #[true, true, true, true, false, false, false, false, false, false, false, false, false, false, false]) (by kernel_rfl) rfl ?_
      · obtain ⟨y0, y1⟩ := hw'; go_simp
      simp only [List.setIfInBounds_toArray, List.set_cons_zero, List.set_cons_succ]
      refine M_take 4 51 (.pointer (some ⟨ge, i * 2, none⟩)) _ rfl rfl (by kernel_rfl) (by kernel_rfl) (by kernel_rfl) (by kernel_rfl) (by kernel_rfl) (fun _ _ _ h => h) (by rfl) (fun w' hw' => ?_) hS (listed' := #[true, true, true, true, true, false, false, false, false, false, false, false, false, false, false]) (by kernel_rfl) rfl ?_
      · go_simp
      simp only [List.setIfInBounds_toArray, List.set_cons_zero, List.set_cons_succ]
      refine M_take 5 52 (.pointer (some ⟨ge, i * 2, none⟩)) _ rfl rfl (by kernel_rfl) (by kernel_rfl) (by kernel_rfl) (by kernel_rfl) (by kernel_rfl) (fun _ _ _ h => h) (by rfl) (fun w' hw' => ?_) hS (listed' := #[true, true, true, true, true, true, false, false, false, false, false, false, false, false, false]) (by kernel_rfl) rfl ?_
      · go_simp
      simp only [List.setIfInBounds_toArray, List.set_cons_zero, List.set_cons_succ]
      refine M_take 6 53 (.pointer (some ⟨ge, i * 2 + 1, none⟩)) _ rfl rfl (by kernel_rfl) (by kernel_rfl) (by kernel_rfl) (by kernel_rfl) (by kernel_rfl) (fun _ _ _ h => h) (by rfl) (fun w' hw' => ?_) hS (listed' := #[true, true, true, true, true, true, true, false, false, false, false, false, false, false, false]) (by kernel_rfl) rfl ?_
      · go_simp
      simp only [List.setIfInBounds_toArray, List.set_cons_zero, List.set_cons_succ]
      refine M_take 7 54 (.slice (some ⟨gt, 0, none⟩) Tl tc) _ rfl rfl (by kernel_rfl) (by kernel_rfl) (by kernel_rfl) (by kernel_rfl) (by kernel_rfl) (fun _ _ _ h => h) (by rfl) (fun w' hw' => ?_) hS (listed' := #[true, true, true, true, true, true, true, true, false, false, false, false, false, false, false]) (by kernel_rfl) rfl ?_
      · obtain ⟨y0, y1⟩ := hw'; go_simp
      simp only [List.setIfInBounds_toArray, List.set_cons_zero, List.set_cons_succ]
      refine M_take 8 55 (.pointer (some ⟨gt, 0, none⟩)) _ rfl rfl (by kernel_rfl) (by kernel_rfl) (by kernel_rfl) (by kernel_rfl) (by kernel_rfl) (fun _ _ _ h => h) (by rfl) (fun w' hw' => ?_) hS (listed' := #[true, true, true, true, true, true, true, true, true, false, false, false, false, false, false]) (by kernel_rfl) rfl ?_
      · go_simp
      simp only [List.setIfInBounds_toArray, List.set_cons_zero, List.set_cons_succ]
      refine M_take 9 56 (.pointer (some ⟨gt, 1, none⟩)) _ rfl rfl (by kernel_rfl) (by kernel_rfl) (by kernel_rfl) (by kernel_rfl) (by kernel_rfl) (fun _ _ _ h => h) (by rfl) (fun w' hw' => ?_) hS (listed' := #[true, true, true, true, true, true, true, true, true, true, false, false, false, false, false]) (by kernel_rfl) rfl ?_
      · go_simp
      simp only [List.setIfInBounds_toArray, List.set_cons_zero, List.set_cons_succ]
      refine M_take 10 57 (.int .i64 xn) _ rfl rfl (by kernel_rfl) (by kernel_rfl) (by kernel_rfl) (by kernel_rfl) (by kernel_rfl) (fun _ _ _ h => h) (by rfl) (fun w' hw' => ?_) hS (listed' := #[true, true, true, true, true, true, true, true, true, true, true, false, false, false, false]) (by kernel_rfl) rfl ?_
      · obtain ⟨y0, y1⟩ := hw'; go_simp
      simp only [List.setIfInBounds_toArray, List.set_cons_zero, List.set_cons_succ]
      refine M_take 11 58 (.int .i64 z) _ rfl rfl (by kernel_rfl) (by kernel_rfl) (by kernel_rfl) (by kernel_rfl) (by kernel_rfl) (fun _ _ _ h => h) (by rfl) (fun w' hw' => ?_) hS (listed' := #[true, true, true, true, true, true, true, true, true, true, true, true, false, false, false]) (by kernel_rfl) rfl ?_
      · go_simp
      simp only [List.setIfInBounds_toArray, List.set_cons_zero, List.set_cons_succ]
      refine M_run 12 59 (.pointer (some ⟨gt, 0, none⟩)) (w5.drew) rfl rfl (by kernel_rfl) (by rfl) (listed' := #[true, true, true, true, true, true, true, true, true, true, true, true, true, false, false]) (by kernel_rfl) (by go_simp) hS ?_
      simp only [List.setIfInBounds_toArray, List.set_cons_zero, List.set_cons_succ]
      refine M_take 13 60 (.pointer (some ⟨gt, 1, none⟩)) _ rfl rfl (by kernel_rfl) (by kernel_rfl) (by kernel_rfl) (by kernel_rfl) (by kernel_rfl) (fun _ _ _ h => h) (by rfl) (fun w' hw' => ?_) hS (listed' := #[true, true, true, true, true, true, true, true, true, true, true, true, true, true, false]) (by kernel_rfl) rfl ?_
      · go_simp
      simp only [List.setIfInBounds_toArray, List.set_cons_zero, List.set_cons_succ]
      have n16 : w5.drew.cell? ⟨gt, 1, none⟩ = some (.int .i64 xn) := n15
      refine M_store 14 (w5.drew.setCell ⟨gt, 1, none⟩ (.int .i64 z)) rfl rfl (by kernel_rfl) (by rfl) (listed' := #[true, true, true, true, true, true, true, true, true, true, true, true, true, true, true]) (by kernel_rfl) (by go_simp) (by kernel_rfl) ?_
      refine M_done (by kernel_rfl) ?_ _
      clear hS n15 n16 nf5 c15 hz hTp
      go_upto_region 17 with fail
      generalize (w5.drew.setCell ⟨gt, 1, none⟩ (.int .i64 z)) = w6 at *
      go_upto_region 17 with fail
      have BA6 : Blk w6 b0 #[.int .i64 3, .int .i64 N, .string S, .slice pe Ke ce, .slice pr Kr cr] 25 := (HBD.out _ hD6).2.1
      have hbw6 : Below w.heap.size w w6 := (HBD.out _ hD6).2.2
      have HT6 : Hid (TrIn 14 w6 (.agg #[.int .i64 3, .int .i64 N, .string S, .slice pe Ke ce, .slice pr Kr cr]) t) := (HBD.out _ hD6).1
      have HV1 : Hid (∀ W, Below w6.heap.size w6 W → Calls Try.prog 8 #[.agg #[.int .i64 3, .int .i64 N, .string S, .slice pe Ke ce, .slice pr Kr cr], .agg #[.int .i64 3, .int .i64 N, .string S, .slice (some ⟨ge, 0, none⟩) Ke ec, .slice qr Kr dr]] W fun e w' => Says (t = u) e ∧ Below W.heap.size W w') := fun W hW => same_all false 13 0 t u _ _ W (HT6.out.below hW) (HU6.out.below hW) (fun hali => .inr (HN1.out hali)) (by have := HWT.out; omega)
      have HV2 : Hid (∀ W, Below w6.heap.size w6 W → Calls Try.prog 8 #[.agg #[.int .i64 3, .int .i64 N, .string S, .slice (some ⟨ge, 0, none⟩) Ke ec, .slice qr Kr dr], .agg #[.int .i64 3, .int .i64 N, .string S, .slice pe Ke ce, .slice pr Kr cr]] W fun e w' => Says (u = t) e ∧ Below W.heap.size W w') := fun W hW => same_all false 13 0 u t _ _ W (HU6.out.below hW) (HT6.out.below hW) (fun hali => .inr (HN2.out hali)) (by have := HW2.out; omega)
      have hS : Below w6.heap.size w6 w6.drew := (Below.refl _ _).drew
      refine wp_region_held_drew (S := fun w' => Below w6.heap.size w6 w') (by kernel_rfl) hS (fun hS => ?_)
      refine rg_take 0 91 (.agg #[.int .i64 3, .int .i64 N, .string S, .slice pe Ke ce, .slice pr Kr cr]) _ rfl rfl (by kernel_rfl) (by kernel_rfl) (by kernel_rfl) (fun _ _ _ h => h) (by rfl) (fun w' hw' => ?_) hS (listed' := #[true, false, false, false, false, false, false, false, false, false, false, false, false, false, false, false, false, false, false, false]) (by kernel_rfl) rfl ?_
      · have f0 := ((BA6.below hw').cell 0).trans rfl; have f1 := ((BA6.below hw').cell 1).trans rfl; have f2 := ((BA6.below hw').cell 2).trans rfl; have f3 := ((BA6.below hw').cell 3).trans rfl; have f4 := ((BA6.below hw').cell 4).trans rfl; go_simp
      simp only [List.setIfInBounds_toArray, List.set_cons_zero, List.set_cons_succ]
      refine rg_take 1 92 (.agg #[.int .i64 3, .int .i64 N, .string S, .slice (some ⟨ge, 0, none⟩) Ke ec, .slice qr Kr dr]) _ rfl rfl (by kernel_rfl) (by kernel_rfl) (by kernel_rfl) (fun _ _ _ h => h) (by rfl) (fun w' hw' => ?_) hS (listed' := #[true, true, false, false, false, false, false, false, false, false, false, false, false, false, false, false, false, false, false, false]) (by kernel_rfl) rfl ?_
      · have f0 := ((BU6.below hw').cell 0).trans rfl; have f1 := ((BU6.below hw').cell 1).trans rfl; have f2 := ((BU6.below hw').cell 2).trans rfl; have f3 := ((BU6.below hw').cell 3).trans rfl; have f4 := ((BU6.below hw').cell 4).trans rfl; go_simp
      simp only [List.setIfInBounds_toArray, List.set_cons_zero, List.set_cons_succ]
      refine rg_call 2 93 8 #[.agg #[.int .i64 3, .int .i64 N, .string S, .slice pe Ke ce, .slice pr Kr cr], .agg #[.int .i64 3, .int .i64 N, .string S, .slice (some ⟨ge, 0, none⟩) Ke ec, .slice qr Kr dr]] rfl rfl (by kernel_rfl) (by rfl) (listed' := #[true, true, true, false, false, false, false, false, false, false, false, false, false, false, false, false, false, false, false, false]) (by kernel_rfl) (fun W => by go_simp) ?_
      refine (HV1.out _ hS).mono ?_
      rintro ee X1 ⟨⟨R1, rfl, hR1⟩, hbX⟩
      obtain rfl : R1 = false := by cases R1; rfl; exact absurd (hR1.1 rfl) (ne_first HN1.out)
      clear hR1
      have hS0 := hS
      have hS : Below w6.heap.size w6 X1 := hS0.trans (hbX.mono hS0.size)
      clear hS0 hbX
      refine ⟨_, rfl, hS, ?_⟩
      simp only [List.setIfInBounds_toArray, List.set_cons_zero, List.set_cons_succ]
      refine rg_take 3 94 (.bool true) _ rfl rfl (by kernel_rfl) (by kernel_rfl) (by kernel_rfl) (fun _ _ _ h => h) (by rfl) (fun w' hw' => ?_) hS (listed' := #[true, true, true, true, false, false, false, false, false, false, false, false, false, false, false, false, false, false, false, false]) (by kernel_rfl) rfl ?_
      · go_simp
      simp only [List.setIfInBounds_toArray, List.set_cons_zero, List.set_cons_succ]
      refine rg_take 4 95 (.bool true) _ rfl rfl (by kernel_rfl) (by kernel_rfl) (by kernel_rfl) (fun _ _ _ h => h) (by rfl) (fun w' hw' => ?_) hS (listed' := #[true, true, true, true, true, false, false, false, false, false, false, false, false, false, false, false, false, false, false, false]) (by kernel_rfl) rfl ?_
      · go_simp
      simp only [List.setIfInBounds_toArray, List.set_cons_zero, List.set_cons_succ]
      refine rg_take 5 96 (.agg #[.int .i64 3, .int .i64 N, .string S, .slice (some ⟨ge, 0, none⟩) Ke ec, .slice qr Kr dr]) _ rfl rfl (by kernel_rfl) (by kernel_rfl) (by kernel_rfl) (fun _ _ _ h => h) (by rfl) (fun w' hw' => ?_) hS (listed' := #[true, true, true, true, true, true, false, false, false, false, false, false, false, false, false, false, false, false, false, false]) (by kernel_rfl) rfl ?_
      · have f0 := ((BU6.below hw').cell 0).trans rfl; have f1 := ((BU6.below hw').cell 1).trans rfl; have f2 := ((BU6.below hw').cell 2).trans rfl; have f3 := ((BU6.below hw').cell 3).trans rfl; have f4 := ((BU6.below hw').cell 4).trans rfl; go_simp
      simp only [List.setIfInBounds_toArray, List.set_cons_zero, List.set_cons_succ]
      refine rg_take 6 97 (.agg #[.int .i64 3, .int .i64 N, .string S, .slice pe Ke ce, .slice pr Kr cr]) _ rfl rfl (by kernel_rfl) (by kernel_rfl) (by kernel_rfl) (fun _ _ _ h => h) (by rfl) (fun w' hw' => ?_) hS (listed' := #[true, true, true, true, true, true, true, false, false, false, false, false, false, false, false, false, false, false, false, false]) (by kernel_rfl) rfl ?_
      · have f0 := ((BA6.below hw').cell 0).trans rfl; have f1 := ((BA6.below hw').cell 1).trans rfl; have f2 := ((BA6.below hw').cell 2).trans rfl; have f3 := ((BA6.below hw').cell 3).trans rfl; have f4 := ((BA6.below hw').cell 4).trans rfl; go_simp
      simp only [List.setIfInBounds_toArray, List.set_cons_zero, List.set_cons_succ]
      refine rg_call 7 98 8 #[.agg #[.int .i64 3, .int .i64 N, .string S, .slice (some ⟨ge, 0, none⟩) Ke ec, .slice qr Kr dr], .agg #[.int .i64 3, .int .i64 N, .string S, .slice pe Ke ce, .slice pr Kr cr]] rfl rfl (by kernel_rfl) (by rfl) (listed' := #[true, true, true, true, true, true, true, true, false, false, false, false, false, false, false, false, false, false, false, false]) (by kernel_rfl) (fun W => by go_simp) ?_
      refine (HV2.out _ hS).mono ?_
      rintro ee X2 ⟨⟨R2, rfl, hR2⟩, hbX⟩
      obtain rfl : R2 = false := by cases R2; rfl; exact absurd (hR2.1 rfl) (ne_first HN2.out)
      clear hR2
      have hS0 := hS
      have hS : Below w6.heap.size w6 X2 := hS0.trans (hbX.mono hS0.size)
      clear hS0 hbX
      refine ⟨_, rfl, hS, ?_⟩
      simp only [List.setIfInBounds_toArray, List.set_cons_zero, List.set_cons_succ]
      refine rg_take 8 99 (.bool true) _ rfl rfl (by kernel_rfl) (by kernel_rfl) (by kernel_rfl) (fun _ _ _ h => h) (by rfl) (fun w' hw' => ?_) hS (listed' := #[true, true, true, true, true, true, true, true, true, false, false, false, false, false, false, false, false, false, false, false]) (by kernel_rfl) rfl ?_
      · go_simp
      simp only [List.setIfInBounds_toArray, List.set_cons_zero, List.set_cons_succ]
      refine rg_take 9 100 (.bool true) _ rfl rfl (by kernel_rfl) (by kernel_rfl) (by kernel_rfl) (fun _ _ _ h => h) (by rfl) (fun w' hw' => ?_) hS (listed' := #[true, true, true, true, true, true, true, true, true, true, false, false, false, false, false, false, false, false, false, false]) (by kernel_rfl) rfl ?_
      · go_simp
      simp only [List.setIfInBounds_toArray, List.set_cons_zero, List.set_cons_succ]
      refine rg_take 10 101 (.bool true) _ rfl rfl (by kernel_rfl) (by kernel_rfl) (by kernel_rfl) (fun _ _ _ h => h) (by rfl) (fun w' hw' => ?_) hS (listed' := #[true, true, true, true, true, true, true, true, true, true, true, false, false, false, false, false, false, false, false, false]) (by kernel_rfl) rfl ?_
      · go_simp
      simp only [List.setIfInBounds_toArray, List.set_cons_zero, List.set_cons_succ]
      refine rg_take 11 102 (.agg #[.int .i64 3, .int .i64 N, .string S, .slice pe Ke ce, .slice pr Kr cr]) _ rfl rfl (by kernel_rfl) (by kernel_rfl) (by kernel_rfl) (fun _ _ _ h => h) (by rfl) (fun w' hw' => ?_) hS (listed' := #[true, true, true, true, true, true, true, true, true, true, true, true, false, false, false, false, false, false, false, false]) (by kernel_rfl) rfl ?_
      · have f0 := ((BA6.below hw').cell 0).trans rfl; have f1 := ((BA6.below hw').cell 1).trans rfl; have f2 := ((BA6.below hw').cell 2).trans rfl; have f3 := ((BA6.below hw').cell 3).trans rfl; have f4 := ((BA6.below hw').cell 4).trans rfl; go_simp
      simp only [List.setIfInBounds_toArray, List.set_cons_zero, List.set_cons_succ]
      refine rg_take 12 103 (.agg #[.int .i64 3, .int .i64 N, .string S, .slice pe Ke ce, .slice pr Kr cr]) _ rfl rfl (by kernel_rfl) (by kernel_rfl) (by kernel_rfl) (fun _ _ _ h => h) (by rfl) (fun w' hw' => ?_) hS (listed' := #[true, true, true, true, true, true, true, true, true, true, true, true, true, false, false, false, false, false, false, false]) (by kernel_rfl) rfl ?_
      · have f0 := ((BA6.below hw').cell 0).trans rfl; have f1 := ((BA6.below hw').cell 1).trans rfl; have f2 := ((BA6.below hw').cell 2).trans rfl; have f3 := ((BA6.below hw').cell 3).trans rfl; have f4 := ((BA6.below hw').cell 4).trans rfl; go_simp
      simp only [List.setIfInBounds_toArray, List.set_cons_zero, List.set_cons_succ]
      refine rg_call 13 104 7 #[.agg #[.int .i64 3, .int .i64 N, .string S, .slice pe Ke ce, .slice pr Kr cr]] rfl rfl (by kernel_rfl) (by rfl) (listed' := #[true, true, true, true, true, true, true, true, true, true, true, true, true, true, false, false, false, false, false, false]) (by kernel_rfl) (fun W => by go_simp) ?_
      refine Calls.mono (copy_any 14 t _ _ (HT6.out.below hS) HSM.out.1) ?_
      rintro ee X3 ⟨vq, bq, rfl, hq, hbX⟩
      have HQ : Hid (TrIn 14 X3 vq t) := hq.tr
      clear hq
      have hS0 := hS
      have hS : Below w6.heap.size w6 X3 := hS0.trans (hbX.mono hS0.size)
      clear hS0 hbX
      refine ⟨_, rfl, hS, ?_⟩
      simp only [List.setIfInBounds_toArray, List.set_cons_zero, List.set_cons_succ]
      refine rg_call 14 105 10 #[.agg #[.int .i64 3, .int .i64 N, .string S, .slice pe Ke ce, .slice pr Kr cr], vq] rfl rfl (by kernel_rfl) (by rfl) (listed' := #[true, true, true, true, true, true, true, true, true, true, true, true, true, true, true, false, false, false, false, false]) (by kernel_rfl) (fun W => by go_simp) ?_
      refine Calls.mono (rsame_any 14 14 t t _ _ X3 (HT6.out.below hS) HQ.out) ?_
      rintro ee X4 ⟨⟨R3, rfl, hR3⟩, hbX⟩
      obtain rfl : R3 = true := hR3.2 rfl
      clear hR3
      have hS0 := hS
      have hS : Below w6.heap.size w6 X4 := hS0.trans (hbX.mono hS0.size)
      clear hS0 hbX
      refine ⟨_, rfl, hS, ?_⟩
      simp only [List.setIfInBounds_toArray, List.set_cons_zero, List.set_cons_succ]
      refine rg_take 15 106 (.bool true) _ rfl rfl (by kernel_rfl) (by kernel_rfl) (by kernel_rfl) (fun _ _ _ h => h) (by rfl) (fun w' hw' => ?_) hS (listed' := #[true, true, true, true, true, true, true, true, true, true, true, true, true, true, true, true, false, false, false, false]) (by kernel_rfl) rfl ?_
      · go_simp
      simp only [List.setIfInBounds_toArray, List.set_cons_zero, List.set_cons_succ]
      refine rg_take 16 107 (.bool true) _ rfl rfl (by kernel_rfl) (by kernel_rfl) (by kernel_rfl) (fun _ _ _ h => h) (by rfl) (fun w' hw' => ?_) hS (listed' := #[true, true, true, true, true, true, true, true, true, true, true, true, true, true, true, true, true, false, false, false]) (by kernel_rfl) rfl ?_
      · go_simp
      simp only [List.setIfInBounds_toArray, List.set_cons_zero, List.set_cons_succ]
      refine rg_call 17 108 6 #[] rfl rfl (by kernel_rfl) (by rfl) (listed' := #[true, true, true, true, true, true, true, true, true, true, true, true, true, true, true, true, true, true, false, false]) (by kernel_rfl) (fun W => by go_simp) ?_
      refine (awake_any _).mono ?_
      rintro ee X5 ⟨rfl, hbX⟩
      have hS0 := hS
      have hS : Below w6.heap.size w6 X5 := hS0.trans (hbX.mono hS0.size)
      clear hS0 hbX
      refine ⟨_, rfl, hS, ?_⟩
      simp only [List.setIfInBounds_toArray, List.set_cons_zero, List.set_cons_succ]
      refine rg_take 18 109 (.bool true) _ rfl rfl (by kernel_rfl) (by kernel_rfl) (by kernel_rfl) (fun _ _ _ h => h) (by rfl) (fun w' hw' => ?_) hS (listed' := #[true, true, true, true, true, true, true, true, true, true, true, true, true, true, true, true, true, true, true, false]) (by kernel_rfl) rfl ?_
      · go_simp
      simp only [List.setIfInBounds_toArray, List.set_cons_zero, List.set_cons_succ]
      refine rg_take 19 6 (.bool true) _ rfl rfl (by kernel_rfl) (by kernel_rfl) (by kernel_rfl) (fun _ _ _ h => h) (by rfl) (fun w' hw' => ?_) hS (listed' := #[true, true, true, true, true, true, true, true, true, true, true, true, true, true, true, true, true, true, true, true]) (by kernel_rfl) rfl ?_
      · go_simp
      simp only [List.setIfInBounds_toArray, List.set_cons_zero, List.set_cons_succ]
      refine wpAnyH_done (by kernel_rfl) ?_ _
      have hbw9 : Below w.heap.size w X5 := hbw6.trans (hS.mono hbw6.size)
      clear hS BA6 BU6
      go_wp2_with fail
      go_ret
      exact ⟨rfl, hbw9⟩
end Go.Proofs.Ytgedelgdjcnogab

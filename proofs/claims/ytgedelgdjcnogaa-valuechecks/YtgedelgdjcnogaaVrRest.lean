/- The reference's Has and rest. -/
import Derived.Test.YtgedelgdjcnogaaTvRow
import Derived.Test.YtgedelgdjcnogaaTvOwn
import Derived.Test.YtgedelgdjcnogaaJoinR
import Derived.Test.YtgedelgdjcnogaaFdRef
import Derived.Test.YtgedelgdjcnogaaSoRrs
import Derived.Test.YtgedelgdjcnogaaQb
namespace Go.Proofs.Ytgedelgdjcnogaa
open Go.ChangeShapes Go.WideShapes Go.ChangeAt Go.RowKit
set_option linter.unusedVariables false
set_option linter.unusedSimpArgs false
set_option maxRecDepth 20000

theorem kept_cellV {w : World} {a : Addr} {u : Value} (h : w.cell? a = some u) (x : Kept w.heap.size w) : x.w.cell? a = some u := by
  rw [x.below.cell (World.block_lt_of_cell? _ _ h)]; exact h
theorem has_step {es : List (Int × List Tr)} {i : Nat} {e : Int × List Tr} {tag : Int} (h : es[i]? = some e) : hasB (es.take (i + 1)) tag = (hasB (es.take i) tag || e.1 == tag) := by
  have : es.take (i + 1) = es.take i ++ [e] := by rw [List.take_add_one, h]; rfl
  rw [this]; simp [hasB]
theorem has_yes {es : List (Int × List Tr)} {i : Nat} {e : Int × List Tr} (h : es[i]? = some e) : hasB es e.1 = true := by
  simp only [hasB, List.any_eq_true, beq_iff_eq]
  exact ⟨e, List.mem_of_getElem? h, rfl⟩
set_option maxHeartbeats 2000000 in
theorem rhas_any (n : Nat) (t : Tr) (v : Value) (tag : Int) (w : World) (ht : TrIn (n + 1) w v t) :
    Calls Try.prog 26 #[v, .int .i64 tag] w fun e w' => e = .returned (.bool (hasB t.es tag)) ∧ Below w.heap.size w w' := by
  obtain ⟨n', ve, vr, e0, rfl, ka, na, sa, fa, ra, ea⟩ := ht.open
  obtain rfl : n' = n := by omega
  clear e0 ht
  obtain ⟨pe, ce, rfl, u1, u2, -⟩ := ea.open
  obtain ⟨pr, cr, rfl, x1, x2, -⟩ := rest_holds ra
  unfold maxLen at u2 x2
  obtain ⟨Ke, hKe⟩ : ∃ K, t.es.length = K := ⟨_, rfl⟩
  rw [hKe] at u1 ⊢
  have EA : Hid (EnsIn n' w (.slice pe Ke ce) t.es) := (by rw [← hKe]; exact ea : EnsIn n' w (.slice pe Ke ce) t.es)
  have HKe : Hid (t.es.length = Ke) := hKe
  clear hKe ea ra fa ka na sa
  obtain ⟨A, hA⟩ : ∃ A, hasB t.es tag = A := ⟨_, rfl⟩
  rw [hA]
  have HA : Hid (hasB t.es tag = A) := hA
  clear hA
  generalize t.rest.length = Kr at *
  generalize t.kind = K at *
  generalize t.n = N at *
  generalize t.s = S at *
  have B0 : Blk (w.alloc (Obj.cells #[.int .i64 K, .int .i64 N, .string S, .slice pe Ke ce, .slice pr Kr cr] 25)) w.heap.size #[.int .i64 K, .int .i64 N, .string S, .slice pe Ke ce, .slice pr Kr cr] 25 := Blk.new w _ _
  have hb0 : Below w.heap.size w (w.alloc (Obj.cells #[.int .i64 K, .int .i64 N, .string S, .slice pe Ke ce, .slice pr Kr cr] 25)) := (Below.refl _ _).alloc (Nat.le_refl _) _
  go_enter Try.func26, Try.ntmps26
  go_wp2_with fail
  generalize (w.alloc (Obj.cells #[.int .i64 K, .int .i64 N, .string S, .slice pe Ke ce, .slice pr Kr cr] 25)) = WA at *
  obtain ⟨b0, hb0'⟩ : ∃ b, w.heap.size = b := ⟨_, rfl⟩
  rw [hb0'] at B0
  rw [hb0']
  have HBZ : Hid (w.heap.size = b0) := hb0'
  clear hb0'
  go_loopw [5] (fun iv wr => ∃ i : Nat, iv = .int .i64 (i : Int) ∧ i ≤ Ke ∧ Hid (hasB (t.es.take i) tag = false) ∧ WA = wr) (fun iv _ => Ke - (intOf iv).toNat)
  case atStart => exact ⟨0, rfl, by omega, (by simp [hasB] : hasB (t.es.take 0) tag = false), rfl⟩
  case round =>
    obtain ⟨i, rfl, hi, HM, rfl⟩ := hrel
    have a3 := (B0.cell 3).trans rfl
    by_cases hlt : i < Ke
    · obtain ⟨x, hx⟩ : ∃ r, t.es[i]? = some r := ⟨_, List.getElem?_eq_getElem (by rw [HKe.out]; exact hlt)⟩
      obtain ⟨ge, off, rfl, cc⟩ := (EA.out.belowE hb0).get hx
      obtain ⟨vt, p0, p1, p2, p3⟩ := ens_at cc
      by_cases hxt : x.1 = tag
      · have HH : Hid (true = A) := (hxt ▸ has_yes hx).symm.trans HA.out
        have hq : (x.1 == tag) = true := by simpa using hxt
        clear cc p1 p2 p3 hx hxt HM
        go_wp2_with fail
        go_ret
        exact ⟨congrArg (fun b => Ending.returned (Value.bool b)) HH.out, hb0⟩
      · have hq : (x.1 == tag) = false := by simpa using hxt
        have HM2 : Hid (hasB (t.es.take (i + 1)) tag = false) := (by rw [has_step hx, HM.out, hq]; rfl : hasB (t.es.take (i + 1)) tag = false)
        clear cc p1 p2 p3 hx hxt HM
        go_wp2_with fail
        clear a3 p0 hq
        go_roundw
        case rel => exact ⟨i + 1, by go_num, by omega, HM2, trivial⟩
        case measure => simp [intOf]; omega
    · have HH : Hid (false = A) := by
        have h1 := HM.out
        rw [List.take_of_length_le (by rw [HKe.out]; omega), HA.out] at h1
        exact h1.symm
      clear HM
      go_wp2_with fail
      go_ret
      exact ⟨congrArg (fun b => Ending.returned (Value.bool b)) HH.out, hb0⟩
theorem rowG_holdsW {w : World} {a : Option Addr} {N cap : Nat} {l : List Fd} (h : RowG w (.slice a N cap) 4 (fdRows l)) : HoldsR w a l := by
  obtain ⟨a', cap', e, _, _, _, h4⟩ := h.form
  simp only [Value.slice.injEq] at e
  obtain ⟨rfl, _, _⟩ := e
  intro b hb j u hu
  rw [rawCells_flat] at hu
  obtain ⟨i, c, k, h1, h2, rfl⟩ := flat_inv (fdRows l) (fdr_len l) j u hu
  obtain ⟨g, off, e, hc⟩ := h4 (by intro e; rw [e] at h1; simp at h1)
  rw [hb] at e
  cases e
  have := hc i c u k h1 h2
  rw [Nat.add_assoc] at this
  rw [Addr.add_lit]
  exact this
theorem rowG_holdsV {w : World} {a : Option Addr} {N cap : Nat} {l : List Fd} (h : RowG w (.slice a N cap) 4 (fdRows l)) : ∀ g off, a = some ⟨g, off, none⟩ → ∀ (i : Nat) (f : Fd), l[i]? = some f → w.cell? ⟨g, off + i * 4, none⟩ = some (.int .i64 f.tag) ∧ w.cell? ⟨g, off + i * 4 + 1, none⟩ = some (.int .i64 f.wire) ∧ w.cell? ⟨g, off + i * 4 + 2, none⟩ = some (.int .i64 f.n) ∧ w.cell? ⟨g, off + i * 4 + 3, none⟩ = some (.string f.b) := by
  obtain ⟨a', cap', e1, _, _, _, _, h6⟩ := rest_holds h
  simp only [Value.slice.injEq] at e1
  obtain ⟨rfl, _, _⟩ := e1
  exact h6
def restI (rest : List Fd) (es : List (Int × List Tr)) : Bool := rest.all fun f => okF f && !hasB es f.tag
theorem rest_no {rest : List Fd} {es : List (Int × List Tr)} {i : Nat} {f : Fd} (h : rest[i]? = some f) (hf : (okF f && !hasB es f.tag) = false) : restB rest es = false := by
  have : (rest.all fun f => okF f && !hasB es f.tag) = false := List.all_eq_false.2 ⟨f, List.mem_of_getElem? h, by rw [hf]; simp⟩
  rw [restB, this]; rfl
theorem rest_yes {rest : List Fd} {es : List (Int × List Tr)} (h : ∀ (i : Nat) (f : Fd), i < rest.length → rest[i]? = some f → (okF f && !hasB es f.tag) = true) : restB rest es = risesB rest := by
  have : (rest.all fun f => okF f && !hasB es f.tag) = true := List.all_eq_true.2 fun f hf => by
    obtain ⟨i, hi, e⟩ := List.getElem_of_mem hf
    exact h i f hi (by rw [List.getElem?_eq_getElem hi, e])
  rw [restB, this]; rfl
set_option maxHeartbeats 4000000 in
theorem rrest_any (n : Nat) (t : Tr) (v : Value) (w : World) (ht : TrIn (n + 1) w v t) :
    Calls Try.prog 55 #[v] w fun e w' => e = .returned (.bool (restB t.rest t.es)) ∧ Below w.heap.size w w' := by
  have HHS : Hid (∀ (tag : Int) W, Below w.heap.size w W → Calls Try.prog 26 #[v, .int .i64 tag] W fun e w' => e = .returned (.bool (hasB t.es tag)) ∧ Below W.heap.size W w') := fun tag W hW => rhas_any n t v tag W (ht.below hW)
  obtain ⟨n', ve, vr, e0, rfl, ka, na, sa, fa, ra, ea⟩ := ht.open
  obtain rfl : n' = n := by omega
  clear e0 ht
  obtain ⟨pe, ce, rfl, u1, u2, -⟩ := ea.open
  obtain ⟨pr, cr, rfl, x1, x2, x3, -⟩ := rest_holds ra
  obtain ⟨Kr, hKr⟩ : ∃ K, t.rest.length = K := ⟨_, rfl⟩
  rw [hKr] at x1 HHS ⊢
  have RA : Hid (RowG w (.slice pr Kr cr) 4 (fdRows t.rest)) := (by rw [← hKr]; exact ra : RowG w (.slice pr Kr cr) 4 (fdRows t.rest))
  have HKr : Hid (t.rest.length = Kr) := hKr
  have HRR : Hid (∀ W, Below w.heap.size w W → Calls Try.prog 64 #[.slice pr Kr cr] W fun e w' => e = .returned (.bool (risesB t.rest)) ∧ Below W.heap.size W w') := fun W hW => rrising_any pr t.rest Kr cr W hKr x3 x1 x2 (rowG_holdsW (RA.out.below hW))
  have HX3 : Hid (t.rest = [] ∨ ∃ g off, pr = some ⟨g, off, none⟩) := x3
  unfold maxLen at u2 x2
  clear hKr ea ra fa ka na sa x3
  obtain ⟨A, hA⟩ : ∃ A, restB t.rest t.es = A := ⟨_, rfl⟩
  rw [hA]
  have HA : Hid (restB t.rest t.es = A) := hA
  clear hA
  generalize t.es.length = Ke at *
  generalize t.kind = K at *
  generalize t.n = N at *
  generalize t.s = S at *
  have B0 : Blk (w.alloc (Obj.cells #[.int .i64 K, .int .i64 N, .string S, .slice pe Ke ce, .slice pr Kr cr] 25)) w.heap.size #[.int .i64 K, .int .i64 N, .string S, .slice pe Ke ce, .slice pr Kr cr] 25 := Blk.new w _ _
  have hb0 : Below w.heap.size w (w.alloc (Obj.cells #[.int .i64 K, .int .i64 N, .string S, .slice pe Ke ce, .slice pr Kr cr] 25)) := (Below.refl _ _).alloc (Nat.le_refl _) _
  go_enter Try.func55, Try.ntmps55
  go_wp2_with fail
  generalize (w.alloc (Obj.cells #[.int .i64 K, .int .i64 N, .string S, .slice pe Ke ce, .slice pr Kr cr] 25)) = WA at *
  obtain ⟨b0, hb0'⟩ : ∃ b, w.heap.size = b := ⟨_, rfl⟩
  rw [hb0'] at B0
  rw [hb0']
  have HBZ : Hid (w.heap.size = b0) := hb0'
  clear hb0'
  go_loopw [3] (fun iv wr => ∃ i : Nat, iv = .int .i64 (i : Int) ∧ i ≤ Kr ∧ Hid (∀ (j : Nat) (f : Fd), j < i → t.rest[j]? = some f → (okF f && !hasB t.es f.tag) = true) ∧ Hid (Blk wr b0 #[.int .i64 K, .int .i64 N, .string S, .slice pe Ke ce, .slice pr Kr cr] 25) ∧ Below w.heap.size w wr) (fun iv _ => Kr - (intOf iv).toNat)
  case atStart => exact ⟨0, rfl, by omega, (fun j f hj => absurd hj (by omega) : ∀ (j : Nat) (f : Fd), j < 0 → t.rest[j]? = some f → (okF f && !hasB t.es f.tag) = true), B0, hb0⟩
  case round =>
    clear B0 hb0
    obtain ⟨i, rfl, hi, HM, HB, hbel⟩ := hrel
    have a4 := (HB.out.cell 4).trans rfl
    by_cases hlt : i < Kr
    · obtain ⟨x, hx⟩ : ∃ r, t.rest[i]? = some r := ⟨_, List.getElem?_eq_getElem (by rw [HKr.out]; exact hlt)⟩
      obtain ⟨g, off, rfl⟩ : ∃ g off, pr = some ⟨g, off, none⟩ := by
        rcases HX3.out with h | h
        · rw [h] at hx; simp at hx
        · exact h
      obtain ⟨p0, p1, p2, p3⟩ := rowG_holdsV (RA.out.below hbel) g off rfl i x hx
      have a0 := (HB.out.cell 0).trans rfl
      have a1 := (HB.out.cell 1).trans rfl
      have a2 := (HB.out.cell 2).trans rfl
      have a3 := (HB.out.cell 3).trans rfl
      have HX : Hid (t.rest[i]? = some x) := hx
      have k0 := kept_cellV a0
      have k1 := kept_cellV a1
      have k2 := kept_cellV a2
      have k3 := kept_cellV a3
      have k4 := kept_cellV a4
      have k5 := kept_cellV p0
      have k6 := kept_cellV p1
      have k7 := kept_cellV p2
      have k8 := kept_cellV p3
      clear hx a0 a1 a2 a3 p0 p1 p2 p3
      cases hok : okF x with
      | false =>
        have HC : Hid (∀ W1, Below wr.heap.size wr W1 → Calls Try.prog 63 #[.agg #[.int .i64 x.tag, .int .i64 x.wire, .int .i64 x.n, .string x.b]] W1 fun e w' => e = .returned (.bool false) ∧ Below wr.heap.size wr w') := fun W1 hW1 => by
          refine (rcheckV_any x.tag x.wire x.n x.b W1).mono ?_
          rintro e W' ⟨rfl, hb⟩
          exact ⟨by rw [show okV x.tag x.wire x.n x.b = okF x from rfl, hok], hW1.trans (hb.mono hW1.size)⟩
        have HH : Hid (false = A) := (rest_no HX.out (by rw [hok]; rfl)).symm.trans HA.out
        clear hok HM
        go_wp2_with fail
        clear a4
        haveI := nonempty_qb (Below.refl wr.heap.size wr)
        refine wp_region_qb (Below.refl wr.heap.size wr) (by kernel_rfl) (by kernel_rfl) ?_
        repeat (go_big_quiet_step (first | (go_at_call 63; exact qb_call HC.out)))
        refine wpQuiet_nil ?_
        rintro W1 ⟨⟨_, hW1⟩, rfl⟩
        have hb1 := hbel.trans (hW1.mono hbel.size)
        clear k0 k1 k2 k3 k4 k5 k6 k7 k8 hW1 hbel
        go_wp2_with fail
        go_ret
        exact ⟨congrArg (fun b => Ending.returned (Value.bool b)) HH.out, hb1⟩
      | true =>
        cases hhs : hasB t.es x.tag with
        | true =>
          have HC : Hid (∀ W1, Below wr.heap.size wr W1 → Calls Try.prog 63 #[.agg #[.int .i64 x.tag, .int .i64 x.wire, .int .i64 x.n, .string x.b]] W1 fun e w' => e = .returned (.bool true) ∧ Below wr.heap.size wr w') := fun W1 hW1 => by
            refine (rcheckV_any x.tag x.wire x.n x.b W1).mono ?_
            rintro e W' ⟨rfl, hb⟩
            exact ⟨by rw [show okV x.tag x.wire x.n x.b = okF x from rfl, hok], hW1.trans (hb.mono hW1.size)⟩
          have HD : Hid (∀ W1, Below wr.heap.size wr W1 → Calls Try.prog 26 #[.agg #[.int .i64 K, .int .i64 N, .string S, .slice pe Ke ce, .slice (some ⟨g, off, none⟩) Kr cr], .int .i64 x.tag] W1 fun e w' => e = .returned (.bool true) ∧ Below wr.heap.size wr w') := fun W1 hW1 => by
            refine (HHS.out x.tag W1 (hbel.trans (hW1.mono hbel.size))).mono ?_
            rintro e W' ⟨rfl, hb⟩
            exact ⟨by rw [hhs], hW1.trans (hb.mono hW1.size)⟩
          have HH : Hid (false = A) := (rest_no HX.out (by rw [hok, hhs]; rfl)).symm.trans HA.out
          clear hok hhs HM
          go_wp2_with fail
          clear a4
          haveI := nonempty_qb (Below.refl wr.heap.size wr)
          refine wp_region_qb (Below.refl wr.heap.size wr) (by kernel_rfl) (by kernel_rfl) ?_
          repeat (go_big_quiet_step (first | (go_at_call 63; exact qb_call HC.out) | (go_at_call 26; exact qb_call HD.out)))
          refine wpQuiet_nil ?_
          rintro W1 ⟨⟨_, hW1⟩, rfl⟩
          have hb1 := hbel.trans (hW1.mono hbel.size)
          clear k0 k1 k2 k3 k4 k5 k6 k7 k8 hW1 hbel
          go_wp2_with fail
          go_ret
          exact ⟨congrArg (fun b => Ending.returned (Value.bool b)) HH.out, hb1⟩
        | false =>
          have HC : Hid (∀ W1, Below wr.heap.size wr W1 → Calls Try.prog 63 #[.agg #[.int .i64 x.tag, .int .i64 x.wire, .int .i64 x.n, .string x.b]] W1 fun e w' => e = .returned (.bool true) ∧ Below wr.heap.size wr w') := fun W1 hW1 => by
            refine (rcheckV_any x.tag x.wire x.n x.b W1).mono ?_
            rintro e W' ⟨rfl, hb⟩
            exact ⟨by rw [show okV x.tag x.wire x.n x.b = okF x from rfl, hok], hW1.trans (hb.mono hW1.size)⟩
          have HD : Hid (∀ W1, Below wr.heap.size wr W1 → Calls Try.prog 26 #[.agg #[.int .i64 K, .int .i64 N, .string S, .slice pe Ke ce, .slice (some ⟨g, off, none⟩) Kr cr], .int .i64 x.tag] W1 fun e w' => e = .returned (.bool false) ∧ Below wr.heap.size wr w') := fun W1 hW1 => by
            refine (HHS.out x.tag W1 (hbel.trans (hW1.mono hbel.size))).mono ?_
            rintro e W' ⟨rfl, hb⟩
            exact ⟨by rw [hhs], hW1.trans (hb.mono hW1.size)⟩
          have HM2 : Hid (∀ (j : Nat) (f : Fd), j < i + 1 → t.rest[j]? = some f → (okF f && !hasB t.es f.tag) = true) := fun j f hj hf => by
            rcases Nat.lt_or_eq_of_le (Nat.le_of_lt_succ hj) with h | h
            · exact HM.out j f h hf
            · subst h
              have hxf : x = f := Option.some.inj (HX.out.symm.trans hf)
              subst hxf
              rw [hok, hhs]; rfl
          clear hok hhs HM
          go_wp2_with fail
          clear a4
          haveI := nonempty_qb (Below.refl wr.heap.size wr)
          refine wp_region_qb (Below.refl wr.heap.size wr) (by kernel_rfl) (by kernel_rfl) ?_
          repeat (go_big_quiet_step (first | (go_at_call 63; exact qb_call HC.out) | (go_at_call 26; exact qb_call HD.out)))
          refine wpQuiet_nil ?_
          rintro W1 ⟨⟨_, hW1⟩, rfl⟩
          have hb1 := hbel.trans (hW1.mono hbel.size)
          have HB2 : Hid (Blk W1 b0 #[.int .i64 K, .int .i64 N, .string S, .slice pe Ke ce, .slice (some ⟨g, off, none⟩) Kr cr] 25) := HB.out.below hW1
          clear k0 k1 k2 k3 k4 k5 k6 k7 k8 hW1 hbel HB
          go_wp2_with fail
          go_roundw
          case rel => exact ⟨i + 1, by go_num, by omega, HM2, HB2, hb1⟩
          case measure => simp [intOf]; omega
    · have HH : Hid (risesB t.rest = A) := (rest_yes fun j f hj hf => HM.out j f (by rw [HKr.out] at hj; omega) hf).symm.trans HA.out
      clear HM HA
      go_wp2_with fail
      refine (HRR.out _ hbel).mono ?_
      rintro e w1 ⟨rfl, hb⟩
      rw [HH.out]
      have hb1 := hbel.trans (hb.mono hbel.size)
      clear hb hbel a4
      go_wp2_with fail
      go_ret
      exact ⟨rfl, hb1⟩
end Go.Proofs.Ytgedelgdjcnogaa

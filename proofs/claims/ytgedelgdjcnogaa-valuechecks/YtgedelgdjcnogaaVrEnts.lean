/- The reference's entries. -/
import Derived.Test.YtgedelgdjcnogaaVrRest
import Derived.Test.YtgedelgdjcnogaaVrDepth
namespace Go.Proofs.Ytgedelgdjcnogaa
open Go.ChangeShapes Go.WideShapes Go.ChangeAt Go.RowKit
set_option linter.unusedVariables false
set_option linter.unusedSimpArgs false
set_option maxRecDepth 20000

def entA (n : Nat) (last : Int) (l : List (Int × List Tr)) : Bool := entsB last l && (subs l).all (okN n)
theorem entA_cons (n : Nat) (last : Int) (x : Int × List Tr) (l : List (Int × List Tr)) : entA n last (x :: l) =
    (decide (last < x.1) && decide (x.1 ≤ 500) && decide (1 ≤ x.2.length) && decide (x.2.length ≤ 64) && (x.2.all fun y => y.kind == (x.2.head?.map Tr.kind).getD 0) && x.2.all (okN n) && entA n x.1 l) := by
  simp only [entA, entsB, subs, List.flatMap_cons, List.all_append]
  ac_rfl
theorem drop_consV {α : Type} {l : List α} {i : Nat} {x : α} (h : l[i]? = some x) : l.drop i = x :: l.drop (i + 1) := by
  obtain ⟨h1, h2⟩ := List.getElem?_eq_some_iff.1 h
  rw [List.drop_eq_getElem_cons h1, h2]
theorem ent_no {n : Nat} {last : Int} {x : Int × List Tr} {l : List (Int × List Tr)} (h : ¬ (last < x.1 ∧ x.1 ≤ 500 ∧ 1 ≤ x.2.length ∧ x.2.length ≤ 64)) : entA n last (x :: l) = false := by
  rw [entA_cons]
  by_cases h1 : last < x.1
  · by_cases h2 : x.1 ≤ 500
    · by_cases h3 : 1 ≤ x.2.length
      · by_cases h4 : x.2.length ≤ 64
        · exact absurd ⟨h1, h2, h3, h4⟩ h
        · simp [h4]
      · simp [h3]
    · simp [h2]
  · simp [h1]
theorem ent_noK {n : Nat} {last : Int} {x : Int × List Tr} {l : List (Int × List Tr)} {j : Nat} {y h : Tr} (hy : x.2[j]? = some y) (hh : x.2[0]? = some h) (hk : (y.kind != h.kind) = true ∨ okN n y = false) : entA n last (x :: l) = false := by
  have e1 : (x.2.head?.map Tr.kind).getD 0 = h.kind := by rw [List.head?_eq_getElem?, hh]; rfl
  rw [entA_cons, e1]
  rcases hk with hk | hk
  · have : (x.2.all fun y => y.kind == h.kind) = false := List.all_eq_false.2 ⟨y, List.mem_of_getElem? hy, by simpa using hk⟩
    rw [this]; simp
  · have : x.2.all (okN n) = false := List.all_eq_false.2 ⟨y, List.mem_of_getElem? hy, by simp [hk]⟩
    rw [this]; simp
theorem ent_yes {n : Nat} {last : Int} {x : Int × List Tr} {l : List (Int × List Tr)} {h : Tr} (hh : x.2[0]? = some h) (h1 : last < x.1) (h2 : x.1 ≤ 500) (h3 : 1 ≤ x.2.length) (h4 : x.2.length ≤ 64)
    (ha : ∀ (j : Nat) (y : Tr), j < x.2.length → x.2[j]? = some y → (y.kind != h.kind) = false ∧ okN n y = true) : entA n last (x :: l) = entA n x.1 l := by
  have e1 : (x.2.head?.map Tr.kind).getD 0 = h.kind := by rw [List.head?_eq_getElem?, hh]; rfl
  have a1 : (x.2.all fun y => y.kind == h.kind) = true := List.all_eq_true.2 fun y hy => by
    obtain ⟨i, hi, e⟩ := List.getElem_of_mem hy
    have := (ha i y hi (by rw [List.getElem?_eq_getElem hi, e])).1
    simpa using this
  have a2 : x.2.all (okN n) = true := List.all_eq_true.2 fun y hy => by
    obtain ⟨i, hi, e⟩ := List.getElem_of_mem hy
    exact (ha i y hi (by rw [List.getElem?_eq_getElem hi, e])).2
  rw [entA_cons, e1, a1, a2]
  simp [h1, h2, h3, h4]
set_option maxHeartbeats 4000000 in
theorem rents_step (n : Nat) (IH : ∀ t v w, TrIn n w v t → Calls Try.prog 39 #[v] w fun e w' => e = .returned (.bool (okN n t)) ∧ Below w.heap.size w w') (es : List (Int × List Tr)) (ve : Value) (w : World) (ea : EnsIn n w ve es) :
    Calls Try.prog 54 #[ve] w fun e w' => e = .returned (.bool (entA n 0 es)) ∧ Below w.heap.size w w' := by
  obtain ⟨pe, ce, rfl, u1, u2, -⟩ := ea.open
  unfold maxLen at u2
  obtain ⟨Ke, hKe⟩ : ∃ K, es.length = K := ⟨_, rfl⟩
  rw [hKe] at u1 ⊢
  have EA : Hid (EnsIn n w (.slice pe Ke ce) es) := (by rw [← hKe]; exact ea : EnsIn n w (.slice pe Ke ce) es)
  have HKe : Hid (es.length = Ke) := hKe
  have HI : Hid (∀ t v w, TrIn n w v t → Calls Try.prog 39 #[v] w fun e w' => e = .returned (.bool (okN n t)) ∧ Below w.heap.size w w') := IH
  obtain ⟨A, hA⟩ : ∃ A, entA n 0 es = A := ⟨_, rfl⟩
  rw [hA]
  have HA : Hid (A = entA n 0 (es.drop 0)) := hA.symm
  clear hKe ea IH hA
  go_enter Try.func54, Try.ntmps54
  go_wp2_with fail
  go_loopw [3, 4] (fun lv iv wr => ∃ (i : Nat) (last : Int), lv = .int .i64 last ∧ iv = .int .i64 (i : Int) ∧ i ≤ Ke ∧ Hid (A = entA n last (es.drop i)) ∧ Below w.heap.size w wr) (fun _ iv _ => Ke - (intOf iv).toNat)
  case atStart => exact ⟨0, 0, rfl, rfl, by omega, HA, Below.refl _ _⟩
  case round =>
    clear HA
    obtain ⟨i, last, rfl, rfl, hi, HM, hbel⟩ := hrel
    by_cases hlt : i < Ke
    · obtain ⟨x, hx⟩ : ∃ r, es[i]? = some r := ⟨_, List.getElem?_eq_getElem (by rw [HKe.out]; exact hlt)⟩
      obtain ⟨ge, off, rfl, cc⟩ := (EA.out.belowE hbel).get hx
      obtain ⟨vt, p0, p1, p2, p3⟩ := ens_at cc
      obtain ⟨pt, ct, rfl, t1, t2, -⟩ := p3.open
      unfold maxLen at t2
      have HM1 : Hid (A = entA n last (x :: es.drop (i + 1))) := (by rw [← drop_consV hx]; exact HM.out : A = entA n last (x :: es.drop (i + 1)))
      have hal : Below wr.heap.size wr (wr.alloc (Obj.cells #[.int .i64 x.1, .slice pt x.2.length ct] 50)) := (Below.refl _ _).alloc (Nat.le_refl _) _
      have HT : Hid (TrsIn n (wr.alloc (Obj.cells #[.int .i64 x.1, .slice pt x.2.length ct] 50)) (.slice pt x.2.length ct) x.2) := p3.belowT hal
      have hno := fun h => ent_no (n := n) (last := last) (x := x) (l := es.drop (i + 1)) h
      have hyes := fun (h : Tr) => ent_yes (n := n) (last := last) (x := x) (l := es.drop (i + 1)) (h := h)
      have hnoK := fun (j : Nat) (y h : Tr) => ent_noK (n := n) (last := last) (x := x) (l := es.drop (i + 1)) (j := j) (y := y) (h := h)
      clear HM p2 p3 cc hx
      rw [← HM1.out] at hno hyes hnoK
      obtain ⟨xt, xl⟩ := x
      simp only at *
      have HYES : Hid (∀ (h : Tr), xl[0]? = some h → last < xt → xt ≤ 500 → 1 ≤ xl.length → xl.length ≤ 64 → (∀ (j : Nat) (y : Tr), j < xl.length → xl[j]? = some y → (y.kind != h.kind) = false ∧ okN n y = true) → A = entA n xt (es.drop (i + 1))) := fun h a b c d e f => hyes h a b c d e f
      have HNOK : Hid (∀ (j : Nat) (y h : Tr), xl[j]? = some y → xl[0]? = some h → ((y.kind != h.kind) = true ∨ okN n y = false) → A = false) := fun j y h a b c => hnoK j y h a b c
      have HNO : Hid (¬ (last < xt ∧ xt ≤ 500 ∧ 1 ≤ xl.length ∧ xl.length ≤ 64) → A = false) := hno
      clear hno hyes hnoK HM1
      obtain ⟨Xl, hXl⟩ : ∃ K, xl.length = K := ⟨_, rfl⟩
      rw [hXl] at p1 HT HNO hal t1
      have HXl : Hid (xl.length = Xl) := hXl
      clear hXl
      have hbA : Below w.heap.size w (wr.alloc (Obj.cells #[.int .i64 xt, .slice pt Xl ct] 50)) := hbel.trans (hal.mono hbel.size)
      by_cases c0 : xt ≤ last
      · have HH : Hid (false = A) := (HNO.out (by omega)).symm
        have h0 : decide (xt ≤ last) = true := by simp; omega
        clear HYES HNOK HNO HT
        go_wp2_with fail
        go_ret
        exact ⟨congrArg (fun b => Ending.returned (Value.bool b)) HH.out, hbA⟩
      · have h0 : decide (xt ≤ last) = false := by simp; omega
        by_cases c1 : xt > 500
        · have HH : Hid (false = A) := (HNO.out (by omega)).symm
          have h1 : decide (xt > 500) = true := by simp; omega
          clear HYES HNOK HNO HT
          go_wp2_with fail
          go_ret
          exact ⟨congrArg (fun b => Ending.returned (Value.bool b)) HH.out, hbA⟩
        · have h1 : decide (xt > 500) = false := by simp; omega
          by_cases c2 : Xl < 1
          · have HH : Hid (false = A) := (HNO.out (by omega)).symm
            have h2 : decide ((Xl : Int) < 1) = true := by simp; omega
            clear HYES HNOK HNO HT
            go_wp2_with fail
            go_ret
            exact ⟨congrArg (fun b => Ending.returned (Value.bool b)) HH.out, hbA⟩
          · have h2 : decide ((Xl : Int) < 1) = false := by simp; omega
            by_cases c3 : Xl > 64
            · have HH : Hid (false = A) := (HNO.out (by omega)).symm
              have h3 : decide ((Xl : Int) > 64) = true := by simp; omega
              clear HYES HNOK HNO HT
              go_wp2_with fail
              go_ret
              exact ⟨congrArg (fun b => Ending.returned (Value.bool b)) HH.out, hbA⟩
            · have h3 : decide ((Xl : Int) > 64) = false := by simp; omega
              obtain ⟨h, hh⟩ : ∃ r, xl[0]? = some r := ⟨_, List.getElem?_eq_getElem (by rw [HXl.out]; omega)⟩
              have HH0 : Hid (xl[0]? = some h) := hh
              have HCC : Hid (last < xt ∧ xt ≤ 500 ∧ 1 ≤ Xl ∧ Xl ≤ 64) := (by omega : last < xt ∧ xt ≤ 500 ∧ 1 ≤ Xl ∧ Xl ≤ 64)
              have BE : Blk (wr.alloc (Obj.cells #[.int .i64 xt, .slice pt Xl ct] 50)) wr.heap.size #[.int .i64 xt, .slice pt Xl ct] 50 := Blk.new wr _ _
              clear hh hal HNO
              go_wp2_with fail
              clear p0 p1 h0 h1 h2 h3
              generalize (wr.alloc (Obj.cells #[.int .i64 xt, .slice pt Xl ct] 50)) = W at *
              generalize wr.heap.size = be at *
              go_loopw [6] (fun jv wz => ∃ j : Nat, jv = .int .i64 (j : Int) ∧ j ≤ Xl ∧ Hid (∀ (l : Nat) (y : Tr), l < j → xl[l]? = some y → (y.kind != h.kind) = false ∧ okN n y = true) ∧ Below w.heap.size w wz ∧ Below W.heap.size W wz) (fun jv _ => Xl - (intOf jv).toNat)
              case atStart => exact ⟨0, rfl, by omega, (fun l y hl => absurd hl (by omega) : ∀ (l : Nat) (y : Tr), l < 0 → xl[l]? = some y → (y.kind != h.kind) = false ∧ okN n y = true), hbA, Below.refl _ _⟩
              case round =>
                clear hbA hbel
                obtain ⟨j, rfl, hj, HL, hbel, hbW⟩ := hrel
                have B1 := BE.below hbW
                have a1 := (B1.cell 1).trans rfl
                by_cases hlt2 : j < Xl
                · obtain ⟨y, hy⟩ : ∃ r, xl[j]? = some r := ⟨_, List.getElem?_eq_getElem (by rw [HXl.out]; exact hlt2)⟩
                  obtain ⟨g3, off3, rfl, c1⟩ := (HT.out.belowT hbW).get hy
                  obtain ⟨g4, off4, e4, c2⟩ := (HT.out.belowT hbW).get HH0.out
                  obtain ⟨rfl, rfl⟩ : g3 = g4 ∧ off3 = off4 := by simpa using e4
                  obtain ⟨z1, n1, d1, z2, n2, d2, o0, o1, o2, o3, o4, o5⟩ := trs_get c1
                  obtain ⟨_, _, _, _, _, _, q0, _⟩ := trs_get c2
                  rw [Nat.zero_mul, Nat.add_zero] at q0
                  have HY : Hid (xl[j]? = some y) := hy
                  have k1 := kept_cellV a1
                  have k2 := kept_cellV o0
                  have k3 := kept_cellV o1
                  have k4 := kept_cellV o2
                  have k5 := kept_cellV o3
                  have k6 := kept_cellV o4
                  have k7 := kept_cellV q0
                  clear c1 c2 hy e4
                  cases hkd : (y.kind != h.kind) with
                  | true =>
                    have HH : Hid (false = A) := (HNOK.out j y h HY.out HH0.out (.inl hkd)).symm
                    clear HYES HNOK HL o0 o1 o2 o3 o4 o5 q0 HT
                    go_wp2_with fail
                    clear a1
                    haveI := nonempty_qb (Below.refl wr.heap.size wr)
                    refine wp_region_qb (Below.refl wr.heap.size wr) (by kernel_rfl) (by kernel_rfl) ?_
                    repeat (go_big_quiet_step (fail))
                    refine wpQuiet_nil ?_
                    rintro W1 ⟨⟨_, hW1⟩, rfl⟩
                    have hb1 := hbel.trans (hW1.mono hbel.size)
                    clear k1 k2 k3 k4 k5 k6 k7 hW1 hbel hbW
                    go_wp2_with fail
                    go_ret
                    exact ⟨congrArg (fun b => Ending.returned (Value.bool b)) HH.out, hb1⟩
                  | false =>
                    cases hok : okN n y with
                    | false =>
                      have HH : Hid (false = A) := (HNOK.out j y h HY.out HH0.out (.inr hok)).symm
                      have HC : Hid (∀ W1, Below wr.heap.size wr W1 → Calls Try.prog 39 #[.agg #[.int .i64 y.kind, .int .i64 y.n, .string y.s, .slice z1 n1 d1, .slice z2 n2 d2]] W1 fun e w' => e = .returned (.bool false) ∧ Below wr.heap.size wr w') := fun W1 hW1 => by
                        refine (HI.out y _ W1 (o5.below hW1)).mono ?_
                        rintro e W' ⟨rfl, hb⟩
                        exact ⟨by rw [hok], hW1.trans (hb.mono hW1.size)⟩
                      clear HYES HNOK HL o0 o1 o2 o3 o4 o5 q0 HT hok
                      go_wp2_with fail
                      clear a1
                      haveI := nonempty_qb (Below.refl wr.heap.size wr)
                      refine wp_region_qb (Below.refl wr.heap.size wr) (by kernel_rfl) (by kernel_rfl) ?_
                      repeat (go_big_quiet_step (first | (go_at_call 39; exact qb_call HC.out)))
                      refine wpQuiet_nil ?_
                      rintro W1 ⟨⟨_, hW1⟩, rfl⟩
                      have hb1 := hbel.trans (hW1.mono hbel.size)
                      clear k1 k2 k3 k4 k5 k6 k7 hW1 hbel hbW
                      go_wp2_with fail
                      go_ret
                      exact ⟨congrArg (fun b => Ending.returned (Value.bool b)) HH.out, hb1⟩
                    | true =>
                      have HL2 : Hid (∀ (l : Nat) (y : Tr), l < j + 1 → xl[l]? = some y → (y.kind != h.kind) = false ∧ okN n y = true) := fun l z hl hz => by
                        rcases Nat.lt_or_eq_of_le (Nat.le_of_lt_succ hl) with h' | h'
                        · exact HL.out l z h' hz
                        · subst h'
                          have hyz : y = z := Option.some.inj (HY.out.symm.trans hz)
                          subst hyz
                          exact ⟨hkd, hok⟩
                      have HC : Hid (∀ W1, Below wr.heap.size wr W1 → Calls Try.prog 39 #[.agg #[.int .i64 y.kind, .int .i64 y.n, .string y.s, .slice z1 n1 d1, .slice z2 n2 d2]] W1 fun e w' => e = .returned (.bool true) ∧ Below wr.heap.size wr w') := fun W1 hW1 => by
                        refine (HI.out y _ W1 (o5.below hW1)).mono ?_
                        rintro e W' ⟨rfl, hb⟩
                        exact ⟨by rw [hok], hW1.trans (hb.mono hW1.size)⟩
                      clear HL o0 o1 o2 o3 o4 o5 q0 hok
                      go_wp2_with fail
                      clear a1
                      haveI := nonempty_qb (Below.refl wr.heap.size wr)
                      refine wp_region_qb (Below.refl wr.heap.size wr) (by kernel_rfl) (by kernel_rfl) ?_
                      repeat (go_big_quiet_step (first | (go_at_call 39; exact qb_call HC.out)))
                      refine wpQuiet_nil ?_
                      rintro W1 ⟨⟨_, hW1⟩, rfl⟩
                      have hb1 := hbel.trans (hW1.mono hbel.size)
                      have hb2 := hbW.trans (hW1.mono hbW.size)
                      clear k1 k2 k3 k4 k5 k6 k7 hW1 hbel hbW B1
                      go_wp2_with fail
                      go_roundw
                      case rel => exact ⟨j + 1, by go_num, by omega, HL2, hb1, hb2⟩
                      case measure => simp [intOf]; omega
                · have HM2 : Hid (A = entA n xt (es.drop (i + 1))) := HYES.out h HH0.out HCC.out.1 HCC.out.2.1 (by rw [HXl.out]; exact HCC.out.2.2.1) (by rw [HXl.out]; exact HCC.out.2.2.2) fun l y hl hy => HL.out l y (by rw [HXl.out] at hl; omega) hy
                  clear HYES HNOK HL HT B1
                  go_wp2_with fail
                  clear a1
                  go_roundw
                  case rel => exact ⟨i + 1, xt, rfl, by go_num, by omega, HM2, hbel⟩
                  case measure => simp [intOf]; omega
    · have HH : Hid (true = A) := by
        have h1 := HM.out
        rw [List.drop_of_length_le (by rw [HKe.out]; omega)] at h1
        exact h1.symm
      clear HM
      go_wp2_with fail
      go_ret
      exact ⟨congrArg (fun b => Ending.returned (Value.bool b)) HH.out, hbel⟩
end Go.Proofs.Ytgedelgdjcnogaa

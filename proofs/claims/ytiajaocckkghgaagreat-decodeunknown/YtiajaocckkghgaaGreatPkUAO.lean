/- Part 15 of what the proof stands on. -/
import Derived.Test.YtiajaocckkghgaaGreatPkUAN
namespace Go.Proofs.YtiajaocckkghgaaGreat
set_option linter.unusedVariables false
set_option linter.unusedSimpArgs false
open Go.ChangeShapes Go.WideShapes Go.ChangeAt Go.RowKit
set_option maxRecDepth 20000
def entA (n : Nat) (last : Int) (l : List (Int × List Tr)) : Bool := entsB last l && (subs l).all (okN n)
theorem entA_cons (n : Nat) (last : Int) (x : Int × List Tr) (l : List (Int × List Tr)) : entA n last (x :: l) =
  (decide (last < x.1) && decide (x.1 ≤ 500) && decide (1 ≤ x.2.length) && decide (x.2.length ≤ 64) && (x.2.all fun y => y.kind == (x.2.head?.map Tr.kind).getD 0) && x.2.all (okN n) && entA n x.1 l) := by
 simp only [entA, entsB, subs, List.flatMap_cons, List.all_append]
 ac_rfl
theorem drop_consV {α : Type} {l : List α} {i : Nat} {x : α} (h : l[i]? = some x) : l.drop i = x :: l.drop (i + 1) := by
 obtain ⟨h1, h2⟩ := List.getElem?_eq_some_iff.1 h
 rw [List.drop_eq_getElem_cons h1, h2]
theorem ent_no {n : Nat} {last : Int} {x : Int × List Tr} {l : List (Int × List Tr)} (h : ¬ (last < x.1 ∧ x.1 ≤ 500 ∧ 1 ≤ x.2.length ∧ x.2.length ≤ 64)) : entA n last (x :: l) = false := by
 rw [entA_cons]
 by_cases h1 : last < x.1
 ·by_cases h2 : x.1 ≤ 500
  ·by_cases h3 : 1 ≤ x.2.length
   ·by_cases h4 : x.2.length ≤ 64
    ·exact absurd ⟨h1, h2, h3, h4⟩ h
    ·simp [h4]
   ·simp [h3]
  ·simp [h2]
 ·simp [h1]
theorem ent_noK {n : Nat} {last : Int} {x : Int × List Tr} {l : List (Int × List Tr)} {j : Nat} {y h : Tr} (hy : x.2[j]? = some y) (hh : x.2[0]? = some h) (hk : (y.kind != h.kind) = true ∨ okN n y = false) : entA n last (x :: l) = false := by
 have e1 : (x.2.head?.map Tr.kind).getD 0 = h.kind := by rw [List.head?_eq_getElem?, hh]; rfl
 rw [entA_cons, e1]
 rcases hk with hk | hk
 ·have : (x.2.all fun y => y.kind == h.kind) = false := List.all_eq_false.2 ⟨y, List.mem_of_getElem? hy, by simpa using hk⟩
  rw [this]; simp
 ·have : x.2.all (okN n) = false := List.all_eq_false.2 ⟨y, List.mem_of_getElem? hy, by simp [hk]⟩
  rw [this]; simp
theorem ent_yes {n : Nat} {last : Int} {x : Int × List Tr} {l : List (Int × List Tr)} {h : Tr} (hh : x.2[0]? = some h) (h1 : last < x.1) (h2 : x.1 ≤ 500) (h3 : 1 ≤ x.2.length) (h4 : x.2.length ≤ 64)
  (ha : ∀ (j : Nat) (y : Tr), j < x.2.length → x.2[j]? = some y → (y.kind != h.kind) = false ∧ okN n y = true) : entA n last (x :: l) = entA n x.1 l := by
 have e1 : (x.2.head?.map Tr.kind).getD 0 = h.kind := by rw [List.head?_eq_getElem?, hh]; rfl
 have a1 : (x.2.all fun y => y.kind == h.kind) = true := List.all_eq_true.2 fun y hy => by
  obtain ⟨i, hi, e⟩ := List.getElem_of_mem hy
  have := (ha i y hi (by rw [List.getElem?_eq_getElem hi, e])).1
  simpa using this
 have a2 : x.2.all (okN n) = true := List.all_eq_true.2 fun y hy => by
  obtain ⟨i, hi, e⟩ := List.getElem_of_mem hy
  exact (ha i y hi (by rw [List.getElem?_eq_getElem hi, e])).2
 rw [entA_cons, e1, a1, a2]
 simp [h1, h2, h3, h4]
set_option maxHeartbeats 4000000 in
theorem rents_step (n : Nat) (IH : ∀ t v w, TrIn n w v t → Calls Tryz.prog 93 #[v] w fun e w' => e = .returned (.bool (okN n t)) ∧ Below w.heap.size w w') (es : List (Int × List Tr)) (ve : Value) (w : World) (ea : EnsIn n w ve es) :
  Calls Tryz.prog 132 #[ve] w fun e w' => e = .returned (.bool (entA n 0 es)) ∧ Below w.heap.size w w' := by
 obtain ⟨pe, ce, rfl, u1, u2, -⟩ := ea.open
 unfold maxLen at u2
 obtain ⟨Ke, hKe⟩ : ∃ K, es.length = K := ⟨_, rfl⟩
 rw [hKe] at u1 ⊢
 have EA : Hid (EnsIn n w (.slice pe Ke ce) es) := (by rw [← hKe]; exact ea : EnsIn n w (.slice pe Ke ce) es)
 have HKe : Hid (es.length = Ke) := hKe
 have HI : Hid (∀ t v w, TrIn n w v t → Calls Tryz.prog 93 #[v] w fun e w' => e = .returned (.bool (okN n t)) ∧ Below w.heap.size w w') := IH
 obtain ⟨A, hA⟩ : ∃ A, entA n 0 es = A := ⟨_, rfl⟩
 rw [hA]
 have HA : Hid (A = entA n 0 (es.drop 0)) := hA.symm
 clear hKe ea IH hA
 go_enter Tryz.func132, Tryz.ntmps132
 go_wp2_with fail
 go_loopw [3, 4] (fun lv iv wr => ∃ (i : Nat) (last : Int), lv = .int .i64 last ∧ iv = .int .i64 (i : Int) ∧ i ≤ Ke ∧ Hid (A = entA n last (es.drop i)) ∧ Below w.heap.size w wr) (fun _ iv _ => Ke - (intOf iv).toNat)
 case atStart => exact ⟨0, 0, rfl, rfl, by omega, HA, Below.refl _ _⟩
 case round =>
  clear HA
  obtain ⟨i, last, rfl, rfl, hi, HM, hbel⟩ := hrel
  by_cases hlt : i < Ke
  ·obtain ⟨x, hx⟩ : ∃ r, es[i]? = some r := ⟨_, List.getElem?_eq_getElem (by rw [HKe.out]; exact hlt)⟩
   obtain ⟨ge, off, rfl, cc⟩ := (EA.out.belowE hbel).get hx
   obtain ⟨vt, p0, p1, p2, p3⟩ := ens_at cc
   obtain ⟨pt, ct, rfl, t1, t2, -⟩ := p3.open
   unfold maxLen at t2
   have HM1 : Hid (A = entA n last (x :: es.drop (i + 1))) := (by rw [← drop_consV hx]; exact HM.out : A = entA n last (x :: es.drop (i + 1)))
   have hal : Below wr.heap.size wr (wr.alloc (Obj.cells #[.int .i64 x.1, .slice pt x.2.length ct] 80)) := (Below.refl _ _).alloc (Nat.le_refl _) _
   have HT : Hid (TrsIn n (wr.alloc (Obj.cells #[.int .i64 x.1, .slice pt x.2.length ct] 80)) (.slice pt x.2.length ct) x.2) := p3.belowT hal
   have hno := fun h => ent_no (n := n) (last := last) (x := x) (l := es.drop (i + 1)) h
   have hyes := fun (h : Tr) => ent_yes (n := n) (last := last) (x := x) (l := es.drop (i + 1)) (h := h)
   have hnoK := fun (j : Nat) (y h : Tr) => ent_noK (n := n) (last := last) (x := x) (l := es.drop (i + 1)) (j := j) (y := y) (h := h)
   clear HM p2 p3 cc hx
   rw [← HM1.out] at hno hyes hnoK
   obtain ⟨xt, xl⟩ := x
   simp only at *
   have HYES : Hid (∀ (h : Tr), xl[0]? = some h → last < xt → xt ≤ 500 → 1 ≤ xl.length → xl.length ≤ 64 → (∀ (j : Nat) (y : Tr), j < xl.length → xl[j]? = some y → (y.kind != h.kind) = false ∧ okN n y = true) → A = entA n xt (es.drop (i + 1))) := fun h a b c d e f => hyes h a b c d e f
   have HNOK : Hid (∀ (j : Nat) (y h : Tr), xl[j]? = some y → xl[0]? = some h → ((y.kind != h.kind) = true ∨ okN n y = false) → A = false) := fun j y h a b c => hnoK j y h a b c
   have HNO : Hid (¬ (last < xt ∧ xt ≤ 500 ∧ 1 ≤ xl.length ∧ xl.length ≤ 64) → A = false) := hno
   clear hno hyes hnoK HM1
   obtain ⟨Xl, hXl⟩ : ∃ K, xl.length = K := ⟨_, rfl⟩
   rw [hXl] at p1 HT HNO hal t1
   have HXl : Hid (xl.length = Xl) := hXl
   clear hXl
   have hbA : Below w.heap.size w (wr.alloc (Obj.cells #[.int .i64 xt, .slice pt Xl ct] 80)) := hbel.trans (hal.mono hbel.size)
   by_cases c0 : xt ≤ last
   ·have HH : Hid (false = A) := (HNO.out (by omega)).symm
    have h0 : decide (xt ≤ last) = true := by simp; omega
    clear HYES HNOK HNO HT
    go_wp2_with fail
    go_ret
    exact ⟨congrArg (fun b => Ending.returned (Value.bool b)) HH.out, hbA⟩
   ·have h0 : decide (xt ≤ last) = false := by simp; omega
    by_cases c1 : xt > 500
    ·have HH : Hid (false = A) := (HNO.out (by omega)).symm
     have h1 : decide (xt > 500) = true := by simp; omega
     clear HYES HNOK HNO HT
     go_wp2_with fail
     go_ret
     exact ⟨congrArg (fun b => Ending.returned (Value.bool b)) HH.out, hbA⟩
    ·have h1 : decide (xt > 500) = false := by simp; omega
     by_cases c2 : Xl < 1
     ·have HH : Hid (false = A) := (HNO.out (by omega)).symm
      have h2 : decide ((Xl : Int) < 1) = true := by simp; omega
      clear HYES HNOK HNO HT
      go_wp2_with fail
      go_ret
      exact ⟨congrArg (fun b => Ending.returned (Value.bool b)) HH.out, hbA⟩
     ·have h2 : decide ((Xl : Int) < 1) = false := by simp; omega
      by_cases c3 : Xl > 64
      ·have HH : Hid (false = A) := (HNO.out (by omega)).symm
       have h3 : decide ((Xl : Int) > 64) = true := by simp; omega
       clear HYES HNOK HNO HT
       go_wp2_with fail
       go_ret
       exact ⟨congrArg (fun b => Ending.returned (Value.bool b)) HH.out, hbA⟩
      ·have h3 : decide ((Xl : Int) > 64) = false := by simp; omega
       obtain ⟨h, hh⟩ : ∃ r, xl[0]? = some r := ⟨_, List.getElem?_eq_getElem (by rw [HXl.out]; omega)⟩
       have HH0 : Hid (xl[0]? = some h) := hh
       have HCC : Hid (last < xt ∧ xt ≤ 500 ∧ 1 ≤ Xl ∧ Xl ≤ 64) := (by omega : last < xt ∧ xt ≤ 500 ∧ 1 ≤ Xl ∧ Xl ≤ 64)
       have BE : Blk (wr.alloc (Obj.cells #[.int .i64 xt, .slice pt Xl ct] 80)) wr.heap.size #[.int .i64 xt, .slice pt Xl ct] 80 := Blk.new wr _ _
       clear hh hal HNO
       go_wp2_with fail
       clear p0 p1 h0 h1 h2 h3
       generalize (wr.alloc (Obj.cells #[.int .i64 xt, .slice pt Xl ct] 80)) = W at *
       generalize wr.heap.size = be at *
       go_loopw [6] (fun jv wz => ∃ j : Nat, jv = .int .i64 (j : Int) ∧ j ≤ Xl ∧ Hid (∀ (l : Nat) (y : Tr), l < j → xl[l]? = some y → (y.kind != h.kind) = false ∧ okN n y = true) ∧ Below w.heap.size w wz ∧ Below W.heap.size W wz) (fun jv _ => Xl - (intOf jv).toNat)
       case atStart => exact ⟨0, rfl, by omega, (fun l y hl => absurd hl (by omega) : ∀ (l : Nat) (y : Tr), l < 0 → xl[l]? = some y → (y.kind != h.kind) = false ∧ okN n y = true), hbA, Below.refl _ _⟩
       case round =>
        clear hbA hbel
        obtain ⟨j, rfl, hj, HL, hbel, hbW⟩ := hrel
        have B1 := BE.below hbW
        have a1 := (B1.cell 1).trans rfl
        by_cases hlt2 : j < Xl
        ·obtain ⟨y, hy⟩ : ∃ r, xl[j]? = some r := ⟨_, List.getElem?_eq_getElem (by rw [HXl.out]; exact hlt2)⟩
         obtain ⟨g3, off3, rfl, c1⟩ := (HT.out.belowT hbW).get hy
         obtain ⟨g4, off4, e4, c2⟩ := (HT.out.belowT hbW).get HH0.out
         obtain ⟨rfl, rfl⟩ : g3 = g4 ∧ off3 = off4 := by simpa using e4
         obtain ⟨z1, n1, d1, z2, n2, d2, o0, o1, o2, o3, o4, o5⟩ := trs_get c1
         obtain ⟨_, _, _, _, _, _, q0, _⟩ := trs_get c2
         rw [Nat.zero_mul, Nat.add_zero] at q0
         have HY : Hid (xl[j]? = some y) := hy
         have k1 := kept_cellV a1
         have k2 := kept_cellV o0
         have k3 := kept_cellV o1
         have k4 := kept_cellV o2
         have k5 := kept_cellV o3
         have k6 := kept_cellV o4
         have k7 := kept_cellV q0
         clear c1 c2 hy e4
         cases hkd : (y.kind != h.kind) with
         | true =>
          have HH : Hid (false = A) := (HNOK.out j y h HY.out HH0.out (.inl hkd)).symm
          clear HYES HNOK HL o0 o1 o2 o3 o4 o5 q0 HT
          go_wp2_with fail
          clear a1
          haveI := nonempty_qb (Below.refl wr.heap.size wr)
          refine wp_region_qb (Below.refl wr.heap.size wr) (by kernel_rfl) (by kernel_rfl) ?_
          repeat (go_big_quiet_step (fail))
          refine wpQuiet_nil ?_
          rintro W1 ⟨⟨_, hW1⟩, rfl⟩
          have hb1 := hbel.trans (hW1.mono hbel.size)
          clear k1 k2 k3 k4 k5 k6 k7 hW1 hbel hbW
          go_wp2_with fail
          go_ret
          exact ⟨congrArg (fun b => Ending.returned (Value.bool b)) HH.out, hb1⟩
         | false =>
          cases hok : okN n y with
          | false =>
           have HH : Hid (false = A) := (HNOK.out j y h HY.out HH0.out (.inr hok)).symm
           have HC : Hid (∀ W1, Below wr.heap.size wr W1 → Calls Tryz.prog 93 #[.agg #[.int .i64 y.kind, .int .i64 y.n, .string y.s, .slice z1 n1 d1, .slice z2 n2 d2]] W1 fun e w' => e = .returned (.bool false) ∧ Below wr.heap.size wr w') := fun W1 hW1 => by
            refine (HI.out y _ W1 (o5.below hW1)).mono ?_
            rintro e W' ⟨rfl, hb⟩
            exact ⟨by rw [hok], hW1.trans (hb.mono hW1.size)⟩
           clear HYES HNOK HL o0 o1 o2 o3 o4 o5 q0 HT hok
           go_wp2_with fail
           clear a1
           haveI := nonempty_qb (Below.refl wr.heap.size wr)
           refine wp_region_qb (Below.refl wr.heap.size wr) (by kernel_rfl) (by kernel_rfl) ?_
           repeat (go_big_quiet_step (first | (go_at_call 93; exact qb_call HC.out)))
           refine wpQuiet_nil ?_
           rintro W1 ⟨⟨_, hW1⟩, rfl⟩
           have hb1 := hbel.trans (hW1.mono hbel.size)
           clear k1 k2 k3 k4 k5 k6 k7 hW1 hbel hbW
           go_wp2_with fail
           go_ret
           exact ⟨congrArg (fun b => Ending.returned (Value.bool b)) HH.out, hb1⟩
          | true =>
           have HL2 : Hid (∀ (l : Nat) (y : Tr), l < j + 1 → xl[l]? = some y → (y.kind != h.kind) = false ∧ okN n y = true) := fun l z hl hz => by
            rcases Nat.lt_or_eq_of_le (Nat.le_of_lt_succ hl) with h' | h'
            ·exact HL.out l z h' hz
            ·subst h'
             have hyz : y = z := Option.some.inj (HY.out.symm.trans hz)
             subst hyz
             exact ⟨hkd, hok⟩
           have HC : Hid (∀ W1, Below wr.heap.size wr W1 → Calls Tryz.prog 93 #[.agg #[.int .i64 y.kind, .int .i64 y.n, .string y.s, .slice z1 n1 d1, .slice z2 n2 d2]] W1 fun e w' => e = .returned (.bool true) ∧ Below wr.heap.size wr w') := fun W1 hW1 => by
            refine (HI.out y _ W1 (o5.below hW1)).mono ?_
            rintro e W' ⟨rfl, hb⟩
            exact ⟨by rw [hok], hW1.trans (hb.mono hW1.size)⟩
           clear HL o0 o1 o2 o3 o4 o5 q0 hok
           go_wp2_with fail
           clear a1
           haveI := nonempty_qb (Below.refl wr.heap.size wr)
           refine wp_region_qb (Below.refl wr.heap.size wr) (by kernel_rfl) (by kernel_rfl) ?_
           repeat (go_big_quiet_step (first | (go_at_call 93; exact qb_call HC.out)))
           refine wpQuiet_nil ?_
           rintro W1 ⟨⟨_, hW1⟩, rfl⟩
           have hb1 := hbel.trans (hW1.mono hbel.size)
           have hb2 := hbW.trans (hW1.mono hbW.size)
           clear k1 k2 k3 k4 k5 k6 k7 hW1 hbel hbW B1
           go_wp2_with fail
           go_roundw
           case rel => exact ⟨j + 1, by go_num, by omega, HL2, hb1, hb2⟩
           case measure => simp [intOf]; omega
        ·have HM2 : Hid (A = entA n xt (es.drop (i + 1))) := HYES.out h HH0.out HCC.out.1 HCC.out.2.1 (by rw [HXl.out]; exact HCC.out.2.2.1) (by rw [HXl.out]; exact HCC.out.2.2.2) fun l y hl hy => HL.out l y (by rw [HXl.out] at hl; omega) hy
         clear HYES HNOK HL HT B1
         go_wp2_with fail
         clear a1
         go_roundw
         case rel => exact ⟨i + 1, xt, rfl, by go_num, by omega, HM2, hbel⟩
         case measure => simp [intOf]; omega
  ·have HH : Hid (true = A) := by
    have h1 := HM.out
    rw [List.drop_of_length_le (by rw [HKe.out]; omega)] at h1
    exact h1.symm
   clear HM
   go_wp2_with fail
   go_ret
   exact ⟨congrArg (fun b => Ending.returned (Value.bool b)) HH.out, hbel⟩
theorem ok_one {n : Nat} {t : Tr} (h : t.kind = 1) : okN (n + 1) t = (t.s.size == 0 && t.es.isEmpty && t.rest.isEmpty) := by simp [okN, lvB, h]
theorem ok_two {n : Nat} {t : Tr} (h : t.kind = 2) : okN (n + 1) t = (t.n == 0 && t.es.isEmpty && t.rest.isEmpty) := by simp [okN, lvB, h]
theorem ok_three {n : Nat} {t : Tr} (h : t.kind = 3) : okN (n + 1) t = (t.n == 0 && t.s.size == 0 && entA n 0 t.es && restB t.rest t.es) := by
 simp only [okN, lvB, h, entA]
 simp
 ac_rfl
theorem ok_none {n : Nat} {t : Tr} (h1 : t.kind ≠ 1) (h2 : t.kind ≠ 2) (h3 : t.kind ≠ 3) : okN (n + 1) t = false := by simp [okN, lvB, h1, h2, h3]
theorem str_empty {s : ByteArray} (h : (s.size == 0) = true) : s = ⟨#[]⟩ := by
 obtain ⟨⟨l⟩⟩ := s
 cases l with
 | nil => rfl
 | cons a l => simp [ByteArray.size] at h
theorem str_not {s : ByteArray} (h : (s.size == 0) = false) : (s.toList == ([] : List UInt8)) = false := by
 cases hq : (s.toList == ([] : List UInt8)) with
 | false => rfl
 | true =>
  have e : s.toList = [] := by simpa using hq
  have h2 : s = ⟨#[]⟩ := toList_ext (e.trans (by rw [ByteArray.toList_eq]))
  rw [h2] at h
  exact absurd h (by decide)
set_option maxHeartbeats 4000000 in
theorem rcheckN_step (n : Nat) (IH : ∀ t v w, TrIn n w v t → Calls Tryz.prog 93 #[v] w fun e w' => e = .returned (.bool (okN n t)) ∧ Below w.heap.size w w') (t : Tr) (v : Value) (w : World) (ht : TrIn (n + 1) w v t) :
  Calls Tryz.prog 93 #[v] w fun e w' => e = .returned (.bool (okN (n + 1) t)) ∧ Below w.heap.size w w' := by
 have HRS : Hid (∀ W, Below w.heap.size w W → Calls Tryz.prog 133 #[v] W fun e w' => e = .returned (.bool (restB t.rest t.es)) ∧ Below W.heap.size W w') := fun W hW => rrest_any n t v W (ht.below hW)
 obtain ⟨n', ve, vr, e0, rfl, ka, na, sa, fa, ra, ea⟩ := ht.open
 obtain rfl : n' = n := by omega
 have HEN : Hid (∀ W, Below w.heap.size w W → Calls Tryz.prog 132 #[ve] W fun e w' => e = .returned (.bool (entA n' 0 t.es)) ∧ Below W.heap.size W w') := fun W hW => rents_step n' IH t.es ve W (ea.belowE hW)
 clear e0 ht IH
 obtain ⟨pe, ce, rfl, u1, u2, -⟩ := ea.open
 obtain ⟨pr, cr, rfl, x1, x2, -⟩ := rest_holds ra
 unfold maxLen at u2 x2
 have eE : ∀ b, t.es.isEmpty = b → (((t.es.length : Nat) : Int) == 0) = b := fun b h => by rw [← h]; cases t.es <;> simp; omega
 have eR : ∀ b, t.rest.isEmpty = b → (((t.rest.length : Nat) : Int) == 0) = b := fun b h => by rw [← h]; cases t.rest <;> simp; omega
 clear ka na sa fa ra ea
 obtain ⟨A, hA⟩ : ∃ A, okN (n' + 1) t = A := ⟨_, rfl⟩
 rw [hA]
 have HAL : Hid (∀ (o : Obj), Below w.heap.size w (w.alloc o)) := fun o => (Below.refl _ _).alloc (Nat.le_refl _) _
 by_cases hk : t.kind = 1
 ·cases hs : (t.s.size == 0) with
  | false =>
   have HH : Hid (false = A) := (by rw [← hA, ok_one hk, hs]; simp : false = A)
   have fs := str_not hs
   rw [hk]
   clear eE eR hA HRS HEN hs hk
   generalize t.es.length = Ke at *
   generalize t.rest.length = Kr at *
   generalize t.n = N at *
   generalize t.s = S at *
   go_enter Tryz.func93, Tryz.ntmps93
   go_wp2_with fail
   go_ret
   exact ⟨congrArg (fun b => Ending.returned (Value.bool b)) HH.out, HAL.out _⟩
  | true =>
   cases he : (t.es.isEmpty) with
   | false =>
    have HH : Hid (false = A) := (by rw [← hA, ok_one hk, hs, he]; simp : false = A)
    have fe := eE _ he
    rw [str_empty hs]
    rw [hk]
    clear eE eR hA HRS HEN hs he hk
    generalize t.es.length = Ke at *
    generalize t.rest.length = Kr at *
    generalize t.n = N at *
    go_enter Tryz.func93, Tryz.ntmps93
    go_wp2_with fail
    go_ret
    exact ⟨congrArg (fun b => Ending.returned (Value.bool b)) HH.out, HAL.out _⟩
   | true =>
    cases hr : (t.rest.isEmpty) with
    | false =>
     have HH : Hid (false = A) := (by rw [← hA, ok_one hk, hs, he, hr]; simp : false = A)
     have fe := eE _ he
     have fr := eR _ hr
     rw [str_empty hs]
     rw [hk]
     clear eE eR hA HRS HEN hs he hr hk
     generalize t.es.length = Ke at *
     generalize t.rest.length = Kr at *
     generalize t.n = N at *
     go_enter Tryz.func93, Tryz.ntmps93
     go_wp2_with fail
     go_ret
     exact ⟨congrArg (fun b => Ending.returned (Value.bool b)) HH.out, HAL.out _⟩
    | true =>
     have HH : Hid (true = A) := (by rw [← hA, ok_one hk, hs, he, hr]; simp : true = A)
     have fe := eE _ he
     have fr := eR _ hr
     rw [str_empty hs]
     rw [hk]
     clear eE eR hA HRS HEN hs he hr hk
     generalize t.es.length = Ke at *
     generalize t.rest.length = Kr at *
     generalize t.n = N at *
     go_enter Tryz.func93, Tryz.ntmps93
     go_wp2_with fail
     go_ret
     exact ⟨congrArg (fun b => Ending.returned (Value.bool b)) HH.out, HAL.out _⟩
 ·by_cases hk2 : t.kind = 2
  ·cases hn : (t.n == 0) with
   | false =>
    have HH : Hid (false = A) := (by rw [← hA, ok_two hk2, hn]; simp : false = A)
    rw [hk2]
    clear eE eR hA HRS HEN hk hk2
    generalize t.es.length = Ke at *
    generalize t.rest.length = Kr at *
    generalize t.n = N at *
    generalize t.s = S at *
    go_enter Tryz.func93, Tryz.ntmps93
    go_wp2_with fail
    go_ret
    exact ⟨congrArg (fun b => Ending.returned (Value.bool b)) HH.out, HAL.out _⟩
   | true =>
    cases he : (t.es.isEmpty) with
    | false =>
     have HH : Hid (false = A) := (by rw [← hA, ok_two hk2, hn, he]; simp : false = A)
     have fe := eE _ he
     rw [hk2]
     clear eE eR hA HRS HEN he hk hk2
     generalize t.es.length = Ke at *
     generalize t.rest.length = Kr at *
     generalize t.n = N at *
     generalize t.s = S at *
     go_enter Tryz.func93, Tryz.ntmps93
     go_wp2_with fail
     go_ret
     exact ⟨congrArg (fun b => Ending.returned (Value.bool b)) HH.out, HAL.out _⟩
    | true =>
     cases hr : (t.rest.isEmpty) with
     | false =>
      have HH : Hid (false = A) := (by rw [← hA, ok_two hk2, hn, he, hr]; simp : false = A)
      have fe := eE _ he
      have fr := eR _ hr
      rw [hk2]
      clear eE eR hA HRS HEN he hr hk hk2
      generalize t.es.length = Ke at *
      generalize t.rest.length = Kr at *
      generalize t.n = N at *
      generalize t.s = S at *
      go_enter Tryz.func93, Tryz.ntmps93
      go_wp2_with fail
      go_ret
      exact ⟨congrArg (fun b => Ending.returned (Value.bool b)) HH.out, HAL.out _⟩
     | true =>
      have HH : Hid (true = A) := (by rw [← hA, ok_two hk2, hn, he, hr]; simp : true = A)
      have fe := eE _ he
      have fr := eR _ hr
      rw [hk2]
      clear eE eR hA HRS HEN he hr hk hk2
      generalize t.es.length = Ke at *
      generalize t.rest.length = Kr at *
      generalize t.n = N at *
      generalize t.s = S at *
      go_enter Tryz.func93, Tryz.ntmps93
      go_wp2_with fail
      go_ret
      exact ⟨congrArg (fun b => Ending.returned (Value.bool b)) HH.out, HAL.out _⟩
  ·by_cases hk3 : t.kind = 3
   ·cases hn : (t.n == 0) with
    | false =>
     have HH : Hid (false = A) := (by rw [← hA, ok_three hk3, hn]; simp : false = A)
     rw [hk3]
     clear eE eR hA HRS HEN hk hk2 hk3
     generalize t.es.length = Ke at *
     generalize t.rest.length = Kr at *
     generalize t.n = N at *
     generalize t.s = S at *
     go_enter Tryz.func93, Tryz.ntmps93
     go_wp2_with fail
     go_ret
     exact ⟨congrArg (fun b => Ending.returned (Value.bool b)) HH.out, HAL.out _⟩
    | true =>
     cases hs : (t.s.size == 0) with
     | false =>
      have HH : Hid (false = A) := (by rw [← hA, ok_three hk3, hn, hs]; simp : false = A)
      have fs := str_not hs
      rw [hk3]
      clear eE eR hA HRS HEN hs hk hk2 hk3
      generalize t.es.length = Ke at *
      generalize t.rest.length = Kr at *
      generalize t.n = N at *
      generalize t.s = S at *
      go_enter Tryz.func93, Tryz.ntmps93
      go_wp2_with fail
      go_ret
      exact ⟨congrArg (fun b => Ending.returned (Value.bool b)) HH.out, HAL.out _⟩
     | true =>
      have HA : Hid ((entA n' 0 t.es && restB t.rest t.es) = A) := (by rw [← hA, ok_three hk3, hn, hs]; simp : (entA n' 0 t.es && restB t.rest t.es) = A)
      have hsz := str_empty hs
      rw [hk3] at HRS ⊢
      rw [hsz] at HRS ⊢
      clear eE eR hA hs hk hk2 hk3 hsz
      generalize t.es.length = Ke at *
      generalize t.rest.length = Kr at *
      generalize t.n = N at *
      have B0 : Blk (w.alloc (Obj.cells #[.int .i64 3, .int .i64 N, .string ⟨#[]⟩, .slice pe Ke ce, .slice pr Kr cr] 33)) w.heap.size #[.int .i64 3, .int .i64 N, .string ⟨#[]⟩, .slice pe Ke ce, .slice pr Kr cr] 33 := Blk.new w _ _
      have HB0 : Hid (Blk (w.alloc (Obj.cells #[.int .i64 3, .int .i64 N, .string ⟨#[]⟩, .slice pe Ke ce, .slice pr Kr cr] 33)) w.heap.size #[.int .i64 3, .int .i64 N, .string ⟨#[]⟩, .slice pe Ke ce, .slice pr Kr cr] 33) := B0
      clear B0
      go_enter Tryz.func93, Tryz.ntmps93
      go_wp2_with fail
      refine (HEN.out _ (HAL.out _)).mono ?_
      rintro e w1 ⟨rfl, hb1⟩
      have hbw1 : Below w.heap.size w w1 := (HAL.out _).trans (hb1.mono (by simp))
      have B1 := HB0.out.below hb1
      have a0 := (B1.cell 0).trans rfl
      have a1 := (B1.cell 1).trans rfl
      have a2 := (B1.cell 2).trans rfl
      have a3 := (B1.cell 3).trans rfl
      have a4 := (B1.cell 4).trans rfl
      clear B1 hb1 HB0 HEN
      cases hE : entA n' 0 t.es with
      | false =>
       have HH : Hid (false = A) := (by rw [← HA.out, hE]; rfl : false = A)
       clear HA hE HRS
       go_wp2_with fail
       go_ret
       exact ⟨congrArg (fun b => Ending.returned (Value.bool b)) HH.out, hbw1⟩
      | true =>
       have HH : Hid (restB t.rest t.es = A) := (by rw [← HA.out, hE]; rfl : restB t.rest t.es = A)
       clear HA hE
       go_wp2_with fail
       refine (HRS.out _ hbw1).mono ?_
       rintro e w2 ⟨rfl, hb2⟩
       rw [HH.out]
       have hbw2 : Below w.heap.size w w2 := hbw1.trans (hb2.mono hbw1.size)
       clear hb2 hbw1 a0 a1 a2 a3 a4 HRS
       go_wp2_with fail
       go_ret
       exact ⟨rfl, hbw2⟩
   ·have HH : Hid (false = A) := (by rw [← hA, ok_none hk hk2 hk3] : false = A)
    have f1 : (t.kind == 1) = false := by simpa using hk
    have f2 : (t.kind == 2) = false := by simpa using hk2
    have f3 : (t.kind == 3) = false := by simpa using hk3
    clear eE eR hA HRS HEN hk hk2 hk3
    generalize t.es.length = Ke at *
    generalize t.rest.length = Kr at *
    generalize t.n = N at *
    generalize t.s = S at *
    generalize t.kind = K at *
    go_enter Tryz.func93, Tryz.ntmps93
    go_wp2_with fail
    go_ret
    exact ⟨congrArg (fun b => Ending.returned (Value.bool b)) HH.out, HAL.out _⟩
theorem rcheckN_any : ∀ (n : Nat) (t : Tr) (v : Value) (w : World), TrIn n w v t → Calls Tryz.prog 93 #[v] w fun e w' => e = .returned (.bool (okN n t)) ∧ Below w.heap.size w w'
 | 0, _, _, _, h => by obtain ⟨r, _, h⟩ := h; exact h.elim
 | n + 1, t, v, w, h => rcheckN_step n (fun t v w h => rcheckN_any n t v w h) t v w h
set_option maxHeartbeats 1000000 in
theorem rCheck_any (n : Nat) (t : Tr) (v : Value) (w : World) (h : TrIn n w v t) (hn : n ≤ 100) : Calls Tryz.prog 47 #[v] w fun e w' => e = .returned (.bool (chkN n t)) ∧ Below w.heap.size w w' := by
 have HAL : Hid (∀ (o : Obj), Below w.heap.size w (w.alloc o)) := fun o => (Below.refl _ _).alloc (Nat.le_refl _) _
 have HD : Hid (∀ W, Below w.heap.size w W → Calls Tryz.prog 92 #[v] W fun e w' => e = .returned (.int .i64 (dpN n t : Nat)) ∧ Below W.heap.size W w') := fun W hW => rDepth_any n t v W (h.below hW) hn
 have HC : Hid (∀ W, Below w.heap.size w W → Calls Tryz.prog 93 #[v] W fun e w' => e = .returned (.bool (okN n t)) ∧ Below W.heap.size W w') := fun W hW => rcheckN_any n t v W (h.below hW)
 obtain ⟨A, hA⟩ : ∃ A, chkN n t = A := ⟨_, rfl⟩
 rw [hA]
 have HA : Hid ((decide (dpN n t ≤ 10) && okN n t) = A) := hA
 obtain ⟨n', ve, vr, e0, rfl, -, -, -, -, ra, ea⟩ := h.open
 obtain ⟨pe, ce, rfl, -⟩ := ea.open
 obtain ⟨pr, cr, rfl, -⟩ := rest_holds ra
 generalize t.es.length = Ke at *
 generalize t.rest.length = Kr at *
 generalize dpN n t = D at *
 generalize okN n t = O at *
 generalize t.kind = K at *
 generalize t.n = N at *
 generalize t.s = S at *
 clear h ra ea e0 hA
 have HB0 : Hid (Blk (w.alloc (Obj.cells #[.int .i64 K, .int .i64 N, .string S, .slice pe Ke ce, .slice pr Kr cr] 33)) w.heap.size #[.int .i64 K, .int .i64 N, .string S, .slice pe Ke ce, .slice pr Kr cr] 33) := Blk.new w _ _
 go_enter Tryz.func47, Tryz.ntmps47
 go_wp2_with fail
 refine (HD.out _ (HAL.out _)).mono ?_
 rintro e w1 ⟨rfl, hb1⟩
 have hbw1 : Below w.heap.size w w1 := (HAL.out _).trans (hb1.mono (by simp))
 have B1 := HB0.out.below hb1
 have a0 := (B1.cell 0).trans rfl
 have a1 := (B1.cell 1).trans rfl
 have a2 := (B1.cell 2).trans rfl
 have a3 := (B1.cell 3).trans rfl
 have a4 := (B1.cell 4).trans rfl
 clear B1 hb1 HB0 HD
 by_cases hd : D ≤ 10
 ·have hq : decide ((D : Int) ≤ 10) = true := by simp; omega
  have HH : Hid (O = A) := (by rw [← HA.out]; simp [hd] : O = A)
  clear HA
  go_wp2_with fail
  refine (HC.out _ hbw1).mono ?_
  rintro e w2 ⟨rfl, hb2⟩
  rw [HH.out]
  have hbw2 : Below w.heap.size w w2 := hbw1.trans (hb2.mono hbw1.size)
  clear hb2 hbw1 a0 a1 a2 a3 a4 HC
  go_wp2_with fail
  go_ret
  exact ⟨rfl, hbw2⟩
 ·have hq : decide ((D : Int) ≤ 10) = false := by simp; omega
  have HH : Hid (false = A) := (by rw [← HA.out]; simp [hd] : false = A)
  clear HA
  go_wp2_with fail
  go_ret
  exact ⟨congrArg (fun b => Ending.returned (Value.bool b)) HH.out, hbw1⟩
theorem TrIn.all64 {n : Nat} {w : World} {v : Value} {t : Tr} (h : TrIn n w v t) : (∀ f ∈ t.rest, Is64 f.n) ∧ ∀ e ∈ t.es, ∀ x ∈ e.2, Is64 x.n := by
 obtain ⟨r, _, h⟩ := h
 cases n with
 | zero => exact h.elim
 | succ n =>
  obtain ⟨ve, vr, h1, h2, h3, h4, h5, h6, h7⟩ := h
  refine ⟨fun f hf => (h5 f hf).2.2.1, fun e he x hx => ?_⟩
  obtain ⟨r', vt, _, _, g3⟩ := h7.all e he
  obtain ⟨r'', hp⟩ := RowP.all g3 x hx
  cases n with
  | zero => exact hp.elim
  | succ n =>
   obtain ⟨_, _, _, _, q3, _⟩ := hp
   exact q3
theorem fds_okR {n : Nat} {w : World} {v : Value} {t : Tr} {B : Tr → List Nat × Nat} (h : TrIn n w v t) (h1 : ∀ e ∈ t.es, e.2.length ≤ 70) (h2 : t.es.length ≤ 500) (h3 : t.rest.length ≤ 5000) : FdsOk (sortF ((fsE B t.es).map (·.1) ++ t.rest)) := by
 obtain ⟨-, q2, q3, -⟩ := sortF_all _ ((fsE B t.es).map (·.1) ++ t.rest) (Nat.le_refl _)
 have hl := subs_len h1
 refine ⟨?_, fun r hr => ?_⟩
 ·rw [q2, List.length_append, List.length_map, fsE_len]
  omega
 ·obtain ⟨g2, g3⟩ := h.all64
  rcases List.mem_append.1 (q3 r hr) with hr | hr
  ·obtain ⟨p, hp, rfl⟩ := List.mem_map.1 hr
   simp only [fsE, List.mem_flatMap, enE, List.mem_map] at hp
   obtain ⟨e, he, x, hx, rfl⟩ := hp
   exact flE_64 (g3 e he x hx)
  ·exact g2 r hr
theorem RwsP.err {R : List Fd × Nat} {w w' : World} {e : Int} (h : R = ([], e.toNat)) (he : 0 ≤ e) (h2 : Below w.heap.size w w') : RwsP R w (.returned (.tuple #[.slice none 0 0, .int .i64 e])) w' := by
 subst h
 refine ⟨.slice none 0 0, ?_, RawsAt.nil _ _, ⟨by simp, by simp⟩, h2⟩
 simp only
 rw [Int.toNat_of_nonneg he]
theorem rsorted_at {B : Nat} {w : World} {v : Value} {n : Nat} {rs : List Fd} (h : w.ownsRow B 61 4 v n (rawCells rs)) (hl : rs.length ≤ 1000000) :
  Calls Tryz.prog 66 #[v] w fun e w' => ∃ v', e = .returned v' ∧ RawsAt w.heap.size w' v' (sortF rs) ∧ Below w.heap.size w w' := by
 obtain ⟨a, cap, rfl, _, h2, h3, h4, h5⟩ := own_openR h
 refine (rsorted_any a rs rs.length cap w rfl hl (own_adrR h2) h3 h4 h5).mono ?_
 rintro e w' ⟨v', rfl, g1, g2⟩
 exact ⟨_, rfl, RawsAt.own g1, g2⟩
theorem rputall_at {B : Nat} {w : World} {v : Value} {rs : List Fd} (h : RawsAt B w v rs) (hr : FdsOk rs) :
  Calls Tryz.prog 95 #[v] w fun e w' => ∃ v, e = .returned (.tuple #[v, .int .i64 ((putL rs).2 : Int)]) ∧ w'.ownsRow w.heap.size 5 1 v (putL rs).1.length (byteCells (putL rs).1) ∧ Below w.heap.size w w' := by
 obtain ⟨a, cap, rfl, h2, h3, h4, h5⟩ := h
 exact rputall_any a rs rs.length cap w rfl (own_adrR h2) h3 h4 hr.1 h5 hr.2
theorem own_setCell {w : World} {B : Nat} {e : TypeId} {s : Nat} {v : Value} {n : Nat} {xs : List Value} (h : w.ownsRow B e s v n xs) {p : Addr} (hp : ∀ k, v.ownBlock = some k → k ≠ p.block) (u : Value) : (w.setCell p u).ownsRow B e s v n xs := by
 refine ⟨h.1, ?_⟩
 rcases h.2 with h' | ⟨g, cap, cur, h1, h2, h3, h4⟩
 ·exact .inl h'
 ·exact .inr ⟨g, cap, cur, h1, h2, (Below.heap_setCell _ _ _ _ (hp g (by rw [h1]; rfl))).trans h3, h4⟩
set_option maxHeartbeats 4000000 in
theorem rraws_step (m : Nat) (IE : ∀ x v w, TrIn m w v x → SmN m x → Calls Tryz.prog 48 #[v] w (EncP (bytE m x) w)) (t : Tr) (v : Value) (w : World) (ht : TrIn (m + 1) w v t) (hs : SmN (m + 1) t) :
  Calls Tryz.prog 94 #[v] w (RwsP (rwE (bytE m) t) w) := by
 have HFO : Hid (FdsOk (sortF ((fsE (bytE m) t.es).map (·.1) ++ t.rest))) := fds_okR ht (fun e he => (hs.2.2.2.2 e he).1) hs.2.2.1 hs.2.1
 obtain ⟨m', ve, vr, hmn, rfl, -, -, -, -, hr, he⟩ := ht.open
 obtain rfl : m = m' := by omega
 obtain ⟨a1, c1, rfl, u1, u2, -⟩ := he.open
 obtain ⟨a2, c2, rfl, x1, x2, -⟩ := rest_holds hr
 have HUL : Hid (∀ i k, (uptE (bytE m) t.es i k).length ≤ 35070) := fun i k => uptE_len (fun e he => (hs.2.2.2.2 e he).1) hs.2.2.1 i k
 have HSM : Hid (∀ e ∈ t.es, e.2.length ≤ 70 ∧ ∀ x ∈ e.2, SmN m x) := hs.2.2.2.2
 have HRL : Hid (t.rest.length ≤ 5000) := hs.2.1
 obtain ⟨R, hR⟩ : ∃ R, rwE (bytE m) t = R := ⟨_, rfl⟩
 rw [hR]
 have HR : Hid (rwE (bytE m) t = R) := hR
 obtain ⟨K, hK⟩ : ∃ z, t.kind = z := ⟨_, rfl⟩
 obtain ⟨N, hN⟩ : ∃ z, t.n = z := ⟨_, rfl⟩
 obtain ⟨S, hS⟩ : ∃ z, t.s = z := ⟨_, rfl⟩
 obtain ⟨n1, hn1⟩ : ∃ z, t.es.length = z := ⟨_, rfl⟩
 obtain ⟨n2, hn2⟩ : ∃ z, t.rest.length = z := ⟨_, rfl⟩
 rw [hK, hN, hS, hn1, hn2]
 rw [hn1] at he u1
 rw [hn2] at hr x1
 have HL : Hid (t.es.length = n1 ∧ t.rest.length = n2) := ⟨hn1, hn2⟩
 have HE : Hid (EnsIn m w (.slice a1 n1 c1) t.es) := he
 have HRR : Hid (RowG w (.slice a2 n2 c2) 4 (fdRows t.rest)) := hr
 have HIE : Hid (∀ x v w, TrIn m w v x → SmN m x → Calls Tryz.prog 48 #[v] w (EncP (bytE m x) w)) := IE
 unfold maxLen at u2 x2
 obtain ⟨Z, hZ⟩ : ∃ Z, Z = w.alloc (Obj.cells #[.int .i64 K, .int .i64 N, .string S, .slice a1 n1 c1, .slice a2 n2 c2] 33) := ⟨_, rfl⟩
 have BT : Blk Z w.heap.size #[.int .i64 K, .int .i64 N, .string S, .slice a1 n1 c1, .slice a2 n2 c2] 33 := by
  rw [hZ]
  exact Blk.new w _ _
 have hZb : Below w.heap.size w Z := by
  rw [hZ]
  exact (Below.refl _ _).alloc (Nat.le_refl _) _
 clear hR ht IE hn1 hn2 hK hN hS hmn hs he hr
 go_enter Tryz.func94, Tryz.ntmps94
 go_wp2_with fail
 rw [← hZ]
 have HSZ2 : Hid (w.heap.size < Z.heap.size) := BT.lt
 clear hZ
 obtain ⟨s, hs⟩ : ∃ s, w.heap.size = s := ⟨_, rfl⟩
 have HSZ : Hid (w.heap.size = s) := hs
 rw [hs] at BT
 simp only [hs]
 clear hs
 have HBT : Hid (Blk Z s #[.int .i64 K, .int .i64 N, .string S, .slice a1 n1 c1, .slice a2 n2 c2] 33) := BT
 clear BT
 go_loopw [4, 5] (fun ov iv wr => ∃ (out : Value) (i : Nat), out = ov ∧ iv = .int .i64 (i : Int) ∧ i ≤ n1 ∧ Hid (errE (fsE (bytE m) (t.es.take i)) = 0) ∧ Hid (wr.ownsRow Z.heap.size 61 4 out ((fsE (bytE m) (t.es.take i)).map (·.1)).length (rawCells ((fsE (bytE m) (t.es.take i)).map (·.1)))) ∧ Below Z.heap.size Z wr) (fun _ iv _ => n1 - (intOf iv).toNat)
 case atStart => exact ⟨_, 0, rfl, rfl, by omega, (by simp [fsE, errE] : errE (fsE (bytE m) (t.es.take 0)) = 0), World.ownsRow_nil _ _ _ _, Below.refl _ _⟩
 case round =>
  obtain ⟨out, i, rfl, rfl, hi, HI, HO, hbr⟩ := hrel
  have HBR : Hid (Below w.heap.size w wr) := hZb.trans (hbr.mono hZb.size)
  have BTr := HBT.out.below hbr
  have q3 := (BTr.cell 3).trans rfl
  have q4 := (BTr.cell 4).trans rfl
  clear BTr
  by_cases hlt2 : i < n1
  ·obtain ⟨e, hx⟩ : ∃ r, t.es[i]? = some r := ⟨_, List.getElem?_eq_getElem (by rw [HL.out.1]; exact hlt2)⟩
   obtain ⟨gx, ox, rfl, hrow⟩ := RowP.get HE.out hx
   obtain ⟨vt, y0, y1, -, hvt⟩ := ens_at hrow
   obtain ⟨xa, xc, rfl, hxc, hxm, -⟩ := hvt.open
   have HIX : Hid (t.es[i]? = some e) := hx
   obtain ⟨e1, he1⟩ : ∃ z, e.1 = z := ⟨_, rfl⟩
   obtain ⟨Xl, hXl⟩ : ∃ z, e.2.length = z := ⟨_, rfl⟩
   rw [he1] at y0
   rw [hXl] at y1 hvt hxc
   have HEE : Hid (e.1 = e1 ∧ e.2.length = Xl) := ⟨he1, hXl⟩
   have HXT : Hid (TrsIn m w (.slice xa Xl xc) e.2) := hvt
   have HY : Hid (w.cell? ⟨gx, ox + i * 2, none⟩ = some (.int .i64 e1) ∧ w.cell? ⟨gx, ox + i * 2 + 1, none⟩ = some (.slice xa Xl xc)) := ⟨y0, y1⟩
   unfold maxLen at hxm
   have HOe : Hid (wr.ownsRow Z.heap.size 61 4 out ((uptE (bytE m) t.es i 0).map (·.1)).length (rawCells ((uptE (bytE m) t.es i 0).map (·.1)))) := (by rw [uptE_zero]; exact HO.out : wr.ownsRow Z.heap.size 61 4 out ((uptE (bytE m) t.es i 0).map (·.1)).length (rawCells ((uptE (bytE m) t.es i 0).map (·.1))))
   have HIe : Hid (errE (uptE (bytE m) t.es i 0) = 0) := (by rw [uptE_zero]; exact HI.out : errE (uptE (bytE m) t.es i 0) = 0)
   clear hx he1 hXl hvt hrow HI HO HBR y0 y1
   go_wp2_with fail
   go_loopw [4, 6] (fun ov kv wr => ∃ (out : Value) (k : Nat), out = ov ∧ kv = .int .i64 (k : Int) ∧ k ≤ Xl ∧ Hid (errE (uptE (bytE m) t.es i k) = 0) ∧ Hid (wr.ownsRow Z.heap.size 61 4 out ((uptE (bytE m) t.es i k).map (·.1)).length (rawCells ((uptE (bytE m) t.es i k).map (·.1)))) ∧ Below Z.heap.size Z wr) (fun _ kv _ => Xl - (intOf kv).toNat)
   case atStart => exact ⟨_, 0, rfl, rfl, by omega, HIe, HOe, hbr⟩
   case round =>
    obtain ⟨out, k, rfl, rfl, hk, HI, HO, hbr⟩ := hrel
    have hbwr : Below w.heap.size w wr := hZb.trans (hbr.mono hZb.size)
    have BTr := HBT.out.below hbr
    have q3 := (BTr.cell 3).trans rfl
    have f0 := (hbwr.cell (World.block_lt_of_cell? _ _ HY.out.1)).trans HY.out.1
    have f1 := (hbwr.cell (World.block_lt_of_cell? _ _ HY.out.2)).trans HY.out.2
    clear BTr
    by_cases hlt3 : k < Xl
    ·obtain ⟨x, hx⟩ : ∃ r, e.2[k]? = some r := ⟨_, List.getElem?_eq_getElem (by rw [HEE.out.2]; exact hlt3)⟩
     obtain ⟨gy, oy, rfl, hrow⟩ := RowP.get (RowP.belowT HXT.out hbwr) hx
     obtain ⟨y1, z1, v1, y2, z2, v2, p0, p1, p2, p3, p4, hxw⟩ := trs_get hrow
     obtain ⟨YK, hYK⟩ : ∃ z, x.kind = z := ⟨_, rfl⟩
     obtain ⟨YN, hYN⟩ : ∃ z, x.n = z := ⟨_, rfl⟩
     obtain ⟨YS, hYS⟩ : ∃ z, x.s = z := ⟨_, rfl⟩
     rw [hYK] at p0 hxw
     rw [hYN] at p1 hxw
     rw [hYS] at p2 hxw
     have HXP : Hid (x.kind = YK ∧ x.n = YN ∧ x.s = YS) := ⟨hYK, hYN, hYS⟩
     have HXW : Hid (TrIn m wr (.agg #[.int .i64 YK, .int .i64 YN, .string YS, .slice y1 z1 v1, .slice y2 z2 v2]) x) := hxw
     have hsx : SmN m x := (HSM.out e (List.mem_of_getElem? HIX.out)).2 x (List.mem_of_getElem? hx)
     have HSX : Hid (SmN m x) := hsx
     have HUS : Hid (uptE (bytE m) t.es i (k + 1) = uptE (bytE m) t.es i k ++ [flE (bytE m) e1 x]) := (by have := uptE_step (B := bytE m) HIX.out hx; rw [HEE.out.1] at this; exact this : _ = _)
     have HUH : Hid ((flE (bytE m) e1 x).2 ≠ 0 → errE (fsE (bytE m) t.es) = (flE (bytE m) e1 x).2) := fun h => by have := errE_hit (B := bytE m) HIX.out hx HI.out; rw [HEE.out.1] at this; exact this h
     have hln : ((uptE (bytE m) t.es i k).map (·.1)).length ≤ 35070 := by rw [List.length_map]; exact HUL.out i k
     obtain ⟨acc, hacc⟩ : ∃ z, (uptE (bytE m) t.es i k).map (·.1) = z := ⟨_, rfl⟩
     rw [hacc] at HO hln
     have HAC : Hid ((uptE (bytE m) t.es i k).map (·.1) = acc) := hacc
     obtain ⟨al, hal⟩ : ∃ z, acc.length = z := ⟨_, rfl⟩
     rw [hal] at HO hln
     have HAL : Hid (acc.length = al) := hal
     obtain ⟨i0, hif, hz0, hz1, hz2⟩ := info_parts infoRaw
     have hzw : Z.heap.size ≤ wr.heap.size := hbr.size
     have hs_lt : s < wr.heap.size := World.block_lt_of_cell? _ _ q3
     have hgx : gx < wr.heap.size := World.block_lt_of_cell? _ _ f0
     have hgy : gy < wr.heap.size := World.block_lt_of_cell? _ _ p0
     clear hx hrow hYK hYN hYS hxw hsx hacc hal
     by_cases h1 : YK = 1
     ·subst h1
      have HF : Hid (flE (bytE m) e1 x = (⟨e1, 0, YN, ⟨#[]⟩⟩, 0)) := (by unfold flE; rw [if_pos HXP.out.1, HXP.out.2.1] : _ = _)
      go_wp2_with (first
       | (at_builtin; refine wpList_append_own _ rfl _ _ 31 rfl Z.heap.size 61 i0 _ 4 40 Tryz.underlying31 hif hz0 hz1 hz2 rfl (by decide) _ _ _ rfl (((HO.out.alloc _).alloc _).alloc _) ⟨wr.heap.size + 1 + 1, 0, none⟩ 1 1 (Fd.cells ⟨e1, 0, YN, ⟨#[]⟩⟩) rfl rfl ?c1 ?c2 ?c3 ?c4 ?c5 ?_)
       | fail)
      case c1 =>
       intro j u hj
       rw [Addr.add_lit, Nat.zero_add]
       exact ((Blk.newAt (by simp)).cell j).trans (by simpa [Fd.cells] using hj)
      case c2 => intro u hu; simp [Fd.cells] at hu; rcases hu with rfl | rfl | rfl | rfl <;> rfl
      case c3 => unfold maxLen; omega
      case c4 => omega
      case c5 => simp; omega
      intro v5 w5 ho5 hg5 _
      have hbz5 : Below Z.heap.size Z w5 := (((hbr.alloc hzw _).alloc (by simp; omega) _).alloc (by simp; omega) _).grown hg5 (by simp; omega) (fun k hk => (HO.out.lt k hk).1)
      have HI2 : Hid (errE (uptE (bytE m) t.es i (k + 1)) = 0) := (by rw [HUS.out, errE_app, if_pos HI.out, errE_one, HF.out] : errE (uptE (bytE m) t.es i (k + 1)) = 0)
      have HO5 : Hid (w5.ownsRow Z.heap.size 61 4 v5 ((uptE (bytE m) t.es i (k + 1)).map (·.1)).length (rawCells ((uptE (bytE m) t.es i (k + 1)).map (·.1)))) := (by
       rw [HUS.out, List.map_append, HAC.out, HF.out, List.map_cons, List.map_nil, (rawCells_snoc' acc _).1, (rawCells_snoc' acc _).2, HAL.out]
       exact ho5 : w5.ownsRow Z.heap.size 61 4 v5 ((uptE (bytE m) t.es i (k + 1)).map (·.1)).length (rawCells ((uptE (bytE m) t.es i (k + 1)).map (·.1))))
      clear ho5 hg5 HO HI HUS HUH
      go_wp2_with fail
      go_roundw
      case rel => exact ⟨_, k + 1, rfl, by go_num, by omega, HI2, HO5, hbz5⟩
      case measure => simp [intOf]; omega
     ·by_cases h2 : YK = 2
      ·subst h2
       by_cases h3 : 4096 < YS.size
       ·have HF : Hid (flE (bytE m) e1 x = (fd0, 4)) := (by unfold flE; rw [if_neg (by rw [HXP.out.1]; decide), if_pos HXP.out.1, HXP.out.2.2, if_pos h3] : _ = _)
        have HR2 : Hid (R = ([], 4)) := (by
         have h1 := HUH.out (by rw [HF.out]; decide)
         rw [HF.out] at h1
         rw [← HR.out, rwE_no (by rw [h1]; decide), h1] : R = _)
        have hbf : ∀ o o', Below w.heap.size w ((wr.alloc o).alloc o') := fun o o' => (hbwr.alloc hbwr.size _).alloc (by simp; have := hbwr.size; omega) _
        clear HUH HUS HF
        go_wp2_with fail
        go_ret2
        exact RwsP.err HR2.out (by decide) (hbf _ _)
       ·have HF : Hid (flE (bytE m) e1 x = (⟨e1, 1, 0, YS⟩, 0)) := (by unfold flE; rw [if_neg (by rw [HXP.out.1]; decide), if_pos HXP.out.1, HXP.out.2.2, if_neg h3] : _ = _)
        go_wp2_with (first
         | (at_builtin; refine wpList_append_own _ rfl _ _ 31 rfl Z.heap.size 61 i0 _ 4 40 Tryz.underlying31 hif hz0 hz1 hz2 rfl (by decide) _ _ _ rfl (((HO.out.alloc _).alloc _).alloc _) ⟨wr.heap.size + 1 + 1, 0, none⟩ 1 1 (Fd.cells ⟨e1, 1, 0, YS⟩) rfl rfl ?c1 ?c2 ?c3 ?c4 ?c5 ?_)
         | fail)
        case c1 =>
         intro j u hj
         rw [Addr.add_lit, Nat.zero_add]
         exact ((Blk.newAt (by simp)).cell j).trans (by simpa [Fd.cells] using hj)
        case c2 => intro u hu; simp [Fd.cells] at hu; rcases hu with rfl | rfl | rfl | rfl <;> rfl
        case c3 => unfold maxLen; omega
        case c4 => omega
        case c5 => simp; omega
        intro v5 w5 ho5 hg5 _
        have hbz5 : Below Z.heap.size Z w5 := (((hbr.alloc hzw _).alloc (by simp; omega) _).alloc (by simp; omega) _).grown hg5 (by simp; omega) (fun k hk => (HO.out.lt k hk).1)
        have HI2 : Hid (errE (uptE (bytE m) t.es i (k + 1)) = 0) := (by rw [HUS.out, errE_app, if_pos HI.out, errE_one, HF.out] : errE (uptE (bytE m) t.es i (k + 1)) = 0)
        have HO5 : Hid (w5.ownsRow Z.heap.size 61 4 v5 ((uptE (bytE m) t.es i (k + 1)).map (·.1)).length (rawCells ((uptE (bytE m) t.es i (k + 1)).map (·.1)))) := (by
         rw [HUS.out, List.map_append, HAC.out, HF.out, List.map_cons, List.map_nil, (rawCells_snoc' acc _).1, (rawCells_snoc' acc _).2, HAL.out]
         exact ho5 : w5.ownsRow Z.heap.size 61 4 v5 ((uptE (bytE m) t.es i (k + 1)).map (·.1)).length (rawCells ((uptE (bytE m) t.es i (k + 1)).map (·.1))))
        clear ho5 hg5 HO HI HUS HUH
        go_wp2_with fail
        go_roundw
        case rel => exact ⟨_, k + 1, rfl, by go_num, by omega, HI2, HO5, hbz5⟩
        case measure => simp [intOf]; omega
      ·have d1 : (YK == 1) = false := by simpa using h1
       have d2 : (YK == 2) = false := by simpa using h2
       have HF0 : Hid (flE (bytE m) e1 x = if (bytE m x).2 ≠ 0 then (fd0, (bytE m x).2) else (⟨e1, 1, 0, strN (bytE m x).1⟩, 0)) := (by unfold flE; rw [if_neg (by rw [HXP.out.1]; exact h1), if_neg (by rw [HXP.out.1]; exact h2)] : _ = _)
       clear h1 h2
       obtain ⟨W, hW⟩ : ∃ W, W = (wr.alloc (Obj.cells #[.int .i64 YK, .int .i64 YN, .string YS, .slice y1 z1 v1, .slice y2 z2 v2] 33)).alloc (Obj.cells #[.int .i64 e1, .int .i64 1, .int .i64 0, .string ⟨#[]⟩] 61) := ⟨_, rfl⟩
       have alW : Below wr.heap.size wr W := by rw [hW]; exact ((Below.refl _ _).alloc (Nat.le_refl _) _).alloc (by simp) _
       have BX : Blk W wr.heap.size #[.int .i64 YK, .int .i64 YN, .string YS, .slice y1 z1 v1, .slice y2 z2 v2] 33 := by rw [hW]; exact (Blk.newAt rfl).up _
       have BR : Blk W (wr.heap.size + 1) #[.int .i64 e1, .int .i64 1, .int .i64 0, .string ⟨#[]⟩] 61 := by rw [hW]; exact Blk.newAt (by simp)
       have HEC : Hid (Calls Tryz.prog 48 #[.agg #[.int .i64 YK, .int .i64 YN, .string YS, .slice y1 z1 v1, .slice y2 z2 v2]] W (EncP (bytE m x) W)) := HIE.out x _ W (HXW.out.below alW) HSX.out
       go_wp2_with fail
       rw [← hW]
       clear hW
       refine Calls.mono HEC.out ?_
       rintro ee w4 ⟨r4, rfl, ho4, hb4⟩
       have hbr4 : Below wr.heap.size wr w4 := alW.trans (hb4.mono alW.size)
       have hcv := conv_own ho4
       have HLE : Hid ((bytE m x).1.length ≤ 4096) := bytE_le m x
       have BR4 := BR.below hb4
       have HO4 : Hid (w4.ownsRow Z.heap.size 61 4 out al (rawCells acc)) := own_belowH HO hbr4
       have hlt4 : wr.heap.size + 1 < w4.heap.size := BR4.lt
       have HOB : Hid (∀ k, out.ownBlock = some k → k ≠ wr.heap.size + 1) := fun k hk => by have := (HO.out.lt k hk).2; omega
       have hbw4 : Below w.heap.size w w4 := hbwr.trans (hbr4.mono hbwr.size)
       have hbz4 : Below Z.heap.size Z w4 := hbr.trans (hbr4.mono hbr.size)
       clear HEC ho4 hb4 BX BR alW HO
       generalize bytE m x = q at *
       obtain ⟨ns, er⟩ := q
       simp only at hcv HLE HF0 ⊢
       by_cases her : er = 0
       rotate_left
       ·have hd : ((er : Int) != 0) = true := by simp; omega
        have HR2 : Hid (R = ([], ((er : Int)).toNat)) := (by
         have h0 : flE (bytE m) e1 x = (fd0, er) := by rw [HF0.out, if_pos her]
         have h1 := HUH.out (by rw [h0]; exact her)
         rw [h0] at h1
         rw [← HR.out, rwE_no (by rw [h1]; exact her), h1]
         rfl : R = _)
        clear her HUH HUS HF0 hcv
        go_wp2_with fail
        go_ret2
        exact RwsP.err HR2.out (by omega) hbw4
       ·subst her
        have HF : Hid (flE (bytE m) e1 x = (⟨e1, 1, 0, strN ns⟩, 0)) := (by rw [HF0.out, if_neg (by simp)] : _ = _)
        have hsz : (strN ns).size ≤ 4096 := by rw [strN_size]; exact HLE.out
        generalize strN ns = T at *
        have r0 := (BR4.cell 0).trans rfl
        have r1 := (BR4.cell 1).trans rfl
        have r2 := (BR4.cell 2).trans rfl
        have r3 := (BR4.cell 3).trans rfl
        have zr3 := BR4.froz 3
        have hts : ¬ 4096 < T.size := by omega
        clear HF0 HLE
        go_wp2_with (first
         | (at_builtin; refine wpList_append_own _ rfl _ _ 31 rfl Z.heap.size 61 i0 _ 4 40 Tryz.underlying31 hif hz0 hz1 hz2 rfl (by decide) _ _ _ rfl ((own_setCell HO4.out HOB.out _).alloc _) ⟨w4.heap.size, 0, none⟩ 1 1 (Fd.cells ⟨e1, 1, 0, T⟩) rfl rfl ?c1 ?c2 ?c3 ?c4 ?c5 ?_)
         | fail)
        case c1 =>
         intro j u hj
         rw [Addr.add_lit, Nat.zero_add]
         exact ((Blk.newAt (by simp)).cell j).trans (by simpa [Fd.cells] using hj)
        case c2 => intro u hu; simp [Fd.cells] at hu; rcases hu with rfl | rfl | rfl | rfl <;> rfl
        case c3 => unfold maxLen; omega
        case c4 => omega
        case c5 => simp; omega
        intro v5 w5 ho5 hg5 _
        have hbz5 : Below Z.heap.size Z w5 := ((hbz4.setCell (by show Z.heap.size ≤ wr.heap.size + 1; omega) _).alloc (by simp; omega) _).grown hg5 (by simp; omega) (fun k hk => (HO4.out.lt k hk).1)
        have HI2 : Hid (errE (uptE (bytE m) t.es i (k + 1)) = 0) := (by rw [HUS.out, errE_app, if_pos HI.out, errE_one, HF.out] : errE (uptE (bytE m) t.es i (k + 1)) = 0)
        have HO5 : Hid (w5.ownsRow Z.heap.size 61 4 v5 ((uptE (bytE m) t.es i (k + 1)).map (·.1)).length (rawCells ((uptE (bytE m) t.es i (k + 1)).map (·.1)))) := (by
         rw [HUS.out, List.map_append, HAC.out, HF.out, List.map_cons, List.map_nil, (rawCells_snoc' acc _).1, (rawCells_snoc' acc _).2, HAL.out]
         exact ho5 : w5.ownsRow Z.heap.size 61 4 v5 ((uptE (bytE m) t.es i (k + 1)).map (·.1)).length (rawCells ((uptE (bytE m) t.es i (k + 1)).map (·.1))))
        clear ho5 hg5 HO4 HI HUS HUH
        go_wp2_with fail
        go_roundw
        case rel => exact ⟨_, k + 1, rfl, by go_num, by omega, HI2, HO5, hbz5⟩
        case measure => simp [intOf]; omega
    ·obtain rfl : k = Xl := by omega
     have HI2 : Hid (errE (fsE (bytE m) (t.es.take (i + 1))) = 0) := (by rw [← uptE_end HIX.out, HEE.out.2]; exact HI.out : errE (fsE (bytE m) (t.es.take (i + 1))) = 0)
     have HO2 : Hid (wr.ownsRow Z.heap.size 61 4 out ((fsE (bytE m) (t.es.take (i + 1))).map (·.1)).length (rawCells ((fsE (bytE m) (t.es.take (i + 1))).map (·.1)))) := (by rw [← uptE_end HIX.out, HEE.out.2]; exact HO.out : wr.ownsRow Z.heap.size 61 4 out ((fsE (bytE m) (t.es.take (i + 1))).map (·.1)).length (rawCells ((fsE (bytE m) (t.es.take (i + 1))).map (·.1))))
     clear HI HO
     go_wp2_with fail
     go_roundw
     case rel => exact ⟨_, i + 1, rfl, by go_num, by omega, HI2, HO2, hbr⟩
     case measure => simp [intOf]; omega
  ·obtain rfl : i = n1 := by omega
   have HI0 : Hid (errE (fsE (bytE m) t.es) = 0) := (by
    have h1 := HI.out
    rw [List.take_of_length_le (by rw [HL.out.1]; exact Nat.le_refl _)] at h1
    exact h1 : errE (fsE (bytE m) t.es) = 0)
   have HRV : Hid (R = (sortF ((fsE (bytE m) t.es).map (·.1) ++ t.rest), 0)) := (by rw [← HR.out, rwE_ok HI0.out] : R = _)
   have HLN : Hid (((fsE (bytE m) t.es).map (·.1)).length ≤ 35070) := (by
    have h1 := HUL.out i 0
    rw [uptE_zero, List.take_of_length_le (by rw [HL.out.1]; exact Nat.le_refl _)] at h1
    rw [List.length_map]; exact h1 : ((fsE (bytE m) t.es).map (·.1)).length ≤ 35070)
   have HO2 : Hid (wr.ownsRow Z.heap.size 61 4 out ((fsE (bytE m) t.es).map (·.1)).length (rawCells ((fsE (bytE m) t.es).map (·.1)))) := (by
    have h1 := HO.out
    rw [List.take_of_length_le (by rw [HL.out.1]; exact Nat.le_refl _)] at h1
    exact h1 : wr.ownsRow Z.heap.size 61 4 out ((fsE (bytE m) t.es).map (·.1)).length (rawCells ((fsE (bytE m) t.es).map (·.1))))
   obtain ⟨acc, hacc⟩ : ∃ z, (fsE (bytE m) t.es).map (·.1) = z := ⟨_, rfl⟩
   rw [hacc] at HO2 HLN HRV HFO
   have HRG : Hid (RowG wr (.slice a2 n2 c2) 4 (fdRows t.rest)) := HRR.out.below HBR.out
   have HFN : Hid ((fdRows t.rest).length = t.rest.length) := (by simp [fdRows] : (fdRows t.rest).length = t.rest.length)
   have hws : Z.heap.size ≤ wr.heap.size := hbr.size
   clear hacc HO HI HI0
   go_wp2_with (first
    | (at_builtin; refine wpList_joinG rfl _ _ 31 61 4 40 _ rfl Tryz.underlying31 infoRaw rfl (by decide) Z.heap.size out acc.length (rawCells acc) rfl HO2.out (.slice a2 n2 c2) (fdRows t.rest) rfl HRG.out (fdr_len t.rest) (fdr_one t.rest) ?c1 (by decide) hws ?_)
    | fail)
   case c1 => have h1 := HFN.out; have h2 := HLN.out; have h3 := HRL.out; have h4 := HL.out.2; omega
   intro v5 w5 ho5 hg5
   have hb5 : Below w.heap.size w w5 := HBR.out.grown hg5 HBR.out.size (fun k hk => Nat.le_trans (Nat.le_of_lt HSZ2.out) (HO2.out.lt k hk).1)
   have HO5 : Hid (w5.ownsRow Z.heap.size 61 4 v5 (acc ++ t.rest).length (rawCells (acc ++ t.rest))) := (by
    rw [rawCells_app, rawCells_flat t.rest, List.length_append, ← HFN.out]
    exact ho5 : w5.ownsRow Z.heap.size 61 4 v5 (acc ++ t.rest).length (rawCells (acc ++ t.rest)))
   have HSC : Hid (Calls Tryz.prog 66 #[v5] w5 fun e w' => ∃ v', e = .returned v' ∧ RawsAt w5.heap.size w' v' (sortF (acc ++ t.rest)) ∧ Below w5.heap.size w5 w') := rsorted_at HO5.out (by rw [List.length_append]; have h2 := HLN.out; have h3 := HRL.out; have h4 := HL.out.2; omega)
   clear ho5 hg5 HO2 HO5 HRG q3 q4
   go_wp2_with fail
   refine Calls.mono HSC.out ?_
   rintro ee w6 ⟨v6, rfl, hra, hb6⟩
   have HRA : Hid (RawsAt w.heap.size w6 v6 (sortF (acc ++ t.rest))) := (by
    obtain ⟨qa, qc, q1, q2, q3, q4, q5⟩ := hra
    refine ⟨qa, qc, q1, ?_, q3, q4, q5⟩
    rcases q2 with h | ⟨g, g1, g2, g3⟩
    ·exact .inl h
    ·exact .inr ⟨g, g1, Nat.le_trans hb5.size g2, g3⟩ : RawsAt w.heap.size w6 v6 (sortF (acc ++ t.rest)))
   have hbw6 : Below w.heap.size w w6 := hb5.trans (hb6.mono hb5.size)
   clear hra hb6 HSC hb5
   go_wp2_with fail
   go_ret2
   exact ⟨v6, by rw [HRV.out]; rfl, by rw [HRV.out]; exact HRA.out, by rw [HRV.out]; exact HFO.out, hbw6⟩
set_option maxHeartbeats 1000000 in
theorem rencode_step (Q : List Fd × Nat) (t : Tr) (n : Nat) (v : Value) (w : World) (ht : TrIn n w v t) (IR : ∀ W, Below w.heap.size w W → Calls Tryz.prog 94 #[v] W (RwsP Q W)) : Calls Tryz.prog 48 #[v] w (EncP (ofR Q) w) := by
 obtain ⟨R, hR⟩ : ∃ R, ofR Q = R := ⟨_, rfl⟩
 have HR : Hid (ofR Q = R) := hR
 rw [hR]
 obtain ⟨m', ve, vr, -, rfl, -, -, -, -, ra, ea⟩ := ht.open
 obtain ⟨a1, c1, rfl, -⟩ := ea.open
 obtain ⟨a2, c2, rfl, -⟩ := rest_holds ra
 have HRC : Hid (∀ W, Below w.heap.size w W → Calls Tryz.prog 94 #[.agg #[.int .i64 t.kind, .int .i64 t.n, .string t.s, .slice a1 t.es.length c1, .slice a2 t.rest.length c2]] W (RwsP Q W)) := IR
 generalize t.kind = K at *
 generalize t.n = N at *
 generalize t.s = S at *
 generalize t.es.length = n1 at *
 generalize t.rest.length = n2 at *
 have hbw : Below w.heap.size w (w.alloc (Obj.cells #[.int .i64 K, .int .i64 N, .string S, .slice a1 n1 c1, .slice a2 n2 c2] 33)) := (Below.refl _ _).alloc (Nat.le_refl _) _
 clear hR ht ra ea IR
 go_enter Tryz.func48, Tryz.ntmps48
 go_wp2_with fail
 refine Calls.mono (HRC.out _ hbw) ?_
 rintro ee w1 ⟨r, rfl, hra, hok, hb1⟩
 have hbw1 : Below w.heap.size w w1 := hbw.trans (hb1.mono hbw.size)
 obtain ⟨rs, er⟩ := Q
 have HPC : Hid (Calls Tryz.prog 95 #[r] w1 fun e w' => ∃ v, e = .returned (.tuple #[v, .int .i64 ((putL rs).2 : Int)]) ∧ w'.ownsRow w1.heap.size 5 1 v (putL rs).1.length (byteCells (putL rs).1) ∧ Below w1.heap.size w1 w') := rputall_at hra hok
 clear hra hok hb1 hbw HRC
 by_cases he : er = 0
 ·subst he
  have HRV : Hid (putL rs = R) := (by have := HR.out; rw [ofR, if_neg (by simp)] at this; exact this : putL rs = R)
  rw [HRV.out] at HPC
  clear HR HRV
  go_wp2_with fail
  refine Calls.mono HPC.out ?_
  rintro ee w2 ⟨u, rfl, ho, hb2⟩
  have hbw2 : Below w.heap.size w w2 := hbw1.trans (hb2.mono hbw1.size)
  have HO : Hid (w2.ownsRow w.heap.size 5 1 u R.1.length (byteCells R.1)) := (by
   refine ⟨ho.1, ?_⟩
   rcases ho.2 with h | ⟨g, cap, cur, h1, h2, h3⟩
   ·exact .inl h
   ·exact .inr ⟨g, cap, cur, h1, Nat.le_trans hbw1.size h2, h3⟩ : w2.ownsRow w.heap.size 5 1 u R.1.length (byteCells R.1))
  clear ho hb2 HPC
  go_wp2_with fail
  go_ret2
  exact ⟨u, rfl, HO.out, hbw2⟩
 ·have hd : ((er : Int) != 0) = true := by simp; omega
  have HRV : Hid (R = ([], er)) := (by have := HR.out; rw [ofR, if_pos he] at this; exact this.symm : R = _)
  clear HR HPC he
  go_wp2_with fail
  go_ret2
  exact EncP.no HRV.out hbw1
theorem rraws_any : ∀ (m : Nat) (t : Tr) (v : Value) (w : World), TrIn m w v t → SmN m t → Calls Tryz.prog 94 #[v] w (RwsP (rwE (bytE (m - 1)) t) w)
 | 0, _, _, _, h, _ => by obtain ⟨r, _, h⟩ := h; exact h.elim
 | m + 1, t, v, w, h, hs => rraws_step m (fun x v w h hs => by
   cases m with
   | zero => obtain ⟨r, _, h⟩ := h; exact h.elim
   | succ m => exact rencode_step _ x (m + 1) v w h fun W hW => rraws_any (m + 1) x v W (h.below hW) hs) t v w h hs
theorem rencode_any (m : Nat) (t : Tr) (v : Value) (w : World) (h : TrIn m w v t) (hs : SmN m t) : Calls Tryz.prog 48 #[v] w (EncP (bytE m t) w) := by
 cases m with
 | zero => obtain ⟨r, _, h⟩ := h; exact h.elim
 | succ m => exact rencode_step _ t (m + 1) v w h fun W hW => rraws_any (m + 1) t v W (h.below hW) hs
set_option maxHeartbeats 1000000 in
theorem rEncode_any (n : Nat) (t : Tr) (v : Value) (w : World) (ht : TrIn n w v t) (hs : SmN n t) (hn : n ≤ 100) : Calls Tryz.prog 27 #[v] w (EncP (encA n t) w) := by
 obtain ⟨R, hR⟩ : ∃ R, encA n t = R := ⟨_, rfl⟩
 have HR : Hid (encA n t = R) := hR
 rw [hR]
 have HCK0 : Hid (∀ W, Below w.heap.size w W → Calls Tryz.prog 47 #[v] W fun e w' => e = .returned (.bool (chkN n t)) ∧ Below W.heap.size W w') := fun W hW => rCheck_any n t v W (ht.below hW) hn
 have HRC0 : Hid (∀ W, Below w.heap.size w W → Calls Tryz.prog 48 #[v] W (EncP (bytE n t) W)) := fun W hW => rencode_any n t v W (ht.below hW) hs
 cases n with
 | zero => exact hs.elim
 | succ n =>
  obtain ⟨m', ve, vr, -, rfl, -, -, -, -, ra, ea⟩ := ht.open
  obtain ⟨a1, c1, rfl, -⟩ := ea.open
  obtain ⟨a2, c2, rfl, -⟩ := rest_holds ra
  have HCK : Hid (∀ W, Below w.heap.size w W → Calls Tryz.prog 47 #[.agg #[.int .i64 t.kind, .int .i64 t.n, .string t.s, .slice a1 t.es.length c1, .slice a2 t.rest.length c2]] W fun e w' => e = .returned (.bool (chkN (n + 1) t)) ∧ Below W.heap.size W w') := HCK0.out
  have HRC : Hid (∀ W, Below w.heap.size w W → Calls Tryz.prog 48 #[.agg #[.int .i64 t.kind, .int .i64 t.n, .string t.s, .slice a1 t.es.length c1, .slice a2 t.rest.length c2]] W (EncP (bytE (n + 1) t) W)) := HRC0.out
  obtain ⟨K, hK⟩ : ∃ z, t.kind = z := ⟨_, rfl⟩
  have HT3 : Hid (t.kind = K) := hK
  rw [hK] at HCK HRC ⊢
  generalize t.n = N at *
  generalize t.s = S at *
  generalize t.es.length = n1 at *
  generalize t.rest.length = n2 at *
  have BT : Blk (w.alloc (Obj.cells #[.int .i64 K, .int .i64 N, .string S, .slice a1 n1 c1, .slice a2 n2 c2] 33)) w.heap.size #[.int .i64 K, .int .i64 N, .string S, .slice a1 n1 c1, .slice a2 n2 c2] 33 := Blk.new w _ _
  have hbw : Below w.heap.size w (w.alloc (Obj.cells #[.int .i64 K, .int .i64 N, .string S, .slice a1 n1 c1, .slice a2 n2 c2] 33)) := (Below.refl _ _).alloc (Nat.le_refl _) _
  clear hR ht ra ea hs hn hK HCK0 HRC0
  by_cases hK3 : K = 3
  rotate_left
  ·have d : (K != 3) = true := by simpa using hK3
   have HRV : Hid (R = ([], 1)) := (by rw [← HR.out]; unfold encA rawsA; rw [if_neg (by rw [HT3.out]; exact fun h => hK3 h.1)]; rfl : R = _)
   clear hK3 HR HT3 HCK HRC BT
   go_enter Tryz.func27, Tryz.ntmps27
   go_wp2_with fail
   go_ret2
   exact EncP.no HRV.out hbw
  ·subst hK3
   go_enter Tryz.func27, Tryz.ntmps27
   go_wp2_with fail
   refine (HCK.out _ hbw).mono ?_
   rintro ee w1 ⟨rfl, hb1⟩
   have hbw1 : Below w.heap.size w w1 := hbw.trans (hb1.mono hbw.size)
   have BT1 := BT.below hb1
   clear hb1 hbw BT HCK
   obtain ⟨C, hC⟩ : ∃ z, chkN (n + 1) t = z := ⟨_, rfl⟩
   have HC : Hid (chkN (n + 1) t = C) := hC
   rw [hC]
   clear hC
   cases C with
   | false =>
    have HRV : Hid (R = ([], 1)) := (by rw [← HR.out]; unfold encA rawsA; rw [if_neg (by rw [HT3.out]; exact fun h => absurd h.2 (by rw [HC.out]; decide))]; rfl : R = _)
    clear HR HC HRC
    go_wp2_with fail
    go_ret2
    exact EncP.no HRV.out hbw1
   | true =>
    have HRV : Hid (bytE (n + 1) t = R) := (by rw [← HR.out]; unfold encA rawsA; rw [if_pos ⟨HT3.out, HC.out⟩]; rfl : _ = R)
    have HF2 : Hid (Calls Tryz.prog 48 #[.agg #[.int .i64 3, .int .i64 N, .string S, .slice a1 n1 c1, .slice a2 n2 c2]] w1 (EncP R w1)) := (by
     have h1 := HRC.out w1 hbw1
     rw [HRV.out] at h1
     exact h1 : Calls Tryz.prog _ _ _ _)
    have t0 := (BT1.cell 0).trans rfl
    have t1 := (BT1.cell 1).trans rfl
    have t2 := (BT1.cell 2).trans rfl
    have t3 := (BT1.cell 3).trans rfl
    have t4 := (BT1.cell 4).trans rfl
    clear HRC HRV HR HC BT1
    go_wp2_with fail
    refine Calls.mono HF2.out ?_
    rintro ee w3 ⟨r, rfl, ho, hb3⟩
    have hbw3 : Below w.heap.size w w3 := hbw1.trans (hb3.mono hbw1.size)
    have HO : Hid (w3.ownsRow w.heap.size 5 1 r R.1.length (byteCells R.1)) := (by
     refine ⟨ho.1, ?_⟩
     rcases ho.2 with h | ⟨g, cap, cur, h1, h2, h3⟩
     ·exact .inl h
     ·exact .inr ⟨g, cap, cur, h1, Nat.le_trans hbw1.size h2, h3⟩ : w3.ownsRow w.heap.size 5 1 r R.1.length (byteCells R.1))
    clear ho hb3 HF2 t0 t1 t2 t3 t4
    go_wp2_with fail
    go_ret2
    exact ⟨r, rfl, HO.out, hbw3⟩
end Go.Proofs.YtiajaocckkghgaaGreat

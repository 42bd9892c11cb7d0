/- Two rows of fields, two trees, two rows of trees: alike? -/
import Derived.Test.YtgedelgdjcnogabVsMath
import Derived.Test.YtgedelgdjcnogabFdEq
import Derived.BigQuiet
namespace Go.Proofs.Ytgedelgdjcnogab
open Go.ChangeShapes Go.WideShapes Go.ChangeAt Go.RowKit
set_option linter.unusedVariables false
set_option linter.unusedSimpArgs false
set_option maxRecDepth 20000

/-- A Bool that says whether something is so. -/
def Says (p : Prop) (e : Ending) : Prop := ∃ R : Bool, e = .returned (.bool R) ∧ (R = true ↔ p)
theorem says_no {p : Prop} (h : ¬ p) : Says p (.returned (.bool false)) := ⟨false, rfl, by simp [h]⟩
theorem says_yes {p : Prop} (h : p) : Says p (.returned (.bool true)) := ⟨true, rfl, by simp [h]⟩
theorem lst_pre {α : Type} {l m : List α} {N : Nat} (h1 : l.length = N) (h2 : m.length = N) (hj : ∀ j, j < N → l[j]? = m[j]?) : l = m := by
  refine List.ext_getElem? fun i => ?_
  by_cases hi : i < N
  · exact hj i hi
  · rw [List.getElem?_eq_none (by omega), List.getElem?_eq_none (by omega)]
set_option maxHeartbeats 2000000 in
theorem equalR_any (pa pb : Option Addr) (Ka Kb ca cb : Nat) (la lb : List Fd) (w : World) (k1 : la.length = Ka) (k2 : lb.length = Kb) (x1 : Ka ≤ ca) (x2 : ca ≤ 9223372036854775807) (y1 : Kb ≤ cb) (y2 : cb ≤ 9223372036854775807)
    (ha : RowG w (.slice pa Ka ca) 4 (fdRows la)) (hb : RowG w (.slice pb Kb cb) 4 (fdRows lb)) :
    Calls Try.prog 27 #[.slice pa Ka ca, .slice pb Kb cb] w fun e w' => Says (la = lb) e ∧ Below w.heap.size w w' := by
  have RA : Hid (RowG w (.slice pa Ka ca) 4 (fdRows la)) := ha
  have RB : Hid (RowG w (.slice pb Kb cb) 4 (fdRows lb)) := hb
  have HKa : Hid (la.length = Ka) := k1
  have HKb : Hid (lb.length = Kb) := k2
  clear ha hb k1 k2
  by_cases hk : Ka = Kb
  · subst hk
    go_enter Try.func27, Try.ntmps27
    go_wp2_with fail
    go_loopw [13] (fun iv wr => ∃ i : Nat, iv = .int .i64 (i : Int) ∧ i ≤ Ka ∧ Hid (∀ j, j < i → la[j]? = lb[j]?) ∧ Below w.heap.size w wr) (fun iv _ => Ka - (intOf iv).toNat)
    case atStart => exact ⟨0, rfl, by omega, (fun j hj => absurd hj (by omega) : ∀ j, j < 0 → la[j]? = lb[j]?), Below.refl _ _⟩
    case round =>
      obtain ⟨i, rfl, hi, HJ, hbel⟩ := hrel
      by_cases hlt : i < Ka
      · obtain ⟨r, hr⟩ : ∃ r, la[i]? = some r := ⟨_, List.getElem?_eq_getElem (by rw [HKa.out]; exact hlt)⟩
        obtain ⟨s, hs⟩ : ∃ r, lb[i]? = some r := ⟨_, List.getElem?_eq_getElem (by rw [HKb.out]; exact hlt)⟩
        obtain ⟨g, off, rfl, c1⟩ := (RA.out.below hbel).get (show (fdRows la)[i]? = some r.cells by simp [fdRows, hr])
        obtain ⟨g2, off2, rfl, c2⟩ := (RB.out.below hbel).get (show (fdRows lb)[i]? = some s.cells by simp [fdRows, hs])
        have p0 := c1 0 _ rfl
        have p1 := c1 1 _ rfl
        have p2 := c1 2 _ rfl
        have p3 := c1 3 _ rfl
        have o0 := c2 0 _ rfl
        have o1 := c2 1 _ rfl
        have o2 := c2 2 _ rfl
        have o3 := c2 3 _ rfl
        simp only [Nat.add_zero] at p0 o0
        have HR : Hid (la[i]? = some r) := hr
        have HS : Hid (lb[i]? = some s) := hs
        clear c1 c2 hr hs
        by_cases hrs : r = s
        · subst hrs
          obtain ⟨t1, t2, t3, t4⟩ := r
          simp only at p0 p1 p2 p3 o0 o1 o2 o3
          go_wp2_with fail
          go_quiet (fail)
          have hbn := below_drewN nq hbel
          clear p0 p1 p2 p3 o0 o1 o2 o3
          go_wp2_with fail
          go_roundw
          case rel => exact ⟨i + 1, by go_num, by omega, (fun j hj => by
            rcases Nat.lt_or_eq_of_le (Nat.le_of_lt_succ hj) with h | h
            · exact HJ.out j h
            · subst h; rw [HR.out, HS.out] : ∀ j, j < i + 1 → la[j]? = lb[j]?), hbn⟩
          case measure => simp [intOf]; omega
        · obtain ⟨t1, t2, t3, t4⟩ := r
          obtain ⟨s1, s2, s3, s4⟩ := s
          simp only at p0 p1 p2 p3 o0 o1 o2 o3
          have hne : la ≠ lb := fun e => hrs (by have := HR.out; rw [e, HS.out] at this; exact (Option.some.inj this).symm)
          have hx := fd_neq t1 t2 t3 s1 s2 s3 t4 s4 hrs
          clear hrs
          go_wp2_with fail
          go_quiet (fail)
          have hbn := below_drewN nq hbel
          clear p0 p1 p2 p3 o0 o1 o2 o3 hx
          go_wp2_with fail
          go_ret
          exact ⟨says_no hne, hbn⟩
      · have hje : la = lb := lst_pre HKa.out HKb.out fun j hj => HJ.out j (by omega)
        go_wp2_with fail
        go_ret
        exact ⟨says_yes hje, hbel⟩
  · have hne : la ≠ lb := fun e => hk (by rw [← HKa.out, ← HKb.out, e])
    have hd : ((Ka : Int) != (Kb : Int)) = true := by simp; omega
    go_enter Try.func27, Try.ntmps27
    go_wp2_with fail
    go_ret
    exact ⟨says_no hne, Below.refl _ _⟩
set_option maxHeartbeats 4000000 in
theorem alike_any (n m : Nat) (a b : Tr) (va vb : Value) (w : World) (ha : TrIn n w va a) (hb : TrIn m w vb b) :
    Calls Try.prog 22 #[va, vb] w fun e w' => Says (AliT a b) e ∧ Below w.heap.size w w' := by
  obtain ⟨n', ve, vr, rfl, rfl, ka, na, sa, fa, ra, ea⟩ := ha.open
  obtain ⟨m', ve2, vr2, rfl, rfl, kb, nb, sb, fb, rb, eb⟩ := hb.open
  obtain ⟨pe, ce, rfl, u1, u2, u3, u4, u5⟩ := ea.open
  obtain ⟨pe2, ce2, rfl, v1, v2, v3, v4, v5⟩ := eb.open
  obtain ⟨pr, cr, rfl, x1, x2, x3, x4, x5⟩ := rest_holds ra
  obtain ⟨pr2, cr2, rfl, y1, y2, y3, y4, y5⟩ := rest_holds rb
  clear u5 v5 x5 y5 ha hb ea eb
  unfold maxLen at u2 v2 x2 y2
  obtain ⟨Ke, hKe⟩ : ∃ K, a.es.length = K := ⟨_, rfl⟩
  obtain ⟨Ke2, hKe2⟩ : ∃ K, b.es.length = K := ⟨_, rfl⟩
  obtain ⟨Kr, hKr⟩ : ∃ K, a.rest.length = K := ⟨_, rfl⟩
  obtain ⟨Kr2, hKr2⟩ : ∃ K, b.rest.length = K := ⟨_, rfl⟩
  rw [hKe] at u1 ⊢
  rw [hKe2] at v1 ⊢
  rw [hKr] at x1 ra ⊢
  rw [hKr2] at y1 rb ⊢
  have HEQ : Hid (∀ W, Below w.heap.size w W → Calls Try.prog 27 #[.slice pr Kr cr, .slice pr2 Kr2 cr2] W fun e w' => Says (a.rest = b.rest) e ∧ Below W.heap.size W w') := fun W hW => equalR_any pr pr2 Kr Kr2 cr cr2 _ _ W hKr hKr2 x1 (by omega) y1 (by omega) (ra.below hW) (rb.below hW)
  clear ra rb u4 v4 x4 y4 sa sb fa fb u3 v3 x3 y3
  have HA : Hid (AliT a b ↔ a.kind = b.kind ∧ a.n = b.n ∧ a.s = b.s ∧ Ke = Ke2 ∧ a.rest = b.rest) := (by rw [← hKe, ← hKe2]; exact Iff.rfl : AliT a b ↔ a.kind = b.kind ∧ a.n = b.n ∧ a.s = b.s ∧ Ke = Ke2 ∧ a.rest = b.rest)
  clear hKe hKe2 hKr hKr2
  generalize AliT a b = P at *
  generalize a.rest = Ra at *
  generalize b.rest = Rb at *
  obtain ⟨k1, e1⟩ : ∃ K, a.kind = K := ⟨_, rfl⟩
  obtain ⟨k2, e2⟩ : ∃ K, b.kind = K := ⟨_, rfl⟩
  obtain ⟨n1, e3⟩ : ∃ K, a.n = K := ⟨_, rfl⟩
  obtain ⟨n2, e4⟩ : ∃ K, b.n = K := ⟨_, rfl⟩
  obtain ⟨s1, e5⟩ : ∃ K, a.s = K := ⟨_, rfl⟩
  obtain ⟨s2, e6⟩ : ∃ K, b.s = K := ⟨_, rfl⟩
  rw [e1, e2, e3, e4, e5, e6] at HA ⊢
  clear e1 e2 e3 e4 e5 e6 ka na kb nb
  have hb2 : ∀ o1 o2, Below w.heap.size w ((w.alloc o1).alloc o2) := fun o1 o2 => ((Below.refl _ _).alloc (Nat.le_refl _) _).alloc (by simp) _
  by_cases hk : k1 = k2
  · subst hk
    by_cases hn : n1 = n2
    · subst hn
      by_cases hs : s1 = s2
      · subst hs
        by_cases he : Ke = Ke2
        · subst he
          go_enter Try.func22, Try.ntmps22
          go_wp2_with fail
          refine (HEQ.out _ (hb2 _ _)).mono ?_
          rintro e w1 ⟨⟨R, rfl, hR⟩, h1⟩
          have HR : Hid (R = true ↔ Ra = Rb) := hR
          clear hR
          go_wp2_with fail
          go_ret
          exact ⟨⟨R, rfl, by rw [HA.out, HR.out]; simp⟩, (hb2 _ _).trans (h1.mono (hb2 _ _).size)⟩
        · have hd : ((Ke : Int) == (Ke2 : Int)) = false := by simp; omega
          go_enter Try.func22, Try.ntmps22
          go_wp2_with fail
          go_ret
          exact ⟨says_no (by rw [HA.out]; simp [he]), hb2 _ _⟩
      · have hd : (s1.toList == s2.toList) = false := by
          simp only [beq_eq_false_iff_ne, ne_eq]
          exact fun h => hs (toList_ext h)
        go_enter Try.func22, Try.ntmps22
        go_wp2_with fail
        go_ret
        exact ⟨says_no (by rw [HA.out]; simp [hs]), hb2 _ _⟩
    · have hd : (n1 == n2) = false := by simpa using hn
      go_enter Try.func22, Try.ntmps22
      go_wp2_with fail
      go_ret
      exact ⟨says_no (by rw [HA.out]; simp [hn]), hb2 _ _⟩
  · have hd : (k1 == k2) = false := by simpa using hk
    go_enter Try.func22, Try.ntmps22
    go_wp2_with fail
    go_ret
    exact ⟨says_no (by rw [HA.out]; simp [hk]), hb2 _ _⟩
set_option maxHeartbeats 4000000 in
theorem equalT_any (n m : Nat) (la lb : List Tr) (va vb : Value) (w : World) (ha : TrsIn n w va la) (hb : TrsIn m w vb lb) :
    Calls Try.prog 28 #[va, vb, .func (.func 22) #[] #[]] w fun e w' => Says (AllA la lb) e ∧ Below w.heap.size w w' := by
  obtain ⟨pa, ca, rfl, u1, u2, u3, u4, u5⟩ := RowP.open ha
  obtain ⟨pb, cb, rfl, v1, v2, v3, v4, v5⟩ := RowP.open hb
  clear u5 v5 u3 v3 u4 v4
  unfold maxLen at u2 v2
  obtain ⟨Ka, hKa⟩ : ∃ K, la.length = K := ⟨_, rfl⟩
  obtain ⟨Kb, hKb⟩ : ∃ K, lb.length = K := ⟨_, rfl⟩
  rw [hKa] at u1 ha ⊢
  rw [hKb] at v1 hb ⊢
  have HA : Hid (TrsIn n w (.slice pa Ka ca) la) := ha
  have HB : Hid (TrsIn m w (.slice pb Kb cb) lb) := hb
  have HKa : Hid (la.length = Ka) := hKa
  have HKb : Hid (lb.length = Kb) := hKb
  clear ha hb hKa hKb
  by_cases hk : Ka = Kb
  · subst hk
    go_enter Try.func28, Try.ntmps28
    go_wp2_with fail
    go_loopw [17] (fun iv wr => ∃ i : Nat, iv = .int .i64 (i : Int) ∧ i ≤ Ka ∧ Hid (∀ j t u, j < i → la[j]? = some t → lb[j]? = some u → AliT t u) ∧ Below w.heap.size w wr) (fun iv _ => Ka - (intOf iv).toNat)
    case atStart => exact ⟨0, rfl, by omega, (fun j t u hj => absurd hj (by omega) : ∀ j t u, j < 0 → la[j]? = some t → lb[j]? = some u → AliT t u), Below.refl _ _⟩
    case round =>
      obtain ⟨i, rfl, hi, HJ, hbel⟩ := hrel
      by_cases hlt : i < Ka
      · obtain ⟨t, ht⟩ : ∃ r, la[i]? = some r := ⟨_, List.getElem?_eq_getElem (by rw [HKa.out]; exact hlt)⟩
        obtain ⟨u, hu⟩ : ∃ r, lb[i]? = some r := ⟨_, List.getElem?_eq_getElem (by rw [HKb.out]; exact hlt)⟩
        obtain ⟨g, off, rfl, c1⟩ := (RowP.belowT HA.out hbel).get ht
        obtain ⟨g2, off2, rfl, c2⟩ := (RowP.belowT HB.out hbel).get hu
        obtain ⟨a1, n1, b1, a2, n2, b2, p0, p1, p2, p3, p4, p5⟩ := trs_get c1
        obtain ⟨a3, n3, b3, a4, n4, b4, o0, o1, o2, o3, o4, o5⟩ := trs_get c2
        have HT : Hid (la[i]? = some t) := ht
        have HU : Hid (lb[i]? = some u) := hu
        have HC : Hid (∀ W, Below wr.heap.size wr W → Calls Try.prog 22 #[.agg #[.int .i64 t.kind, .int .i64 t.n, .string t.s, .slice a1 n1 b1, .slice a2 n2 b2], .agg #[.int .i64 u.kind, .int .i64 u.n, .string u.s, .slice a3 n3 b3, .slice a4 n4 b4]] W fun e w' => Says (AliT t u) e ∧ Below W.heap.size W w') := fun W hW => alike_any n m t u _ _ W (p5.below hW) (o5.below hW)
        clear c1 c2 ht hu p5 o5
        obtain ⟨k1, e1⟩ : ∃ K, t.kind = K := ⟨_, rfl⟩
        obtain ⟨k2, e2⟩ : ∃ K, u.kind = K := ⟨_, rfl⟩
        obtain ⟨m1, e3⟩ : ∃ K, t.n = K := ⟨_, rfl⟩
        obtain ⟨m2, e4⟩ : ∃ K, u.n = K := ⟨_, rfl⟩
        obtain ⟨s1, e5⟩ : ∃ K, t.s = K := ⟨_, rfl⟩
        obtain ⟨s2, e6⟩ : ∃ K, u.s = K := ⟨_, rfl⟩
        rw [e1, e3, e5, e2, e4, e6] at HC
        rw [e1] at p0
        rw [e3] at p1
        rw [e5] at p2
        rw [e2] at o0
        rw [e4] at o1
        rw [e6] at o2
        clear e1 e2 e3 e4 e5 e6
        have hb2 : ∀ o1 o2, Below wr.heap.size wr ((wr.alloc o1).alloc o2) := fun o1 o2 => ((Below.refl _ _).alloc (Nat.le_refl _) _).alloc (by simp) _
        have hal : Below wr.heap.size wr (wr.alloc (Obj.cells #[.int .i64 k1, .int .i64 m1, .string s1, .slice a1 n1 b1, .slice a2 n2 b2] 25)) := (Below.refl _ _).alloc (Nat.le_refl _) _
        replace o0 := (hal.cell (World.block_lt_of_cell? _ _ o0)).trans o0
        replace o1 := (hal.cell (World.block_lt_of_cell? _ _ o1)).trans o1
        replace o2 := (hal.cell (World.block_lt_of_cell? _ _ o2)).trans o2
        replace o3 := (hal.cell (World.block_lt_of_cell? _ _ o3)).trans o3
        replace o4 := (hal.cell (World.block_lt_of_cell? _ _ o4)).trans o4
        clear hal
        go_wp2_with fail
        refine (HC.out _ (hb2 _ _)).mono ?_
        rintro e w1 ⟨⟨R, rfl, hR⟩, h1⟩
        have HR : Hid (R = true ↔ AliT t u) := hR
        have hbn : Below w.heap.size w w1 := hbel.trans (((hb2 _ _).trans (h1.mono (hb2 _ _).size)).mono hbel.size)
        clear hR h1 HC p0 p1 p2 p3 p4 o0 o1 o2 o3 o4
        cases R with
        | true =>
          have HJ2 : Hid (∀ j t u, j < i + 1 → la[j]? = some t → lb[j]? = some u → AliT t u) := (fun j t' u' hj h1 h2 => by
            rcases Nat.lt_or_eq_of_le (Nat.le_of_lt_succ hj) with h | h
            · exact HJ.out j t' u' h h1 h2
            · subst h
              rw [HT.out] at h1
              rw [HU.out] at h2
              cases h1; cases h2
              exact HR.out.1 rfl : ∀ j t u, j < i + 1 → la[j]? = some t → lb[j]? = some u → AliT t u)
          go_wp2_with fail
          go_roundw
          case rel => exact ⟨i + 1, by go_num, by omega, HJ2, hbn⟩
          case measure => simp [intOf]; omega
        | false =>
          have hne : ¬ AllA la lb := fun h => by
            have := HR.out.2 (h.2 i t u HT.out HU.out)
            cases this
          go_wp2_with fail
          go_ret
          exact ⟨says_no hne, hbn⟩
      · have hje : AllA la lb := ⟨HKa.out.trans HKb.out.symm, fun j t u ht hu => HJ.out j t u (by have := (List.getElem?_eq_some_iff.1 ht).1; have := HKa.out; omega) ht hu⟩
        go_wp2_with fail
        go_ret
        exact ⟨says_yes hje, hbel⟩
  · have hne : ¬ AllA la lb := fun e => hk (by rw [← HKa.out, ← HKb.out, e.1])
    have hd : ((Ka : Int) != (Kb : Int)) = true := by simp; omega
    go_enter Try.func28, Try.ntmps28
    go_wp2_with fail
    go_ret
    exact ⟨says_no hne, Below.refl _ _⟩
end Go.Proofs.Ytgedelgdjcnogab

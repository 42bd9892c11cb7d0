/- What SameSchemas answers of one schema in two places. -/
import Derived.Test.YtkfhlgajeejgeaaGreatDoorScSameP
namespace Go.Proofs.YtkfhlgajeejgeaaGreatDoor
open Go.ChangeShapes Go.WideShapes Go.ChangeAt Go.RowKit
set_option linter.unusedVariables false
set_option linter.unusedSimpArgs false
set_option maxRecDepth 20000

set_option maxHeartbeats 4000000 in
theorem sschemas_any {w : World} {v1 v2 : Value} {s : ScS} (h1 : ScIn w v1 s) (h2 : ScIn w v2 s) :
    Calls Tryz.prog 12 #[v1, v2] w fun e w' => e = .returned (.bool true) ∧ Below w.heap.size w w' := by
  obtain ⟨vm1, ve1, vt1, rfl, m1, e1, t1⟩ := h1
  obtain ⟨vm2, ve2, vt2, rfl, m2, e2, t2⟩ := h2
  obtain ⟨am1, cm1, rfl, qm1, qm2⟩ := m1.form2
  obtain ⟨am2, cm2, rfl, qm3, qm4⟩ := m2.form2
  obtain ⟨ae1, ce1, rfl, qe1, qe2⟩ := e1.form2
  obtain ⟨ae2, ce2, rfl, qe3, qe4⟩ := e2.form2
  obtain ⟨at1, ct1, rfl, qt1, qt2⟩ := t1.form2
  obtain ⟨at2, ct2, rfl, qt3, qt4⟩ := t2.form2
  have hT : (mtRows s.methods).length = s.methods.length := by simp [mtRows]
  rw [hT] at t1 t2 qt1 qt3 ⊢
  clear hT
  have HM1 : Hid (MsIn w (.slice am1 s.msgs.length cm1) s.msgs) := m1
  have HM2 : Hid (MsIn w (.slice am2 s.msgs.length cm2) s.msgs) := m2
  have HE1 : Hid (EnIn w (.slice ae1 s.enums.length ce1) s.enums) := e1
  have HE2 : Hid (EnIn w (.slice ae2 s.enums.length ce2) s.enums) := e2
  have HT1 : Hid (RowG w (.slice at1 s.methods.length ct1) 3 (mtRows s.methods)) := t1
  have HT2 : Hid (RowG w (.slice at2 s.methods.length ct2) 3 (mtRows s.methods)) := t2
  clear m1 m2 e1 e2 t1 t2
  obtain ⟨M, hM⟩ : ∃ N, s.msgs.length = N := ⟨_, rfl⟩
  obtain ⟨N, hN⟩ : ∃ N, s.enums.length = N := ⟨_, rfl⟩
  obtain ⟨T, hT⟩ : ∃ N, s.methods.length = N := ⟨_, rfl⟩
  rw [hM] at HM1 HM2 qm1 qm3 ⊢
  rw [hN] at HE1 HE2 qe1 qe3 ⊢
  rw [hT] at HT1 HT2 qt1 qt3 ⊢
  have HNM : Hid (s.msgs.length = M) := hM
  have HNN : Hid (s.enums.length = N) := hN
  have HNT : Hid (s.methods.length = T) := hT
  clear hM hN hT
  obtain ⟨nm, ms, es, mt⟩ := s
  simp only at HNM HNN HNT ⊢
  have HM1 : Hid (MsIn w (.slice am1 M cm1) ms) := HM1
  have HM2 : Hid (MsIn w (.slice am2 M cm2) ms) := HM2
  have HE1 : Hid (EnIn w (.slice ae1 N ce1) es) := HE1
  have HE2 : Hid (EnIn w (.slice ae2 N ce2) es) := HE2
  have HT1 : Hid (RowG w (.slice at1 T ct1) 3 (mtRows mt)) := HT1
  have HT2 : Hid (RowG w (.slice at2 T ct2) 3 (mtRows mt)) := HT2
  have hb0 : Below w.heap.size w ((w.alloc (.cells #[.string nm, .slice am1 M cm1, .slice ae1 N ce1, .slice at1 T ct1] 26)).alloc (.cells #[.string nm, .slice am2 M cm2, .slice ae2 N ce2, .slice at2 T ct2] 26)) := ((Below.refl _ _).alloc (Nat.le_refl _) _).alloc (by simp) _
  have HC : Hid (∀ W, Below (w.heap.size + 2) ((w.alloc (.cells #[.string nm, .slice am1 M cm1, .slice ae1 N ce1, .slice at1 T ct1] 26)).alloc (.cells #[.string nm, .slice am2 M cm2, .slice ae2 N ce2, .slice at2 T ct2] 26)) W → (W.cell? ⟨w.heap.size, 1, none⟩ = some (.slice am1 M cm1) ∧ W.cell? ⟨w.heap.size + 1, 1, none⟩ = some (.slice am2 M cm2)) ∧ (W.cell? ⟨w.heap.size, 2, none⟩ = some (.slice ae1 N ce1) ∧ W.cell? ⟨w.heap.size + 1, 2, none⟩ = some (.slice ae2 N ce2)) ∧ (W.cell? ⟨w.heap.size, 3, none⟩ = some (.slice at1 T ct1) ∧ W.cell? ⟨w.heap.size + 1, 3, none⟩ = some (.slice at2 T ct2))) := fun W hW => ⟨cells_two w _ _ _ _ W hW 1, cells_two w _ _ _ _ W hW 2, cells_two w _ _ _ _ W hW 3⟩
  go_enter Tryz.func12, Tryz.ntmps12
  go_wp2_with fail
  go_loopw [5] (fun iv wr => ∃ i : Nat, iv = .int .i64 (i : Int) ∧ i ≤ M ∧ Below w.heap.size w wr ∧ Below (w.heap.size + 2) ((w.alloc (.cells #[.string nm, .slice am1 M cm1, .slice ae1 N ce1, .slice at1 T ct1] 26)).alloc (.cells #[.string nm, .slice am2 M cm2, .slice ae2 N ce2, .slice at2 T ct2] 26)) wr) (fun iv _ => M - (intOf iv).toNat)
  case atStart => exact ⟨0, rfl, by omega, hb0, Below.refl _ _⟩
  case round =>
    obtain ⟨i, rfl, hi, hbel, hbox⟩ := hrel
    obtain ⟨⟨x1, x2⟩, _⟩ := HC.out wr hbox
    clear hb0
    have hsz : w.heap.size + 2 ≤ wr.heap.size := by have := hbox.size; simp at this; omega
    by_cases hlt : i < M
    · obtain ⟨m, hm⟩ : ∃ n, ms[i]? = some n := ⟨_, List.getElem?_eq_getElem (by rw [HNM.out]; exact hlt)⟩
      obtain ⟨g1, o1, f1, r1, rfl, c0, c1, c2, hf1, hr1⟩ := (HM1.out.below hbel).get hm
      obtain ⟨g2, o2, f2, r2, rfl, d0, d1, d2, hf2, hr2⟩ := (HM2.out.below hbel).get hm
      obtain ⟨af1, cf1, rfl, _, _⟩ := hf1.form2
      obtain ⟨af2, cf2, rfl, _, _⟩ := hf2.form2
      obtain ⟨ar1, cr1, rfl, _, _⟩ := hr1.form2
      obtain ⟨ar2, cr2, rfl, _, _⟩ := hr2.form2
      have HS : Hid (∀ W, Below wr.heap.size wr W → Calls Tryz.prog 23 #[.agg #[.string m.name, .slice af1 (flRows m.fields).length cf1, .slice ar1 (inRows m.reserved).length cr1], .agg #[.string m.name, .slice af2 (flRows m.fields).length cf2, .slice ar2 (inRows m.reserved).length cr2]] W fun e W' => e = .returned (.bool true) ∧ Below wr.heap.size wr W') := fun W hW => by
        refine (smsgs_any (hf1.below hW) (hf2.below hW) (hr1.below hW) (hr2.below hW)).mono ?_
        rintro e W' ⟨rfl, hb⟩
        exact ⟨rfl, hW.trans (hb.mono hW.size)⟩
      have k1 := kept_cell x1
      have k2 := kept_cell x2
      have k3 := kept_cell c0
      have k4 := kept_cell c1
      have k5 := kept_cell c2
      have k6 := kept_cell d0
      have k7 := kept_cell d1
      have k8 := kept_cell d2
      generalize (flRows m.fields).length = nF at *
      generalize (inRows m.reserved).length = nR at *
      generalize m.name = mn at *
      clear hf1 hf2 hr1 hr2 hm c0 c1 c2 d0 d1 d2
      go_wp2_with fail
      clear x1 x2
      haveI := nonempty_qb (Below.refl wr.heap.size wr)
      refine wp_region_qb (Below.refl wr.heap.size wr) (by kernel_rfl) (by kernel_rfl) ?_
      repeat (go_big_quiet_step (first | (go_at_call 23; exact qb_call HS.out)))
      refine wpQuiet_nil ?_
      rintro _ ⟨⟨W, hW⟩, rfl⟩
      have hbn := hbel.trans (hW.mono (by omega))
      have hbx := hbox.trans (hW.mono hsz)
      clear k1 k2 k3 k4 k5 k6 k7 k8 hbel hbox hW
      go_wp2_with fail
      go_roundw
      case rel => exact ⟨i + 1, by go_num, by omega, hbn, hbx⟩
      case measure => simp [intOf]; omega
    · go_wp2_with fail
      clear x1 x2
      go_loopw [6] (fun iv wr => ∃ i : Nat, iv = .int .i64 (i : Int) ∧ i ≤ N ∧ Below w.heap.size w wr ∧ Below (w.heap.size + 2) ((w.alloc (.cells #[.string nm, .slice am1 M cm1, .slice ae1 N ce1, .slice at1 T ct1] 26)).alloc (.cells #[.string nm, .slice am2 M cm2, .slice ae2 N ce2, .slice at2 T ct2] 26)) wr) (fun iv _ => N - (intOf iv).toNat)
      case atStart => exact ⟨0, rfl, by omega, hbel, hbox⟩
      case round =>
        obtain ⟨j, rfl, hj, hbel, hbox⟩ := hrel
        obtain ⟨_, ⟨x1, x2⟩, _⟩ := HC.out wr hbox
        have hsz : w.heap.size + 2 ≤ wr.heap.size := by have := hbox.size; simp at this; omega
        by_cases hlt : j < N
        · obtain ⟨m, hm⟩ : ∃ n, es[j]? = some n := ⟨_, List.getElem?_eq_getElem (by rw [HNN.out]; exact hlt)⟩
          obtain ⟨g1, o1, f1, rfl, c0, c1, hf1⟩ := (HE1.out.below hbel).get hm
          obtain ⟨g2, o2, f2, rfl, d0, d1, hf2⟩ := (HE2.out.below hbel).get hm
          obtain ⟨af1, cf1, rfl, _, _⟩ := hf1.form2
          obtain ⟨af2, cf2, rfl, _, _⟩ := hf2.form2
          have HS : Hid (∀ W, Below wr.heap.size wr W → Calls Tryz.prog 24 #[.agg #[.string m.name, .slice af1 (nmRows m.values).length cf1], .agg #[.string m.name, .slice af2 (nmRows m.values).length cf2]] W fun e W' => e = .returned (.bool true) ∧ Below wr.heap.size wr W') := fun W hW => by
            refine (senums_any (hf1.below hW) (hf2.below hW)).mono ?_
            rintro e W' ⟨rfl, hb⟩
            exact ⟨rfl, hW.trans (hb.mono hW.size)⟩
          have k1 := kept_cell x1
          have k2 := kept_cell x2
          have k3 := kept_cell c0
          have k4 := kept_cell c1
          have k6 := kept_cell d0
          have k7 := kept_cell d1
          generalize (nmRows m.values).length = nF at *
          generalize m.name = mn at *
          clear hf1 hf2 hm c0 c1 d0 d1
          go_wp2_with fail
          clear x1 x2
          haveI := nonempty_qb (Below.refl wr.heap.size wr)
          refine wp_region_qb (Below.refl wr.heap.size wr) (by kernel_rfl) (by kernel_rfl) ?_
          repeat (go_big_quiet_step (first | (go_at_call 24; exact qb_call HS.out)))
          refine wpQuiet_nil ?_
          rintro _ ⟨⟨W, hW⟩, rfl⟩
          have hbn := hbel.trans (hW.mono (by omega))
          have hbx := hbox.trans (hW.mono hsz)
          clear k1 k2 k3 k4 k6 k7 hbel hbox hW
          go_wp2_with fail
          go_roundw
          case rel => exact ⟨j + 1, by go_num, by omega, hbn, hbx⟩
          case measure => simp [intOf]; omega
        · go_wp2_with fail
          clear x1 x2
          go_loopw [7] (fun iv wr => ∃ i : Nat, iv = .int .i64 (i : Int) ∧ i ≤ T ∧ Below w.heap.size w wr ∧ Below (w.heap.size + 2) ((w.alloc (.cells #[.string nm, .slice am1 M cm1, .slice ae1 N ce1, .slice at1 T ct1] 26)).alloc (.cells #[.string nm, .slice am2 M cm2, .slice ae2 N ce2, .slice at2 T ct2] 26)) wr) (fun iv _ => T - (intOf iv).toNat)
          case atStart => exact ⟨0, rfl, by omega, hbel, hbox⟩
          case round =>
            obtain ⟨l, rfl, hl, hbel, hbox⟩ := hrel
            obtain ⟨_, _, ⟨x1, x2⟩⟩ := HC.out wr hbox
            by_cases hlt : l < T
            · obtain ⟨m, hm⟩ : ∃ n, mt[l]? = some n := ⟨_, List.getElem?_eq_getElem (by rw [HNT.out]; exact hlt)⟩
              have hrr : (mtRows mt)[l]? = some m.cells := by simp [mtRows, hm]
              obtain ⟨g1, o1, rfl, c1⟩ := (HT1.out.below hbel).get hrr
              obtain ⟨g2, o2, rfl, c2⟩ := (HT2.out.below hbel).get hrr
              obtain ⟨n0, n1, n2⟩ := m
              have p0 := c1 0 _ rfl
              have p1 := c1 1 _ rfl
              have p2 := c1 2 _ rfl
              have r0 := c2 0 _ rfl
              have r1 := c2 1 _ rfl
              have r2 := c2 2 _ rfl
              simp only [Nat.add_zero] at p0 p1 p2 r0 r1 r2
              clear c1 c2 hrr hm
              go_wp2_with fail
              go_quiet (fail)
              have hbn := below_drewN nq hbel
              have hbx := below_drewN nq hbox
              clear p0 p1 p2 r0 r1 r2 hbel hbox x1 x2
              go_wp2_with fail
              go_roundw
              case rel => exact ⟨l + 1, by go_num, by omega, hbn, hbx⟩
              case measure => simp [intOf]; omega
            · go_wp2_with fail
              go_ret
              exact ⟨rfl, hbel⟩
end Go.Proofs.YtkfhlgajeejgeaaGreatDoor

/- The law CheckLimits. -/
import Derived.Test.YtomeppgmmlaibaaLmMake
import Derived.Test.YtomeppgmmlaibaaCkAwake
import Derived.Laws.EntriesVeiled
import Derived.LoopN
import Derived.Deep.WholeRow
namespace Go.Proofs.Ytomeppgmmlaibaa
open Go.ChangeShapes Go.WideShapes Go.ChangeAt Go.RowKit
set_option linter.unusedVariables false
set_option linter.unusedSimpArgs false
set_option maxRecDepth 20000

theorem lmake_at (a b c d e f : Nat) (x1 x2 x3 x4 x5 x6 : Int) (h1 : x1 = (a : Int)) (h2 : x2 = (b : Int)) (h3 : x3 = (c : Int)) (h4 : x4 = (d : Int)) (h5 : x5 = (e : Int)) (h6 : x6 = (f : Int)) (ha : a ≤ 14) (hb : b ≤ 20) (hc : c ≤ 40) (hd : d ≤ 10) (he : e ≤ 20) (hf : f ≤ 10) (hab : a = 0 → b = 0 ∧ c = 0) (hde : d = 0 → e ≤ 1) {w : World} {bn : Nat} (hn : w.cell? ⟨bn, 0, none⟩ = some (.func (.func 26) #[] #[])) :
    Calls Try.prog 27 #[.int .i64 x1, .int .i64 x2, .int .i64 x3, .int .i64 x4, .int .i64 x5, .int .i64 x6, .pointer (some ⟨bn, 0, none⟩)] w fun en w' => ∃ a1 n1 c1 a2 n2 c2 a3 n3 c3, en = .returned (.agg #[.string ⟨#[97]⟩, .slice a1 n1 c1, .slice a2 n2 c2, .slice a3 n3 c3]) ∧
      (∀ W, Below w'.heap.size w' W → Calls Try.prog 11 #[.agg #[.string ⟨#[97]⟩, .slice a1 n1 c1, .slice a2 n2 c2, .slice a3 n3 c3]] W fun en w' => en = .returned (.int .i64 (checkA (lmS a b c d (e - 1) f))) ∧ Below W.heap.size W w') ∧ Below w.heap.size w w' := by
  subst h1 h2 h3 h4 h5 h6
  refine (lmake_any a b c d e f (by omega) (by omega) (by omega) (by omega) (by omega) (by omega) hab hde hn).mono ?_
  rintro en w' ⟨va, vb, vc, rfl, hs, hbel⟩
  have hs0 := hs
  obtain ⟨vm, ve, vt, hv, hm, he', ht⟩ := hs
  simp only [Value.agg.injEq, Array.mk.injEq, List.cons.injEq, and_true] at hv
  obtain ⟨_, rfl, rfl, rfl⟩ := hv
  obtain ⟨a1, c1, rfl, _, _⟩ := hm.form2
  obtain ⟨a2, c2, rfl, _, _⟩ := he'.form2
  obtain ⟨a3, c3, rfl, _, _⟩ := ht.form2
  exact ⟨_, _, _, _, _, _, _, _, _, rfl, fun W hW => check_any (hs0.below hW) (lm_wide ha hb hc hd (by omega) hf) (lm_few ha hb hc hd (by omega) hf), hbel⟩
theorem wpList_store_new {w : World} {ops : Array Oper} {rest : List Oper} {o : Oper} {a : Act} {Q : Exit → Act → World → Prop} (hgd : o.guard = none) (t : TypeId) (p v : Operand) (c c' : Array Value) (ho : o.op = .store t p v) (hd : o.dst = none)
    (hp : a.eval p = .pointer (some ⟨w.heap.size, 0, none⟩)) (hv : a.eval v = .agg c') (hi : (Try.prog.info? t).map (·.size) = some c'.size) (hcs : c.size = c'.size) (h1 : c'.all (·.oneCell') = true)
    (h : wpList Try.prog ops Q rest a (w.alloc (.cells c' t))) : wpList Try.prog ops Q (o :: rest) a (w.alloc (.cells c t)) := by
  refine wpList_plain hgd fun K hK => ?_
  have hrun := run_storeAt_new (P := Try.prog) w t c c' hi hcs h1
  have hx : (execOp a.eval o).run Try.prog (w.alloc (.cells c t)) = .ok .skip (w.alloc (.cells c' t)) := by
    unfold execOp
    simp only [ho, hp, hv, Sem.run_bind, hrun, Result.andThen_ok, Sem.run_pure]
  unfold Oper.wp
  rw [hx, Oper.upon_skip, hd]
  exact hK _ _ h
set_option maxHeartbeats 8000000 in
theorem checkLimits_walk (w : World) : Calls Try.prog 6 #[] w fun e w' => e = .returned (.bool true) ∧ Below w.heap.size w w' := by
  have hmf : ∀ (fn : Fn) (first cap : Array Value) (w : World), (Instr.makeFunc fn first cap).run Try.prog w = .ok (.func fn first cap) w := fun _ _ _ _ => rfl
  go_enter Try.func6, Try.ntmps6
  go_wp2_with fail
  clear hmf
  have HB0 : Below w.heap.size w (w.alloc (.cells #[.func (.func 26) #[] #[]] 63)) := (Below.refl _ _).alloc (Nat.le_refl _) _
  have HN0 : (w.alloc (.cells #[.func (.func 26) #[] #[]] 63)).cell? ⟨w.heap.size, 0, none⟩ = some (.func (.func 26) #[] #[]) := ((Blk.new w _ _).cell 0).trans rfl
  generalize (w.alloc (.cells #[.func (.func 26) #[] #[]] 63)) = W0 at *
  obtain ⟨b0, hb0⟩ : ∃ n, w.heap.size = n := ⟨_, rfl⟩
  rw [hb0] at HN0 ⊢
  have HBZ : Hid (w.heap.size = b0) := hb0
  clear hb0
  have HN : Hid (∀ W, Below W0.heap.size W0 W → W.cell? ⟨b0, 0, none⟩ = some (.func (.func 26) #[] #[])) := fun W hW => by
    rw [hW.cell (p := ⟨b0, 0, none⟩) (World.block_lt_of_cell? _ _ HN0)]; exact HN0
  clear HN0
  refine (lmake_at 10 16 32 6 16 6 10 16 32 6 16 6 rfl rfl rfl rfl rfl rfl (by decide) (by decide) (by decide) (by decide) (by decide) (by decide) (by decide) (by decide) (HN.out _ (Below.refl W0.heap.size W0))).mono ?_
  rintro en V9 ⟨p9, l9, k9, q9, m9, j9, r9, n9, h9, rfl, hc, hbx⟩
  have HC9 : Hid (∀ W, Below V9.heap.size V9 W → Calls Try.prog 11 #[.agg #[.string ⟨#[97]⟩, .slice p9 l9 k9, .slice q9 m9 j9, .slice r9 n9 h9]] W fun e w' => e = .returned (.int .i64 (checkA (lmS 10 16 32 6 (16 - 1) 6))) ∧ Below W.heap.size W w') := hc
  have hb9 : Below W0.heap.size W0 V9 := (Below.refl W0.heap.size W0).trans (hbx.mono (Below.refl W0.heap.size W0).size)
  clear hc
  clear hbx
  go_wp2_with fail
  have hal : Below V9.heap.size V9 (V9.alloc (.cells #[.string ⟨#[97]⟩, .slice p9 l9 k9, .slice q9 m9 j9, .slice r9 n9 h9] 26)) := (Below.refl _ _).alloc (Nat.le_refl _) _
  have BM := Blk.new V9 #[.string ⟨#[97]⟩, .slice p9 l9 k9, .slice q9 m9 j9, .slice r9 n9 h9] 26
  have hbm : Below W0.heap.size W0 (V9.alloc (.cells #[.string ⟨#[97]⟩, .slice p9 l9 k9, .slice q9 m9 j9, .slice r9 n9 h9] 26)) := hb9.trans (hal.mono hb9.size)
  have HC9 : Hid (∀ W, Below (V9.alloc (.cells #[.string ⟨#[97]⟩, .slice p9 l9 k9, .slice q9 m9 j9, .slice r9 n9 h9] 26)).heap.size (V9.alloc (.cells #[.string ⟨#[97]⟩, .slice p9 l9 k9, .slice q9 m9 j9, .slice r9 n9 h9] 26)) W → Calls Try.prog 11 #[.agg #[.string ⟨#[97]⟩, .slice p9 l9 k9, .slice q9 m9 j9, .slice r9 n9 h9]] W fun e w' => e = .returned (.int .i64 (checkA (lmS 10 16 32 6 (16 - 1) 6))) ∧ Below W.heap.size W w') := fun W hW => HC9.out W (hal.trans (hW.mono hal.size))
  obtain ⟨bm, hbz⟩ : ∃ n, V9.heap.size = n := ⟨_, rfl⟩
  rw [hbz] at BM ⊢
  generalize (V9.alloc (.cells #[.string ⟨#[97]⟩, .slice p9 l9 k9, .slice q9 m9 j9, .slice r9 n9 h9] 26)) = V8 at *
  clear hal hbz hb9
  refine (lmake_at 11 0 0 0 0 0 11 0 0 0 0 0 rfl rfl rfl rfl rfl rfl (by decide) (by decide) (by decide) (by decide) (by decide) (by decide) (by decide) (by decide) (HN.out _ (hbm))).mono ?_
  rintro en V0 ⟨p0, l0, k0, q0, m0, j0, r0, n0, h0, rfl, hc, hbx⟩
  have HC0 : Hid (∀ W, Below V0.heap.size V0 W → Calls Try.prog 11 #[.agg #[.string ⟨#[97]⟩, .slice p0 l0 k0, .slice q0 m0 j0, .slice r0 n0 h0]] W fun e w' => e = .returned (.int .i64 (checkA (lmS 11 0 0 0 (0 - 1) 0))) ∧ Below W.heap.size W w') := hc
  have hb0 : Below W0.heap.size W0 V0 := (hbm).trans (hbx.mono (hbm).size)
  clear hc
  have BM := BM.below hbx
  have HC9 : Hid (∀ W, Below V0.heap.size V0 W → Calls Try.prog 11 #[.agg #[.string ⟨#[97]⟩, .slice p9 l9 k9, .slice q9 m9 j9, .slice r9 n9 h9]] W fun e w' => e = .returned (.int .i64 (checkA (lmS 10 16 32 6 (16 - 1) 6))) ∧ Below W.heap.size W w') := fun W hW => HC9.out W (hbx.trans (hW.mono hbx.size))
  clear hbx hbm
  go_wp2_with fail
  refine (lmake_at 1 17 0 0 0 0 1 17 0 0 0 0 rfl rfl rfl rfl rfl rfl (by decide) (by decide) (by decide) (by decide) (by decide) (by decide) (by decide) (by decide) (HN.out _ (hb0))).mono ?_
  rintro en V1 ⟨p1, l1, k1, q1, m1, j1, r1, n1, h1, rfl, hc, hbx⟩
  have HC1 : Hid (∀ W, Below V1.heap.size V1 W → Calls Try.prog 11 #[.agg #[.string ⟨#[97]⟩, .slice p1 l1 k1, .slice q1 m1 j1, .slice r1 n1 h1]] W fun e w' => e = .returned (.int .i64 (checkA (lmS 1 17 0 0 (0 - 1) 0))) ∧ Below W.heap.size W w') := hc
  have hb1 : Below W0.heap.size W0 V1 := (hb0).trans (hbx.mono (hb0).size)
  clear hc
  have BM := BM.below hbx
  have HC9 : Hid (∀ W, Below V1.heap.size V1 W → Calls Try.prog 11 #[.agg #[.string ⟨#[97]⟩, .slice p9 l9 k9, .slice q9 m9 j9, .slice r9 n9 h9]] W fun e w' => e = .returned (.int .i64 (checkA (lmS 10 16 32 6 (16 - 1) 6))) ∧ Below W.heap.size W w') := fun W hW => HC9.out W (hbx.trans (hW.mono hbx.size))
  have HC0 : Hid (∀ W, Below V1.heap.size V1 W → Calls Try.prog 11 #[.agg #[.string ⟨#[97]⟩, .slice p0 l0 k0, .slice q0 m0 j0, .slice r0 n0 h0]] W fun e w' => e = .returned (.int .i64 (checkA (lmS 11 0 0 0 (0 - 1) 0))) ∧ Below W.heap.size W w') := fun W hW => HC0.out W (hbx.trans (hW.mono hbx.size))
  clear hbx hb0
  go_wp2_with fail
  refine (lmake_at 1 0 33 0 0 0 1 0 33 0 0 0 rfl rfl rfl rfl rfl rfl (by decide) (by decide) (by decide) (by decide) (by decide) (by decide) (by decide) (by decide) (HN.out _ (hb1))).mono ?_
  rintro en V2 ⟨p2, l2, k2, q2, m2, j2, r2, n2, h2, rfl, hc, hbx⟩
  have HC2 : Hid (∀ W, Below V2.heap.size V2 W → Calls Try.prog 11 #[.agg #[.string ⟨#[97]⟩, .slice p2 l2 k2, .slice q2 m2 j2, .slice r2 n2 h2]] W fun e w' => e = .returned (.int .i64 (checkA (lmS 1 0 33 0 (0 - 1) 0))) ∧ Below W.heap.size W w') := hc
  have hb2 : Below W0.heap.size W0 V2 := (hb1).trans (hbx.mono (hb1).size)
  clear hc
  have BM := BM.below hbx
  have HC9 : Hid (∀ W, Below V2.heap.size V2 W → Calls Try.prog 11 #[.agg #[.string ⟨#[97]⟩, .slice p9 l9 k9, .slice q9 m9 j9, .slice r9 n9 h9]] W fun e w' => e = .returned (.int .i64 (checkA (lmS 10 16 32 6 (16 - 1) 6))) ∧ Below W.heap.size W w') := fun W hW => HC9.out W (hbx.trans (hW.mono hbx.size))
  have HC0 : Hid (∀ W, Below V2.heap.size V2 W → Calls Try.prog 11 #[.agg #[.string ⟨#[97]⟩, .slice p0 l0 k0, .slice q0 m0 j0, .slice r0 n0 h0]] W fun e w' => e = .returned (.int .i64 (checkA (lmS 11 0 0 0 (0 - 1) 0))) ∧ Below W.heap.size W w') := fun W hW => HC0.out W (hbx.trans (hW.mono hbx.size))
  have HC1 : Hid (∀ W, Below V2.heap.size V2 W → Calls Try.prog 11 #[.agg #[.string ⟨#[97]⟩, .slice p1 l1 k1, .slice q1 m1 j1, .slice r1 n1 h1]] W fun e w' => e = .returned (.int .i64 (checkA (lmS 1 17 0 0 (0 - 1) 0))) ∧ Below W.heap.size W w') := fun W hW => HC1.out W (hbx.trans (hW.mono hbx.size))
  clear hbx hb1
  go_wp2_with fail
  refine (lmake_at 1 0 0 7 0 0 1 0 0 7 0 0 rfl rfl rfl rfl rfl rfl (by decide) (by decide) (by decide) (by decide) (by decide) (by decide) (by decide) (by decide) (HN.out _ (hb2))).mono ?_
  rintro en V3 ⟨p3, l3, k3, q3, m3, j3, r3, n3, h3, rfl, hc, hbx⟩
  have HC3 : Hid (∀ W, Below V3.heap.size V3 W → Calls Try.prog 11 #[.agg #[.string ⟨#[97]⟩, .slice p3 l3 k3, .slice q3 m3 j3, .slice r3 n3 h3]] W fun e w' => e = .returned (.int .i64 (checkA (lmS 1 0 0 7 (0 - 1) 0))) ∧ Below W.heap.size W w') := hc
  have hb3 : Below W0.heap.size W0 V3 := (hb2).trans (hbx.mono (hb2).size)
  clear hc
  have BM := BM.below hbx
  have HC9 : Hid (∀ W, Below V3.heap.size V3 W → Calls Try.prog 11 #[.agg #[.string ⟨#[97]⟩, .slice p9 l9 k9, .slice q9 m9 j9, .slice r9 n9 h9]] W fun e w' => e = .returned (.int .i64 (checkA (lmS 10 16 32 6 (16 - 1) 6))) ∧ Below W.heap.size W w') := fun W hW => HC9.out W (hbx.trans (hW.mono hbx.size))
  have HC0 : Hid (∀ W, Below V3.heap.size V3 W → Calls Try.prog 11 #[.agg #[.string ⟨#[97]⟩, .slice p0 l0 k0, .slice q0 m0 j0, .slice r0 n0 h0]] W fun e w' => e = .returned (.int .i64 (checkA (lmS 11 0 0 0 (0 - 1) 0))) ∧ Below W.heap.size W w') := fun W hW => HC0.out W (hbx.trans (hW.mono hbx.size))
  have HC1 : Hid (∀ W, Below V3.heap.size V3 W → Calls Try.prog 11 #[.agg #[.string ⟨#[97]⟩, .slice p1 l1 k1, .slice q1 m1 j1, .slice r1 n1 h1]] W fun e w' => e = .returned (.int .i64 (checkA (lmS 1 17 0 0 (0 - 1) 0))) ∧ Below W.heap.size W w') := fun W hW => HC1.out W (hbx.trans (hW.mono hbx.size))
  have HC2 : Hid (∀ W, Below V3.heap.size V3 W → Calls Try.prog 11 #[.agg #[.string ⟨#[97]⟩, .slice p2 l2 k2, .slice q2 m2 j2, .slice r2 n2 h2]] W fun e w' => e = .returned (.int .i64 (checkA (lmS 1 0 33 0 (0 - 1) 0))) ∧ Below W.heap.size W w') := fun W hW => HC2.out W (hbx.trans (hW.mono hbx.size))
  clear hbx hb2
  go_wp2_with fail
  refine (lmake_at 1 0 0 1 17 0 1 0 0 1 17 0 rfl rfl rfl rfl rfl rfl (by decide) (by decide) (by decide) (by decide) (by decide) (by decide) (by decide) (by decide) (HN.out _ (hb3))).mono ?_
  rintro en V4 ⟨p4, l4, k4, q4, m4, j4, r4, n4, h4, rfl, hc, hbx⟩
  have HC4 : Hid (∀ W, Below V4.heap.size V4 W → Calls Try.prog 11 #[.agg #[.string ⟨#[97]⟩, .slice p4 l4 k4, .slice q4 m4 j4, .slice r4 n4 h4]] W fun e w' => e = .returned (.int .i64 (checkA (lmS 1 0 0 1 (17 - 1) 0))) ∧ Below W.heap.size W w') := hc
  have hb4 : Below W0.heap.size W0 V4 := (hb3).trans (hbx.mono (hb3).size)
  clear hc
  have BM := BM.below hbx
  have HC9 : Hid (∀ W, Below V4.heap.size V4 W → Calls Try.prog 11 #[.agg #[.string ⟨#[97]⟩, .slice p9 l9 k9, .slice q9 m9 j9, .slice r9 n9 h9]] W fun e w' => e = .returned (.int .i64 (checkA (lmS 10 16 32 6 (16 - 1) 6))) ∧ Below W.heap.size W w') := fun W hW => HC9.out W (hbx.trans (hW.mono hbx.size))
  have HC0 : Hid (∀ W, Below V4.heap.size V4 W → Calls Try.prog 11 #[.agg #[.string ⟨#[97]⟩, .slice p0 l0 k0, .slice q0 m0 j0, .slice r0 n0 h0]] W fun e w' => e = .returned (.int .i64 (checkA (lmS 11 0 0 0 (0 - 1) 0))) ∧ Below W.heap.size W w') := fun W hW => HC0.out W (hbx.trans (hW.mono hbx.size))
  have HC1 : Hid (∀ W, Below V4.heap.size V4 W → Calls Try.prog 11 #[.agg #[.string ⟨#[97]⟩, .slice p1 l1 k1, .slice q1 m1 j1, .slice r1 n1 h1]] W fun e w' => e = .returned (.int .i64 (checkA (lmS 1 17 0 0 (0 - 1) 0))) ∧ Below W.heap.size W w') := fun W hW => HC1.out W (hbx.trans (hW.mono hbx.size))
  have HC2 : Hid (∀ W, Below V4.heap.size V4 W → Calls Try.prog 11 #[.agg #[.string ⟨#[97]⟩, .slice p2 l2 k2, .slice q2 m2 j2, .slice r2 n2 h2]] W fun e w' => e = .returned (.int .i64 (checkA (lmS 1 0 33 0 (0 - 1) 0))) ∧ Below W.heap.size W w') := fun W hW => HC2.out W (hbx.trans (hW.mono hbx.size))
  have HC3 : Hid (∀ W, Below V4.heap.size V4 W → Calls Try.prog 11 #[.agg #[.string ⟨#[97]⟩, .slice p3 l3 k3, .slice q3 m3 j3, .slice r3 n3 h3]] W fun e w' => e = .returned (.int .i64 (checkA (lmS 1 0 0 7 (0 - 1) 0))) ∧ Below W.heap.size W w') := fun W hW => HC3.out W (hbx.trans (hW.mono hbx.size))
  clear hbx hb3
  go_wp2_with fail
  refine (lmake_at 1 0 0 0 0 7 1 0 0 0 0 7 rfl rfl rfl rfl rfl rfl (by decide) (by decide) (by decide) (by decide) (by decide) (by decide) (by decide) (by decide) (HN.out _ (hb4))).mono ?_
  rintro en V5 ⟨p5, l5, k5, q5, m5, j5, r5, n5, h5, rfl, hc, hbx⟩
  have HC5 : Hid (∀ W, Below V5.heap.size V5 W → Calls Try.prog 11 #[.agg #[.string ⟨#[97]⟩, .slice p5 l5 k5, .slice q5 m5 j5, .slice r5 n5 h5]] W fun e w' => e = .returned (.int .i64 (checkA (lmS 1 0 0 0 (0 - 1) 7))) ∧ Below W.heap.size W w') := hc
  have hb5 : Below W0.heap.size W0 V5 := (hb4).trans (hbx.mono (hb4).size)
  clear hc
  have BM := BM.below hbx
  have HC9 : Hid (∀ W, Below V5.heap.size V5 W → Calls Try.prog 11 #[.agg #[.string ⟨#[97]⟩, .slice p9 l9 k9, .slice q9 m9 j9, .slice r9 n9 h9]] W fun e w' => e = .returned (.int .i64 (checkA (lmS 10 16 32 6 (16 - 1) 6))) ∧ Below W.heap.size W w') := fun W hW => HC9.out W (hbx.trans (hW.mono hbx.size))
  have HC0 : Hid (∀ W, Below V5.heap.size V5 W → Calls Try.prog 11 #[.agg #[.string ⟨#[97]⟩, .slice p0 l0 k0, .slice q0 m0 j0, .slice r0 n0 h0]] W fun e w' => e = .returned (.int .i64 (checkA (lmS 11 0 0 0 (0 - 1) 0))) ∧ Below W.heap.size W w') := fun W hW => HC0.out W (hbx.trans (hW.mono hbx.size))
  have HC1 : Hid (∀ W, Below V5.heap.size V5 W → Calls Try.prog 11 #[.agg #[.string ⟨#[97]⟩, .slice p1 l1 k1, .slice q1 m1 j1, .slice r1 n1 h1]] W fun e w' => e = .returned (.int .i64 (checkA (lmS 1 17 0 0 (0 - 1) 0))) ∧ Below W.heap.size W w') := fun W hW => HC1.out W (hbx.trans (hW.mono hbx.size))
  have HC2 : Hid (∀ W, Below V5.heap.size V5 W → Calls Try.prog 11 #[.agg #[.string ⟨#[97]⟩, .slice p2 l2 k2, .slice q2 m2 j2, .slice r2 n2 h2]] W fun e w' => e = .returned (.int .i64 (checkA (lmS 1 0 33 0 (0 - 1) 0))) ∧ Below W.heap.size W w') := fun W hW => HC2.out W (hbx.trans (hW.mono hbx.size))
  have HC3 : Hid (∀ W, Below V5.heap.size V5 W → Calls Try.prog 11 #[.agg #[.string ⟨#[97]⟩, .slice p3 l3 k3, .slice q3 m3 j3, .slice r3 n3 h3]] W fun e w' => e = .returned (.int .i64 (checkA (lmS 1 0 0 7 (0 - 1) 0))) ∧ Below W.heap.size W w') := fun W hW => HC3.out W (hbx.trans (hW.mono hbx.size))
  have HC4 : Hid (∀ W, Below V5.heap.size V5 W → Calls Try.prog 11 #[.agg #[.string ⟨#[97]⟩, .slice p4 l4 k4, .slice q4 m4 j4, .slice r4 n4 h4]] W fun e w' => e = .returned (.int .i64 (checkA (lmS 1 0 0 1 (17 - 1) 0))) ∧ Below W.heap.size W w') := fun W hW => HC4.out W (hbx.trans (hW.mono hbx.size))
  clear hbx hb4
  go_wp2_with fail
  refine (lmake_at 0 0 0 0 0 0 0 0 0 0 0 0 rfl rfl rfl rfl rfl rfl (by decide) (by decide) (by decide) (by decide) (by decide) (by decide) (by decide) (by decide) (HN.out _ (hb5))).mono ?_
  rintro en V6 ⟨p6, l6, k6, q6, m6, j6, r6, n6, h6, rfl, hc, hbx⟩
  have HC6 : Hid (∀ W, Below V6.heap.size V6 W → Calls Try.prog 11 #[.agg #[.string ⟨#[97]⟩, .slice p6 l6 k6, .slice q6 m6 j6, .slice r6 n6 h6]] W fun e w' => e = .returned (.int .i64 (checkA (lmS 0 0 0 0 (0 - 1) 0))) ∧ Below W.heap.size W w') := hc
  have hb6 : Below W0.heap.size W0 V6 := (hb5).trans (hbx.mono (hb5).size)
  clear hc
  have BM := BM.below hbx
  have HC9 : Hid (∀ W, Below V6.heap.size V6 W → Calls Try.prog 11 #[.agg #[.string ⟨#[97]⟩, .slice p9 l9 k9, .slice q9 m9 j9, .slice r9 n9 h9]] W fun e w' => e = .returned (.int .i64 (checkA (lmS 10 16 32 6 (16 - 1) 6))) ∧ Below W.heap.size W w') := fun W hW => HC9.out W (hbx.trans (hW.mono hbx.size))
  have HC0 : Hid (∀ W, Below V6.heap.size V6 W → Calls Try.prog 11 #[.agg #[.string ⟨#[97]⟩, .slice p0 l0 k0, .slice q0 m0 j0, .slice r0 n0 h0]] W fun e w' => e = .returned (.int .i64 (checkA (lmS 11 0 0 0 (0 - 1) 0))) ∧ Below W.heap.size W w') := fun W hW => HC0.out W (hbx.trans (hW.mono hbx.size))
  have HC1 : Hid (∀ W, Below V6.heap.size V6 W → Calls Try.prog 11 #[.agg #[.string ⟨#[97]⟩, .slice p1 l1 k1, .slice q1 m1 j1, .slice r1 n1 h1]] W fun e w' => e = .returned (.int .i64 (checkA (lmS 1 17 0 0 (0 - 1) 0))) ∧ Below W.heap.size W w') := fun W hW => HC1.out W (hbx.trans (hW.mono hbx.size))
  have HC2 : Hid (∀ W, Below V6.heap.size V6 W → Calls Try.prog 11 #[.agg #[.string ⟨#[97]⟩, .slice p2 l2 k2, .slice q2 m2 j2, .slice r2 n2 h2]] W fun e w' => e = .returned (.int .i64 (checkA (lmS 1 0 33 0 (0 - 1) 0))) ∧ Below W.heap.size W w') := fun W hW => HC2.out W (hbx.trans (hW.mono hbx.size))
  have HC3 : Hid (∀ W, Below V6.heap.size V6 W → Calls Try.prog 11 #[.agg #[.string ⟨#[97]⟩, .slice p3 l3 k3, .slice q3 m3 j3, .slice r3 n3 h3]] W fun e w' => e = .returned (.int .i64 (checkA (lmS 1 0 0 7 (0 - 1) 0))) ∧ Below W.heap.size W w') := fun W hW => HC3.out W (hbx.trans (hW.mono hbx.size))
  have HC4 : Hid (∀ W, Below V6.heap.size V6 W → Calls Try.prog 11 #[.agg #[.string ⟨#[97]⟩, .slice p4 l4 k4, .slice q4 m4 j4, .slice r4 n4 h4]] W fun e w' => e = .returned (.int .i64 (checkA (lmS 1 0 0 1 (17 - 1) 0))) ∧ Below W.heap.size W w') := fun W hW => HC4.out W (hbx.trans (hW.mono hbx.size))
  have HC5 : Hid (∀ W, Below V6.heap.size V6 W → Calls Try.prog 11 #[.agg #[.string ⟨#[97]⟩, .slice p5 l5 k5, .slice q5 m5 j5, .slice r5 n5 h5]] W fun e w' => e = .returned (.int .i64 (checkA (lmS 1 0 0 0 (0 - 1) 7))) ∧ Below W.heap.size W w') := fun W hW => HC5.out W (hbx.trans (hW.mono hbx.size))
  clear hbx hb5
  go_wp2_with (refine wpList_store_new rfl 67 (.tmp 4) (.tmp 24) _ #[.string ⟨#[97]⟩, .slice p0 l0 k0, .slice q0 m0 j0, .slice r0 n0 h0, .string ⟨#[97]⟩, .slice p1 l1 k1, .slice q1 m1 j1, .slice r1 n1 h1, .string ⟨#[97]⟩, .slice p2 l2 k2, .slice q2 m2 j2, .slice r2 n2 h2, .string ⟨#[97]⟩, .slice p3 l3 k3, .slice q3 m3 j3, .slice r3 n3 h3, .string ⟨#[97]⟩, .slice p4 l4 k4, .slice q4 m4 j4, .slice r4 n4 h4, .string ⟨#[97]⟩, .slice p5 l5 k5, .slice q5 m5 j5, .slice r5 n5 h5, .string ⟨#[97]⟩, .slice p6 l6 k6, .slice q6 m6 j6, .slice r6 n6 h6] rfl rfl rfl rfl (by kernel_rfl) rfl (by rw [← Array.all_toList]; rfl) ?_)
  have hal : Below V6.heap.size V6 (V6.alloc (.cells #[.string ⟨#[97]⟩, .slice p0 l0 k0, .slice q0 m0 j0, .slice r0 n0 h0, .string ⟨#[97]⟩, .slice p1 l1 k1, .slice q1 m1 j1, .slice r1 n1 h1, .string ⟨#[97]⟩, .slice p2 l2 k2, .slice q2 m2 j2, .slice r2 n2 h2, .string ⟨#[97]⟩, .slice p3 l3 k3, .slice q3 m3 j3, .slice r3 n3 h3, .string ⟨#[97]⟩, .slice p4 l4 k4, .slice q4 m4 j4, .slice r4 n4 h4, .string ⟨#[97]⟩, .slice p5 l5 k5, .slice q5 m5 j5, .slice r5 n5 h5, .string ⟨#[97]⟩, .slice p6 l6 k6, .slice q6 m6 j6, .slice r6 n6 h6] 67)) := (Below.refl _ _).alloc (Nat.le_refl _) _
  have BA : Blk (V6.alloc (.cells #[.string ⟨#[97]⟩, .slice p0 l0 k0, .slice q0 m0 j0, .slice r0 n0 h0, .string ⟨#[97]⟩, .slice p1 l1 k1, .slice q1 m1 j1, .slice r1 n1 h1, .string ⟨#[97]⟩, .slice p2 l2 k2, .slice q2 m2 j2, .slice r2 n2 h2, .string ⟨#[97]⟩, .slice p3 l3 k3, .slice q3 m3 j3, .slice r3 n3 h3, .string ⟨#[97]⟩, .slice p4 l4 k4, .slice q4 m4 j4, .slice r4 n4 h4, .string ⟨#[97]⟩, .slice p5 l5 k5, .slice q5 m5 j5, .slice r5 n5 h5, .string ⟨#[97]⟩, .slice p6 l6 k6, .slice q6 m6 j6, .slice r6 n6 h6] 67)) V6.heap.size #[.string ⟨#[97]⟩, .slice p0 l0 k0, .slice q0 m0 j0, .slice r0 n0 h0, .string ⟨#[97]⟩, .slice p1 l1 k1, .slice q1 m1 j1, .slice r1 n1 h1, .string ⟨#[97]⟩, .slice p2 l2 k2, .slice q2 m2 j2, .slice r2 n2 h2, .string ⟨#[97]⟩, .slice p3 l3 k3, .slice q3 m3 j3, .slice r3 n3 h3, .string ⟨#[97]⟩, .slice p4 l4 k4, .slice q4 m4 j4, .slice r4 n4 h4, .string ⟨#[97]⟩, .slice p5 l5 k5, .slice q5 m5 j5, .slice r5 n5 h5, .string ⟨#[97]⟩, .slice p6 l6 k6, .slice q6 m6 j6, .slice r6 n6 h6] 67 := Blk.new V6 _ _
  have BM := BM.below hal
  have HBA : Below w.heap.size w (V6.alloc (.cells #[.string ⟨#[97]⟩, .slice p0 l0 k0, .slice q0 m0 j0, .slice r0 n0 h0, .string ⟨#[97]⟩, .slice p1 l1 k1, .slice q1 m1 j1, .slice r1 n1 h1, .string ⟨#[97]⟩, .slice p2 l2 k2, .slice q2 m2 j2, .slice r2 n2 h2, .string ⟨#[97]⟩, .slice p3 l3 k3, .slice q3 m3 j3, .slice r3 n3 h3, .string ⟨#[97]⟩, .slice p4 l4 k4, .slice q4 m4 j4, .slice r4 n4 h4, .string ⟨#[97]⟩, .slice p5 l5 k5, .slice q5 m5 j5, .slice r5 n5 h5, .string ⟨#[97]⟩, .slice p6 l6 k6, .slice q6 m6 j6, .slice r6 n6 h6] 67)) := HB0.trans ((hb6.trans (hal.mono hb6.size)).mono HB0.size)
  have HC9 : Hid (∀ W, Below (V6.alloc (.cells #[.string ⟨#[97]⟩, .slice p0 l0 k0, .slice q0 m0 j0, .slice r0 n0 h0, .string ⟨#[97]⟩, .slice p1 l1 k1, .slice q1 m1 j1, .slice r1 n1 h1, .string ⟨#[97]⟩, .slice p2 l2 k2, .slice q2 m2 j2, .slice r2 n2 h2, .string ⟨#[97]⟩, .slice p3 l3 k3, .slice q3 m3 j3, .slice r3 n3 h3, .string ⟨#[97]⟩, .slice p4 l4 k4, .slice q4 m4 j4, .slice r4 n4 h4, .string ⟨#[97]⟩, .slice p5 l5 k5, .slice q5 m5 j5, .slice r5 n5 h5, .string ⟨#[97]⟩, .slice p6 l6 k6, .slice q6 m6 j6, .slice r6 n6 h6] 67)).heap.size (V6.alloc (.cells #[.string ⟨#[97]⟩, .slice p0 l0 k0, .slice q0 m0 j0, .slice r0 n0 h0, .string ⟨#[97]⟩, .slice p1 l1 k1, .slice q1 m1 j1, .slice r1 n1 h1, .string ⟨#[97]⟩, .slice p2 l2 k2, .slice q2 m2 j2, .slice r2 n2 h2, .string ⟨#[97]⟩, .slice p3 l3 k3, .slice q3 m3 j3, .slice r3 n3 h3, .string ⟨#[97]⟩, .slice p4 l4 k4, .slice q4 m4 j4, .slice r4 n4 h4, .string ⟨#[97]⟩, .slice p5 l5 k5, .slice q5 m5 j5, .slice r5 n5 h5, .string ⟨#[97]⟩, .slice p6 l6 k6, .slice q6 m6 j6, .slice r6 n6 h6] 67)) W → Calls Try.prog 11 #[.agg #[.string ⟨#[97]⟩, .slice p9 l9 k9, .slice q9 m9 j9, .slice r9 n9 h9]] W fun e w' => e = .returned (.int .i64 (0)) ∧ Below W.heap.size W w') := fun W hW => by
    have := HC9.out W (hal.trans (hW.mono hal.size))
    rw [show ((16 : Nat) - 1) = 15 from rfl, lm_most] at this
    exact this
  have HC0 : Hid (∀ W, Below (V6.alloc (.cells #[.string ⟨#[97]⟩, .slice p0 l0 k0, .slice q0 m0 j0, .slice r0 n0 h0, .string ⟨#[97]⟩, .slice p1 l1 k1, .slice q1 m1 j1, .slice r1 n1 h1, .string ⟨#[97]⟩, .slice p2 l2 k2, .slice q2 m2 j2, .slice r2 n2 h2, .string ⟨#[97]⟩, .slice p3 l3 k3, .slice q3 m3 j3, .slice r3 n3 h3, .string ⟨#[97]⟩, .slice p4 l4 k4, .slice q4 m4 j4, .slice r4 n4 h4, .string ⟨#[97]⟩, .slice p5 l5 k5, .slice q5 m5 j5, .slice r5 n5 h5, .string ⟨#[97]⟩, .slice p6 l6 k6, .slice q6 m6 j6, .slice r6 n6 h6] 67)).heap.size (V6.alloc (.cells #[.string ⟨#[97]⟩, .slice p0 l0 k0, .slice q0 m0 j0, .slice r0 n0 h0, .string ⟨#[97]⟩, .slice p1 l1 k1, .slice q1 m1 j1, .slice r1 n1 h1, .string ⟨#[97]⟩, .slice p2 l2 k2, .slice q2 m2 j2, .slice r2 n2 h2, .string ⟨#[97]⟩, .slice p3 l3 k3, .slice q3 m3 j3, .slice r3 n3 h3, .string ⟨#[97]⟩, .slice p4 l4 k4, .slice q4 m4 j4, .slice r4 n4 h4, .string ⟨#[97]⟩, .slice p5 l5 k5, .slice q5 m5 j5, .slice r5 n5 h5, .string ⟨#[97]⟩, .slice p6 l6 k6, .slice q6 m6 j6, .slice r6 n6 h6] 67)) W → Calls Try.prog 11 #[.agg #[.string ⟨#[97]⟩, .slice p0 l0 k0, .slice q0 m0 j0, .slice r0 n0 h0]] W fun e w' => e = .returned (.int .i64 (4)) ∧ Below W.heap.size W w') := fun W hW => by
    have := HC0.out W (hal.trans (hW.mono hal.size))
    rw [show ((0 : Nat) - 1) = 0 from rfl, lm_over0] at this
    exact this
  have HC1 : Hid (∀ W, Below (V6.alloc (.cells #[.string ⟨#[97]⟩, .slice p0 l0 k0, .slice q0 m0 j0, .slice r0 n0 h0, .string ⟨#[97]⟩, .slice p1 l1 k1, .slice q1 m1 j1, .slice r1 n1 h1, .string ⟨#[97]⟩, .slice p2 l2 k2, .slice q2 m2 j2, .slice r2 n2 h2, .string ⟨#[97]⟩, .slice p3 l3 k3, .slice q3 m3 j3, .slice r3 n3 h3, .string ⟨#[97]⟩, .slice p4 l4 k4, .slice q4 m4 j4, .slice r4 n4 h4, .string ⟨#[97]⟩, .slice p5 l5 k5, .slice q5 m5 j5, .slice r5 n5 h5, .string ⟨#[97]⟩, .slice p6 l6 k6, .slice q6 m6 j6, .slice r6 n6 h6] 67)).heap.size (V6.alloc (.cells #[.string ⟨#[97]⟩, .slice p0 l0 k0, .slice q0 m0 j0, .slice r0 n0 h0, .string ⟨#[97]⟩, .slice p1 l1 k1, .slice q1 m1 j1, .slice r1 n1 h1, .string ⟨#[97]⟩, .slice p2 l2 k2, .slice q2 m2 j2, .slice r2 n2 h2, .string ⟨#[97]⟩, .slice p3 l3 k3, .slice q3 m3 j3, .slice r3 n3 h3, .string ⟨#[97]⟩, .slice p4 l4 k4, .slice q4 m4 j4, .slice r4 n4 h4, .string ⟨#[97]⟩, .slice p5 l5 k5, .slice q5 m5 j5, .slice r5 n5 h5, .string ⟨#[97]⟩, .slice p6 l6 k6, .slice q6 m6 j6, .slice r6 n6 h6] 67)) W → Calls Try.prog 11 #[.agg #[.string ⟨#[97]⟩, .slice p1 l1 k1, .slice q1 m1 j1, .slice r1 n1 h1]] W fun e w' => e = .returned (.int .i64 (4)) ∧ Below W.heap.size W w') := fun W hW => by
    have := HC1.out W (hal.trans (hW.mono hal.size))
    rw [show ((0 : Nat) - 1) = 0 from rfl, lm_over1] at this
    exact this
  have HC2 : Hid (∀ W, Below (V6.alloc (.cells #[.string ⟨#[97]⟩, .slice p0 l0 k0, .slice q0 m0 j0, .slice r0 n0 h0, .string ⟨#[97]⟩, .slice p1 l1 k1, .slice q1 m1 j1, .slice r1 n1 h1, .string ⟨#[97]⟩, .slice p2 l2 k2, .slice q2 m2 j2, .slice r2 n2 h2, .string ⟨#[97]⟩, .slice p3 l3 k3, .slice q3 m3 j3, .slice r3 n3 h3, .string ⟨#[97]⟩, .slice p4 l4 k4, .slice q4 m4 j4, .slice r4 n4 h4, .string ⟨#[97]⟩, .slice p5 l5 k5, .slice q5 m5 j5, .slice r5 n5 h5, .string ⟨#[97]⟩, .slice p6 l6 k6, .slice q6 m6 j6, .slice r6 n6 h6] 67)).heap.size (V6.alloc (.cells #[.string ⟨#[97]⟩, .slice p0 l0 k0, .slice q0 m0 j0, .slice r0 n0 h0, .string ⟨#[97]⟩, .slice p1 l1 k1, .slice q1 m1 j1, .slice r1 n1 h1, .string ⟨#[97]⟩, .slice p2 l2 k2, .slice q2 m2 j2, .slice r2 n2 h2, .string ⟨#[97]⟩, .slice p3 l3 k3, .slice q3 m3 j3, .slice r3 n3 h3, .string ⟨#[97]⟩, .slice p4 l4 k4, .slice q4 m4 j4, .slice r4 n4 h4, .string ⟨#[97]⟩, .slice p5 l5 k5, .slice q5 m5 j5, .slice r5 n5 h5, .string ⟨#[97]⟩, .slice p6 l6 k6, .slice q6 m6 j6, .slice r6 n6 h6] 67)) W → Calls Try.prog 11 #[.agg #[.string ⟨#[97]⟩, .slice p2 l2 k2, .slice q2 m2 j2, .slice r2 n2 h2]] W fun e w' => e = .returned (.int .i64 (4)) ∧ Below W.heap.size W w') := fun W hW => by
    have := HC2.out W (hal.trans (hW.mono hal.size))
    rw [show ((0 : Nat) - 1) = 0 from rfl, lm_over2] at this
    exact this
  have HC3 : Hid (∀ W, Below (V6.alloc (.cells #[.string ⟨#[97]⟩, .slice p0 l0 k0, .slice q0 m0 j0, .slice r0 n0 h0, .string ⟨#[97]⟩, .slice p1 l1 k1, .slice q1 m1 j1, .slice r1 n1 h1, .string ⟨#[97]⟩, .slice p2 l2 k2, .slice q2 m2 j2, .slice r2 n2 h2, .string ⟨#[97]⟩, .slice p3 l3 k3, .slice q3 m3 j3, .slice r3 n3 h3, .string ⟨#[97]⟩, .slice p4 l4 k4, .slice q4 m4 j4, .slice r4 n4 h4, .string ⟨#[97]⟩, .slice p5 l5 k5, .slice q5 m5 j5, .slice r5 n5 h5, .string ⟨#[97]⟩, .slice p6 l6 k6, .slice q6 m6 j6, .slice r6 n6 h6] 67)).heap.size (V6.alloc (.cells #[.string ⟨#[97]⟩, .slice p0 l0 k0, .slice q0 m0 j0, .slice r0 n0 h0, .string ⟨#[97]⟩, .slice p1 l1 k1, .slice q1 m1 j1, .slice r1 n1 h1, .string ⟨#[97]⟩, .slice p2 l2 k2, .slice q2 m2 j2, .slice r2 n2 h2, .string ⟨#[97]⟩, .slice p3 l3 k3, .slice q3 m3 j3, .slice r3 n3 h3, .string ⟨#[97]⟩, .slice p4 l4 k4, .slice q4 m4 j4, .slice r4 n4 h4, .string ⟨#[97]⟩, .slice p5 l5 k5, .slice q5 m5 j5, .slice r5 n5 h5, .string ⟨#[97]⟩, .slice p6 l6 k6, .slice q6 m6 j6, .slice r6 n6 h6] 67)) W → Calls Try.prog 11 #[.agg #[.string ⟨#[97]⟩, .slice p3 l3 k3, .slice q3 m3 j3, .slice r3 n3 h3]] W fun e w' => e = .returned (.int .i64 (4)) ∧ Below W.heap.size W w') := fun W hW => by
    have := HC3.out W (hal.trans (hW.mono hal.size))
    rw [show ((0 : Nat) - 1) = 0 from rfl, lm_over3] at this
    exact this
  have HC4 : Hid (∀ W, Below (V6.alloc (.cells #[.string ⟨#[97]⟩, .slice p0 l0 k0, .slice q0 m0 j0, .slice r0 n0 h0, .string ⟨#[97]⟩, .slice p1 l1 k1, .slice q1 m1 j1, .slice r1 n1 h1, .string ⟨#[97]⟩, .slice p2 l2 k2, .slice q2 m2 j2, .slice r2 n2 h2, .string ⟨#[97]⟩, .slice p3 l3 k3, .slice q3 m3 j3, .slice r3 n3 h3, .string ⟨#[97]⟩, .slice p4 l4 k4, .slice q4 m4 j4, .slice r4 n4 h4, .string ⟨#[97]⟩, .slice p5 l5 k5, .slice q5 m5 j5, .slice r5 n5 h5, .string ⟨#[97]⟩, .slice p6 l6 k6, .slice q6 m6 j6, .slice r6 n6 h6] 67)).heap.size (V6.alloc (.cells #[.string ⟨#[97]⟩, .slice p0 l0 k0, .slice q0 m0 j0, .slice r0 n0 h0, .string ⟨#[97]⟩, .slice p1 l1 k1, .slice q1 m1 j1, .slice r1 n1 h1, .string ⟨#[97]⟩, .slice p2 l2 k2, .slice q2 m2 j2, .slice r2 n2 h2, .string ⟨#[97]⟩, .slice p3 l3 k3, .slice q3 m3 j3, .slice r3 n3 h3, .string ⟨#[97]⟩, .slice p4 l4 k4, .slice q4 m4 j4, .slice r4 n4 h4, .string ⟨#[97]⟩, .slice p5 l5 k5, .slice q5 m5 j5, .slice r5 n5 h5, .string ⟨#[97]⟩, .slice p6 l6 k6, .slice q6 m6 j6, .slice r6 n6 h6] 67)) W → Calls Try.prog 11 #[.agg #[.string ⟨#[97]⟩, .slice p4 l4 k4, .slice q4 m4 j4, .slice r4 n4 h4]] W fun e w' => e = .returned (.int .i64 (4)) ∧ Below W.heap.size W w') := fun W hW => by
    have := HC4.out W (hal.trans (hW.mono hal.size))
    rw [show ((17 : Nat) - 1) = 16 from rfl, lm_over4] at this
    exact this
  have HC5 : Hid (∀ W, Below (V6.alloc (.cells #[.string ⟨#[97]⟩, .slice p0 l0 k0, .slice q0 m0 j0, .slice r0 n0 h0, .string ⟨#[97]⟩, .slice p1 l1 k1, .slice q1 m1 j1, .slice r1 n1 h1, .string ⟨#[97]⟩, .slice p2 l2 k2, .slice q2 m2 j2, .slice r2 n2 h2, .string ⟨#[97]⟩, .slice p3 l3 k3, .slice q3 m3 j3, .slice r3 n3 h3, .string ⟨#[97]⟩, .slice p4 l4 k4, .slice q4 m4 j4, .slice r4 n4 h4, .string ⟨#[97]⟩, .slice p5 l5 k5, .slice q5 m5 j5, .slice r5 n5 h5, .string ⟨#[97]⟩, .slice p6 l6 k6, .slice q6 m6 j6, .slice r6 n6 h6] 67)).heap.size (V6.alloc (.cells #[.string ⟨#[97]⟩, .slice p0 l0 k0, .slice q0 m0 j0, .slice r0 n0 h0, .string ⟨#[97]⟩, .slice p1 l1 k1, .slice q1 m1 j1, .slice r1 n1 h1, .string ⟨#[97]⟩, .slice p2 l2 k2, .slice q2 m2 j2, .slice r2 n2 h2, .string ⟨#[97]⟩, .slice p3 l3 k3, .slice q3 m3 j3, .slice r3 n3 h3, .string ⟨#[97]⟩, .slice p4 l4 k4, .slice q4 m4 j4, .slice r4 n4 h4, .string ⟨#[97]⟩, .slice p5 l5 k5, .slice q5 m5 j5, .slice r5 n5 h5, .string ⟨#[97]⟩, .slice p6 l6 k6, .slice q6 m6 j6, .slice r6 n6 h6] 67)) W → Calls Try.prog 11 #[.agg #[.string ⟨#[97]⟩, .slice p5 l5 k5, .slice q5 m5 j5, .slice r5 n5 h5]] W fun e w' => e = .returned (.int .i64 (4)) ∧ Below W.heap.size W w') := fun W hW => by
    have := HC5.out W (hal.trans (hW.mono hal.size))
    rw [show ((0 : Nat) - 1) = 0 from rfl, lm_over5] at this
    exact this
  have HC6 : Hid (∀ W, Below (V6.alloc (.cells #[.string ⟨#[97]⟩, .slice p0 l0 k0, .slice q0 m0 j0, .slice r0 n0 h0, .string ⟨#[97]⟩, .slice p1 l1 k1, .slice q1 m1 j1, .slice r1 n1 h1, .string ⟨#[97]⟩, .slice p2 l2 k2, .slice q2 m2 j2, .slice r2 n2 h2, .string ⟨#[97]⟩, .slice p3 l3 k3, .slice q3 m3 j3, .slice r3 n3 h3, .string ⟨#[97]⟩, .slice p4 l4 k4, .slice q4 m4 j4, .slice r4 n4 h4, .string ⟨#[97]⟩, .slice p5 l5 k5, .slice q5 m5 j5, .slice r5 n5 h5, .string ⟨#[97]⟩, .slice p6 l6 k6, .slice q6 m6 j6, .slice r6 n6 h6] 67)).heap.size (V6.alloc (.cells #[.string ⟨#[97]⟩, .slice p0 l0 k0, .slice q0 m0 j0, .slice r0 n0 h0, .string ⟨#[97]⟩, .slice p1 l1 k1, .slice q1 m1 j1, .slice r1 n1 h1, .string ⟨#[97]⟩, .slice p2 l2 k2, .slice q2 m2 j2, .slice r2 n2 h2, .string ⟨#[97]⟩, .slice p3 l3 k3, .slice q3 m3 j3, .slice r3 n3 h3, .string ⟨#[97]⟩, .slice p4 l4 k4, .slice q4 m4 j4, .slice r4 n4 h4, .string ⟨#[97]⟩, .slice p5 l5 k5, .slice q5 m5 j5, .slice r5 n5 h5, .string ⟨#[97]⟩, .slice p6 l6 k6, .slice q6 m6 j6, .slice r6 n6 h6] 67)) W → Calls Try.prog 11 #[.agg #[.string ⟨#[97]⟩, .slice p6 l6 k6, .slice q6 m6 j6, .slice r6 n6 h6]] W fun e w' => e = .returned (.int .i64 (12)) ∧ Below W.heap.size W w') := fun W hW => by
    have := HC6.out W (hal.trans (hW.mono hal.size))
    rw [show ((0 : Nat) - 1) = 0 from rfl, lm_over6] at this
    exact this
  obtain ⟨ba, hbz⟩ : ∃ n, V6.heap.size = n := ⟨_, rfl⟩
  rw [hbz] at BA ⊢
  generalize (V6.alloc (.cells #[.string ⟨#[97]⟩, .slice p0 l0 k0, .slice q0 m0 j0, .slice r0 n0 h0, .string ⟨#[97]⟩, .slice p1 l1 k1, .slice q1 m1 j1, .slice r1 n1 h1, .string ⟨#[97]⟩, .slice p2 l2 k2, .slice q2 m2 j2, .slice r2 n2 h2, .string ⟨#[97]⟩, .slice p3 l3 k3, .slice q3 m3 j3, .slice r3 n3 h3, .string ⟨#[97]⟩, .slice p4 l4 k4, .slice q4 m4 j4, .slice r4 n4 h4, .string ⟨#[97]⟩, .slice p5 l5 k5, .slice q5 m5 j5, .slice r5 n5 h5, .string ⟨#[97]⟩, .slice p6 l6 k6, .slice q6 m6 j6, .slice r6 n6 h6] 67)) = U0 at *
  clear hal hbz hb6 HB0 HN
  have hu0 : Below U0.heap.size U0 U0 := Below.refl _ _
  refine wp_loop_rounds 8 ?_
  rw [rounds_succ]
  have a0 := ((BA.below hu0).cell 0).trans rfl
  have a1 := ((BA.below hu0).cell 1).trans rfl
  have a2 := ((BA.below hu0).cell 2).trans rfl
  have a3 := ((BA.below hu0).cell 3).trans rfl
  go_wp2_with fail
  clear a0 a1 a2 a3
  refine (HC0.out _ hu0).mono ?_
  rintro en U1 ⟨rfl, hbx⟩
  have hu1 : Below U0.heap.size U0 U1 := hu0.trans (hbx.mono hu0.size)
  clear hbx hu0
  go_wp2_with fail
  rw [rounds_succ]
  have a0 := ((BA.below hu1).cell 4).trans rfl
  have a1 := ((BA.below hu1).cell 5).trans rfl
  have a2 := ((BA.below hu1).cell 6).trans rfl
  have a3 := ((BA.below hu1).cell 7).trans rfl
  go_wp2_with fail
  clear a0 a1 a2 a3
  refine (HC1.out _ hu1).mono ?_
  rintro en U2 ⟨rfl, hbx⟩
  have hu2 : Below U0.heap.size U0 U2 := hu1.trans (hbx.mono hu1.size)
  clear hbx hu1
  go_wp2_with fail
  rw [rounds_succ]
  have a0 := ((BA.below hu2).cell 8).trans rfl
  have a1 := ((BA.below hu2).cell 9).trans rfl
  have a2 := ((BA.below hu2).cell 10).trans rfl
  have a3 := ((BA.below hu2).cell 11).trans rfl
  go_wp2_with fail
  clear a0 a1 a2 a3
  refine (HC2.out _ hu2).mono ?_
  rintro en U3 ⟨rfl, hbx⟩
  have hu3 : Below U0.heap.size U0 U3 := hu2.trans (hbx.mono hu2.size)
  clear hbx hu2
  go_wp2_with fail
  rw [rounds_succ]
  have a0 := ((BA.below hu3).cell 12).trans rfl
  have a1 := ((BA.below hu3).cell 13).trans rfl
  have a2 := ((BA.below hu3).cell 14).trans rfl
  have a3 := ((BA.below hu3).cell 15).trans rfl
  go_wp2_with fail
  clear a0 a1 a2 a3
  refine (HC3.out _ hu3).mono ?_
  rintro en U4 ⟨rfl, hbx⟩
  have hu4 : Below U0.heap.size U0 U4 := hu3.trans (hbx.mono hu3.size)
  clear hbx hu3
  go_wp2_with fail
  rw [rounds_succ]
  have a0 := ((BA.below hu4).cell 16).trans rfl
  have a1 := ((BA.below hu4).cell 17).trans rfl
  have a2 := ((BA.below hu4).cell 18).trans rfl
  have a3 := ((BA.below hu4).cell 19).trans rfl
  go_wp2_with fail
  clear a0 a1 a2 a3
  refine (HC4.out _ hu4).mono ?_
  rintro en U5 ⟨rfl, hbx⟩
  have hu5 : Below U0.heap.size U0 U5 := hu4.trans (hbx.mono hu4.size)
  clear hbx hu4
  go_wp2_with fail
  rw [rounds_succ]
  have a0 := ((BA.below hu5).cell 20).trans rfl
  have a1 := ((BA.below hu5).cell 21).trans rfl
  have a2 := ((BA.below hu5).cell 22).trans rfl
  have a3 := ((BA.below hu5).cell 23).trans rfl
  go_wp2_with fail
  clear a0 a1 a2 a3
  refine (HC5.out _ hu5).mono ?_
  rintro en U6 ⟨rfl, hbx⟩
  have hu6 : Below U0.heap.size U0 U6 := hu5.trans (hbx.mono hu5.size)
  clear hbx hu5
  go_wp2_with fail
  rw [rounds_succ]
  have a0 := ((BA.below hu6).cell 24).trans rfl
  have a1 := ((BA.below hu6).cell 25).trans rfl
  have a2 := ((BA.below hu6).cell 26).trans rfl
  have a3 := ((BA.below hu6).cell 27).trans rfl
  go_wp2_with fail
  clear a0 a1 a2 a3
  refine (HC6.out _ hu6).mono ?_
  rintro en U7 ⟨rfl, hbx⟩
  have hu7 : Below U0.heap.size U0 U7 := hu6.trans (hbx.mono hu6.size)
  clear hbx hu6
  go_wp2_with fail
  rw [rounds_succ]
  have a0 := ((BM.below hu7).cell 0).trans rfl
  have a1 := ((BM.below hu7).cell 1).trans rfl
  have a2 := ((BM.below hu7).cell 2).trans rfl
  have a3 := ((BM.below hu7).cell 3).trans rfl
  go_wp2_with fail
  clear a0 a1 a2 a3
  refine (HC9.out _ hu7).mono ?_
  rintro en U8 ⟨rfl, hbx⟩
  have hu8 : Below U0.heap.size U0 U8 := hu7.trans (hbx.mono hu7.size)
  clear hbx hu7
  go_wp2_with fail
  refine (awake_any _).mono ?_
  rintro en U9 ⟨rfl, hbx⟩
  go_wp2_with fail
  go_ret
  exact ⟨rfl, HBA.trans ((hu8.trans (hbx.mono hu8.size)).mono HBA.size)⟩
end Go.Proofs.Ytomeppgmmlaibaa

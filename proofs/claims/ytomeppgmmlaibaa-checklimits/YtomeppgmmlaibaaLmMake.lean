/- What the literal make of CheckLimits answers. -/
import Derived.Test.YtomeppgmmlaibaaLmStep
import Derived.Test.YtomeppgmmlaibaaLmName
import Derived.Test.YtomeppgmmlaibaaRg6
namespace Go.Proofs.Ytomeppgmmlaibaa
open Go.ChangeShapes Go.WideShapes Go.ChangeAt Go.RowKit
set_option linter.unusedVariables false
set_option linter.unusedSimpArgs false
set_option maxRecDepth 20000

section
variable {P : Program} {md : Region.Mode} {ops : Array Oper} {Q : Exit → Act → World → Prop} {T : World → Prop} {m : Nat}
/-- A call and a new block are ready: each may come first; the outcome is said by C. -/
theorem M_cb {o1 o2 : Oper} {fuel : Nat} {listed : Array Bool} {a : Act} {w : World} (i j d1 d2 f : Nat) (vals : Array Value) (z : World → Value) (N : World → World) (C : Value → Value → World → Prop)
    (h1 : ops[i]? = some o1) (h2 : ops[j]? = some o2) (hd1 : o1.dst = some d1) (hd2 : o2.dst = some d2) (hij : i ≠ j) (d12 : d1 ≠ d2)
    (hr : Region.ready md ops listed = [i, j]) (hri : Region.ready md ops (listed.setIfInBounds i true) = [j]) (hrj : Region.ready md ops (listed.setIfInBounds j true) = [i])
    (hw1 : ∀ t, Region.wanted o1 t = true) (hw2 : ∀ t, Region.wanted o2 t = true)
    (hx1 : (execOp a.eval o1).run P w = .ok (.enter f vals) w) (hx1' : ∀ v w', (execOp (a.put (some d2) v).eval o1).run P w' = .ok (.enter f vals) w')
    (hx2 : (execOp a.eval o2).run P w = .ok (.value (z w)) (N w)) (hx2' : ∀ u w', (execOp (a.put (some d1) u).eval o2).run P w' = .ok (.value (z w')) (N w'))
    (hA : Calls P f vals w fun e w' => ∃ u, e = .returned u ∧ T w' ∧ T (N w') ∧ C u (z w') (N w'))
    (hT : T (N w)) (hB : Calls P f vals (N w) fun e w' => ∃ u, e = .returned u ∧ T w' ∧ C u (z w) w')
    (h : ∀ u v w', T w' → C u v w' → wpAnyM P md ops Q T m fuel ((listed.setIfInBounds i true).setIfInBounds j true) { a with tmps := (a.tmps.setIfInBounds d1 u).setIfInBounds d2 v } w') : wpAnyM P md ops Q T m (fuel + 2) listed a w := by
  refine ⟨fun h0 => (by rw [hr] at h0; cases h0), fun k hk => ?_⟩
  rw [hr] at hk
  simp only [List.mem_cons, List.not_mem_nil, or_false] at hk
  rcases hk with rfl | rfl
  · unfold wpOp
    simp only [h1]
    rw [if_pos (hw1 _)]
    refine .inl ?_
    unfold Oper.wp
    rw [hx1]
    refine Calls.mono hA ?_
    rintro e w' ⟨u, rfl, t1, t2, c⟩
    rw [hd1]
    refine ⟨fun _ => t1, ?_⟩
    exact M_run j d2 (z w') (N w') h2 hd2 hri (hw2 _) rfl (hx2' u w') t2 (h u (z w') (N w') t2 c)
  · unfold wpOp
    simp only [h2]
    rw [if_pos (hw2 _)]
    refine .inl ?_
    unfold Oper.wp
    rw [hx2, Oper.upon_value, hd2]
    refine ⟨fun _ => hT, ?_⟩
    refine M_call i d1 f vals h1 hd1 hrj (hw1 _) rfl (fun w' => hx1' _ w') ?_
    refine hB.mono ?_
    rintro e w' ⟨u, rfl, t1, c⟩
    refine ⟨u, rfl, t1, ?_⟩
    have := h u (z w) w' t1 c
    rw [Array.setIfInBounds_comm _ _ hij, set_comm2 _ d12] at this
    exact this
end
section
variable {w w1 : World} {bt : Nat} {vm vf vr ve vv vt : Value} {pe : List Value} {a b c d e f : Nat}
theorem LmO.kp (h : LmO w bt vm vf vr ve vv vt pe a b c d e f) {S : Nat → Prop} (hk : Kp S w w1) (hs : ∀ k, bt ≤ k → ¬ S k) : LmO w1 bt vm vf vr ve vv vt pe a b c d e f := by
  have hs1 : ∀ k, bt + 1 ≤ k → ¬ S k := fun k h => hs k (by omega)
  exact ⟨h.blk.kp hk (hs _ (Nat.le_refl _)), ⟨own_kp h.ms.own hk hs1, own_kp h.ms.fl hk hs1, own_kp h.ms.rs hk hs1⟩, ⟨own_kp h.en.own hk hs1, h.en.len, fun hd => ⟨(h.en.vl hd).1, own_kp (h.en.vl hd).2 hk hs1⟩, fun i p hi hp => by
    obtain ⟨g, h1, h2, h3, h4⟩ := h.en.each i p hi hp
    exact ⟨g, h1, h2, h3.kp hk (hs1 g h2), h4⟩⟩, own_kp h.mt hk hs1⟩
theorem LmO.cellF {q cap : Nat} (h : LmO w bt (.slice (some ⟨q, 0, none⟩) a cap) vf vr ve vv vt pe a b c d e f) (ha : 0 < a) : w.cell? ⟨q, 1, none⟩ = some vf := own_at (ms_len _ _) h.ms.own (ms_row0 ha) (j := 1) rfl
theorem LmO.cellR {q cap : Nat} (h : LmO w bt (.slice (some ⟨q, 0, none⟩) a cap) vf vr ve vv vt pe a b c d e f) (ha : 0 < a) : w.cell? ⟨q, 2, none⟩ = some vr := own_at (ms_len _ _) h.ms.own (ms_row0 ha) (j := 2) rfl
theorem LmO.cellV {q cap : Nat} (h : LmO w bt vm vf vr (.slice (some ⟨q, 0, none⟩) d cap) vv vt pe a b c d e f) (hd : 0 < d) : w.cell? ⟨q, 1, none⟩ = some vv := own_at (en_len _ _) h.en.own (en_row0 hd (h.en.vl hd).1) (j := 1) rfl
end
theorem lname_at (i : Nat) (x : Int) (hx : x = (i : Int)) (hi : i ≤ 600) (w : World) :
    Calls Try.prog 26 #[.int .i64 x] w fun e w' => e = .returned (.string (nmB i)) ∧ Below w.heap.size w w' := by subst hx; exact lname_any i hi w
set_option maxHeartbeats 8000000 in
theorem lmake_any (a b c d e f : Nat) (ha : a ≤ 100) (hb : b ≤ 100) (hc : c ≤ 100) (hd : d ≤ 100) (he : e ≤ 100) (hf : f ≤ 100) (hab : a = 0 → b = 0 ∧ c = 0) (hde : d = 0 → e ≤ 1) {w : World} {bn : Nat} (hn : w.cell? ⟨bn, 0, none⟩ = some (.func (.func 26) #[] #[])) :
    Calls Try.prog 27 #[.int .i64 (a : Int), .int .i64 (b : Int), .int .i64 (c : Int), .int .i64 (d : Int), .int .i64 (e : Int), .int .i64 (f : Int), .pointer (some ⟨bn, 0, none⟩)] w fun en w' => ∃ va vb vc, en = .returned (.agg #[.string aB, va, vb, vc]) ∧ ScIn w' (.agg #[.string aB, va, vb, vc]) (lmS a b c d (e - 1) f) ∧ Below w.heap.size w w' := by
  have HAB : Hid (a = 0 → b = 0 ∧ c = 0) := hab
  have HDE : Hid (d = 0 → e ≤ 1) := hde
  have HN : Hid (∀ W, Below w.heap.size w W → W.cell? ⟨bn, 0, none⟩ = some (.func (.func 26) #[] #[])) := fun W hW => by
    rw [hW.cell (p := ⟨bn, 0, none⟩) (World.block_lt_of_cell? _ _ hn)]; exact hn
  clear hab hde hn
  go_enter Try.func27, Try.ntmps27
  go_wp2_with fail
  have HB0 : Below w.heap.size w ((w.alloc (.cells #[.string ⟨#[]⟩, .slice none 0 0, .slice none 0 0, .slice none 0 0] 26)).alloc (.cells #[.string ⟨#[97]⟩, .slice none 0 0, .slice none 0 0, .slice none 0 0] 26)) := ((Below.refl _ _).alloc (Nat.le_refl _) _).alloc (by simp) _
  have BR0 : Blk ((w.alloc (.cells #[.string ⟨#[]⟩, .slice none 0 0, .slice none 0 0, .slice none 0 0] 26)).alloc (.cells #[.string ⟨#[97]⟩, .slice none 0 0, .slice none 0 0, .slice none 0 0] 26)) w.heap.size #[.string ⟨#[]⟩, .slice none 0 0, .slice none 0 0, .slice none 0 0] 26 := (Blk.new w _ _).below ((Below.refl _ _).alloc (Nat.le_refl _) _)
  have BT0 : Blk ((w.alloc (.cells #[.string ⟨#[]⟩, .slice none 0 0, .slice none 0 0, .slice none 0 0] 26)).alloc (.cells #[.string ⟨#[97]⟩, .slice none 0 0, .slice none 0 0, .slice none 0 0] 26)) (w.heap.size + 1) #[.string ⟨#[97]⟩, .slice none 0 0, .slice none 0 0, .slice none 0 0] 26 := by
    have := Blk.new (w.alloc (.cells #[.string ⟨#[]⟩, .slice none 0 0, .slice none 0 0, .slice none 0 0] 26)) #[.string ⟨#[97]⟩, .slice none 0 0, .slice none 0 0, .slice none 0 0] 26
    rw [show (w.alloc (.cells #[.string ⟨#[]⟩, .slice none 0 0, .slice none 0 0, .slice none 0 0] 26)).heap.size = w.heap.size + 1 by simp] at this
    exact this
  generalize ((w.alloc (.cells #[.string ⟨#[]⟩, .slice none 0 0, .slice none 0 0, .slice none 0 0] 26)).alloc (.cells #[.string ⟨#[97]⟩, .slice none 0 0, .slice none 0 0, .slice none 0 0] 26)) = W0 at *
  obtain ⟨b0, hb0⟩ : ∃ n, w.heap.size = n := ⟨_, rfl⟩
  rw [hb0] at BR0 BT0 ⊢
  have HBZ : Hid (w.heap.size = b0) := hb0
  clear hb0
  obtain ⟨bt, hbt⟩ : ∃ n, b0 + 1 = n := ⟨_, rfl⟩
  rw [hbt] at BT0 ⊢
  have HBT : Hid (b0 + 1 = bt) := hbt
  clear hbt
  have HL0 : Hid (LmO W0 bt (.slice none 0 0) nilV nilV nilV nilV nilV [] 0 0 0 0 0 0) := ⟨BT0, LmM.nil, LmE.nil, World.ownsRow_nil _ _ _ _⟩
  clear BT0
  go_loopw [15] (fun iv wr => ∃ (k : Nat) (va : Option Addr) (vc : Nat), iv = .int .i64 (k : Int) ∧ k ≤ a ∧ Hid (LmO wr bt (.slice va k vc) nilV nilV nilV nilV nilV [] k 0 0 0 0 0) ∧ Blk wr b0 #[.string ⟨#[]⟩, .slice none 0 0, .slice none 0 0, .slice none 0 0] 26 ∧ Below w.heap.size w wr) (fun iv _ => a - (intOf iv).toNat)
  case atStart => exact ⟨0, none, 0, rfl, by omega, HL0, BR0, HB0⟩
  case round =>
    obtain ⟨k, va, vc, rfl, hk, HL, BR, hbel⟩ := hrel
    clear HL0 BR0 HB0
    by_cases hlt : k < a
    · skip
      go_wp2_with fail
      refine M_region (T := fun W => W.cell? ⟨bt, 1, none⟩ = some (.slice va k vc) ∧ W.cell? ⟨bn, 0, none⟩ = some (.func (.func 26) #[] #[])) (m := 9) (by kernel_rfl) ?_
      have hdr : Below wr.heap.size wr wr.drew := below_drewN 1 (Below.refl _ _)
      have HL0 : Hid (LmO wr.drew bt (.slice va k vc) nilV nilV nilV nilV nilV [] k 0 0 0 0 0) := HL.out.below hdr
      have BR0 := BR.below hdr
      have HB0 : Below w.heap.size w wr.drew := hbel.trans (hdr.mono hbel.size)
      generalize wr.drew = W0 at *
      clear HL BR hbel hdr
      have hTW : ∀ W, Below W0.heap.size W0 W → W.cell? ⟨bt, 1, none⟩ = some (.slice va k vc) ∧ W.cell? ⟨bn, 0, none⟩ = some (.func (.func 26) #[] #[]) := fun W hW => ⟨((HL0.out.below hW).blk.cell 1).trans rfl, HN.out W (HB0.trans (hW.mono HB0.size))⟩
      have hT := hTW W0 (Below.refl _ _)
      refine M_take 0 27 (.pointer (some ⟨bt, 1, none⟩)) _ rfl rfl (by kernel_rfl) (by kernel_rfl) (by kernel_rfl) (by kernel_rfl) (by kernel_rfl) (fun _ _ _ h => h) (by rfl) (fun w' hw' => ?_) hT (listed' := #[true, false, false, false, false, false, false, false, false, false]) (by kernel_rfl) rfl ?_
      · obtain ⟨g0, g1⟩ := hw'; go_simp
      simp only [List.setIfInBounds_toArray, List.set_cons_zero, List.set_cons_succ]
      refine M_take 2 29 (.func (.func 26) #[] #[]) _ rfl rfl (by kernel_rfl) (by kernel_rfl) (by kernel_rfl) (by kernel_rfl) (by kernel_rfl) (fun _ _ _ h => h) (by rfl) (fun w' hw' => ?_) hT (listed' := #[true, false, true, false, false, false, false, false, false, false]) (by kernel_rfl) rfl ?_
      · obtain ⟨g0, g1⟩ := hw'; go_simp
      simp only [List.setIfInBounds_toArray, List.set_cons_zero, List.set_cons_succ]
      refine M_take 3 30 (.int .i64 (k : Int)) _ rfl rfl (by kernel_rfl) (by kernel_rfl) (by kernel_rfl) (by kernel_rfl) (by kernel_rfl) (fun _ _ _ h => h) (by rfl) (fun w' hw' => ?_) hT (listed' := #[true, false, true, true, false, false, false, false, false, false]) (by kernel_rfl) rfl ?_
      · obtain ⟨g0, g1⟩ := hw'; go_simp
      simp only [List.setIfInBounds_toArray, List.set_cons_zero, List.set_cons_succ]
      refine M_take 1 28 (.slice va k vc) _ rfl rfl (by kernel_rfl) (by kernel_rfl) (by kernel_rfl) (by kernel_rfl) (by kernel_rfl) (fun _ _ _ h => h) (by rfl) (fun w' hw' => ?_) hT (listed' := #[true, true, true, true, false, false, false, false, false, false]) (by kernel_rfl) rfl ?_
      · obtain ⟨g0, g1⟩ := hw'; go_simp
      simp only [List.setIfInBounds_toArray, List.set_cons_zero, List.set_cons_succ]
      refine M_call 4 31 26 #[.int .i64 ((k : Int))] rfl rfl (by kernel_rfl) (by rfl) (listed' := #[true, true, true, true, true, false, false, false, false, false]) (by kernel_rfl) (fun W => by go_simp) ?_
      refine (lname_at (k) ((k : Int)) (by omega) (by omega) _).mono ?_
      rintro en W1 ⟨rfl, hbx⟩
      have hb1 : Below W0.heap.size W0 W1 := hbx
      clear hbx
      have hT := hTW W1 hb1
      refine ⟨_, rfl, hT, ?_⟩
      simp only [List.setIfInBounds_toArray, List.set_cons_zero, List.set_cons_succ]
      refine M_run 5 32 (.agg #[.string (nmB k), .slice none 0 0, .slice none 0 0]) (W1) rfl rfl (by kernel_rfl) (by rfl) (listed' := #[true, true, true, true, true, true, false, false, false, false]) (by kernel_rfl) (by go_simp) hT ?_
      simp only [List.setIfInBounds_toArray, List.set_cons_zero, List.set_cons_succ]
      have hal : Below W1.heap.size W1 (W1.alloc (.cells #[.string (nmB k), .slice none 0 0, .slice none 0 0] 35)) := (Below.refl _ _).alloc (Nat.le_refl _) _
      have hbw : Below W0.heap.size W0 (W1.alloc (.cells #[.string (nmB k), .slice none 0 0, .slice none 0 0] 35)) := hb1.trans (hal.mono hb1.size)
      have BE := Blk.new W1 #[.string (nmB k), .slice none 0 0, .slice none 0 0] 35
      obtain ⟨bz, hbz⟩ : ∃ n, W1.heap.size = n := ⟨_, rfl⟩
      have HBZ2 : Hid (W1.heap.size = bz) := hbz
      refine M_run 6 33 (.slice (some ⟨W1.heap.size, 0, none⟩) 1 1) (W1.alloc (.cells #[.string (nmB k), .slice none 0 0, .slice none 0 0] 35)) rfl rfl (by kernel_rfl) (by rfl) (listed' := #[true, true, true, true, true, true, true, false, false, false]) (by kernel_rfl) (by go_simp) (hTW _ hbw) ?_
      simp only [List.setIfInBounds_toArray, List.set_cons_zero, List.set_cons_succ]
      rw [hbz] at BE ⊢
      generalize (W1.alloc (.cells #[.string (nmB k), .slice none 0 0, .slice none 0 0] 35)) = W3 at *
      clear hbz hal
      have HL3 : Hid (LmO W3 bt (.slice va k vc) nilV nilV nilV nilV nilV [] k 0 0 0 0 0) := HL0.out.below hbw
      have HOWN : Hid (W3.ownsRow (bt + 1) 35 3 (.slice va k vc) k (msRows (msL k 0 0) (lmP k nilV nilV)).flatten) := HL3.out.ms.own
      obtain ⟨i0, hi0, hz0, hz1, hz2⟩ := info_parts infoMs
      obtain ⟨v', W4, r1, r2, r3, _⟩ := run_append_own W3 (bt + 1) 22 22 35 i0 _ 3 64 Try.underlying22 hi0 hz0 hz1 hz2 rfl (by decide) (.slice va k vc) (k) _ HOWN.out ⟨bz, 0, none⟩ 1 1 [.string (nmB k), .slice none 0 0, .slice none 0 0] rfl (fun j u hu => by
        have := BE.cell j
        rw [Addr.add_lit, Nat.zero_add, this]
        simpa using hu) (fun u hu => by
        simp only [List.mem_cons, List.not_mem_nil, or_false] at hu
        rcases hu with rfl | rfl | rfl <;> rfl) (by unfold maxLen; omega) (by omega) (by have := (HL3.out).blk.lt; omega)
      have HRUN : Hid _ := r1
      obtain ⟨na, nc, hv'⟩ := own_form r2
      subst hv'
      have HR2 : Hid _ := r2
      have HR3 : Hid _ := r3
      clear r1 r2 r3
      have hb4 : Below w.heap.size w W4 := by
        have h3 : Below w.heap.size w W3 := HB0.trans (hbw.mono HB0.size)
        refine h3.grown HR3.out h3.size (fun k hk => ?_)
        have := (World.ownsRow.lt HOWN.out k hk).1
        have := HBZ.out
        have := HBT.out
        omega
      have HTW3 := hTW W3 hbw
      have KA := kp_grown HR3.out
      have HT4 : W4.cell? ⟨bt, 1, none⟩ = some (.slice va k vc) ∧ W4.cell? ⟨bn, 0, none⟩ = some (.func (.func 26) #[] #[]) := ⟨KA.cell (HTW3.1) (fun hk => by have := (World.ownsRow.lt HOWN.out bt hk).1; omega), HN.out W4 hb4⟩
      refine M_run 7 34 (.slice na (k + 1) nc) (W4) rfl rfl (by kernel_rfl) (by rfl) (listed' := #[true, true, true, true, true, true, true, true, false, false]) (by kernel_rfl) (append_run rfl rfl rfl HRUN.out) HT4 ?_
      simp only [List.setIfInBounds_toArray, List.set_cons_zero, List.set_cons_succ]
      refine M_run 8 35 (.pointer (some ⟨bt, 1, none⟩)) (W4) rfl rfl (by kernel_rfl) (by rfl) (listed' := #[true, true, true, true, true, true, true, true, true, false]) (by kernel_rfl) (by go_simp) HT4 ?_
      simp only [List.setIfInBounds_toArray, List.set_cons_zero, List.set_cons_succ]
      have BF := ((HL3.out.blk).kp KA (fun hk => by have := (World.ownsRow.lt HOWN.out bt hk).1; omega)).froz 1
      have BC := HT4.1
      refine M_store 9 (W4.setCell ⟨bt, 1, none⟩ (.slice na (k + 1) nc)) rfl rfl (by kernel_rfl) (by rfl) (listed' := #[true, true, true, true, true, true, true, true, true, true]) (by kernel_rfl) (by go_simp) (by kernel_rfl) ?_
      refine M_done (by kernel_rfl) ?_ _
      clear BF BC HT4 HTW3 KA
      have HL5 : Hid (LmO (W4.setCell ⟨bt, 1, none⟩ (.slice na (k + 1) nc)) bt (.slice na (k + 1) nc) nilV nilV nilV nilV nilV [] (k + 1) 0 0 0 0 0) := HL3.out.addM HR2.out HR3.out
      have hb5 : Below w.heap.size w (W4.setCell ⟨bt, 1, none⟩ (.slice na (k + 1) nc)) := hb4.trans ((kp_set _ _ _ _).toBelow hb4.size (fun k e => by have := HBZ.out; have := HBT.out; omega))
      have BR5 : Blk (W4.setCell ⟨bt, 1, none⟩ (.slice na (k + 1) nc)) b0 #[.string ⟨#[]⟩, .slice none 0 0, .slice none 0 0, .slice none 0 0] 26 := by
        refine Blk.other ?_ (by show b0 ≠ bt; have := HBT.out; omega) _
        refine (BR0.below hbw).kp (kp_grown HR3.out) (fun hk => ?_)
        have := (World.ownsRow.lt HOWN.out b0 hk).1
        have := HBT.out
        omega
      generalize (W4.setCell ⟨bt, 1, none⟩ (.slice na (k + 1) nc)) = W5 at *
      clear hT hTW HL0 BR0 HB0 hbw HR2 HR3 HRUN hb4 HL3 HOWN BE
      go_wp2_with fail
      go_roundw
      case rel => exact ⟨k + 1, _, _, by go_num, by omega, HL5, BR5, hb5⟩
      case measure => simp [intOf]; omega
    · obtain rfl : a = k := by omega
      have HL0 := HL
      have BR0 := BR
      have HB0 := hbel
      clear HL BR hbel
      go_wp2_with fail
      go_loopw [16] (fun iv wr => ∃ (i : Nat) (fa : Option Addr) (fc : Nat), iv = .int .i64 (i : Int) ∧ i ≤ b ∧ Hid (LmO wr bt (.slice va a vc) (.slice fa i fc) nilV nilV nilV nilV [] a i 0 0 0 0) ∧ Blk wr b0 #[.string ⟨#[]⟩, .slice none 0 0, .slice none 0 0, .slice none 0 0] 26 ∧ Below w.heap.size w wr) (fun iv _ => b - (intOf iv).toNat)
      case atStart => exact ⟨0, none, 0, rfl, by omega, HL0, BR0, HB0⟩
      case round =>
        obtain ⟨i, fa, fc, rfl, hi, HL, BR, hbel⟩ := hrel
        clear HL0 BR0 HB0
        by_cases hlt : i < b
        · have hpos : 0 < a := by
            rcases Nat.eq_zero_or_pos a with h | h
            · have := (HAB.out h).1; omega
            · exact h
          obtain ⟨q, cap, hva, _, _, hq, _⟩ := own_addr HL.out.ms.own hpos
          simp only [Value.slice.injEq, true_and] at hva
          obtain ⟨rfl, rfl⟩ := hva
          go_wp2_with fail
          refine M_region (T := fun W => W.cell? ⟨bt, 1, none⟩ = some (.slice (some ⟨q, 0, none⟩) a vc) ∧ W.cell? ⟨q, 1, none⟩ = some (.slice fa i fc) ∧ W.cell? ⟨bn, 0, none⟩ = some (.func (.func 26) #[] #[])) (m := 18) (by kernel_rfl) ?_
          have hdr : Below wr.heap.size wr wr.drew := below_drewN 1 (Below.refl _ _)
          have HL0 : Hid (LmO wr.drew bt (.slice (some ⟨q, 0, none⟩) a vc) (.slice fa i fc) nilV nilV nilV nilV [] a i 0 0 0 0) := HL.out.below hdr
          have BR0 := BR.below hdr
          have HB0 : Below w.heap.size w wr.drew := hbel.trans (hdr.mono hbel.size)
          generalize wr.drew = W0 at *
          clear HL BR hbel hdr
          have hTW : ∀ W, Below W0.heap.size W0 W → W.cell? ⟨bt, 1, none⟩ = some (.slice (some ⟨q, 0, none⟩) a vc) ∧ W.cell? ⟨q, 1, none⟩ = some (.slice fa i fc) ∧ W.cell? ⟨bn, 0, none⟩ = some (.func (.func 26) #[] #[]) := fun W hW => ⟨((HL0.out.below hW).blk.cell 1).trans rfl, (HL0.out.below hW).cellF hpos, HN.out W (HB0.trans (hW.mono HB0.size))⟩
          have hT := hTW W0 (Below.refl _ _)
          refine M_take 0 41 (.pointer (some ⟨bt, 1, none⟩)) _ rfl rfl (by kernel_rfl) (by kernel_rfl) (by kernel_rfl) (by kernel_rfl) (by kernel_rfl) (fun _ _ _ h => h) (by rfl) (fun w' hw' => ?_) hT (listed' := #[true, false, false, false, false, false, false, false, false, false, false, false, false, false, false, false, false, false, false]) (by kernel_rfl) rfl ?_
          · obtain ⟨g0, g1, g2⟩ := hw'; go_simp
          simp only [List.setIfInBounds_toArray, List.set_cons_zero, List.set_cons_succ]
          refine M_take 2 43 (.pointer (some ⟨bt, 1, none⟩)) _ rfl rfl (by kernel_rfl) (by kernel_rfl) (by kernel_rfl) (by kernel_rfl) (by kernel_rfl) (fun _ _ _ h => h) (by rfl) (fun w' hw' => ?_) hT (listed' := #[true, false, true, false, false, false, false, false, false, false, false, false, false, false, false, false, false, false, false]) (by kernel_rfl) rfl ?_
          · obtain ⟨g0, g1, g2⟩ := hw'; go_simp
          simp only [List.setIfInBounds_toArray, List.set_cons_zero, List.set_cons_succ]
          refine M_take 1 42 (.slice (some ⟨q, 0, none⟩) a vc) _ rfl rfl (by kernel_rfl) (by kernel_rfl) (by kernel_rfl) (by kernel_rfl) (by kernel_rfl) (fun _ _ _ h => h) (by rfl) (fun w' hw' => ?_) hT (listed' := #[true, true, true, false, false, false, false, false, false, false, false, false, false, false, false, false, false, false, false]) (by kernel_rfl) rfl ?_
          · obtain ⟨g0, g1, g2⟩ := hw'; go_simp
          simp only [List.setIfInBounds_toArray, List.set_cons_zero, List.set_cons_succ]
          refine M_take 3 44 (.slice (some ⟨q, 0, none⟩) a vc) _ rfl rfl (by kernel_rfl) (by kernel_rfl) (by kernel_rfl) (by kernel_rfl) (by kernel_rfl) (fun _ _ _ h => h) (by rfl) (fun w' hw' => ?_) hT (listed' := #[true, true, true, true, false, false, false, false, false, false, false, false, false, false, false, false, false, false, false]) (by kernel_rfl) rfl ?_
          · obtain ⟨g0, g1, g2⟩ := hw'; go_simp
          simp only [List.setIfInBounds_toArray, List.set_cons_zero, List.set_cons_succ]
          refine M_take 4 45 (.pointer (some ⟨q, 0, none⟩)) _ rfl rfl (by kernel_rfl) (by kernel_rfl) (by kernel_rfl) (by kernel_rfl) (by kernel_rfl) (fun _ _ _ h => h) (by rfl) (fun w' hw' => ?_) hT (listed' := #[true, true, true, true, true, false, false, false, false, false, false, false, false, false, false, false, false, false, false]) (by kernel_rfl) rfl ?_
          · obtain ⟨g0, g1, g2⟩ := hw'; go_simp
          simp only [List.setIfInBounds_toArray, List.set_cons_zero, List.set_cons_succ]
          refine M_take 5 46 (.pointer (some ⟨q, 1, none⟩)) _ rfl rfl (by kernel_rfl) (by kernel_rfl) (by kernel_rfl) (by kernel_rfl) (by kernel_rfl) (fun _ _ _ h => h) (by rfl) (fun w' hw' => ?_) hT (listed' := #[true, true, true, true, true, true, false, false, false, false, false, false, false, false, false, false, false, false, false]) (by kernel_rfl) rfl ?_
          · obtain ⟨g0, g1, g2⟩ := hw'; go_simp
          simp only [List.setIfInBounds_toArray, List.set_cons_zero, List.set_cons_succ]
          refine M_take 6 47 (.slice fa i fc) _ rfl rfl (by kernel_rfl) (by kernel_rfl) (by kernel_rfl) (by kernel_rfl) (by kernel_rfl) (fun _ _ _ h => h) (by rfl) (fun w' hw' => ?_) hT (listed' := #[true, true, true, true, true, true, true, false, false, false, false, false, false, false, false, false, false, false, false]) (by kernel_rfl) rfl ?_
          · obtain ⟨g0, g1, g2⟩ := hw'; go_simp
          simp only [List.setIfInBounds_toArray, List.set_cons_zero, List.set_cons_succ]
          refine M_take 7 48 (.func (.func 26) #[] #[]) _ rfl rfl (by kernel_rfl) (by kernel_rfl) (by kernel_rfl) (by kernel_rfl) (by kernel_rfl) (fun _ _ _ h => h) (by rfl) (fun w' hw' => ?_) hT (listed' := #[true, true, true, true, true, true, true, true, false, false, false, false, false, false, false, false, false, false, false]) (by kernel_rfl) rfl ?_
          · obtain ⟨g0, g1, g2⟩ := hw'; go_simp
          simp only [List.setIfInBounds_toArray, List.set_cons_zero, List.set_cons_succ]
          refine M_take 8 49 (.int .i64 (i : Int)) _ rfl rfl (by kernel_rfl) (by kernel_rfl) (by kernel_rfl) (by kernel_rfl) (by kernel_rfl) (fun _ _ _ h => h) (by rfl) (fun w' hw' => ?_) hT (listed' := #[true, true, true, true, true, true, true, true, true, false, false, false, false, false, false, false, false, false, false]) (by kernel_rfl) rfl ?_
          · obtain ⟨g0, g1, g2⟩ := hw'; go_simp
          simp only [List.setIfInBounds_toArray, List.set_cons_zero, List.set_cons_succ]
          refine M_take 10 51 (.int .i64 (i : Int)) _ rfl rfl (by kernel_rfl) (by kernel_rfl) (by kernel_rfl) (by kernel_rfl) (by kernel_rfl) (fun _ _ _ h => h) (by rfl) (fun w' hw' => ?_) hT (listed' := #[true, true, true, true, true, true, true, true, true, false, true, false, false, false, false, false, false, false, false]) (by kernel_rfl) rfl ?_
          · obtain ⟨g0, g1, g2⟩ := hw'; go_simp
          simp only [List.setIfInBounds_toArray, List.set_cons_zero, List.set_cons_succ]
          refine M_take 11 52 (.int .i64 (1 + (i : Int))) _ rfl rfl (by kernel_rfl) (by kernel_rfl) (by kernel_rfl) (by kernel_rfl) (by kernel_rfl) (fun _ _ _ h => h) (by rfl) (fun w' hw' => ?_) hT (listed' := #[true, true, true, true, true, true, true, true, true, false, true, true, false, false, false, false, false, false, false]) (by kernel_rfl) rfl ?_
          · obtain ⟨g0, g1, g2⟩ := hw'; have hw1 : IntKind.i64.wrap (1 + (i : Int)) = (1 + (i : Int)) := (by rw [IntKind.wrap_i64]; omega); go_simp
          simp only [List.setIfInBounds_toArray, List.set_cons_zero, List.set_cons_succ]
          refine M_take 12 53 (.agg #[.int .i64 1, .string ⟨#[]⟩]) _ rfl rfl (by kernel_rfl) (by kernel_rfl) (by kernel_rfl) (by kernel_rfl) (by kernel_rfl) (fun _ _ _ h => h) (by rfl) (fun w' hw' => ?_) hT (listed' := #[true, true, true, true, true, true, true, true, true, false, true, true, true, false, false, false, false, false, false]) (by kernel_rfl) rfl ?_
          · obtain ⟨g0, g1, g2⟩ := hw'; go_simp
          simp only [List.setIfInBounds_toArray, List.set_cons_zero, List.set_cons_succ]
          refine M_call 9 50 26 #[.int .i64 ((i : Int))] rfl rfl (by kernel_rfl) (by rfl) (listed' := #[true, true, true, true, true, true, true, true, true, true, true, true, true, false, false, false, false, false, false]) (by kernel_rfl) (fun W => by go_simp) ?_
          refine (lname_at (i) ((i : Int)) (by omega) (by omega) _).mono ?_
          rintro en W1 ⟨rfl, hbx⟩
          have hb1 : Below W0.heap.size W0 W1 := hbx
          clear hbx
          have hT := hTW W1 hb1
          refine ⟨_, rfl, hT, ?_⟩
          simp only [List.setIfInBounds_toArray, List.set_cons_zero, List.set_cons_succ]
          refine M_run 13 54 (.agg #[.string (nmB i), .int .i64 (1 + (i : Int)), .int .i64 1, .int .i64 1, .string ⟨#[]⟩]) (W1) rfl rfl (by kernel_rfl) (by rfl) (listed' := #[true, true, true, true, true, true, true, true, true, true, true, true, true, true, false, false, false, false, false]) (by kernel_rfl) (by go_simp) hT ?_
          simp only [List.setIfInBounds_toArray, List.set_cons_zero, List.set_cons_succ]
          have hal : Below W1.heap.size W1 (W1.alloc (.cells #[.string (nmB i), .int .i64 (1 + (i : Int)), .int .i64 1, .int .i64 1, .string ⟨#[]⟩] 52)) := (Below.refl _ _).alloc (Nat.le_refl _) _
          have hbw : Below W0.heap.size W0 (W1.alloc (.cells #[.string (nmB i), .int .i64 (1 + (i : Int)), .int .i64 1, .int .i64 1, .string ⟨#[]⟩] 52)) := hb1.trans (hal.mono hb1.size)
          have BE := Blk.new W1 #[.string (nmB i), .int .i64 (1 + (i : Int)), .int .i64 1, .int .i64 1, .string ⟨#[]⟩] 52
          obtain ⟨bz, hbz⟩ : ∃ n, W1.heap.size = n := ⟨_, rfl⟩
          have HBZ2 : Hid (W1.heap.size = bz) := hbz
          refine M_run 14 55 (.slice (some ⟨W1.heap.size, 0, none⟩) 1 1) (W1.alloc (.cells #[.string (nmB i), .int .i64 (1 + (i : Int)), .int .i64 1, .int .i64 1, .string ⟨#[]⟩] 52)) rfl rfl (by kernel_rfl) (by rfl) (listed' := #[true, true, true, true, true, true, true, true, true, true, true, true, true, true, true, false, false, false, false]) (by kernel_rfl) (by go_simp) (hTW _ hbw) ?_
          simp only [List.setIfInBounds_toArray, List.set_cons_zero, List.set_cons_succ]
          rw [hbz] at BE ⊢
          generalize (W1.alloc (.cells #[.string (nmB i), .int .i64 (1 + (i : Int)), .int .i64 1, .int .i64 1, .string ⟨#[]⟩] 52)) = W3 at *
          clear hbz hal
          have HL3 : Hid (LmO W3 bt (.slice (some ⟨q, 0, none⟩) a vc) (.slice fa i fc) nilV nilV nilV nilV [] a i 0 0 0 0) := HL0.out.below hbw
          have HOWN : Hid (W3.ownsRow (bt + 1) 52 5 (.slice fa i fc) i (flRows (flL i)).flatten) := HL3.out.ms.fl
          obtain ⟨i0, hi0, hz0, hz1, hz2⟩ := info_parts infoFl
          obtain ⟨v', W4, r1, r2, r3, _⟩ := run_append_own W3 (bt + 1) 32 32 52 i0 _ 5 56 Try.underlying32 hi0 hz0 hz1 hz2 rfl (by decide) (.slice fa i fc) (i) _ HOWN.out ⟨bz, 0, none⟩ 1 1 [.string (nmB i), .int .i64 (1 + (i : Int)), .int .i64 1, .int .i64 1, .string ⟨#[]⟩] rfl (fun j u hu => by
            have := BE.cell j
            rw [Addr.add_lit, Nat.zero_add, this]
            simpa using hu) (fun u hu => by
            simp only [List.mem_cons, List.not_mem_nil, or_false] at hu
            rcases hu with rfl | rfl | rfl | rfl | rfl <;> rfl) (by unfold maxLen; omega) (by omega) (by have := (HL3.out).blk.lt; omega)
          have HRUN : Hid _ := r1
          obtain ⟨na, nc, hv'⟩ := own_form r2
          subst hv'
          have HR2 : Hid _ := r2
          have HR3 : Hid _ := r3
          clear r1 r2 r3
          have hb4 : Below w.heap.size w W4 := by
            have h3 : Below w.heap.size w W3 := HB0.trans (hbw.mono HB0.size)
            refine h3.grown HR3.out h3.size (fun k hk => ?_)
            have := (World.ownsRow.lt HOWN.out k hk).1
            have := HBZ.out
            have := HBT.out
            omega
          have HTW3 := hTW W3 hbw
          have KA := kp_grown HR3.out
          have HT4 : W4.cell? ⟨bt, 1, none⟩ = some (.slice (some ⟨q, 0, none⟩) a vc) ∧ W4.cell? ⟨q, 1, none⟩ = some (.slice fa i fc) ∧ W4.cell? ⟨bn, 0, none⟩ = some (.func (.func 26) #[] #[]) := ⟨KA.cell (HTW3.1) (fun hk => by have := (World.ownsRow.lt HOWN.out bt hk).1; omega), KA.cell (HTW3.2.1) (fun hk => own_apart HOWN.out HL3.out.ms.own (by decide) q hk rfl), HN.out W4 hb4⟩
          refine M_run 15 56 (.slice na (i + 1) nc) (W4) rfl rfl (by kernel_rfl) (by rfl) (listed' := #[true, true, true, true, true, true, true, true, true, true, true, true, true, true, true, true, false, false, false]) (by kernel_rfl) (append_run rfl rfl rfl HRUN.out) HT4 ?_
          simp only [List.setIfInBounds_toArray, List.set_cons_zero, List.set_cons_succ]
          refine M_run 16 57 (.pointer (some ⟨q, 0, none⟩)) (W4) rfl rfl (by kernel_rfl) (by rfl) (listed' := #[true, true, true, true, true, true, true, true, true, true, true, true, true, true, true, true, true, false, false]) (by kernel_rfl) (by go_simp) HT4 ?_
          simp only [List.setIfInBounds_toArray, List.set_cons_zero, List.set_cons_succ]
          refine M_run 17 58 (.pointer (some ⟨q, 1, none⟩)) (W4) rfl rfl (by kernel_rfl) (by rfl) (listed' := #[true, true, true, true, true, true, true, true, true, true, true, true, true, true, true, true, true, true, false]) (by kernel_rfl) (by go_simp) HT4 ?_
          simp only [List.setIfInBounds_toArray, List.set_cons_zero, List.set_cons_succ]
          have BF := own_froz (own_kpV HL3.out.ms.own KA (fun k hk hv => own_apart HOWN.out HL3.out.ms.own (by decide) k hv hk)) 1
          have BC := HT4.2.1
          refine M_store 18 (W4.setCell ⟨q, 1, none⟩ (.slice na (i + 1) nc)) rfl rfl (by kernel_rfl) (by rfl) (listed' := #[true, true, true, true, true, true, true, true, true, true, true, true, true, true, true, true, true, true, true]) (by kernel_rfl) (by go_simp) (by kernel_rfl) ?_
          refine M_done (by kernel_rfl) ?_ _
          clear BF BC HT4 HTW3 KA
          have HL5 : Hid (LmO (W4.setCell ⟨q, 1, none⟩ (.slice na (i + 1) nc)) bt (.slice (some ⟨q, 0, none⟩) a vc) (.slice na (i + 1) nc) nilV nilV nilV nilV [] a (i + 1) 0 0 0 0) := HL3.out.addF hpos HR2.out HR3.out
          have hb5 : Below w.heap.size w (W4.setCell ⟨q, 1, none⟩ (.slice na (i + 1) nc)) := hb4.trans ((kp_set _ _ _ _).toBelow hb4.size (fun k e => by have := HBZ.out; have := HBT.out; omega))
          have BR5 : Blk (W4.setCell ⟨q, 1, none⟩ (.slice na (i + 1) nc)) b0 #[.string ⟨#[]⟩, .slice none 0 0, .slice none 0 0, .slice none 0 0] 26 := by
            refine Blk.other ?_ (by show b0 ≠ q; have := HBT.out; omega) _
            refine (BR0.below hbw).kp (kp_grown HR3.out) (fun hk => ?_)
            have := (World.ownsRow.lt HOWN.out b0 hk).1
            have := HBT.out
            omega
          generalize (W4.setCell ⟨q, 1, none⟩ (.slice na (i + 1) nc)) = W5 at *
          clear hT hTW HL0 BR0 HB0 hbw HR2 HR3 HRUN hb4 HL3 HOWN BE
          go_wp2_with fail
          go_roundw
          case rel => exact ⟨i + 1, _, _, by go_num, by omega, HL5, BR5, hb5⟩
          case measure => simp [intOf]; omega
        · obtain rfl : b = i := by omega
          have HL0 := HL
          have BR0 := BR
          have HB0 := hbel
          clear HL BR hbel
          go_wp2_with fail
          go_loopw [17] (fun iv wr => ∃ (j : Nat) (ra : Option Addr) (rc : Nat), iv = .int .i64 (j : Int) ∧ j ≤ c ∧ Hid (LmO wr bt (.slice va a vc) (.slice fa b fc) (.slice ra j rc) nilV nilV nilV [] a b j 0 0 0) ∧ Blk wr b0 #[.string ⟨#[]⟩, .slice none 0 0, .slice none 0 0, .slice none 0 0] 26 ∧ Below w.heap.size w wr) (fun iv _ => c - (intOf iv).toNat)
          case atStart => exact ⟨0, none, 0, rfl, by omega, HL0, BR0, HB0⟩
          case round =>
            obtain ⟨j, ra, rc, rfl, hj, HL, BR, hbel⟩ := hrel
            clear HL0 BR0 HB0
            by_cases hlt : j < c
            · have hpos : 0 < a := by
                rcases Nat.eq_zero_or_pos a with h | h
                · have := (HAB.out h).2; omega
                · exact h
              obtain ⟨q, cap, hva, _, _, hq, _⟩ := own_addr HL.out.ms.own hpos
              simp only [Value.slice.injEq, true_and] at hva
              obtain ⟨rfl, rfl⟩ := hva
              go_wp2_with fail
              refine M_region (T := fun W => W.cell? ⟨bt, 1, none⟩ = some (.slice (some ⟨q, 0, none⟩) a vc) ∧ W.cell? ⟨q, 2, none⟩ = some (.slice ra j rc)) (m := 13) (by kernel_rfl) ?_
              have hdr : Below wr.heap.size wr wr.drew := below_drewN 1 (Below.refl _ _)
              have HL0 : Hid (LmO wr.drew bt (.slice (some ⟨q, 0, none⟩) a vc) (.slice fa b fc) (.slice ra j rc) nilV nilV nilV [] a b j 0 0 0) := HL.out.below hdr
              have BR0 := BR.below hdr
              have HB0 : Below w.heap.size w wr.drew := hbel.trans (hdr.mono hbel.size)
              generalize wr.drew = W0 at *
              clear HL BR hbel hdr
              have hTW : ∀ W, Below W0.heap.size W0 W → W.cell? ⟨bt, 1, none⟩ = some (.slice (some ⟨q, 0, none⟩) a vc) ∧ W.cell? ⟨q, 2, none⟩ = some (.slice ra j rc) := fun W hW => ⟨((HL0.out.below hW).blk.cell 1).trans rfl, (HL0.out.below hW).cellR hpos⟩
              have hT := hTW W0 (Below.refl _ _)
              refine M_take 0 64 (.pointer (some ⟨bt, 1, none⟩)) _ rfl rfl (by kernel_rfl) (by kernel_rfl) (by kernel_rfl) (by kernel_rfl) (by kernel_rfl) (fun _ _ _ h => h) (by rfl) (fun w' hw' => ?_) hT (listed' := #[true, false, false, false, false, false, false, false, false, false, false, false, false, false]) (by kernel_rfl) rfl ?_
              · obtain ⟨g0, g1⟩ := hw'; go_simp
              simp only [List.setIfInBounds_toArray, List.set_cons_zero, List.set_cons_succ]
              refine M_take 2 66 (.pointer (some ⟨bt, 1, none⟩)) _ rfl rfl (by kernel_rfl) (by kernel_rfl) (by kernel_rfl) (by kernel_rfl) (by kernel_rfl) (fun _ _ _ h => h) (by rfl) (fun w' hw' => ?_) hT (listed' := #[true, false, true, false, false, false, false, false, false, false, false, false, false, false]) (by kernel_rfl) rfl ?_
              · obtain ⟨g0, g1⟩ := hw'; go_simp
              simp only [List.setIfInBounds_toArray, List.set_cons_zero, List.set_cons_succ]
              refine M_take 1 65 (.slice (some ⟨q, 0, none⟩) a vc) _ rfl rfl (by kernel_rfl) (by kernel_rfl) (by kernel_rfl) (by kernel_rfl) (by kernel_rfl) (fun _ _ _ h => h) (by rfl) (fun w' hw' => ?_) hT (listed' := #[true, true, true, false, false, false, false, false, false, false, false, false, false, false]) (by kernel_rfl) rfl ?_
              · obtain ⟨g0, g1⟩ := hw'; go_simp
              simp only [List.setIfInBounds_toArray, List.set_cons_zero, List.set_cons_succ]
              refine M_take 3 67 (.slice (some ⟨q, 0, none⟩) a vc) _ rfl rfl (by kernel_rfl) (by kernel_rfl) (by kernel_rfl) (by kernel_rfl) (by kernel_rfl) (fun _ _ _ h => h) (by rfl) (fun w' hw' => ?_) hT (listed' := #[true, true, true, true, false, false, false, false, false, false, false, false, false, false]) (by kernel_rfl) rfl ?_
              · obtain ⟨g0, g1⟩ := hw'; go_simp
              simp only [List.setIfInBounds_toArray, List.set_cons_zero, List.set_cons_succ]
              refine M_take 4 68 (.pointer (some ⟨q, 0, none⟩)) _ rfl rfl (by kernel_rfl) (by kernel_rfl) (by kernel_rfl) (by kernel_rfl) (by kernel_rfl) (fun _ _ _ h => h) (by rfl) (fun w' hw' => ?_) hT (listed' := #[true, true, true, true, true, false, false, false, false, false, false, false, false, false]) (by kernel_rfl) rfl ?_
              · obtain ⟨g0, g1⟩ := hw'; go_simp
              simp only [List.setIfInBounds_toArray, List.set_cons_zero, List.set_cons_succ]
              refine M_take 5 69 (.pointer (some ⟨q, 2, none⟩)) _ rfl rfl (by kernel_rfl) (by kernel_rfl) (by kernel_rfl) (by kernel_rfl) (by kernel_rfl) (fun _ _ _ h => h) (by rfl) (fun w' hw' => ?_) hT (listed' := #[true, true, true, true, true, true, false, false, false, false, false, false, false, false]) (by kernel_rfl) rfl ?_
              · obtain ⟨g0, g1⟩ := hw'; go_simp
              simp only [List.setIfInBounds_toArray, List.set_cons_zero, List.set_cons_succ]
              refine M_take 6 70 (.slice ra j rc) _ rfl rfl (by kernel_rfl) (by kernel_rfl) (by kernel_rfl) (by kernel_rfl) (by kernel_rfl) (fun _ _ _ h => h) (by rfl) (fun w' hw' => ?_) hT (listed' := #[true, true, true, true, true, true, true, false, false, false, false, false, false, false]) (by kernel_rfl) rfl ?_
              · obtain ⟨g0, g1⟩ := hw'; go_simp
              simp only [List.setIfInBounds_toArray, List.set_cons_zero, List.set_cons_succ]
              refine M_take 7 71 (.int .i64 (j : Int)) _ rfl rfl (by kernel_rfl) (by kernel_rfl) (by kernel_rfl) (by kernel_rfl) (by kernel_rfl) (fun _ _ _ h => h) (by rfl) (fun w' hw' => ?_) hT (listed' := #[true, true, true, true, true, true, true, true, false, false, false, false, false, false]) (by kernel_rfl) rfl ?_
              · obtain ⟨g0, g1⟩ := hw'; go_simp
              simp only [List.setIfInBounds_toArray, List.set_cons_zero, List.set_cons_succ]
              refine M_take 8 72 (.int .i64 (100 + (j : Int))) _ rfl rfl (by kernel_rfl) (by kernel_rfl) (by kernel_rfl) (by kernel_rfl) (by kernel_rfl) (fun _ _ _ h => h) (by rfl) (fun w' hw' => ?_) hT (listed' := #[true, true, true, true, true, true, true, true, true, false, false, false, false, false]) (by kernel_rfl) rfl ?_
              · obtain ⟨g0, g1⟩ := hw'; have hw1 : IntKind.i64.wrap (100 + (j : Int)) = (100 + (j : Int)) := (by rw [IntKind.wrap_i64]; omega); go_simp
              simp only [List.setIfInBounds_toArray, List.set_cons_zero, List.set_cons_succ]
              have hb1 : Below W0.heap.size W0 W0 := Below.refl _ _
              have hal : Below W0.heap.size W0 (W0.alloc (.cells #[.int .i64 (100 + (j : Int))] 3)) := (Below.refl _ _).alloc (Nat.le_refl _) _
              have hbw : Below W0.heap.size W0 (W0.alloc (.cells #[.int .i64 (100 + (j : Int))] 3)) := hb1.trans (hal.mono hb1.size)
              have BE := Blk.new W0 #[.int .i64 (100 + (j : Int))] 3
              obtain ⟨bz, hbz⟩ : ∃ n, W0.heap.size = n := ⟨_, rfl⟩
              have HBZ2 : Hid (W0.heap.size = bz) := hbz
              refine M_run 9 73 (.slice (some ⟨W0.heap.size, 0, none⟩) 1 1) (W0.alloc (.cells #[.int .i64 (100 + (j : Int))] 3)) rfl rfl (by kernel_rfl) (by rfl) (listed' := #[true, true, true, true, true, true, true, true, true, true, false, false, false, false]) (by kernel_rfl) (by go_simp) (hTW _ hbw) ?_
              simp only [List.setIfInBounds_toArray, List.set_cons_zero, List.set_cons_succ]
              rw [hbz] at BE ⊢
              generalize (W0.alloc (.cells #[.int .i64 (100 + (j : Int))] 3)) = W3 at *
              clear hbz hal
              have HL3 : Hid (LmO W3 bt (.slice (some ⟨q, 0, none⟩) a vc) (.slice fa b fc) (.slice ra j rc) nilV nilV nilV [] a b j 0 0 0) := HL0.out.below hbw
              have HOWN : Hid (W3.ownsRow (bt + 1) 3 1 (.slice ra j rc) j (inRows (inL j)).flatten) := HL3.out.ms.rs
              obtain ⟨i0, hi0, hz0, hz1, hz2⟩ := info_parts infoIn
              obtain ⟨v', W4, r1, r2, r3, _⟩ := run_append_own W3 (bt + 1) 33 33 3 i0 _ 1 8 Try.underlying33 hi0 hz0 hz1 hz2 rfl (by decide) (.slice ra j rc) (j) _ HOWN.out ⟨bz, 0, none⟩ 1 1 [.int .i64 (100 + (j : Int))] rfl (fun j u hu => by
                have := BE.cell j
                rw [Addr.add_lit, Nat.zero_add, this]
                simpa using hu) (fun u hu => by
                simp only [List.mem_cons, List.not_mem_nil, or_false] at hu
                rcases hu with rfl <;> rfl) (by unfold maxLen; omega) (by omega) (by have := (HL3.out).blk.lt; omega)
              have HRUN : Hid _ := r1
              obtain ⟨na, nc, hv'⟩ := own_form r2
              subst hv'
              have HR2 : Hid _ := r2
              have HR3 : Hid _ := r3
              clear r1 r2 r3
              have hb4 : Below w.heap.size w W4 := by
                have h3 : Below w.heap.size w W3 := HB0.trans (hbw.mono HB0.size)
                refine h3.grown HR3.out h3.size (fun k hk => ?_)
                have := (World.ownsRow.lt HOWN.out k hk).1
                have := HBZ.out
                have := HBT.out
                omega
              have HTW3 := hTW W3 hbw
              have KA := kp_grown HR3.out
              have HT4 : W4.cell? ⟨bt, 1, none⟩ = some (.slice (some ⟨q, 0, none⟩) a vc) ∧ W4.cell? ⟨q, 2, none⟩ = some (.slice ra j rc) := ⟨KA.cell (HTW3.1) (fun hk => by have := (World.ownsRow.lt HOWN.out bt hk).1; omega), KA.cell (HTW3.2) (fun hk => own_apart HOWN.out HL3.out.ms.own (by decide) q hk rfl)⟩
              refine M_run 10 74 (.slice na (j + 1) nc) (W4) rfl rfl (by kernel_rfl) (by rfl) (listed' := #[true, true, true, true, true, true, true, true, true, true, true, false, false, false]) (by kernel_rfl) (append_run rfl rfl rfl HRUN.out) HT4 ?_
              simp only [List.setIfInBounds_toArray, List.set_cons_zero, List.set_cons_succ]
              refine M_run 11 75 (.pointer (some ⟨q, 0, none⟩)) (W4) rfl rfl (by kernel_rfl) (by rfl) (listed' := #[true, true, true, true, true, true, true, true, true, true, true, true, false, false]) (by kernel_rfl) (by go_simp) HT4 ?_
              simp only [List.setIfInBounds_toArray, List.set_cons_zero, List.set_cons_succ]
              refine M_run 12 76 (.pointer (some ⟨q, 2, none⟩)) (W4) rfl rfl (by kernel_rfl) (by rfl) (listed' := #[true, true, true, true, true, true, true, true, true, true, true, true, true, false]) (by kernel_rfl) (by go_simp) HT4 ?_
              simp only [List.setIfInBounds_toArray, List.set_cons_zero, List.set_cons_succ]
              have BF := own_froz (own_kpV HL3.out.ms.own KA (fun k hk hv => own_apart HOWN.out HL3.out.ms.own (by decide) k hv hk)) 2
              have BC := HT4.2
              refine M_store 13 (W4.setCell ⟨q, 2, none⟩ (.slice na (j + 1) nc)) rfl rfl (by kernel_rfl) (by rfl) (listed' := #[true, true, true, true, true, true, true, true, true, true, true, true, true, true]) (by kernel_rfl) (by go_simp) (by kernel_rfl) ?_
              refine M_done (by kernel_rfl) ?_ _
              clear BF BC HT4 HTW3 KA
              have HL5 : Hid (LmO (W4.setCell ⟨q, 2, none⟩ (.slice na (j + 1) nc)) bt (.slice (some ⟨q, 0, none⟩) a vc) (.slice fa b fc) (.slice na (j + 1) nc) nilV nilV nilV [] a b (j + 1) 0 0 0) := HL3.out.addR hpos HR2.out HR3.out
              have hb5 : Below w.heap.size w (W4.setCell ⟨q, 2, none⟩ (.slice na (j + 1) nc)) := hb4.trans ((kp_set _ _ _ _).toBelow hb4.size (fun k e => by have := HBZ.out; have := HBT.out; omega))
              have BR5 : Blk (W4.setCell ⟨q, 2, none⟩ (.slice na (j + 1) nc)) b0 #[.string ⟨#[]⟩, .slice none 0 0, .slice none 0 0, .slice none 0 0] 26 := by
                refine Blk.other ?_ (by show b0 ≠ q; have := HBT.out; omega) _
                refine (BR0.below hbw).kp (kp_grown HR3.out) (fun hk => ?_)
                have := (World.ownsRow.lt HOWN.out b0 hk).1
                have := HBT.out
                omega
              generalize (W4.setCell ⟨q, 2, none⟩ (.slice na (j + 1) nc)) = W5 at *
              clear hT hTW HL0 BR0 HB0 hbw HR2 HR3 HRUN hb4 HL3 HOWN BE hb1
              go_wp2_with fail
              go_roundw
              case rel => exact ⟨j + 1, _, _, by go_num, by omega, HL5, BR5, hb5⟩
              case measure => simp [intOf]; omega
            · obtain rfl : c = j := by omega
              have HL0 := HL
              have BR0 := BR
              have HB0 := hbel
              clear HL BR hbel
              go_wp2_with fail
              go_loopw [18] (fun iv wr => ∃ (p : Nat) (ea : Option Addr) (ec : Nat) (vv : Value) (pe : List Value), iv = .int .i64 (p : Int) ∧ p ≤ d ∧ Hid (LmO wr bt (.slice va a vc) (.slice fa b fc) (.slice ra c rc) (.slice ea p ec) vv nilV pe a b c p 0 0) ∧ Blk wr b0 #[.string ⟨#[]⟩, .slice none 0 0, .slice none 0 0, .slice none 0 0] 26 ∧ Below w.heap.size w wr) (fun iv _ => d - (intOf iv).toNat)
              case atStart => exact ⟨0, none, 0, nilV, [], rfl, by omega, HL0, BR0, HB0⟩
              case round =>
                obtain ⟨p, ea, ec, vv, pe, rfl, hp, HL, BR, hbel⟩ := hrel
                clear HL0 BR0 HB0
                by_cases hlt : p < d
                · skip
                  go_wp2_with fail
                  refine M_region (T := fun W => W.cell? ⟨bt, 2, none⟩ = some (.slice ea p ec) ∧ W.cell? ⟨bn, 0, none⟩ = some (.func (.func 26) #[] #[])) (m := 12) (by kernel_rfl) ?_
                  have hdr : Below wr.heap.size wr wr.drew := below_drewN 1 (Below.refl _ _)
                  have HL0 : Hid (LmO wr.drew bt (.slice va a vc) (.slice fa b fc) (.slice ra c rc) (.slice ea p ec) vv nilV pe a b c p 0 0) := HL.out.below hdr
                  have BR0 := BR.below hdr
                  have HB0 : Below w.heap.size w wr.drew := hbel.trans (hdr.mono hbel.size)
                  generalize wr.drew = W0 at *
                  clear HL BR hbel hdr
                  have hTW : ∀ W, Below W0.heap.size W0 W → W.cell? ⟨bt, 2, none⟩ = some (.slice ea p ec) ∧ W.cell? ⟨bn, 0, none⟩ = some (.func (.func 26) #[] #[]) := fun W hW => ⟨((HL0.out.below hW).blk.cell 2).trans rfl, HN.out W (HB0.trans (hW.mono HB0.size))⟩
                  have hT := hTW W0 (Below.refl _ _)
                  refine M_take 0 82 (.pointer (some ⟨bt, 2, none⟩)) _ rfl rfl (by kernel_rfl) (by kernel_rfl) (by kernel_rfl) (by kernel_rfl) (by kernel_rfl) (fun _ _ _ h => h) (by rfl) (fun w' hw' => ?_) hT (listed' := #[true, false, false, false, false, false, false, false, false, false, false, false, false]) (by kernel_rfl) rfl ?_
                  · obtain ⟨g0, g1⟩ := hw'; go_simp
                  simp only [List.setIfInBounds_toArray, List.set_cons_zero, List.set_cons_succ]
                  refine M_take 1 83 (.slice ea p ec) _ rfl rfl (by kernel_rfl) (by kernel_rfl) (by kernel_rfl) (by kernel_rfl) (by kernel_rfl) (fun _ _ _ h => h) (by rfl) (fun w' hw' => ?_) hT (listed' := #[true, true, false, false, false, false, false, false, false, false, false, false, false]) (by kernel_rfl) rfl ?_
                  · obtain ⟨g0, g1⟩ := hw'; go_simp
                  simp only [List.setIfInBounds_toArray, List.set_cons_zero, List.set_cons_succ]
                  refine M_take 2 84 (.func (.func 26) #[] #[]) _ rfl rfl (by kernel_rfl) (by kernel_rfl) (by kernel_rfl) (by kernel_rfl) (by kernel_rfl) (fun _ _ _ h => h) (by rfl) (fun w' hw' => ?_) hT (listed' := #[true, true, true, false, false, false, false, false, false, false, false, false, false]) (by kernel_rfl) rfl ?_
                  · obtain ⟨g0, g1⟩ := hw'; go_simp
                  simp only [List.setIfInBounds_toArray, List.set_cons_zero, List.set_cons_succ]
                  refine M_take 3 85 (.int .i64 (p : Int)) _ rfl rfl (by kernel_rfl) (by kernel_rfl) (by kernel_rfl) (by kernel_rfl) (by kernel_rfl) (fun _ _ _ h => h) (by rfl) (fun w' hw' => ?_) hT (listed' := #[true, true, true, true, false, false, false, false, false, false, false, false, false]) (by kernel_rfl) rfl ?_
                  · obtain ⟨g0, g1⟩ := hw'; go_simp
                  simp only [List.setIfInBounds_toArray, List.set_cons_zero, List.set_cons_succ]
                  refine M_take 4 86 (.int .i64 (100 + (p : Int))) _ rfl rfl (by kernel_rfl) (by kernel_rfl) (by kernel_rfl) (by kernel_rfl) (by kernel_rfl) (fun _ _ _ h => h) (by rfl) (fun w' hw' => ?_) hT (listed' := #[true, true, true, true, true, false, false, false, false, false, false, false, false]) (by kernel_rfl) rfl ?_
                  · obtain ⟨g0, g1⟩ := hw'; have hw1 : IntKind.i64.wrap (100 + (p : Int)) = (100 + (p : Int)) := (by rw [IntKind.wrap_i64]; omega); go_simp
                  simp only [List.setIfInBounds_toArray, List.set_cons_zero, List.set_cons_succ]
                  refine M_take 6 88 (.agg #[.string ⟨#[122]⟩, .int .i64 0]) _ rfl rfl (by kernel_rfl) (by kernel_rfl) (by kernel_rfl) (by kernel_rfl) (by kernel_rfl) (fun _ _ _ h => h) (by rfl) (fun w' hw' => ?_) hT (listed' := #[true, true, true, true, true, false, true, false, false, false, false, false, false]) (by kernel_rfl) rfl ?_
                  · obtain ⟨g0, g1⟩ := hw'; go_simp
                  simp only [List.setIfInBounds_toArray, List.set_cons_zero, List.set_cons_succ]
                  have hAl : ∀ W : World, Below W.heap.size W (W.alloc (.cells #[.string ⟨#[122]⟩, .int .i64 0] 65)) := fun W => (Below.refl _ _).alloc (Nat.le_refl _) _
                  refine M_cb 5 7 87 89 26 #[.int .i64 (100 + (p : Int))] (fun W => .slice (some ⟨W.heap.size, 0, none⟩) 1 1) (fun W => W.alloc (.cells #[.string ⟨#[122]⟩, .int .i64 0] 65))
                    (fun u v W => u = .string (nmB (100 + p)) ∧ ∃ g, v = .slice (some ⟨g, 0, none⟩) 1 1 ∧ W0.heap.size ≤ g ∧ Blk W g #[.string ⟨#[122]⟩, .int .i64 0] 65 ∧ Below W0.heap.size W0 W)
                    rfl rfl rfl rfl (by decide) (by decide) (by kernel_rfl) (by kernel_rfl) (by kernel_rfl) (fun _ => rfl) (fun _ => rfl) ?x1 ?x1b ?x2 ?x2b ?hA ?hT2 ?hB ?_
                  case x1 => go_simp
                  case x1b => intro v W'; simp only [Act.put]; simp only [List.setIfInBounds_toArray, List.set_cons_zero, List.set_cons_succ]; go_simp
                  case x2 => go_simp
                  case x2b => intro u W'; simp only [Act.put]; simp only [List.setIfInBounds_toArray, List.set_cons_zero, List.set_cons_succ]; go_simp
                  case hA =>
                    refine (lname_at (100 + p) (100 + (p : Int)) (by omega) (by omega) _).mono ?_
                    rintro en W1 ⟨rfl, hbx⟩
                    have hb2 : Below W0.heap.size W0 (W1.alloc (.cells #[.string ⟨#[122]⟩, .int .i64 0] 65)) := hbx.trans ((hAl W1).mono hbx.size)
                    exact ⟨_, rfl, hTW W1 hbx, hTW _ hb2, rfl, W1.heap.size, rfl, hbx.size, Blk.new W1 _ _, hb2⟩
                  case hT2 => exact hTW _ (hAl W0)
                  case hB =>
                    refine (lname_at (100 + p) (100 + (p : Int)) (by omega) (by omega) _).mono ?_
                    rintro en W1 ⟨rfl, hbx⟩
                    have hb2 : Below W0.heap.size W0 W1 := (hAl W0).trans (hbx.mono (hAl W0).size)
                    exact ⟨_, rfl, hTW W1 hb2, rfl, W0.heap.size, rfl, Nat.le_refl _, (Blk.new W0 _ _).below hbx, hb2⟩
                  rintro u v W1 hT ⟨rfl, g, rfl, hg, BG, hb1⟩
                  simp only [List.setIfInBounds_toArray, List.set_cons_zero, List.set_cons_succ]
                  clear hAl
                  refine M_run 8 90 (.agg #[.string (nmB (100 + p)), .slice (some ⟨g, 0, none⟩) 1 1]) (W1) rfl rfl (by kernel_rfl) (by rfl) (listed' := #[true, true, true, true, true, true, true, true, true, false, false, false, false]) (by kernel_rfl) (by go_simp) hT ?_
                  simp only [List.setIfInBounds_toArray, List.set_cons_zero, List.set_cons_succ]
                  have BG1 := BG
                  clear BG
                  have hal : Below W1.heap.size W1 (W1.alloc (.cells #[.string (nmB (100 + p)), .slice (some ⟨g, 0, none⟩) 1 1] 40)) := (Below.refl _ _).alloc (Nat.le_refl _) _
                  have hbw : Below W0.heap.size W0 (W1.alloc (.cells #[.string (nmB (100 + p)), .slice (some ⟨g, 0, none⟩) 1 1] 40)) := hb1.trans (hal.mono hb1.size)
                  have BE := Blk.new W1 #[.string (nmB (100 + p)), .slice (some ⟨g, 0, none⟩) 1 1] 40
                  obtain ⟨bz, hbz⟩ : ∃ n, W1.heap.size = n := ⟨_, rfl⟩
                  have HBZ2 : Hid (W1.heap.size = bz) := hbz
                  refine M_run 9 91 (.slice (some ⟨W1.heap.size, 0, none⟩) 1 1) (W1.alloc (.cells #[.string (nmB (100 + p)), .slice (some ⟨g, 0, none⟩) 1 1] 40)) rfl rfl (by kernel_rfl) (by rfl) (listed' := #[true, true, true, true, true, true, true, true, true, true, false, false, false]) (by kernel_rfl) (by go_simp) (hTW _ hbw) ?_
                  simp only [List.setIfInBounds_toArray, List.set_cons_zero, List.set_cons_succ]
                  have BG3 := BG1.below hal
                  rw [hbz] at BE ⊢
                  generalize (W1.alloc (.cells #[.string (nmB (100 + p)), .slice (some ⟨g, 0, none⟩) 1 1] 40)) = W3 at *
                  clear hbz hal
                  clear BG1
                  have HL3 : Hid (LmO W3 bt (.slice va a vc) (.slice fa b fc) (.slice ra c rc) (.slice ea p ec) vv nilV pe a b c p 0 0) := HL0.out.below hbw
                  have HOWN : Hid (W3.ownsRow (bt + 1) 40 2 (.slice ea p ec) p (enRows (enL p 0) pe).flatten) := HL3.out.en.own
                  have HNE : Hid (0 < p → vv.ownBlock ≠ some g) := fun hp hk => by
                    have := (World.ownsRow.lt (HL0.out.en.vl hp).2 g hk).2
                    omega
                  have hgt : bt + 1 ≤ g := by have := HL0.out.blk.lt; omega
                  obtain ⟨i0, hi0, hz0, hz1, hz2⟩ := info_parts infoEn
                  obtain ⟨v', W4, r1, r2, r3, _⟩ := run_append_own W3 (bt + 1) 23 23 40 i0 _ 2 40 Try.underlying23 hi0 hz0 hz1 hz2 rfl (by decide) (.slice ea p ec) (p) _ HOWN.out ⟨bz, 0, none⟩ 1 1 [.string (nmB (100 + p)), .slice (some ⟨g, 0, none⟩) 1 1] rfl (fun j u hu => by
                    have := BE.cell j
                    rw [Addr.add_lit, Nat.zero_add, this]
                    simpa using hu) (fun u hu => by
                    simp only [List.mem_cons, List.not_mem_nil, or_false] at hu
                    rcases hu with rfl | rfl <;> rfl) (by unfold maxLen; omega) (by omega) (by have := (HL3.out).blk.lt; omega)
                  have HRUN : Hid _ := r1
                  obtain ⟨na, nc, hv'⟩ := own_form r2
                  subst hv'
                  have HR2 : Hid _ := r2
                  have HR3 : Hid _ := r3
                  clear r1 r2 r3
                  have hb4 : Below w.heap.size w W4 := by
                    have h3 : Below w.heap.size w W3 := HB0.trans (hbw.mono HB0.size)
                    refine h3.grown HR3.out h3.size (fun k hk => ?_)
                    have := (World.ownsRow.lt HOWN.out k hk).1
                    have := HBZ.out
                    have := HBT.out
                    omega
                  have HTW3 := hTW W3 hbw
                  have KA := kp_grown HR3.out
                  have HT4 : W4.cell? ⟨bt, 2, none⟩ = some (.slice ea p ec) ∧ W4.cell? ⟨bn, 0, none⟩ = some (.func (.func 26) #[] #[]) := ⟨KA.cell (HTW3.1) (fun hk => by have := (World.ownsRow.lt HOWN.out bt hk).1; omega), HN.out W4 hb4⟩
                  refine M_run 10 92 (.slice na (p + 1) nc) (W4) rfl rfl (by kernel_rfl) (by rfl) (listed' := #[true, true, true, true, true, true, true, true, true, true, true, false, false]) (by kernel_rfl) (append_run rfl rfl rfl HRUN.out) HT4 ?_
                  simp only [List.setIfInBounds_toArray, List.set_cons_zero, List.set_cons_succ]
                  refine M_run 11 93 (.pointer (some ⟨bt, 2, none⟩)) (W4) rfl rfl (by kernel_rfl) (by rfl) (listed' := #[true, true, true, true, true, true, true, true, true, true, true, true, false]) (by kernel_rfl) (by go_simp) HT4 ?_
                  simp only [List.setIfInBounds_toArray, List.set_cons_zero, List.set_cons_succ]
                  have BF := ((HL3.out.blk).kp KA (fun hk => by have := (World.ownsRow.lt HOWN.out bt hk).1; omega)).froz 2
                  have BC := HT4.1
                  refine M_store 12 (W4.setCell ⟨bt, 2, none⟩ (.slice na (p + 1) nc)) rfl rfl (by kernel_rfl) (by rfl) (listed' := #[true, true, true, true, true, true, true, true, true, true, true, true, true]) (by kernel_rfl) (by go_simp) (by kernel_rfl) ?_
                  refine M_done (by kernel_rfl) ?_ _
                  clear BF BC HT4 HTW3 KA
                  have HL5 : Hid (LmO (W4.setCell ⟨bt, 2, none⟩ (.slice na (p + 1) nc)) bt (.slice va a vc) (.slice fa b fc) (.slice ra c rc) (.slice na (p + 1) nc) (if p = 0 then .slice (some ⟨g, 0, none⟩) 1 1 else vv) nilV (pe ++ [.slice (some ⟨g, 0, none⟩) 1 1]) a b c (p + 1) 0 0) := HL3.out.addE BG3 hgt HNE.out HR2.out HR3.out
                  have hb5 : Below w.heap.size w (W4.setCell ⟨bt, 2, none⟩ (.slice na (p + 1) nc)) := hb4.trans ((kp_set _ _ _ _).toBelow hb4.size (fun k e => by have := HBZ.out; have := HBT.out; omega))
                  have BR5 : Blk (W4.setCell ⟨bt, 2, none⟩ (.slice na (p + 1) nc)) b0 #[.string ⟨#[]⟩, .slice none 0 0, .slice none 0 0, .slice none 0 0] 26 := by
                    refine Blk.other ?_ (by show b0 ≠ bt; have := HBT.out; omega) _
                    refine (BR0.below hbw).kp (kp_grown HR3.out) (fun hk => ?_)
                    have := (World.ownsRow.lt HOWN.out b0 hk).1
                    have := HBT.out
                    omega
                  generalize (W4.setCell ⟨bt, 2, none⟩ (.slice na (p + 1) nc)) = W5 at *
                  clear hT hTW HL0 BR0 HB0 hbw HR2 HR3 HRUN hb4 HL3 HOWN BE BG3 hg hgt HNE hb1
                  go_wp2_with fail
                  go_roundw
                  case rel => exact ⟨p + 1, _, _, _, _, by go_num, by omega, HL5, BR5, hb5⟩
                  case measure => simp [intOf]; omega
                · obtain rfl : d = p := by omega
                  have HL0 := HL
                  have BR0 := BR
                  have HB0 := hbel
                  clear HL BR hbel
                  go_wp2_with fail
                  go_loopw [19] (fun iv wr => ∃ (s r : Nat) (vv : Value) (pe : List Value), iv = .int .i64 (s : Int) ∧ Hid (s = 1 + r) ∧ Hid (s ≤ e ∨ s = 1) ∧ 1 ≤ s ∧ s ≤ 101 ∧ Hid (LmO wr bt (.slice va a vc) (.slice fa b fc) (.slice ra c rc) (.slice ea d ec) vv nilV pe a b c d r 0) ∧ Blk wr b0 #[.string ⟨#[]⟩, .slice none 0 0, .slice none 0 0, .slice none 0 0] 26 ∧ Below w.heap.size w wr) (fun iv _ => e - (intOf iv).toNat)
                  case atStart => exact ⟨1, 0, vv, pe, rfl, rfl, .inr rfl, by omega, by omega, HL0, BR0, HB0⟩
                  case round =>
                    clear HL0 BR0 HB0
                    obtain ⟨s, r, vv, pe, rfl, HS, HSE, hs1, hs2, HL, BR, hbel⟩ := hrel
                    by_cases hlt : s < e
                    · have hpos : 0 < d := by
                        rcases Nat.eq_zero_or_pos d with h | h
                        · have := HDE.out h; omega
                        · exact h
                      obtain ⟨q, cap, hva, _, _, hq, _⟩ := own_addr HL.out.en.own hpos
                      simp only [Value.slice.injEq, true_and] at hva
                      obtain ⟨rfl, rfl⟩ := hva
                      obtain ⟨ba, bc, hvv⟩ := own_form (HL.out.en.vl hpos).2
                      subst hvv
                      have hr : r ≤ 101 := by have := HS.out; omega
                      go_wp2_with fail
                      refine M_region (T := fun W => W.cell? ⟨bt, 2, none⟩ = some (.slice (some ⟨q, 0, none⟩) d ec) ∧ W.cell? ⟨q, 1, none⟩ = some (.slice ba (r + 1) bc) ∧ W.cell? ⟨bn, 0, none⟩ = some (.func (.func 26) #[] #[])) (m := 16) (by kernel_rfl) ?_
                      have hdr : Below wr.heap.size wr wr.drew := below_drewN 1 (Below.refl _ _)
                      have HL0 : Hid (LmO wr.drew bt (.slice va a vc) (.slice fa b fc) (.slice ra c rc) (.slice (some ⟨q, 0, none⟩) d ec) (.slice ba (r + 1) bc) nilV pe a b c d r 0) := HL.out.below hdr
                      have BR0 := BR.below hdr
                      have HB0 : Below w.heap.size w wr.drew := hbel.trans (hdr.mono hbel.size)
                      generalize wr.drew = W0 at *
                      clear HL BR hbel hdr
                      have hTW : ∀ W, Below W0.heap.size W0 W → W.cell? ⟨bt, 2, none⟩ = some (.slice (some ⟨q, 0, none⟩) d ec) ∧ W.cell? ⟨q, 1, none⟩ = some (.slice ba (r + 1) bc) ∧ W.cell? ⟨bn, 0, none⟩ = some (.func (.func 26) #[] #[]) := fun W hW => ⟨((HL0.out.below hW).blk.cell 2).trans rfl, (HL0.out.below hW).cellV hpos, HN.out W (HB0.trans (hW.mono HB0.size))⟩
                      have hT := hTW W0 (Below.refl _ _)
                      refine M_take 0 99 (.pointer (some ⟨bt, 2, none⟩)) _ rfl rfl (by kernel_rfl) (by kernel_rfl) (by kernel_rfl) (by kernel_rfl) (by kernel_rfl) (fun _ _ _ h => h) (by rfl) (fun w' hw' => ?_) hT (listed' := #[true, false, false, false, false, false, false, false, false, false, false, false, false, false, false, false, false]) (by kernel_rfl) rfl ?_
                      · obtain ⟨g0, g1, g2⟩ := hw'; go_simp
                      simp only [List.setIfInBounds_toArray, List.set_cons_zero, List.set_cons_succ]
                      refine M_take 2 101 (.pointer (some ⟨bt, 2, none⟩)) _ rfl rfl (by kernel_rfl) (by kernel_rfl) (by kernel_rfl) (by kernel_rfl) (by kernel_rfl) (fun _ _ _ h => h) (by rfl) (fun w' hw' => ?_) hT (listed' := #[true, false, true, false, false, false, false, false, false, false, false, false, false, false, false, false, false]) (by kernel_rfl) rfl ?_
                      · obtain ⟨g0, g1, g2⟩ := hw'; go_simp
                      simp only [List.setIfInBounds_toArray, List.set_cons_zero, List.set_cons_succ]
                      refine M_take 1 100 (.slice (some ⟨q, 0, none⟩) d ec) _ rfl rfl (by kernel_rfl) (by kernel_rfl) (by kernel_rfl) (by kernel_rfl) (by kernel_rfl) (fun _ _ _ h => h) (by rfl) (fun w' hw' => ?_) hT (listed' := #[true, true, true, false, false, false, false, false, false, false, false, false, false, false, false, false, false]) (by kernel_rfl) rfl ?_
                      · obtain ⟨g0, g1, g2⟩ := hw'; go_simp
                      simp only [List.setIfInBounds_toArray, List.set_cons_zero, List.set_cons_succ]
                      refine M_take 3 102 (.slice (some ⟨q, 0, none⟩) d ec) _ rfl rfl (by kernel_rfl) (by kernel_rfl) (by kernel_rfl) (by kernel_rfl) (by kernel_rfl) (fun _ _ _ h => h) (by rfl) (fun w' hw' => ?_) hT (listed' := #[true, true, true, true, false, false, false, false, false, false, false, false, false, false, false, false, false]) (by kernel_rfl) rfl ?_
                      · obtain ⟨g0, g1, g2⟩ := hw'; go_simp
                      simp only [List.setIfInBounds_toArray, List.set_cons_zero, List.set_cons_succ]
                      refine M_take 4 103 (.pointer (some ⟨q, 0, none⟩)) _ rfl rfl (by kernel_rfl) (by kernel_rfl) (by kernel_rfl) (by kernel_rfl) (by kernel_rfl) (fun _ _ _ h => h) (by rfl) (fun w' hw' => ?_) hT (listed' := #[true, true, true, true, true, false, false, false, false, false, false, false, false, false, false, false, false]) (by kernel_rfl) rfl ?_
                      · obtain ⟨g0, g1, g2⟩ := hw'; go_simp
                      simp only [List.setIfInBounds_toArray, List.set_cons_zero, List.set_cons_succ]
                      refine M_take 5 104 (.pointer (some ⟨q, 1, none⟩)) _ rfl rfl (by kernel_rfl) (by kernel_rfl) (by kernel_rfl) (by kernel_rfl) (by kernel_rfl) (fun _ _ _ h => h) (by rfl) (fun w' hw' => ?_) hT (listed' := #[true, true, true, true, true, true, false, false, false, false, false, false, false, false, false, false, false]) (by kernel_rfl) rfl ?_
                      · obtain ⟨g0, g1, g2⟩ := hw'; go_simp
                      simp only [List.setIfInBounds_toArray, List.set_cons_zero, List.set_cons_succ]
                      refine M_take 6 105 (.slice ba (r + 1) bc) _ rfl rfl (by kernel_rfl) (by kernel_rfl) (by kernel_rfl) (by kernel_rfl) (by kernel_rfl) (fun _ _ _ h => h) (by rfl) (fun w' hw' => ?_) hT (listed' := #[true, true, true, true, true, true, true, false, false, false, false, false, false, false, false, false, false]) (by kernel_rfl) rfl ?_
                      · obtain ⟨g0, g1, g2⟩ := hw'; go_simp
                      simp only [List.setIfInBounds_toArray, List.set_cons_zero, List.set_cons_succ]
                      refine M_take 7 106 (.func (.func 26) #[] #[]) _ rfl rfl (by kernel_rfl) (by kernel_rfl) (by kernel_rfl) (by kernel_rfl) (by kernel_rfl) (fun _ _ _ h => h) (by rfl) (fun w' hw' => ?_) hT (listed' := #[true, true, true, true, true, true, true, true, false, false, false, false, false, false, false, false, false]) (by kernel_rfl) rfl ?_
                      · obtain ⟨g0, g1, g2⟩ := hw'; go_simp
                      simp only [List.setIfInBounds_toArray, List.set_cons_zero, List.set_cons_succ]
                      refine M_take 8 107 (.int .i64 (s : Int)) _ rfl rfl (by kernel_rfl) (by kernel_rfl) (by kernel_rfl) (by kernel_rfl) (by kernel_rfl) (fun _ _ _ h => h) (by rfl) (fun w' hw' => ?_) hT (listed' := #[true, true, true, true, true, true, true, true, true, false, false, false, false, false, false, false, false]) (by kernel_rfl) rfl ?_
                      · obtain ⟨g0, g1, g2⟩ := hw'; go_simp
                      simp only [List.setIfInBounds_toArray, List.set_cons_zero, List.set_cons_succ]
                      refine M_take 10 109 (.int .i64 (s : Int)) _ rfl rfl (by kernel_rfl) (by kernel_rfl) (by kernel_rfl) (by kernel_rfl) (by kernel_rfl) (fun _ _ _ h => h) (by rfl) (fun w' hw' => ?_) hT (listed' := #[true, true, true, true, true, true, true, true, true, false, true, false, false, false, false, false, false]) (by kernel_rfl) rfl ?_
                      · obtain ⟨g0, g1, g2⟩ := hw'; go_simp
                      simp only [List.setIfInBounds_toArray, List.set_cons_zero, List.set_cons_succ]
                      refine M_call 9 108 26 #[.int .i64 ((s : Int))] rfl rfl (by kernel_rfl) (by rfl) (listed' := #[true, true, true, true, true, true, true, true, true, true, true, false, false, false, false, false, false]) (by kernel_rfl) (fun W => by go_simp) ?_
                      refine (lname_at (s) ((s : Int)) (by omega) (by omega) _).mono ?_
                      rintro en W1 ⟨rfl, hbx⟩
                      have hb1 : Below W0.heap.size W0 W1 := hbx
                      clear hbx
                      have hT := hTW W1 hb1
                      refine ⟨_, rfl, hT, ?_⟩
                      simp only [List.setIfInBounds_toArray, List.set_cons_zero, List.set_cons_succ]
                      refine M_run 11 110 (.agg #[.string (nmB s), .int .i64 (s : Int)]) (W1) rfl rfl (by kernel_rfl) (by rfl) (listed' := #[true, true, true, true, true, true, true, true, true, true, true, true, false, false, false, false, false]) (by kernel_rfl) (by go_simp) hT ?_
                      simp only [List.setIfInBounds_toArray, List.set_cons_zero, List.set_cons_succ]
                      have hal : Below W1.heap.size W1 (W1.alloc (.cells #[.string (nmB s), .int .i64 (s : Int)] 65)) := (Below.refl _ _).alloc (Nat.le_refl _) _
                      have hbw : Below W0.heap.size W0 (W1.alloc (.cells #[.string (nmB s), .int .i64 (s : Int)] 65)) := hb1.trans (hal.mono hb1.size)
                      have BE := Blk.new W1 #[.string (nmB s), .int .i64 (s : Int)] 65
                      obtain ⟨bz, hbz⟩ : ∃ n, W1.heap.size = n := ⟨_, rfl⟩
                      have HBZ2 : Hid (W1.heap.size = bz) := hbz
                      refine M_run 12 111 (.slice (some ⟨W1.heap.size, 0, none⟩) 1 1) (W1.alloc (.cells #[.string (nmB s), .int .i64 (s : Int)] 65)) rfl rfl (by kernel_rfl) (by rfl) (listed' := #[true, true, true, true, true, true, true, true, true, true, true, true, true, false, false, false, false]) (by kernel_rfl) (by go_simp) (hTW _ hbw) ?_
                      simp only [List.setIfInBounds_toArray, List.set_cons_zero, List.set_cons_succ]
                      rw [hbz] at BE ⊢
                      generalize (W1.alloc (.cells #[.string (nmB s), .int .i64 (s : Int)] 65)) = W3 at *
                      clear hbz hal
                      have HL3 : Hid (LmO W3 bt (.slice va a vc) (.slice fa b fc) (.slice ra c rc) (.slice (some ⟨q, 0, none⟩) d ec) (.slice ba (r + 1) bc) nilV pe a b c d r 0) := HL0.out.below hbw
                      have HOWN : Hid (W3.ownsRow (bt + 1) 65 2 (.slice ba (r + 1) bc) (r + 1) (nmRows (vlL r)).flatten) := (HL3.out.en.vl hpos).2
                      obtain ⟨i0, hi0, hz0, hz1, hz2⟩ := info_parts infoNm
                      obtain ⟨v', W4, r1, r2, r3, _⟩ := run_append_own W3 (bt + 1) 38 38 65 i0 _ 2 24 Try.underlying38 hi0 hz0 hz1 hz2 rfl (by decide) (.slice ba (r + 1) bc) (r + 1) _ HOWN.out ⟨bz, 0, none⟩ 1 1 [.string (nmB s), .int .i64 (s : Int)] rfl (fun j u hu => by
                        have := BE.cell j
                        rw [Addr.add_lit, Nat.zero_add, this]
                        simpa using hu) (fun u hu => by
                        simp only [List.mem_cons, List.not_mem_nil, or_false] at hu
                        rcases hu with rfl | rfl <;> rfl) (by unfold maxLen; omega) (by omega) (by have := (HL3.out).blk.lt; omega)
                      have HRUN : Hid _ := r1
                      obtain ⟨na, nc, hv'⟩ := own_form r2
                      subst hv'
                      have HR2 : Hid _ := r2
                      have HR3 : Hid _ := r3
                      clear r1 r2 r3
                      have hb4 : Below w.heap.size w W4 := by
                        have h3 : Below w.heap.size w W3 := HB0.trans (hbw.mono HB0.size)
                        refine h3.grown HR3.out h3.size (fun k hk => ?_)
                        have := (World.ownsRow.lt HOWN.out k hk).1
                        have := HBZ.out
                        have := HBT.out
                        omega
                      have HTW3 := hTW W3 hbw
                      have KA := kp_grown HR3.out
                      have HT4 : W4.cell? ⟨bt, 2, none⟩ = some (.slice (some ⟨q, 0, none⟩) d ec) ∧ W4.cell? ⟨q, 1, none⟩ = some (.slice ba (r + 1) bc) ∧ W4.cell? ⟨bn, 0, none⟩ = some (.func (.func 26) #[] #[]) := ⟨KA.cell (HTW3.1) (fun hk => by have := (World.ownsRow.lt HOWN.out bt hk).1; omega), KA.cell (HTW3.2.1) (fun hk => own_apart HOWN.out HL3.out.en.own (by decide) q hk rfl), HN.out W4 hb4⟩
                      refine M_run 13 112 (.slice na (r + 1 + 1) nc) (W4) rfl rfl (by kernel_rfl) (by rfl) (listed' := #[true, true, true, true, true, true, true, true, true, true, true, true, true, true, false, false, false]) (by kernel_rfl) (append_run rfl rfl rfl HRUN.out) HT4 ?_
                      simp only [List.setIfInBounds_toArray, List.set_cons_zero, List.set_cons_succ]
                      refine M_run 14 113 (.pointer (some ⟨q, 0, none⟩)) (W4) rfl rfl (by kernel_rfl) (by rfl) (listed' := #[true, true, true, true, true, true, true, true, true, true, true, true, true, true, true, false, false]) (by kernel_rfl) (by go_simp) HT4 ?_
                      simp only [List.setIfInBounds_toArray, List.set_cons_zero, List.set_cons_succ]
                      refine M_run 15 114 (.pointer (some ⟨q, 1, none⟩)) (W4) rfl rfl (by kernel_rfl) (by rfl) (listed' := #[true, true, true, true, true, true, true, true, true, true, true, true, true, true, true, true, false]) (by kernel_rfl) (by go_simp) HT4 ?_
                      simp only [List.setIfInBounds_toArray, List.set_cons_zero, List.set_cons_succ]
                      have BF := own_froz (own_kpV HL3.out.en.own KA (fun k hk hv => own_apart HOWN.out HL3.out.en.own (by decide) k hv hk)) 1
                      have BC := HT4.2.1
                      refine M_store 16 (W4.setCell ⟨q, 1, none⟩ (.slice na (r + 1 + 1) nc)) rfl rfl (by kernel_rfl) (by rfl) (listed' := #[true, true, true, true, true, true, true, true, true, true, true, true, true, true, true, true, true]) (by kernel_rfl) (by go_simp) (by kernel_rfl) ?_
                      refine M_done (by kernel_rfl) ?_ _
                      clear BF BC HT4 HTW3 KA
                      have HR2' : Hid (W4.ownsRow (bt + 1) 65 2 (.slice na (r + 1 + 1) nc) (r + 1 + 1) ((nmRows (vlL r)).flatten ++ [.string (nmB (1 + r)), .int .i64 (1 + (r : Int))])) := by
                        have h1 := HR2.out
                        have h2 : (s : Int) = 1 + (r : Int) := by have := HS.out; omega
                        rw [h2, HS.out] at h1
                        exact h1
                      have HL5 : Hid (LmO (W4.setCell ⟨q, 1, none⟩ (.slice na (r + 1 + 1) nc)) bt (.slice va a vc) (.slice fa b fc) (.slice ra c rc) (.slice (some ⟨q, 0, none⟩) d ec) (.slice na (r + 1 + 1) nc) nilV (pe.set 0 (.slice na (r + 1 + 1) nc)) a b c d (r + 1) 0) := HL3.out.addV hpos HR2'.out HR3.out
                      have hb5 : Below w.heap.size w (W4.setCell ⟨q, 1, none⟩ (.slice na (r + 1 + 1) nc)) := hb4.trans ((kp_set _ _ _ _).toBelow hb4.size (fun k e => by have := HBZ.out; have := HBT.out; omega))
                      have BR5 : Blk (W4.setCell ⟨q, 1, none⟩ (.slice na (r + 1 + 1) nc)) b0 #[.string ⟨#[]⟩, .slice none 0 0, .slice none 0 0, .slice none 0 0] 26 := by
                        refine Blk.other ?_ (by show b0 ≠ q; have := HBT.out; omega) _
                        refine (BR0.below hbw).kp (kp_grown HR3.out) (fun hk => ?_)
                        have := (World.ownsRow.lt HOWN.out b0 hk).1
                        have := HBT.out
                        omega
                      generalize (W4.setCell ⟨q, 1, none⟩ (.slice na (r + 1 + 1) nc)) = W5 at *
                      clear hT hTW HL0 BR0 HB0 hbw HR2 HR3 HRUN hb4 HL3 HOWN BE HR2'
                      go_wp2_with fail
                      go_roundw
                      case rel => exact ⟨s + 1, r + 1, _, _, by go_num, (by show _ = _; have := HS.out; omega), .inl (by omega), by omega, by omega, HL5, BR5, hb5⟩
                      case measure => simp [intOf]; omega
                    · have HR : Hid (r = e - 1) := by show _ = _; have := HS.out; rcases HSE.out with h | h <;> omega
                      have HL0 := HL
                      have BR0 := BR
                      have HB0 := hbel
                      clear HL BR hbel
                      go_wp2_with fail
                      go_loopw [20] (fun iv wr => ∃ (t : Nat) (ta : Option Addr) (tc : Nat), iv = .int .i64 (t : Int) ∧ t ≤ f ∧ Hid (LmO wr bt (.slice va a vc) (.slice fa b fc) (.slice ra c rc) (.slice ea d ec) vv (.slice ta t tc) pe a b c d r t) ∧ Blk wr b0 #[.string ⟨#[]⟩, .slice none 0 0, .slice none 0 0, .slice none 0 0] 26 ∧ Below w.heap.size w wr) (fun iv _ => f - (intOf iv).toNat)
                      case atStart => exact ⟨0, none, 0, rfl, by omega, HL0, BR0, HB0⟩
                      case round =>
                        obtain ⟨t, ta, tc, rfl, ht, HL, BR, hbel⟩ := hrel
                        clear HL0 BR0 HB0
                        by_cases hlt : t < f
                        · skip
                          go_wp2_with fail
                          refine M_region (T := fun W => W.cell? ⟨bt, 3, none⟩ = some (.slice ta t tc) ∧ W.cell? ⟨bn, 0, none⟩ = some (.func (.func 26) #[] #[])) (m := 13) (by kernel_rfl) ?_
                          have hdr : Below wr.heap.size wr wr.drew := below_drewN 1 (Below.refl _ _)
                          have HL0 : Hid (LmO wr.drew bt (.slice va a vc) (.slice fa b fc) (.slice ra c rc) (.slice ea d ec) vv (.slice ta t tc) pe a b c d r t) := HL.out.below hdr
                          have BR0 := BR.below hdr
                          have HB0 : Below w.heap.size w wr.drew := hbel.trans (hdr.mono hbel.size)
                          generalize wr.drew = W0 at *
                          clear HL BR hbel hdr
                          have hTW : ∀ W, Below W0.heap.size W0 W → W.cell? ⟨bt, 3, none⟩ = some (.slice ta t tc) ∧ W.cell? ⟨bn, 0, none⟩ = some (.func (.func 26) #[] #[]) := fun W hW => ⟨((HL0.out.below hW).blk.cell 3).trans rfl, HN.out W (HB0.trans (hW.mono HB0.size))⟩
                          have hT := hTW W0 (Below.refl _ _)
                          refine M_take 0 120 (.pointer (some ⟨bt, 3, none⟩)) _ rfl rfl (by kernel_rfl) (by kernel_rfl) (by kernel_rfl) (by kernel_rfl) (by kernel_rfl) (fun _ _ _ h => h) (by rfl) (fun w' hw' => ?_) hT (listed' := #[true, false, false, false, false, false, false, false, false, false, false, false, false, false]) (by kernel_rfl) rfl ?_
                          · obtain ⟨g0, g1⟩ := hw'; go_simp
                          simp only [List.setIfInBounds_toArray, List.set_cons_zero, List.set_cons_succ]
                          refine M_take 1 121 (.slice ta t tc) _ rfl rfl (by kernel_rfl) (by kernel_rfl) (by kernel_rfl) (by kernel_rfl) (by kernel_rfl) (fun _ _ _ h => h) (by rfl) (fun w' hw' => ?_) hT (listed' := #[true, true, false, false, false, false, false, false, false, false, false, false, false, false]) (by kernel_rfl) rfl ?_
                          · obtain ⟨g0, g1⟩ := hw'; go_simp
                          simp only [List.setIfInBounds_toArray, List.set_cons_zero, List.set_cons_succ]
                          refine M_take 2 122 (.func (.func 26) #[] #[]) _ rfl rfl (by kernel_rfl) (by kernel_rfl) (by kernel_rfl) (by kernel_rfl) (by kernel_rfl) (fun _ _ _ h => h) (by rfl) (fun w' hw' => ?_) hT (listed' := #[true, true, true, false, false, false, false, false, false, false, false, false, false, false]) (by kernel_rfl) rfl ?_
                          · obtain ⟨g0, g1⟩ := hw'; go_simp
                          simp only [List.setIfInBounds_toArray, List.set_cons_zero, List.set_cons_succ]
                          refine M_take 3 123 (.int .i64 (t : Int)) _ rfl rfl (by kernel_rfl) (by kernel_rfl) (by kernel_rfl) (by kernel_rfl) (by kernel_rfl) (fun _ _ _ h => h) (by rfl) (fun w' hw' => ?_) hT (listed' := #[true, true, true, true, false, false, false, false, false, false, false, false, false, false]) (by kernel_rfl) rfl ?_
                          · obtain ⟨g0, g1⟩ := hw'; go_simp
                          simp only [List.setIfInBounds_toArray, List.set_cons_zero, List.set_cons_succ]
                          refine M_take 5 125 (.func (.func 26) #[] #[]) _ rfl rfl (by kernel_rfl) (by kernel_rfl) (by kernel_rfl) (by kernel_rfl) (by kernel_rfl) (fun _ _ _ h => h) (by rfl) (fun w' hw' => ?_) hT (listed' := #[true, true, true, true, false, true, false, false, false, false, false, false, false, false]) (by kernel_rfl) rfl ?_
                          · obtain ⟨g0, g1⟩ := hw'; go_simp
                          simp only [List.setIfInBounds_toArray, List.set_cons_zero, List.set_cons_succ]
                          refine M_take 7 127 (.func (.func 26) #[] #[]) _ rfl rfl (by kernel_rfl) (by kernel_rfl) (by kernel_rfl) (by kernel_rfl) (by kernel_rfl) (fun _ _ _ h => h) (by rfl) (fun w' hw' => ?_) hT (listed' := #[true, true, true, true, false, true, false, true, false, false, false, false, false, false]) (by kernel_rfl) rfl ?_
                          · obtain ⟨g0, g1⟩ := hw'; go_simp
                          simp only [List.setIfInBounds_toArray, List.set_cons_zero, List.set_cons_succ]
                          refine M_call 4 124 26 #[.int .i64 ((t : Int))] rfl rfl (by kernel_rfl) (by rfl) (listed' := #[true, true, true, true, true, true, false, true, false, false, false, false, false, false]) (by kernel_rfl) (fun W => by go_simp) ?_
                          refine (lname_at (t) ((t : Int)) (by omega) (by omega) _).mono ?_
                          rintro en W1 ⟨rfl, hbx⟩
                          have hb1 : Below W0.heap.size W0 W1 := hbx
                          clear hbx
                          have hT := hTW W1 hb1
                          refine ⟨_, rfl, hT, ?_⟩
                          simp only [List.setIfInBounds_toArray, List.set_cons_zero, List.set_cons_succ]
                          refine M_call 6 126 26 #[.int .i64 (0)] rfl rfl (by kernel_rfl) (by rfl) (listed' := #[true, true, true, true, true, true, true, true, false, false, false, false, false, false]) (by kernel_rfl) (fun W => by go_simp) ?_
                          refine (lname_at (0) (0) (by omega) (by omega) _).mono ?_
                          rintro en W2 ⟨rfl, hbx⟩
                          have hb2 : Below W0.heap.size W0 W2 := hb1.trans (hbx.mono hb1.size)
                          clear hbx
                          have hT := hTW W2 hb2
                          refine ⟨_, rfl, hT, ?_⟩
                          simp only [List.setIfInBounds_toArray, List.set_cons_zero, List.set_cons_succ]
                          refine M_call 8 128 26 #[.int .i64 (0)] rfl rfl (by kernel_rfl) (by rfl) (listed' := #[true, true, true, true, true, true, true, true, true, false, false, false, false, false]) (by kernel_rfl) (fun W => by go_simp) ?_
                          refine (lname_at (0) (0) (by omega) (by omega) _).mono ?_
                          rintro en W2b ⟨rfl, hbx⟩
                          have hb3 : Below W0.heap.size W0 W2b := hb2.trans (hbx.mono hb2.size)
                          clear hbx
                          have hT := hTW W2b hb3
                          refine ⟨_, rfl, hT, ?_⟩
                          simp only [List.setIfInBounds_toArray, List.set_cons_zero, List.set_cons_succ]
                          refine M_run 9 129 (.agg #[.string (nmB t), .string (nmB 0), .string (nmB 0)]) (W2b) rfl rfl (by kernel_rfl) (by rfl) (listed' := #[true, true, true, true, true, true, true, true, true, true, false, false, false, false]) (by kernel_rfl) (by go_simp) hT ?_
                          simp only [List.setIfInBounds_toArray, List.set_cons_zero, List.set_cons_succ]
                          have hal : Below W2b.heap.size W2b (W2b.alloc (.cells #[.string (nmB t), .string (nmB 0), .string (nmB 0)] 44)) := (Below.refl _ _).alloc (Nat.le_refl _) _
                          have hbw : Below W0.heap.size W0 (W2b.alloc (.cells #[.string (nmB t), .string (nmB 0), .string (nmB 0)] 44)) := hb3.trans (hal.mono hb3.size)
                          have BE := Blk.new W2b #[.string (nmB t), .string (nmB 0), .string (nmB 0)] 44
                          obtain ⟨bz, hbz⟩ : ∃ n, W2b.heap.size = n := ⟨_, rfl⟩
                          have HBZ2 : Hid (W2b.heap.size = bz) := hbz
                          refine M_run 10 130 (.slice (some ⟨W2b.heap.size, 0, none⟩) 1 1) (W2b.alloc (.cells #[.string (nmB t), .string (nmB 0), .string (nmB 0)] 44)) rfl rfl (by kernel_rfl) (by rfl) (listed' := #[true, true, true, true, true, true, true, true, true, true, true, false, false, false]) (by kernel_rfl) (by go_simp) (hTW _ hbw) ?_
                          simp only [List.setIfInBounds_toArray, List.set_cons_zero, List.set_cons_succ]
                          rw [hbz] at BE ⊢
                          generalize (W2b.alloc (.cells #[.string (nmB t), .string (nmB 0), .string (nmB 0)] 44)) = W3 at *
                          clear hbz hal
                          have HL3 : Hid (LmO W3 bt (.slice va a vc) (.slice fa b fc) (.slice ra c rc) (.slice ea d ec) vv (.slice ta t tc) pe a b c d r t) := HL0.out.below hbw
                          have HOWN : Hid (W3.ownsRow (bt + 1) 44 3 (.slice ta t tc) t (mtRows (mtL t)).flatten) := HL3.out.mt
                          obtain ⟨i0, hi0, hz0, hz1, hz2⟩ := info_parts infoMt
                          obtain ⟨v', W4, r1, r2, r3, _⟩ := run_append_own W3 (bt + 1) 24 24 44 i0 _ 3 48 Try.underlying24 hi0 hz0 hz1 hz2 rfl (by decide) (.slice ta t tc) (t) _ HOWN.out ⟨bz, 0, none⟩ 1 1 [.string (nmB t), .string (nmB 0), .string (nmB 0)] rfl (fun j u hu => by
                            have := BE.cell j
                            rw [Addr.add_lit, Nat.zero_add, this]
                            simpa using hu) (fun u hu => by
                            simp only [List.mem_cons, List.not_mem_nil, or_false] at hu
                            rcases hu with rfl | rfl | rfl <;> rfl) (by unfold maxLen; omega) (by omega) (by have := (HL3.out).blk.lt; omega)
                          have HRUN : Hid _ := r1
                          obtain ⟨na, nc, hv'⟩ := own_form r2
                          subst hv'
                          have HR2 : Hid _ := r2
                          have HR3 : Hid _ := r3
                          clear r1 r2 r3
                          have hb4 : Below w.heap.size w W4 := by
                            have h3 : Below w.heap.size w W3 := HB0.trans (hbw.mono HB0.size)
                            refine h3.grown HR3.out h3.size (fun k hk => ?_)
                            have := (World.ownsRow.lt HOWN.out k hk).1
                            have := HBZ.out
                            have := HBT.out
                            omega
                          have HTW3 := hTW W3 hbw
                          have KA := kp_grown HR3.out
                          have HT4 : W4.cell? ⟨bt, 3, none⟩ = some (.slice ta t tc) ∧ W4.cell? ⟨bn, 0, none⟩ = some (.func (.func 26) #[] #[]) := ⟨KA.cell (HTW3.1) (fun hk => by have := (World.ownsRow.lt HOWN.out bt hk).1; omega), HN.out W4 hb4⟩
                          refine M_run 11 131 (.slice na (t + 1) nc) (W4) rfl rfl (by kernel_rfl) (by rfl) (listed' := #[true, true, true, true, true, true, true, true, true, true, true, true, false, false]) (by kernel_rfl) (append_run rfl rfl rfl HRUN.out) HT4 ?_
                          simp only [List.setIfInBounds_toArray, List.set_cons_zero, List.set_cons_succ]
                          refine M_run 12 132 (.pointer (some ⟨bt, 3, none⟩)) (W4) rfl rfl (by kernel_rfl) (by rfl) (listed' := #[true, true, true, true, true, true, true, true, true, true, true, true, true, false]) (by kernel_rfl) (by go_simp) HT4 ?_
                          simp only [List.setIfInBounds_toArray, List.set_cons_zero, List.set_cons_succ]
                          have BF := ((HL3.out.blk).kp KA (fun hk => by have := (World.ownsRow.lt HOWN.out bt hk).1; omega)).froz 3
                          have BC := HT4.1
                          refine M_store 13 (W4.setCell ⟨bt, 3, none⟩ (.slice na (t + 1) nc)) rfl rfl (by kernel_rfl) (by rfl) (listed' := #[true, true, true, true, true, true, true, true, true, true, true, true, true, true]) (by kernel_rfl) (by go_simp) (by kernel_rfl) ?_
                          refine M_done (by kernel_rfl) ?_ _
                          clear BF BC HT4 HTW3 KA
                          have HL5 : Hid (LmO (W4.setCell ⟨bt, 3, none⟩ (.slice na (t + 1) nc)) bt (.slice va a vc) (.slice fa b fc) (.slice ra c rc) (.slice ea d ec) vv (.slice na (t + 1) nc) pe a b c d r (t + 1)) := HL3.out.addT HR2.out HR3.out
                          have hb5 : Below w.heap.size w (W4.setCell ⟨bt, 3, none⟩ (.slice na (t + 1) nc)) := hb4.trans ((kp_set _ _ _ _).toBelow hb4.size (fun k e => by have := HBZ.out; have := HBT.out; omega))
                          have BR5 : Blk (W4.setCell ⟨bt, 3, none⟩ (.slice na (t + 1) nc)) b0 #[.string ⟨#[]⟩, .slice none 0 0, .slice none 0 0, .slice none 0 0] 26 := by
                            refine Blk.other ?_ (by show b0 ≠ bt; have := HBT.out; omega) _
                            refine (BR0.below hbw).kp (kp_grown HR3.out) (fun hk => ?_)
                            have := (World.ownsRow.lt HOWN.out b0 hk).1
                            have := HBT.out
                            omega
                          generalize (W4.setCell ⟨bt, 3, none⟩ (.slice na (t + 1) nc)) = W5 at *
                          clear hT hTW HL0 BR0 HB0 hbw HR2 HR3 HRUN hb4 HL3 HOWN BE hb1 hb2 hb3
                          go_wp2_with fail
                          go_roundw
                          case rel => exact ⟨t + 1, _, _, by go_num, by omega, HL5, BR5, hb5⟩
                          case measure => simp [intOf]; omega
                        · obtain rfl : f = t := by omega
                          have t0 : wr.cell? ⟨bt, 0, none⟩ = some (.string ⟨#[97]⟩) := HL.out.blk.cell 0
                          have t1 : wr.cell? ⟨bt, 1, none⟩ = some (.slice va a vc) := HL.out.blk.cell 1
                          have t2 : wr.cell? ⟨bt, 2, none⟩ = some (.slice ea d ec) := HL.out.blk.cell 2
                          have t3 : wr.cell? ⟨bt, 3, none⟩ = some (.slice ta f tc) := HL.out.blk.cell 3
                          have r0 := (BR.cell 0).trans rfl
                          have r1 := (BR.cell 1).trans rfl
                          have r2 := (BR.cell 2).trans rfl
                          have r3 := (BR.cell 3).trans rfl
                          have z0 := BR.froz 0
                          have z1 := BR.froz 1
                          have z2 := BR.froz 2
                          have z3 := BR.froz 3
                          go_wp2_with fail
                          refine bodyPost_ret (results_cell rfl _ _ _ ⟨b0, 0, none⟩ (.agg #[.string ⟨#[97]⟩, .slice va a vc, .slice ea d ec, .slice ta f tc]) (by go_simp) (by go_simp)) rfl ?_
                          have KS : Kp (fun q => q = b0) wr ((((wr.setCell ⟨b0, 0, none⟩ (.string ⟨#[97]⟩)).setCell ⟨b0, 1, none⟩ (.slice va a vc)).setCell ⟨b0, 2, none⟩ (.slice ea d ec)).setCell ⟨b0, 3, none⟩ (.slice ta f tc)) := by
                            refine Kp.setCell ?_ (fun _ => by simp) _
                            refine Kp.setCell ?_ (fun _ => by simp) _
                            refine Kp.setCell ?_ (fun _ => by simp) _
                            refine Kp.setCell ?_ (fun _ => by simp) _
                            exact Kp.refl _ _
                          refine ⟨_, _, _, rfl, ?_, ?_⟩
                          · rw [← HR.out]
                            exact (HL.out.kp KS (fun q h1 h2 => by have := HBT.out; omega)).to_in
                          · exact hbel.trans (KS.toBelow hbel.size (fun q e => by have := HBZ.out; omega))
end Go.Proofs.Ytomeppgmmlaibaa

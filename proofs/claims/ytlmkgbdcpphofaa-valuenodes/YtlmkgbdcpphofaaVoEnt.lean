/- entryOf. -/
import Derived.Test.YtlmkgbdcpphofaaVoMath
import Derived.Test.YtlmkgbdcpphofaaVcCheck
import Derived.Test.YtlmkgbdcpphofaaVaLeaf
namespace Go.Proofs.Ytlmkgbdcpphofaa
open Go.ChangeShapes Go.WideShapes Go.ChangeAt Go.RowKit
set_option linter.unusedVariables false
set_option linter.unusedSimpArgs false
set_option maxRecDepth 20000

theorem infoVa : (Try.prog.info? 34).map (fun i => (i.zero, i.size, i.bytes)) = some (some (.agg #[.nilIface]), 1, 16) := by kernel_rfl
/-- What valueOf answers. -/
def VofP (n : Nat) (t : Tr) (w : World) (e : Ending) (w' : World) : Prop := ∃ x bs, e = .returned (.agg #[x]) ∧ VaO n w.heap.size w' [x] t bs ∧ Apt w.heap.size w' bs ∧ Below w.heap.size w w'
set_option maxHeartbeats 4000000 in
theorem entryOf_step (n : Nat) (IH : ∀ t v w, TrIn n w v t → okN n t = true → SmN n t → Calls Try.prog 44 #[v] w (VofP n t w)) (e : Int × List Tr) (vt : Value) (w : World) (h : TrsIn n w vt e.2) (h64 : Is64 e.1) (hok : ∀ x ∈ e.2, okN n x = true) (hsm : ∀ x ∈ e.2, SmN n x) (hl : 1 ≤ e.2.length ∧ e.2.length ≤ 70) :
    Calls Try.prog 65 #[.agg #[.int .i64 e.1, vt]] w fun e' w' => ∃ vv bs, e' = .returned (.agg #[.int .i64 e.1, vv]) ∧ VeO (VaO n w.heap.size) w.heap.size w' [.int .i64 e.1, vv] e bs ∧ Apt w.heap.size w' bs ∧ Below w.heap.size w w' := by
  obtain ⟨ta, tc, rfl, t1, t2, -⟩ := RowP.open h
  obtain ⟨N, hN⟩ : ∃ N, e.2.length = N := ⟨_, rfl⟩
  have HH : Hid (TrsIn n w (.slice ta N tc) e.2) := (by rw [← hN]; exact h : TrsIn n w (.slice ta N tc) e.2)
  rw [hN] at t1 hl ⊢
  have HN : Hid (e.2.length = N) := hN
  obtain ⟨hl1, hl2⟩ := hl
  unfold maxLen at t2
  clear h hN
  obtain ⟨xt, xl⟩ := e
  simp only at *
  obtain ⟨i0, hi0, hz0, hz1, hz2⟩ := info_parts infoVa
  have hmk : (Instr.makeSlice 46 (.int .i64 (N : Int)) (.int .i64 (N : Int))).run Try.prog ((w.alloc (Obj.cells #[.int .i64 xt, .slice ta N tc] 50)).alloc (Obj.cells #[.int .i64 0, .slice none 0 0] 91)) = .ok (.slice (some ⟨w.heap.size + 2, 0, none⟩) N N) (((w.alloc (Obj.cells #[.int .i64 xt, .slice ta N tc] 50)).alloc (Obj.cells #[.int .i64 0, .slice none 0 0] 91)).alloc (.cells (madeCells #[.nilIface] N) 34)) := by
    have := run_makeSlice (P := Try.prog) ((w.alloc (Obj.cells #[.int .i64 xt, .slice ta N tc] 50)).alloc (Obj.cells #[.int .i64 0, .slice none 0 0] 91)) 46 34 i0 _ Try.underlying46 hi0 hz0 .i64 .i64 N N (by omega) (by omega) (by rw [hz1]; simp; omega) (by rw [hz2]; omega) (by omega)
    rw [hz1, Nat.mul_one] at this
    simp only [Int.toNat_natCast] at this
    rw [show ((w.alloc (Obj.cells #[.int .i64 xt, .slice ta N tc] 50)).alloc (Obj.cells #[.int .i64 0, .slice none 0 0] 91)).heap.size = w.heap.size + 2 from by simp] at this
    exact this
  have hb0 : Below w.heap.size w (((w.alloc (Obj.cells #[.int .i64 xt, .slice ta N tc] 50)).alloc (Obj.cells #[.int .i64 0, .slice none 0 0] 91)).alloc (.cells (madeCells #[.nilIface] N) 34)) := (((Below.refl _ _).alloc (Nat.le_refl _) _).alloc (by simp) _).alloc (by simp; omega) _
  have B0 : Blk (((w.alloc (Obj.cells #[.int .i64 xt, .slice ta N tc] 50)).alloc (Obj.cells #[.int .i64 0, .slice none 0 0] 91)).alloc (.cells (madeCells #[.nilIface] N) 34)) w.heap.size #[.int .i64 xt, .slice ta N tc] 50 := (Blk.new w _ _).below (((Below.refl _ _).alloc (Nat.le_refl _) _).alloc (by simp) _)
  have B1 : Blk (((w.alloc (Obj.cells #[.int .i64 xt, .slice ta N tc] 50)).alloc (Obj.cells #[.int .i64 0, .slice none 0 0] 91)).alloc (.cells (madeCells #[.nilIface] N) 34)) (w.heap.size + 1) #[.int .i64 0, .slice none 0 0] 91 := (blk_new2T w _ _ _).below ((Below.refl _ _).alloc (Nat.le_refl _) _)
  have B2 : Blk (((w.alloc (Obj.cells #[.int .i64 xt, .slice ta N tc] 50)).alloc (Obj.cells #[.int .i64 0, .slice none 0 0] 91)).alloc (.cells (madeCells #[.nilIface] N) 34)) (w.heap.size + 2) (madeCells #[.nilIface] N).toList.toArray 34 := by
    have := Blk.new ((w.alloc (Obj.cells #[.int .i64 xt, .slice ta N tc] 50)).alloc (Obj.cells #[.int .i64 0, .slice none 0 0] 91)) (madeCells #[.nilIface] N) 34
    rw [show ((w.alloc (Obj.cells #[.int .i64 xt, .slice ta N tc] 50)).alloc (Obj.cells #[.int .i64 0, .slice none 0 0] 91)).heap.size = w.heap.size + 2 from by simp] at this
    simpa using this
  have hlen : (madeCells #[.nilIface] N).toList.length = N := by rw [Array.length_toList, size_madeCells]
  have HI : Hid (∀ t v w, TrIn n w v t → okN n t = true → SmN n t → Calls Try.prog 44 #[v] w (VofP n t w)) := IH
  have HOK : Hid (∀ x ∈ xl, okN n x = true ∧ SmN n x) := fun x hx => ⟨hok x hx, hsm x hx⟩
  have H64 : Hid (Is64 xt) := h64
  clear IH hok hsm h64 hi0 hz0 hz1 hz2
  go_enter Try.func65, Try.ntmps65
  go_wp2_with fail
  clear hmk
  generalize (((w.alloc (Obj.cells #[.int .i64 xt, .slice ta N tc] 50)).alloc (Obj.cells #[.int .i64 0, .slice none 0 0] 91)).alloc (.cells (madeCells #[.nilIface] N) 34)) = WA at *
  generalize (madeCells #[.nilIface] N).toList = cs0 at *
  obtain ⟨b0, hb0'⟩ : ∃ b, w.heap.size = b := ⟨_, rfl⟩
  have HBZ : Hid (w.heap.size = b0) := hb0'
  rw [hb0'] at B0 B1 B2 ⊢
  clear hb0'
  go_loopw [13] (fun iv wr => ∃ (i : Nat) (cs : List Value) (rows : List (List Value)) (bss : List (List Nat)), iv = .int .i64 (i : Int) ∧ i ≤ N ∧ Hid (cs.length = N ∧ cs.take i = rows.flatten ∧ rows.length = i ∧ bss.length = i) ∧ Hid (∀ (j : Nat) (x : Tr), j < i → xl[j]? = some x → ∃ r b, rows[j]? = some r ∧ bss[j]? = some b ∧ VaO n b0 wr r x b) ∧ Hid (Apt b0 wr ([b0 + 2] ++ bss.flatten)) ∧ Hid (∀ k ∈ bss.flatten, b0 + 2 ≤ k) ∧ Hid (Blk wr (b0 + 2) cs.toArray 34) ∧ Hid (Blk wr b0 #[.int .i64 xt, .slice ta N tc] 50) ∧ Hid (Blk wr (b0 + 1) #[.int .i64 0, .slice none 0 0] 91) ∧ Below w.heap.size w wr) (fun iv _ => N - (intOf iv).toNat)
  case atStart => exact ⟨0, cs0, [], [], rfl, by omega, ⟨hlen, by simp, rfl, rfl⟩, (fun j x hj => absurd hj (by omega) : ∀ (j : Nat) (x : Tr), j < 0 → xl[j]? = some x → ∃ r b, ([] : List (List Value))[j]? = some r ∧ ([] : List (List Nat))[j]? = some b ∧ VaO n b0 WA r x b), (⟨by simp, by have := B2.lt; simp; omega⟩ : Apt b0 WA ([b0 + 2] ++ [].flatten)), (by simp : ∀ k ∈ ([] : List (List Nat)).flatten, b0 + 2 ≤ k), B2, B0, B1, hb0⟩
  case round =>
    clear hlen B0 B1 B2 hb0
    obtain ⟨i, cs, rows, bss, rfl, hi, HCS, HEA, HAP, HGE, HB2, HB0, HB1, hbel⟩ := hrel
    have a1 := (HB0.out.cell 1).trans rfl
    by_cases hlt : i < N
    · obtain ⟨x, hx⟩ : ∃ r, xl[i]? = some r := ⟨_, List.getElem?_eq_getElem (by rw [HN.out]; exact hlt)⟩
      obtain ⟨g, off, rfl, k1⟩ := (HH.out.belowT hbel).get hx
      obtain ⟨z1, n1, e1, z2, n2, e2, y0, y1, y2, y3, y4, y5⟩ := trs_get k1
      have HX : Hid (xl[i]? = some x) := hx
      have hal : Below wr.heap.size wr (wr.alloc (Obj.cells #[.int .i64 x.kind, .int .i64 x.n, .string x.s, .slice z1 n1 e1, .slice z2 n2 e2] 25)) := (Below.refl _ _).alloc (Nat.le_refl _) _
      have hbA : Below w.heap.size w (wr.alloc (Obj.cells #[.int .i64 x.kind, .int .i64 x.n, .string x.s, .slice z1 n1 e1, .slice z2 n2 e2] 25)) := hbel.trans (hal.mono hbel.size)
      have HCA : Hid _ := HI.out x _ _ (y5.below hal) (HOK.out x (List.mem_of_getElem? hx)).1 (HOK.out x (List.mem_of_getElem? hx)).2
      clear k1 hx y5
      go_wp2_with fail
      refine Calls.mono HCA.out ?_
      rintro e w2 ⟨xv, bs, rfl, hV, hA, hb2⟩
      have hb3 : Below wr.heap.size wr w2 := hal.trans (hb2.mono hal.size)
      have hbw : Below w.heap.size w w2 := hbel.trans (hb3.mono hbel.size)
      have hwr : b0 ≤ wr.heap.size := by have := HB2.out.lt; omega
      have hV2 : VaO n b0 w2 [xv] x bs := hV.base (by simp; omega)
      have HB2' := HB2.out.below hb3
      have hcl : cs.toArray[i]? = some (cs[i]'(by rw [HCS.out.1]; exact hlt)) := by simp [HCS.out.1, hlt]
      have s1 : w2.cell? ⟨b0 + 2, i, none⟩ = some (cs[i]'(by rw [HCS.out.1]; exact hlt)) := (HB2'.cell i).trans hcl
      have s2 := HB2'.froz i
      generalize cs[i]'(by rw [HCS.out.1]; exact hlt) = old at s1
      obtain ⟨T, u, hxv, -⟩ := hV2.one
      have hxv' : xv = .iface T u := by simpa using hxv
      have HV2 : Hid (VaO n b0 w2 [xv] x bs) := hV2
      have HA2 : Hid (Apt b0 w2 ([b0 + 2] ++ (bss ++ [bs]).flatten)) := (((HAP.out.mono hal.size).append hA (by simp; omega) (by simp) (by have := hb2.size; exact this)).of_count fun k => by simp only [List.flatten_append, List.flatten_cons, List.flatten_nil, List.append_nil, List.count_append]; omega : Apt b0 w2 ([b0 + 2] ++ (bss ++ [bs]).flatten))
      have HGE5 : Hid (∀ k ∈ (bss ++ [bs]).flatten, b0 + 2 ≤ k) := fun k hk => by
        simp only [List.flatten_append, List.flatten_cons, List.flatten_nil, List.append_nil, List.mem_append] at hk
        rcases hk with hk | hk
        · exact HGE.out k hk
        · have h1 := (hA.2 k hk).1
          have h2 := HB2.out.lt
          simp at h1
          omega
      have hne : ∀ k ∈ (bss ++ [bs]).flatten, k ≠ b0 + 2 := fun k hk e => by
        have := (List.nodup_cons.1 HA2.out.1).1
        subst e
        exact this hk
      have HNE : Hid (∀ k ∈ (bss ++ [bs]).flatten, k ≠ b0 + 2) := hne
      have HB0' : Hid (Blk w2 b0 #[.int .i64 xt, .slice (some ⟨g, off, none⟩) N tc] 50) := HB0.out.below hb3
      have HB1' : Hid (Blk w2 (b0 + 1) #[.int .i64 0, .slice none 0 0] 91) := HB1.out.below hb3
      have HEA2 : Hid (∀ (j : Nat) (x : Tr), j < i → xl[j]? = some x → ∃ r b, rows[j]? = some r ∧ bss[j]? = some b ∧ VaO n b0 w2 r x b) := fun j y hj hy => by
        obtain ⟨r, b, g1, g2, g3⟩ := HEA.out j y hj hy
        exact ⟨r, b, g1, g2, g3.sm (Sm.below hb3 fun k hk => (HAP.out.2 k (List.mem_append.2 (.inr (List.mem_flatten.2 ⟨b, List.mem_of_getElem? g2, hk⟩)))).2)⟩
      have HBB : Hid (Blk w2 (b0 + 2) cs.toArray 34) := HB2'
      clear hV hA hb2 hb3 hal hbA HB0 HB1 HB2 HEA HAP HB2' hcl hxv hV2 hne hbel HCA y0 y1 y2 y3 y4 a1
      subst hxv'
      go_wp2_with fail
      have KS : Kp (fun q => q = b0 + 2) w2 (w2.setCell ⟨b0 + 2, i, none⟩ (.iface T u)) := by
        refine Kp.setCell ?_ (fun _ => by simp) _
        exact Kp.refl _ _
      have hsm : ∀ b, b ∈ bss ++ [bs] → Sm w2 (w2.setCell ⟨b0 + 2, i, none⟩ (.iface T u)) b := fun b hb k hk => by
        have hk' : k ∈ (bss ++ [bs]).flatten := List.mem_flatten.2 ⟨b, hb, hk⟩
        exact KS.block k (HA2.out.2 k (List.mem_append.2 (.inr hk'))).2 (HNE.out k hk')
      obtain ⟨hc1, hc2, hc3, hc4⟩ := HCS.out
      have HB5 : Hid (Blk (w2.setCell ⟨b0 + 2, i, none⟩ (.iface T u)) (b0 + 2) (cs.set i (.iface T u)).toArray 34) := HBB.out.set i _ (by simp)
      have HCS5 : Hid ((cs.set i (.iface T u)).length = N ∧ (cs.set i (.iface T u)).take (i + 1) = (rows ++ [[Value.iface T u]]).flatten ∧ (rows ++ [[Value.iface T u]]).length = i + 1 ∧ (bss ++ [bs]).length = i + 1) := by
        refine ⟨by simp [hc1], ?_, by simp [hc3], by simp [hc4]⟩
        rw [take_atQ (x := .iface T u) (by rw [List.getElem?_set_self (by omega)]), List.take_set_of_le (Nat.le_refl _), hc2]
        simp
      have HEA5 : Hid (∀ (j : Nat) (x : Tr), j < i + 1 → xl[j]? = some x → ∃ r b, (rows ++ [[Value.iface T u]])[j]? = some r ∧ (bss ++ [bs])[j]? = some b ∧ VaO n b0 (w2.setCell ⟨b0 + 2, i, none⟩ (.iface T u)) r x b) := fun j y hj hy => by
        rcases Nat.lt_or_eq_of_le (Nat.le_of_lt_succ hj) with h | h
        · obtain ⟨r, b, g1, g2, g3⟩ := HEA2.out j y h hy
          exact ⟨r, b, by rw [List.getElem?_append_left (by omega)]; exact g1, by rw [List.getElem?_append_left (by omega)]; exact g2, g3.sm (hsm b (List.mem_append.2 (.inl (List.mem_of_getElem? g2))))⟩
        · subst h
          rw [HX.out] at hy
          cases hy
          exact ⟨_, bs, by rw [List.getElem?_append_right (by omega), hc3]; simp, by rw [List.getElem?_append_right (by omega), hc4]; simp, HV2.out.sm (hsm bs (by simp))⟩
      have hbw5 : Below w.heap.size w (w2.setCell ⟨b0 + 2, i, none⟩ (.iface T u)) := hbw.trans (KS.toBelow hbw.size (fun q e => by have := HBZ.out; omega))
      go_roundw
      case rel => exact ⟨i + 1, _, _, _, by go_num, by omega, HCS5, HEA5, HA2.out.mono KS.size, HGE5, HB5, HB0'.out.kp KS (by omega), HB1'.out.kp KS (by omega), hbw5⟩
      case measure => simp [intOf]; omega
    · obtain rfl : i = N := by omega
      have a0 := (HB0.out.cell 0).trans rfl
      have r0 := (HB1.out.cell 0).trans rfl
      have r1 := (HB1.out.cell 1).trans rfl
      have f0 := HB1.out.froz 0
      have f1 := HB1.out.froz 1
      go_wp2_with fail
      have KS : Kp (fun q => q = b0 + 1) wr ((wr.setCell ⟨b0 + 1, 0, none⟩ (.int .i64 xt)).setCell ⟨b0 + 1, 1, none⟩ (.slice (some ⟨b0 + 2, 0, none⟩) i i)) := by
        refine Kp.setCell ?_ (fun _ => by simp) _
        refine Kp.setCell ?_ (fun _ => by simp) _
        exact Kp.refl _ _
      refine bodyPost_ret (results_cell rfl _ _ _ ⟨b0 + 1, 0, none⟩ (.agg #[.int .i64 xt, .slice (some ⟨b0 + 2, 0, none⟩) i i]) (by go_simp) (by go_simp)) rfl ?_
      obtain ⟨hc1, hc2, hc3, hc4⟩ := HCS.out
      have hbz := HBZ.out
      have hsm : Sm wr ((wr.setCell ⟨b0 + 1, 0, none⟩ (.int .i64 xt)).setCell ⟨b0 + 1, 1, none⟩ (.slice (some ⟨b0 + 2, 0, none⟩) i i)) ([b0 + 2] ++ bss.flatten) := fun k hk => KS.block k (HAP.out.2 k hk).2 (fun e => by
        subst e
        rcases List.mem_append.1 hk with hk | hk
        · simp at hk
        · have := HGE.out _ hk; omega)
      have hrow : RowO (VaO n b0) b0 34 1 ((wr.setCell ⟨b0 + 1, 0, none⟩ (.int .i64 xt)).setCell ⟨b0 + 1, 1, none⟩ (.slice (some ⟨b0 + 2, 0, none⟩) i i)) (.slice (some ⟨b0 + 2, 0, none⟩) i i) xl rows bss := by
        have hcs : cs = rows.flatten := by rw [← hc2, List.take_of_length_le (by omega)]
        refine ⟨?_, by rw [hc3, HN.out], by rw [hc4, HN.out], ?_, fun j y hy => ?_⟩
        · rw [HN.out, ← hcs]
          exact own_of_blk ((hsm (b0 + 2) (by simp)).trans HB2.out) hc1 (by omega) (by unfold maxLen; omega)
        · intro r hr
          obtain ⟨j, hj, ej⟩ := List.getElem_of_mem hr
          obtain ⟨r', b, g1, _, g3⟩ := HEA.out j (xl[j]'(by rw [HN.out]; omega)) (by omega) (List.getElem?_eq_getElem _)
          rw [List.getElem?_eq_getElem hj, ej] at g1
          cases g1
          obtain ⟨T, u, e, _⟩ := g3.one
          rw [e]; rfl
        · have hj := (List.getElem?_eq_some_iff.1 hy).1
          obtain ⟨r', b, g1, g2, g3⟩ := HEA.out j y (by rw [HN.out] at hj; exact hj) hy
          exact ⟨r', b, g1, g2, g3.sm (hsm.mono fun k hk => List.mem_append.2 (.inr (List.mem_flatten.2 ⟨b, List.mem_of_getElem? g2, hk⟩)))⟩
      rw [hbz]
      refine ⟨_, allB (.slice (some ⟨b0 + 2, 0, none⟩) i i) bss, rfl, ⟨_, rows, bss, rfl, H64.out, hrow, rfl⟩, HAP.out.mono KS.size, ?_⟩
      have := hbel.trans (KS.toBelow hbel.size (B := w.heap.size) (fun q e => by omega))
      rwa [hbz] at this
end Go.Proofs.Ytlmkgbdcpphofaa

/- (value.entry).back. Rest and tree of a node; Tree of a value. Tree of a value. Tags and Get of a node. -/
import Derived.Test.YtlmkgbdcpphofaaVbMath
import Derived.Test.YtlmkgbdcpphofaaVoEnt
import Derived.Test.YtlmkgbdcpphofaaVoNode
import Derived.Test.YtlmkgbdcpphofaaVaTree
import Derived.OwnWalk
/- (value.entry).back. -/
namespace Go.Proofs.Ytlmkgbdcpphofaa
open Go.ChangeShapes Go.WideShapes Go.ChangeAt Go.RowKit
set_option linter.unusedVariables false
set_option linter.unusedSimpArgs false
set_option maxRecDepth 20000

theorem infoTre : (Try.prog.info? 25).map (fun i => (i.zero, i.size, i.bytes)) = some (some (.agg #[.int .i64 0, .int .i64 0, .string ⟨#[]⟩, .slice none 0 0, .slice none 0 0]), 5, 80) := by kernel_rfl
/-- What back answers. -/
def BakP (n : Nat) (e : Int × List Tr) (w : World) (e' : Ending) (w' : World) : Prop := ∃ vt bs, e' = .returned (.agg #[.int .i64 e.1, vt]) ∧ EnO (TrO n w.heap.size) w.heap.size w' [.int .i64 e.1, vt] e bs ∧ Apt w.heap.size w' bs ∧ Below w.heap.size w w'
set_option maxHeartbeats 4000000 in
theorem back_step (n : Nat) (IH : ∀ t x w, VaC n w [x] t → SmN n t → Calls Try.prog 20 #[.agg #[x]] w (CopyP n t w)) (e : Int × List Tr) (vt : Value) (w : World) (h : VasC n w vt e.2) (h64 : Is64 e.1) (hsm : ∀ x ∈ e.2, SmN n x) (hl : e.2.length ≤ 70) :
    Calls Try.prog 87 #[.agg #[.int .i64 e.1, vt]] w (BakP n e w) := by
  obtain ⟨ta, tc, rfl, t1, t2, -⟩ := RowP.open h
  obtain ⟨N, hN⟩ : ∃ N, e.2.length = N := ⟨_, rfl⟩
  have HH : Hid (VasC n w (.slice ta N tc) e.2) := (by rw [← hN]; exact h : VasC n w (.slice ta N tc) e.2)
  rw [hN] at t1 hl ⊢
  have HN : Hid (e.2.length = N) := hN
  unfold maxLen at t2
  clear h hN
  obtain ⟨xt, xl⟩ := e
  simp only at *
  obtain ⟨i0, hi0, hz0, hz1, hz2⟩ := info_parts infoTre
  have hmk : (Instr.makeSlice 48 (.int .i64 (N : Int)) (.int .i64 (N : Int))).run Try.prog ((w.alloc (Obj.cells #[.int .i64 xt, .slice ta N tc] 91)).alloc (Obj.cells #[.int .i64 0, .slice none 0 0] 50)) = .ok (.slice (some ⟨w.heap.size + 2, 0, none⟩) N N) (((w.alloc (Obj.cells #[.int .i64 xt, .slice ta N tc] 91)).alloc (Obj.cells #[.int .i64 0, .slice none 0 0] 50)).alloc (.cells (madeCells #[.int .i64 0, .int .i64 0, .string ⟨#[]⟩, .slice none 0 0, .slice none 0 0] (N * 5)) 25)) := by
    have := run_makeSlice (P := Try.prog) ((w.alloc (Obj.cells #[.int .i64 xt, .slice ta N tc] 91)).alloc (Obj.cells #[.int .i64 0, .slice none 0 0] 50)) 48 25 i0 _ Try.underlying48 hi0 hz0 .i64 .i64 N N (by omega) (by omega) (by rw [hz1]; simp; omega) (by rw [hz2]; omega) (by omega)
    rw [hz1] at this
    simp only [Int.toNat_natCast] at this
    rw [show ((w.alloc (Obj.cells #[.int .i64 xt, .slice ta N tc] 91)).alloc (Obj.cells #[.int .i64 0, .slice none 0 0] 50)).heap.size = w.heap.size + 2 from by simp] at this
    exact this
  have hb0 : Below w.heap.size w (((w.alloc (Obj.cells #[.int .i64 xt, .slice ta N tc] 91)).alloc (Obj.cells #[.int .i64 0, .slice none 0 0] 50)).alloc (.cells (madeCells #[.int .i64 0, .int .i64 0, .string ⟨#[]⟩, .slice none 0 0, .slice none 0 0] (N * 5)) 25)) := (((Below.refl _ _).alloc (Nat.le_refl _) _).alloc (by simp) _).alloc (by simp; omega) _
  have B0 : Blk (((w.alloc (Obj.cells #[.int .i64 xt, .slice ta N tc] 91)).alloc (Obj.cells #[.int .i64 0, .slice none 0 0] 50)).alloc (.cells (madeCells #[.int .i64 0, .int .i64 0, .string ⟨#[]⟩, .slice none 0 0, .slice none 0 0] (N * 5)) 25)) w.heap.size #[.int .i64 xt, .slice ta N tc] 91 := (Blk.new w _ _).below (((Below.refl _ _).alloc (Nat.le_refl _) _).alloc (by simp) _)
  have B1 : Blk (((w.alloc (Obj.cells #[.int .i64 xt, .slice ta N tc] 91)).alloc (Obj.cells #[.int .i64 0, .slice none 0 0] 50)).alloc (.cells (madeCells #[.int .i64 0, .int .i64 0, .string ⟨#[]⟩, .slice none 0 0, .slice none 0 0] (N * 5)) 25)) (w.heap.size + 1) #[.int .i64 0, .slice none 0 0] 50 := (blk_new2T w _ _ _).below ((Below.refl _ _).alloc (Nat.le_refl _) _)
  have B2 : Blk (((w.alloc (Obj.cells #[.int .i64 xt, .slice ta N tc] 91)).alloc (Obj.cells #[.int .i64 0, .slice none 0 0] 50)).alloc (.cells (madeCells #[.int .i64 0, .int .i64 0, .string ⟨#[]⟩, .slice none 0 0, .slice none 0 0] (N * 5)) 25)) (w.heap.size + 2) (madeCells #[.int .i64 0, .int .i64 0, .string ⟨#[]⟩, .slice none 0 0, .slice none 0 0] (N * 5)).toList.toArray 25 := by
    have := Blk.new ((w.alloc (Obj.cells #[.int .i64 xt, .slice ta N tc] 91)).alloc (Obj.cells #[.int .i64 0, .slice none 0 0] 50)) (madeCells #[.int .i64 0, .int .i64 0, .string ⟨#[]⟩, .slice none 0 0, .slice none 0 0] (N * 5)) 25
    rw [show ((w.alloc (Obj.cells #[.int .i64 xt, .slice ta N tc] 91)).alloc (Obj.cells #[.int .i64 0, .slice none 0 0] 50)).heap.size = w.heap.size + 2 from by simp] at this
    simpa using this
  have hlen : (madeCells #[.int .i64 0, .int .i64 0, .string ⟨#[]⟩, .slice none 0 0, .slice none 0 0] (N * 5)).toList.length = N * 5 := by rw [Array.length_toList, size_madeCells]
  have HI : Hid (∀ t x w, VaC n w [x] t → SmN n t → Calls Try.prog 20 #[.agg #[x]] w (CopyP n t w)) := IH
  have HOK : Hid (∀ x ∈ xl, SmN n x) := hsm
  have H64 : Hid (Is64 xt) := h64
  clear IH hsm h64 hi0 hz0 hz1 hz2
  go_enter Try.func87, Try.ntmps87
  go_wp2_with fail
  clear hmk
  generalize (((w.alloc (Obj.cells #[.int .i64 xt, .slice ta N tc] 91)).alloc (Obj.cells #[.int .i64 0, .slice none 0 0] 50)).alloc (.cells (madeCells #[.int .i64 0, .int .i64 0, .string ⟨#[]⟩, .slice none 0 0, .slice none 0 0] (N * 5)) 25)) = WA at *
  generalize (madeCells #[.int .i64 0, .int .i64 0, .string ⟨#[]⟩, .slice none 0 0, .slice none 0 0] (N * 5)).toList = cs0 at *
  obtain ⟨b0, hb0'⟩ : ∃ b, w.heap.size = b := ⟨_, rfl⟩
  have HBZ : Hid (w.heap.size = b0) := hb0'
  rw [hb0'] at B0 B1 B2 ⊢
  clear hb0'
  have a1 := (B0.cell 1).trans rfl
  go_wp2_with fail
  clear a1
  go_loopw [13] (fun iv wr => ∃ (i : Nat) (cs : List Value) (rows : List (List Value)) (bss : List (List Nat)), iv = .int .i64 (i : Int) ∧ i ≤ N ∧ Hid (cs.length = N * 5 ∧ cs.take (i * 5) = rows.flatten ∧ rows.length = i ∧ bss.length = i) ∧ Hid (∀ (j : Nat) (x : Tr), j < i → xl[j]? = some x → ∃ r b, rows[j]? = some r ∧ bss[j]? = some b ∧ TrO n b0 wr r x b) ∧ Hid (Apt b0 wr ([b0 + 2] ++ bss.flatten)) ∧ Hid (∀ k ∈ bss.flatten, b0 + 2 ≤ k) ∧ Hid (Blk wr (b0 + 2) cs.toArray 25) ∧ Hid (Blk wr b0 #[.int .i64 xt, .slice ta N tc] 91) ∧ Hid (Blk wr (b0 + 1) #[.int .i64 0, .slice none 0 0] 50) ∧ Below w.heap.size w wr) (fun iv _ => N - (intOf iv).toNat)
  case atStart => exact ⟨0, cs0, [], [], rfl, by omega, ⟨hlen, by simp, rfl, rfl⟩, (fun j x hj => absurd hj (by omega) : ∀ (j : Nat) (x : Tr), j < 0 → xl[j]? = some x → ∃ r b, ([] : List (List Value))[j]? = some r ∧ ([] : List (List Nat))[j]? = some b ∧ TrO n b0 WA r x b), (⟨by simp, by have := B2.lt; simp; omega⟩ : Apt b0 WA ([b0 + 2] ++ [].flatten)), (by simp : ∀ k ∈ ([] : List (List Nat)).flatten, b0 + 2 ≤ k), B2, B0, B1, hb0⟩
  case round =>
    clear hlen B0 B1 B2 hb0
    obtain ⟨i, cs, rows, bss, rfl, hi, HCS, HEA, HAP, HGE, HB2, HB0, HB1, hbel⟩ := hrel
    by_cases hlt : i < N
    · obtain ⟨x, hx⟩ : ∃ r, xl[i]? = some r := ⟨_, List.getElem?_eq_getElem (by rw [HN.out]; exact hlt)⟩
      obtain ⟨g, off, rfl, k1⟩ := (HH.out.belowV hbel).get hx
      obtain ⟨T, u, y0, y5⟩ := vas_at k1
      have HX : Hid (xl[i]? = some x) := hx
      have hal : Below wr.heap.size wr (wr.alloc (Obj.cells #[.iface T u] 34)) := (Below.refl _ _).alloc (Nat.le_refl _) _
      have hbA : Below w.heap.size w (wr.alloc (Obj.cells #[.iface T u] 34)) := hbel.trans (hal.mono hbel.size)
      have HCA : Hid (Calls Try.prog 20 #[.agg #[.iface T u]] (wr.alloc (Obj.cells #[.iface T u] 34)) (CopyP n x (wr.alloc (Obj.cells #[.iface T u] 34)))) := HI.out x _ _ (y5.below hal) (HOK.out x (List.mem_of_getElem? hx))
      clear k1 hx y5
      go_wp2_with fail
      refine HCA.out.mono ?_
      rintro e w2 ⟨xv, bs, rfl, ⟨r, rfl, hV, hA⟩, hb2⟩
      obtain ⟨z1, n1, e1, z2, n2, e2, rfl⟩ := hV.open
      have hb3 : Below wr.heap.size wr w2 := hal.trans (hb2.mono hal.size)
      have hbw : Below w.heap.size w w2 := hbel.trans (hb3.mono hbel.size)
      have hwr : b0 ≤ wr.heap.size := by have := HB2.out.lt; omega
      have HV2 : Hid (TrO n b0 w2 [Value.int .i64 x.kind, Value.int .i64 x.n, Value.string x.s, Value.slice z1 n1 e1, Value.slice z2 n2 e2] x bs) := hV.base (by simp; omega)
      have HB2' := HB2.out.below hb3
      obtain ⟨o0, s0⟩ : ∃ o, w2.cell? ⟨b0 + 2, i * 5, none⟩ = some o := ⟨_, (HB2'.cell (i * 5)).trans (by simp only [List.getElem?_toArray]; exact List.getElem?_eq_getElem (by rw [HCS.out.1]; omega))⟩
      have f0 := HB2'.froz (i * 5)
      obtain ⟨o1, s1⟩ : ∃ o, w2.cell? ⟨b0 + 2, i * 5 + 1, none⟩ = some o := ⟨_, (HB2'.cell (i * 5 + 1)).trans (by simp only [List.getElem?_toArray]; exact List.getElem?_eq_getElem (by rw [HCS.out.1]; omega))⟩
      have f1 := HB2'.froz (i * 5 + 1)
      obtain ⟨o2, s2⟩ : ∃ o, w2.cell? ⟨b0 + 2, i * 5 + 2, none⟩ = some o := ⟨_, (HB2'.cell (i * 5 + 2)).trans (by simp only [List.getElem?_toArray]; exact List.getElem?_eq_getElem (by rw [HCS.out.1]; omega))⟩
      have f2 := HB2'.froz (i * 5 + 2)
      obtain ⟨o3, s3⟩ : ∃ o, w2.cell? ⟨b0 + 2, i * 5 + 3, none⟩ = some o := ⟨_, (HB2'.cell (i * 5 + 3)).trans (by simp only [List.getElem?_toArray]; exact List.getElem?_eq_getElem (by rw [HCS.out.1]; omega))⟩
      have f3 := HB2'.froz (i * 5 + 3)
      obtain ⟨o4, s4⟩ : ∃ o, w2.cell? ⟨b0 + 2, i * 5 + 4, none⟩ = some o := ⟨_, (HB2'.cell (i * 5 + 4)).trans (by simp only [List.getElem?_toArray]; exact List.getElem?_eq_getElem (by rw [HCS.out.1]; omega))⟩
      have f4 := HB2'.froz (i * 5 + 4)
      have HA2 : Hid (Apt b0 w2 ([b0 + 2] ++ (bss ++ [bs]).flatten)) := (((HAP.out.mono hal.size).append hA (by simp; omega) (by simp) (by have := hb2.size; exact this)).of_count fun k => by simp only [List.flatten_append, List.flatten_cons, List.flatten_nil, List.append_nil, List.count_append]; omega : Apt b0 w2 ([b0 + 2] ++ (bss ++ [bs]).flatten))
      have HGE5 : Hid (∀ k ∈ (bss ++ [bs]).flatten, b0 + 2 ≤ k) := fun k hk => by
        simp only [List.flatten_append, List.flatten_cons, List.flatten_nil, List.append_nil, List.mem_append] at hk
        rcases hk with hk | hk
        · exact HGE.out k hk
        · have h1 := (hA.2 k hk).1
          have h2 := HB2.out.lt
          simp at h1
          omega
      have hne : ∀ k ∈ (bss ++ [bs]).flatten, k ≠ b0 + 2 := fun k hk e => by
        have := (List.nodup_cons.1 HA2.out.1).1
        subst e
        exact this hk
      have HNE : Hid (∀ k ∈ (bss ++ [bs]).flatten, k ≠ b0 + 2) := hne
      have HB0' : Hid (Blk w2 b0 #[.int .i64 xt, .slice (some ⟨g, off, none⟩) N tc] 91) := HB0.out.below hb3
      have HB1' : Hid (Blk w2 (b0 + 1) #[.int .i64 0, .slice none 0 0] 50) := HB1.out.below hb3
      have HEA2 : Hid (∀ (j : Nat) (x : Tr), j < i → xl[j]? = some x → ∃ r b, rows[j]? = some r ∧ bss[j]? = some b ∧ TrO n b0 w2 r x b) := fun j y hj hy => by
        obtain ⟨r, b, g1, g2, g3⟩ := HEA.out j y hj hy
        exact ⟨r, b, g1, g2, g3.sm (Sm.below hb3 fun k hk => (HAP.out.2 k (List.mem_append.2 (.inr (List.mem_flatten.2 ⟨b, List.mem_of_getElem? g2, hk⟩)))).2)⟩
      have HBB : Hid (Blk w2 (b0 + 2) cs.toArray 25) := HB2'
      clear hV hA hb2 hb3 hal hbA HB0 HB1 HB2 HEA HAP HB2' hne hbel HCA y0
      go_wp2_with fail
      have KS : Kp (fun q => q = b0 + 2) w2 (((((w2.setCell ⟨b0 + 2, i * 5, none⟩ (Value.int .i64 x.kind)).setCell ⟨b0 + 2, i * 5 + 1, none⟩ (Value.int .i64 x.n)).setCell ⟨b0 + 2, i * 5 + 2, none⟩ (Value.string x.s)).setCell ⟨b0 + 2, i * 5 + 3, none⟩ (Value.slice z1 n1 e1)).setCell ⟨b0 + 2, i * 5 + 4, none⟩ (Value.slice z2 n2 e2)) := by
        refine Kp.setCell ?_ (fun _ => by simp) _
        refine Kp.setCell ?_ (fun _ => by simp) _
        refine Kp.setCell ?_ (fun _ => by simp) _
        refine Kp.setCell ?_ (fun _ => by simp) _
        refine Kp.setCell ?_ (fun _ => by simp) _
        exact Kp.refl _ _
      obtain ⟨hc1, hc2, hc3, hc4⟩ := HCS.out
      have hB5 : Blk (((((w2.setCell ⟨b0 + 2, i * 5, none⟩ (Value.int .i64 x.kind)).setCell ⟨b0 + 2, i * 5 + 1, none⟩ (Value.int .i64 x.n)).setCell ⟨b0 + 2, i * 5 + 2, none⟩ (Value.string x.s)).setCell ⟨b0 + 2, i * 5 + 3, none⟩ (Value.slice z1 n1 e1)).setCell ⟨b0 + 2, i * 5 + 4, none⟩ (Value.slice z2 n2 e2)) (b0 + 2) (((((cs.set (i * 5) (Value.int .i64 x.kind)).set (i * 5 + 1) (Value.int .i64 x.n)).set (i * 5 + 2) (Value.string x.s)).set (i * 5 + 3) (Value.slice z1 n1 e1)).set (i * 5 + 4) (Value.slice z2 n2 e2)).toArray 25 := by
        have g0 : Blk (w2.setCell ⟨b0 + 2, i * 5, none⟩ (Value.int .i64 x.kind)) (b0 + 2) (cs.set (i * 5) (Value.int .i64 x.kind)).toArray 25 := HBB.out.set (i * 5) _ (by simp)
        have g1 : Blk ((w2.setCell ⟨b0 + 2, i * 5, none⟩ (Value.int .i64 x.kind)).setCell ⟨b0 + 2, i * 5 + 1, none⟩ (Value.int .i64 x.n)) (b0 + 2) ((cs.set (i * 5) (Value.int .i64 x.kind)).set (i * 5 + 1) (Value.int .i64 x.n)).toArray 25 := g0.set (i * 5 + 1) _ (by simp)
        have g2 : Blk (((w2.setCell ⟨b0 + 2, i * 5, none⟩ (Value.int .i64 x.kind)).setCell ⟨b0 + 2, i * 5 + 1, none⟩ (Value.int .i64 x.n)).setCell ⟨b0 + 2, i * 5 + 2, none⟩ (Value.string x.s)) (b0 + 2) (((cs.set (i * 5) (Value.int .i64 x.kind)).set (i * 5 + 1) (Value.int .i64 x.n)).set (i * 5 + 2) (Value.string x.s)).toArray 25 := g1.set (i * 5 + 2) _ (by simp)
        have g3 : Blk ((((w2.setCell ⟨b0 + 2, i * 5, none⟩ (Value.int .i64 x.kind)).setCell ⟨b0 + 2, i * 5 + 1, none⟩ (Value.int .i64 x.n)).setCell ⟨b0 + 2, i * 5 + 2, none⟩ (Value.string x.s)).setCell ⟨b0 + 2, i * 5 + 3, none⟩ (Value.slice z1 n1 e1)) (b0 + 2) ((((cs.set (i * 5) (Value.int .i64 x.kind)).set (i * 5 + 1) (Value.int .i64 x.n)).set (i * 5 + 2) (Value.string x.s)).set (i * 5 + 3) (Value.slice z1 n1 e1)).toArray 25 := g2.set (i * 5 + 3) _ (by simp)
        have g4 : Blk (((((w2.setCell ⟨b0 + 2, i * 5, none⟩ (Value.int .i64 x.kind)).setCell ⟨b0 + 2, i * 5 + 1, none⟩ (Value.int .i64 x.n)).setCell ⟨b0 + 2, i * 5 + 2, none⟩ (Value.string x.s)).setCell ⟨b0 + 2, i * 5 + 3, none⟩ (Value.slice z1 n1 e1)).setCell ⟨b0 + 2, i * 5 + 4, none⟩ (Value.slice z2 n2 e2)) (b0 + 2) (((((cs.set (i * 5) (Value.int .i64 x.kind)).set (i * 5 + 1) (Value.int .i64 x.n)).set (i * 5 + 2) (Value.string x.s)).set (i * 5 + 3) (Value.slice z1 n1 e1)).set (i * 5 + 4) (Value.slice z2 n2 e2)).toArray 25 := g3.set (i * 5 + 4) _ (by simp)
        exact g4
      have HB5 : Hid (Blk (((((w2.setCell ⟨b0 + 2, i * 5, none⟩ (Value.int .i64 x.kind)).setCell ⟨b0 + 2, i * 5 + 1, none⟩ (Value.int .i64 x.n)).setCell ⟨b0 + 2, i * 5 + 2, none⟩ (Value.string x.s)).setCell ⟨b0 + 2, i * 5 + 3, none⟩ (Value.slice z1 n1 e1)).setCell ⟨b0 + 2, i * 5 + 4, none⟩ (Value.slice z2 n2 e2)) (b0 + 2) (((((cs.set (i * 5) (Value.int .i64 x.kind)).set (i * 5 + 1) (Value.int .i64 x.n)).set (i * 5 + 2) (Value.string x.s)).set (i * 5 + 3) (Value.slice z1 n1 e1)).set (i * 5 + 4) (Value.slice z2 n2 e2)).toArray 25) := hB5
      have HCS5 : Hid ((((((cs.set (i * 5) (Value.int .i64 x.kind)).set (i * 5 + 1) (Value.int .i64 x.n)).set (i * 5 + 2) (Value.string x.s)).set (i * 5 + 3) (Value.slice z1 n1 e1)).set (i * 5 + 4) (Value.slice z2 n2 e2)).length = N * 5 ∧ (((((cs.set (i * 5) (Value.int .i64 x.kind)).set (i * 5 + 1) (Value.int .i64 x.n)).set (i * 5 + 2) (Value.string x.s)).set (i * 5 + 3) (Value.slice z1 n1 e1)).set (i * 5 + 4) (Value.slice z2 n2 e2)).take ((i + 1) * 5) = (rows ++ [[Value.int .i64 x.kind, Value.int .i64 x.n, Value.string x.s, Value.slice z1 n1 e1, Value.slice z2 n2 e2]]).flatten ∧ (rows ++ [[Value.int .i64 x.kind, Value.int .i64 x.n, Value.string x.s, Value.slice z1 n1 e1, Value.slice z2 n2 e2]]).length = i + 1 ∧ (bss ++ [bs]).length = i + 1) := by
        refine ⟨by simp [hc1], ?_, by simp [hc3], by simp [hc4]⟩
        rw [take_five (by omega), hc2]
        simp
      generalize (((((w2.setCell ⟨b0 + 2, i * 5, none⟩ (Value.int .i64 x.kind)).setCell ⟨b0 + 2, i * 5 + 1, none⟩ (Value.int .i64 x.n)).setCell ⟨b0 + 2, i * 5 + 2, none⟩ (Value.string x.s)).setCell ⟨b0 + 2, i * 5 + 3, none⟩ (Value.slice z1 n1 e1)).setCell ⟨b0 + 2, i * 5 + 4, none⟩ (Value.slice z2 n2 e2)) = WS at *
      generalize (((((cs.set (i * 5) (Value.int .i64 x.kind)).set (i * 5 + 1) (Value.int .i64 x.n)).set (i * 5 + 2) (Value.string x.s)).set (i * 5 + 3) (Value.slice z1 n1 e1)).set (i * 5 + 4) (Value.slice z2 n2 e2)) = cs5 at *
      have hsm : ∀ b, b ∈ bss ++ [bs] → Sm w2 WS b := fun b hb k hk => by
        have hk' : k ∈ (bss ++ [bs]).flatten := List.mem_flatten.2 ⟨b, hb, hk⟩
        exact KS.block k (HA2.out.2 k (List.mem_append.2 (.inr hk'))).2 (HNE.out k hk')
      have HEA5 : Hid (∀ (j : Nat) (y : Tr), j < i + 1 → xl[j]? = some y → ∃ r b, (rows ++ [[Value.int .i64 x.kind, Value.int .i64 x.n, Value.string x.s, Value.slice z1 n1 e1, Value.slice z2 n2 e2]])[j]? = some r ∧ (bss ++ [bs])[j]? = some b ∧ TrO n b0 WS r y b) := fun j y hj hy => by
        rcases Nat.lt_or_eq_of_le (Nat.le_of_lt_succ hj) with h | h
        · obtain ⟨r, b, g1, g2, g3⟩ := HEA2.out j y h hy
          exact ⟨r, b, by rw [List.getElem?_append_left (by omega)]; exact g1, by rw [List.getElem?_append_left (by omega)]; exact g2, g3.sm (hsm b (List.mem_append.2 (.inl (List.mem_of_getElem? g2))))⟩
        · subst h
          have hxy : x = y := Option.some.inj (HX.out.symm.trans hy)
          subst hxy
          exact ⟨_, bs, by rw [List.getElem?_append_right (by omega), hc3]; simp, by rw [List.getElem?_append_right (by omega), hc4]; simp, HV2.out.sm (hsm bs (by simp))⟩
      have hbw5 : Below w.heap.size w WS := hbw.trans (KS.toBelow hbw.size (fun q e => by have := HBZ.out; omega))
      go_roundw
      case rel => exact ⟨i + 1, _, _, _, by go_num, by omega, HCS5, HEA5, HA2.out.mono KS.size, HGE5, HB5, HB0'.out.kp KS (by omega), HB1'.out.kp KS (by omega), hbw5⟩
      case measure => simp [intOf]; omega
    · obtain rfl : i = N := by omega
      have a0 := (HB0.out.cell 0).trans rfl
      have r0 := (HB1.out.cell 0).trans rfl
      have r1 := (HB1.out.cell 1).trans rfl
      have f0 := HB1.out.froz 0
      have f1 := HB1.out.froz 1
      go_wp2_with fail
      have KS : Kp (fun q => q = b0 + 1) wr ((wr.setCell ⟨b0 + 1, 0, none⟩ (.int .i64 xt)).setCell ⟨b0 + 1, 1, none⟩ (.slice (some ⟨b0 + 2, 0, none⟩) i i)) := by
        refine Kp.setCell ?_ (fun _ => by simp) _
        refine Kp.setCell ?_ (fun _ => by simp) _
        exact Kp.refl _ _
      refine bodyPost_ret (results_cell rfl _ _ _ ⟨b0 + 1, 0, none⟩ (.agg #[.int .i64 xt, .slice (some ⟨b0 + 2, 0, none⟩) i i]) (by go_simp) (by go_simp)) rfl ?_
      obtain ⟨hc1, hc2, hc3, hc4⟩ := HCS.out
      have hbz := HBZ.out
      have hsm : Sm wr ((wr.setCell ⟨b0 + 1, 0, none⟩ (.int .i64 xt)).setCell ⟨b0 + 1, 1, none⟩ (.slice (some ⟨b0 + 2, 0, none⟩) i i)) ([b0 + 2] ++ bss.flatten) := fun k hk => KS.block k (HAP.out.2 k hk).2 (fun e => by
        subst e
        rcases List.mem_append.1 hk with hk | hk
        · simp at hk
        · have := HGE.out _ hk; omega)
      have hrow : RowO (TrO n b0) b0 25 5 ((wr.setCell ⟨b0 + 1, 0, none⟩ (.int .i64 xt)).setCell ⟨b0 + 1, 1, none⟩ (.slice (some ⟨b0 + 2, 0, none⟩) i i)) (.slice (some ⟨b0 + 2, 0, none⟩) i i) xl rows bss := by
        have hcs : cs = rows.flatten := by rw [← hc2, List.take_of_length_le (by omega)]
        refine ⟨?_, by rw [hc3, HN.out], by rw [hc4, HN.out], ?_, fun j y hy => ?_⟩
        · rw [HN.out, ← hcs]
          exact own_of_five ((hsm (b0 + 2) (by simp)).trans HB2.out) hc1 (by omega) (by unfold maxLen; omega)
        · intro r hr
          obtain ⟨j, hj, ej⟩ := List.getElem_of_mem hr
          obtain ⟨r', b, g1, _, g3⟩ := HEA.out j (xl[j]'(by rw [HN.out]; omega)) (by omega) (List.getElem?_eq_getElem _)
          rw [List.getElem?_eq_getElem hj, ej] at g1
          cases g1
          obtain ⟨z1, n1, e1, z2, n2, e2, e⟩ := g3.open
          rw [e]; rfl
        · have hj := (List.getElem?_eq_some_iff.1 hy).1
          obtain ⟨r', b, g1, g2, g3⟩ := HEA.out j y (by rw [HN.out] at hj; exact hj) hy
          exact ⟨r', b, g1, g2, g3.sm (hsm.mono fun k hk => List.mem_append.2 (.inr (List.mem_flatten.2 ⟨b, List.mem_of_getElem? g2, hk⟩)))⟩
      unfold BakP
      rw [hbz]
      refine ⟨_, allB (.slice (some ⟨b0 + 2, 0, none⟩) i i) bss, rfl, ⟨_, rows, bss, rfl, H64.out, hrow, rfl⟩, HAP.out.mono KS.size, ?_⟩
      have := hbel.trans (KS.toBelow hbel.size (B := w.heap.size) (fun q e => by omega))
      rwa [hbz] at this
end Go.Proofs.Ytlmkgbdcpphofaa
/- Rest and tree of a node; Tree of a value. -/
namespace Go.Proofs.Ytlmkgbdcpphofaa
open Go.ChangeShapes Go.WideShapes Go.ChangeAt Go.RowKit
set_option linter.unusedVariables false
set_option linter.unusedSimpArgs false
set_option maxRecDepth 20000

theorem nrest_any {w : World} {g : Nat} {vn vr : Value} {l : List Fd} (hB : Blk w g #[vn, vr] 89) (hr : RowG w vr 4 (fdRows l)) (hl : l.length ≤ 1000) :
    Calls Try.prog 23 #[.pointer (some ⟨g, 0, none⟩)] w fun e w' => ∃ r, e = .returned r ∧ w'.ownsRow w.heap.size 83 4 r l.length (rawCells l) ∧ Below w.heap.size w w' := by
  have HC : Hid (Calls Try.prog 45 #[vr] w fun e w' => ∃ r, e = .returned r ∧ w'.ownsRow w.heap.size 83 4 r l.length (rawCells l) ∧ Below w.heap.size w w') := clone_any hr hl
  obtain ⟨a, cap, rfl, -⟩ := rest_holds hr
  generalize l.length = Ln at *
  have q1 := (hB.cell 1).trans rfl
  clear hB hr
  go_enter Try.func23, Try.ntmps23
  go_wp2_with fail
  refine HC.out.mono ?_
  rintro e w1 ⟨r, rfl, ho, hb⟩
  obtain ⟨na, nc, hv⟩ := own_form ho
  subst hv
  have HO : Hid (w1.ownsRow w.heap.size 83 4 (.slice na Ln nc) Ln (rawCells l)) := ho
  clear ho HC
  go_wp2_with fail
  go_ret
  exact ⟨_, rfl, HO.out, hb⟩
/-- What stands while the tree is being made. -/
structure TdS (n B b0 gt : Nat) (ve vr : Value) (es : List (Int × List Tr)) (fs : List Fd) (rows : List (List Value)) (bss : List (List Nat)) (w : World) : Prop where
  row : RowO (EnO (TrO n B) B) B 50 2 w ve es rows bss
  rst : w.ownsRow B 83 4 vr fs.length (rawCells fs)
  tr : Blk w gt #[.int .i64 3, .int .i64 0, .string ⟨#[]⟩, ve, vr] 25
  rb : Blk w b0 #[.int .i64 0, .int .i64 0, .string ⟨#[]⟩, .slice none 0 0, .slice none 0 0] 25
theorem TdS.sm {n B b0 gt : Nat} {ve vr : Value} {es : List (Int × List Tr)} {fs : List Fd} {rows : List (List Value)} {bss : List (List Nat)} {w w' : World} (h : TdS n B b0 gt ve vr es fs rows bss w)
    (hs : Sm w w' ([b0, gt] ++ (blkOf vr ++ allB ve bss))) : TdS n B b0 gt ve vr es fs rows bss w' :=
  ⟨h.row.sm (hs.mono fun k hk => by simp [hk]) fun _ _ _ hp hb => hp.sm hb, own_sm h.rst (hs.mono fun k hk => by simp [hk]), (hs gt (by simp)).trans h.tr, (hs b0 (by simp)).trans h.rb⟩
theorem TdS.lt {n B b0 gt : Nat} {ve vr : Value} {es : List (Int × List Tr)} {fs : List Fd} {rows : List (List Value)} {bss : List (List Nat)} {w : World} (h : TdS n B b0 gt ve vr es fs rows bss w) {more : List Nat}
    (ap : Apt B w (([gt] ++ blkOf vr) ++ (allB ve bss ++ more))) : ∀ k ∈ [b0, gt] ++ (blkOf vr ++ allB ve bss), k < w.heap.size := fun k hk => by
  simp only [List.cons_append, List.nil_append, List.mem_cons, List.mem_append] at hk
  rcases hk with rfl | rfl | hk | hk
  · exact h.rb.lt
  · exact h.tr.lt
  · exact (ap.2 k (by simp [hk])).2
  · exact (ap.2 k (by simp [hk])).2
theorem EnO.baseE {n B B' : Nat} {w : World} {r : List Value} {e : Int × List Tr} {bs : List Nat} (h : EnO (TrO n B) B w r e bs) (hb : B' ≤ B) : EnO (TrO n B') B' w r e bs := by
  obtain ⟨vv, rows', bss', g1, g2, g3, rfl⟩ := h
  exact ⟨vv, rows', bss', g1, g2, g3.base hb fun r x b hp => hp.base hb, rfl⟩
theorem td_done {n b0 gt : Nat} {ve vr : Value} {t : Tr} {rows : List (List Value)} {bss : List (List Nat)} {w wr W : World} (hbz : w.heap.size = b0) (ht : t = ⟨3, 0, ByteArray.empty, t.es, t.rest⟩) (hrow : RowO (EnO (TrO n b0) b0) b0 50 2 wr ve t.es rows bss) (hrst : wr.ownsRow b0 83 4 vr t.rest.length (rawCells t.rest)) (hfa : Fd64 t.rest)
    (hap : Apt b0 wr (([gt] ++ blkOf vr) ++ allB ve bss)) (hge : ∀ k ∈ ([gt] ++ blkOf vr) ++ allB ve bss, b0 < k) (hbel : Below w.heap.size w wr) (KS : Kp (fun q => q = b0) wr W) : CopyP (n + 1) t w (.returned (.agg #[.int .i64 3, .int .i64 0, .string ⟨#[]⟩, ve, vr])) W := by
  have hsm : ∀ bs : List Nat, (∀ k ∈ bs, k ∈ ([gt] ++ blkOf vr) ++ allB ve bss) → Sm wr W bs := fun bs h k hk => KS.block k (hap.2 k (h k hk)).2 (fun e => by have := hge k (h k hk); omega)
  refine ⟨_, blkOf vr ++ allB ve bss, rfl, ⟨[.int .i64 3, .int .i64 0, .string ⟨#[]⟩, ve, vr], rfl, ?_, ?_⟩, hbel.trans (KS.toBelow hbel.size (fun q e => by omega))⟩
  · rw [hbz]
    have e1 : t.kind = 3 := by rw [ht]
    have e2 : t.n = 0 := by rw [ht]
    have e3 : t.s = ByteArray.empty := by rw [ht]
    refine ⟨ve, vr, rows, bss, by rw [e1, e2, e3]; rfl, by rw [e1]; exact ⟨by decide, by decide⟩, by rw [e2]; exact ⟨by decide, by decide⟩, by rw [e3]; decide, hfa, own_sm hrst (hsm _ fun k hk => by simp [hk]), hrow.sm (hsm _ fun k hk => by simp [hk]) fun _ _ _ hp hb => hp.sm hb, rfl⟩
  · rw [hbz]
    exact (hap.mono KS.size).of_count fun k => by simp only [List.count_append]; omega
set_option maxHeartbeats 8000000 in
theorem ntree_step (n : Nat) (IH : ∀ t x w, VaC n w [x] t → SmN n t → Calls Try.prog 20 #[.agg #[x]] w (CopyP n t w)) (t : Tr) (g : Nat) (vn vr0 : Value) (w : World) (hB : Blk w g #[vn, vr0] 89) (fa : Fd64 t.rest) (ra : RowG w vr0 4 (fdRows t.rest)) (ea : VesC n w vn t.es) (ht3 : t = ⟨3, 0, ByteArray.empty, t.es, t.rest⟩) (hsm : SmN (n + 1) t) :
    Calls Try.prog 86 #[.pointer (some ⟨g, 0, none⟩)] w (CopyP (n + 1) t w) := by
  have hBK := back_step n IH
  obtain ⟨pe, ce, rfl, u1, u2, -⟩ := ea.open
  unfold maxLen at u2
  obtain ⟨-, hr40, he40, -, hsub⟩ := hsm
  obtain ⟨Ke, hKe⟩ : ∃ K, t.es.length = K := ⟨_, rfl⟩
  obtain ⟨Kr, hKr⟩ : ∃ K, t.rest.length = K := ⟨_, rfl⟩
  have HT3 : Hid (t = ⟨3, 0, ByteArray.empty, t.es, t.rest⟩) := ht3
  have HEO : Hid (∀ (e : Int × List Tr), e ∈ t.es → ∀ (vt : Value) (W : World), VasC n W vt e.2 → Is64 e.1 → Calls Try.prog 87 #[.agg #[.int .i64 e.1, vt]] W (BakP n e W)) := fun e he vt W h1 h2 =>
    hBK e vt W h1 h2 (fun x hx => (hsub e he).2 x hx) (hsub e he).1
  rw [hKe] at u1 he40 hB
  rw [hKr] at hr40
  have EA : Hid (VesC n w (.slice pe Ke ce) t.es) := (by rw [← hKe]; exact ea : VesC n w (.slice pe Ke ce) t.es)
  have HKe : Hid (t.es.length = Ke) := hKe
  have HKr : Hid (t.rest.length = Kr) := hKr
  have HFA : Hid (Fd64 t.rest) := fa
  have HBN : Hid (Blk w g #[.slice pe Ke ce, vr0] 89) := hB
  have hal0 : Below w.heap.size w (w.alloc (Obj.cells #[.int .i64 0, .int .i64 0, .string ⟨#[]⟩, .slice none 0 0, .slice none 0 0] 25)) := (Below.refl _ _).alloc (Nat.le_refl _) _
  have HRS : Hid (Calls Try.prog 23 #[.pointer (some ⟨g, 0, none⟩)] (w.alloc (Obj.cells #[.int .i64 0, .int .i64 0, .string ⟨#[]⟩, .slice none 0 0, .slice none 0 0] 25)) fun e w' => ∃ r, e = .returned r ∧ w'.ownsRow (w.alloc (Obj.cells #[.int .i64 0, .int .i64 0, .string ⟨#[]⟩, .slice none 0 0, .slice none 0 0] 25)).heap.size 83 4 r t.rest.length (rawCells t.rest) ∧ Below (w.alloc (Obj.cells #[.int .i64 0, .int .i64 0, .string ⟨#[]⟩, .slice none 0 0, .slice none 0 0] 25)).heap.size (w.alloc (Obj.cells #[.int .i64 0, .int .i64 0, .string ⟨#[]⟩, .slice none 0 0, .slice none 0 0] 25)) w') := nrest_any (hB.below hal0) (ra.below hal0) (by omega)
  have HR0 : Hid (Blk (w.alloc (Obj.cells #[.int .i64 0, .int .i64 0, .string ⟨#[]⟩, .slice none 0 0, .slice none 0 0] 25)) w.heap.size #[.int .i64 0, .int .i64 0, .string ⟨#[]⟩, .slice none 0 0, .slice none 0 0] 25) := Blk.new w _ _
  clear hKe hKr ea ra fa hsub hBK IH hB ht3
  go_enter Try.func86, Try.ntmps86
  go_wp2_with fail
  refine HRS.out.mono ?_
  rintro e w1 ⟨vr, rfl, ho1, hb1⟩
  obtain ⟨ua, uc, hvr⟩ := own_form ho1
  rw [HKr.out] at hvr
  subst hvr
  have hbw1 : Below w.heap.size w w1 := hal0.trans (hb1.mono hal0.size)
  have RB1 := HR0.out.below hb1
  have hws : w.heap.size + 1 ≤ w1.heap.size := by have := hb1.size; simpa using this
  have alN : Below w1.heap.size w1 (w1.alloc (Obj.cells #[.int .i64 3, .int .i64 0, .string ⟨#[]⟩, .slice none 0 0, .slice ua Kr uc] 25)) := (Below.refl _ _).alloc (Nat.le_refl _) _
  have BN1 := (HBN.out.below hbw1).below alN
  have HTD : Hid (TdS n w.heap.size w.heap.size w1.heap.size (.slice none 0 0) (.slice ua Kr uc) (t.es.take 0) t.rest [] [] (w1.alloc (Obj.cells #[.int .i64 3, .int .i64 0, .string ⟨#[]⟩, .slice none 0 0, .slice ua Kr uc] 25))) :=
    ⟨RowO.nil _ _ _ _ _, own_base (own_below ho1 alN) (by simp), Blk.new w1 _ _, RB1.below alN⟩
  have HGE0 : Hid (∀ k ∈ ([w1.heap.size] ++ blkOf (.slice ua Kr uc)) ++ allB (.slice none 0 0) [], w.heap.size < k) := fun k hk => by
    have h1 : allB (.slice none 0 0) [] = [] := rfl
    rw [h1, List.append_nil] at hk
    rcases List.mem_cons.1 hk with rfl | hk
    · omega
    · have := (own_lt ho1 (mem_blkOf.1 hk)).1
      simp at this
      omega
  have HAP0 : Hid (Apt w.heap.size (w1.alloc (Obj.cells #[.int .i64 3, .int .i64 0, .string ⟨#[]⟩, .slice none 0 0, .slice ua Kr uc] 25)) (([w1.heap.size] ++ blkOf (.slice ua Kr uc)) ++ allB (.slice none 0 0) [])) := by
    show Apt _ _ _
    have h1 : allB (.slice none 0 0) [] = [] := rfl
    rw [h1, List.append_nil]
    refine ⟨?_, fun k hk => ?_⟩
    · rw [List.cons_append, List.nil_append, List.nodup_cons]
      refine ⟨fun h => ?_, ?_⟩
      · have := (own_lt ho1 (mem_blkOf.1 h)).2; omega
      · unfold blkOf; split <;> simp
    · rcases List.mem_cons.1 hk with rfl | hk
      · exact ⟨by omega, by simp⟩
      · have := own_lt ho1 (mem_blkOf.1 hk); exact ⟨by simp at this; omega, by simp; omega⟩
  have HNA : Hid (Below w.heap.size w (w1.alloc (Obj.cells #[.int .i64 3, .int .i64 0, .string ⟨#[]⟩, .slice none 0 0, .slice ua Kr uc] 25))) := hbw1.alloc hbw1.size _
  have HGN : Hid (w.heap.size < w1.heap.size) := (by omega : w.heap.size < w1.heap.size)
  have q0 := (BN1.cell 0).trans rfl
  clear ho1 hb1 hbw1 RB1 hws hal0 HRS HR0 alN BN1
  go_wp2_with fail
  clear q0
  generalize (w1.alloc (Obj.cells #[.int .i64 3, .int .i64 0, .string ⟨#[]⟩, .slice none 0 0, .slice ua Kr uc] 25)) = W0 at *
  generalize w1.heap.size = gt at *
  obtain ⟨b0, hb0'⟩ : ∃ b, w.heap.size = b := ⟨_, rfl⟩
  have HBZ : Hid (w.heap.size = b0) := hb0'
  rw [hb0'] at HTD HAP0 HGN HGE0 ⊢
  clear hb0'
  go_loopw [14] (fun iv wr => ∃ (i : Nat) (va : Option Addr) (vc : Nat) (rows : List (List Value)) (bss : List (List Nat)), iv = .int .i64 (i : Int) ∧ i ≤ Ke ∧ Hid (TdS n b0 b0 gt (.slice va i vc) (.slice ua Kr uc) (t.es.take i) t.rest rows bss wr) ∧ Hid (Apt b0 wr (([gt] ++ blkOf (.slice ua Kr uc)) ++ allB (.slice va i vc) bss)) ∧ Hid (∀ k ∈ ([gt] ++ blkOf (.slice ua Kr uc)) ++ allB (.slice va i vc) bss, b0 < k) ∧ Below w.heap.size w wr) (fun iv _ => Ke - (intOf iv).toNat)
  case atStart => exact ⟨0, none, 0, [], [], rfl, by omega, HTD, HAP0, HGE0, HNA.out⟩
  case round =>
    clear HTD HAP0 HNA HGE0
    obtain ⟨i, va, vc, rows, bss, rfl, hi, HNS, HAP, HGE, hbel⟩ := hrel
    by_cases hlt : i < Ke
    · obtain ⟨x, hx⟩ : ∃ r, t.es[i]? = some r := ⟨_, List.getElem?_eq_getElem (by rw [HKe.out]; exact hlt)⟩
      obtain ⟨ge, off, rfl, cc⟩ := (EA.out.belowVe hbel).get hx
      obtain ⟨vt, p0, p1, p2, p3⟩ := ves_at cc
      obtain ⟨pt, ct, rfl, -⟩ := p3.open
      have HX : Hid (t.es[i]? = some x) := hx
      have HEX : Hid (∀ W, Below wr.heap.size wr W → Calls Try.prog 87 #[.agg #[.int .i64 x.1, .slice pt x.2.length ct]] W fun e' w' => ∃ vv bs, e' = .returned (.agg #[.int .i64 x.1, vv]) ∧ EnO (TrO n W.heap.size) W.heap.size w' [.int .i64 x.1, vv] x bs ∧ Apt W.heap.size w' bs ∧ Below W.heap.size W w') := fun W hW => HEO.out x (List.mem_of_getElem? hx) _ W (p3.belowV hW) p2
      clear hx cc p2 p3
      generalize x.2.length = Xl at *
      obtain ⟨xt, hxt⟩ : ∃ z, x.1 = z := ⟨_, rfl⟩
      rw [hxt] at p0 HEX
      clear hxt
      go_wp2_with fail
      clear p0 p1
      refine M_region (T := fun W => W.cell? ⟨gt, 3, none⟩ = some (.slice va i vc) ∧ W.cell? ⟨wr.heap.size, 0, none⟩ = some (.int .i64 xt) ∧ W.cell? ⟨wr.heap.size, 1, none⟩ = some (.slice pt Xl ct)) (m := 7) (by kernel_rfl) ?_
      have hdr : Below wr.heap.size wr (wr.alloc (Obj.cells #[.int .i64 xt, .slice pt Xl ct] 91)).drew := ((Below.refl _ _).alloc (Nat.le_refl _) _).drew
      have BE0 : Blk (wr.alloc (Obj.cells #[.int .i64 xt, .slice pt Xl ct] 91)).drew wr.heap.size #[.int .i64 xt, .slice pt Xl ct] 91 := Blk.new wr _ _
      have HNSd : Hid (TdS n b0 b0 gt (.slice va i vc) (.slice ua Kr uc) (t.es.take i) t.rest rows bss (wr.alloc (Obj.cells #[.int .i64 xt, .slice pt Xl ct] 91)).drew) := HNS.out.sm (Sm.below hdr (HNS.out.lt (more := []) (by simpa using HAP.out)))
      have HAPd : Hid (Apt b0 (wr.alloc (Obj.cells #[.int .i64 xt, .slice pt Xl ct] 91)).drew (([gt] ++ blkOf (.slice ua Kr uc)) ++ allB (.slice va i vc) bss)) := HAP.out.mono hdr.size
      have hbd : Below w.heap.size w (wr.alloc (Obj.cells #[.int .i64 xt, .slice pt Xl ct] 91)).drew := hbel.trans (hdr.mono hbel.size)
      have HW0 : Hid (Calls Try.prog 87 #[.agg #[.int .i64 xt, .slice pt Xl ct]] (wr.alloc (Obj.cells #[.int .i64 xt, .slice pt Xl ct] 91)).drew _) := HEX.out _ hdr
      have HBL : Hid (∀ k, (Value.slice va i vc).ownBlock = some k → k < wr.heap.size) := fun k hk => (own_lt HNS.out.row.own hk).2
      generalize (wr.alloc (Obj.cells #[.int .i64 xt, .slice pt Xl ct] 91)).drew = W0 at *
      generalize wr.heap.size = be at *
      clear hdr HNS HAP hbel HEX
      have hTb : ∀ W, Blk W gt #[.int .i64 3, .int .i64 0, .string ⟨#[]⟩, .slice va i vc, .slice ua Kr uc] 25 → Blk W be #[.int .i64 xt, .slice pt Xl ct] 91 → W.cell? ⟨gt, 3, none⟩ = some (.slice va i vc) ∧ W.cell? ⟨be, 0, none⟩ = some (.int .i64 xt) ∧ W.cell? ⟨be, 1, none⟩ = some (.slice pt Xl ct) := fun W h1 h2 => ⟨h1.cell 3, h2.cell 0, h2.cell 1⟩
      have hT := hTb W0 HNSd.out.tr BE0
      refine M_take 0 18 (.pointer (some ⟨gt, 3, none⟩)) _ rfl rfl (by kernel_rfl) (by kernel_rfl) (by kernel_rfl) (by kernel_rfl) (by kernel_rfl) (fun _ _ _ h => h) (by rfl) (fun w' hw' => ?_) hT (listed' := #[true, false, false, false, false, false, false, false]) (by kernel_rfl) rfl ?_
      · obtain ⟨f0, f1, f2⟩ := hw'; go_simp
      simp only [List.setIfInBounds_toArray, List.set_cons_zero, List.set_cons_succ]
      refine M_take 1 19 (.slice va i vc) _ rfl rfl (by kernel_rfl) (by kernel_rfl) (by kernel_rfl) (by kernel_rfl) (by kernel_rfl) (fun _ _ _ h => h) (by rfl) (fun w' hw' => ?_) hT (listed' := #[true, true, false, false, false, false, false, false]) (by kernel_rfl) rfl ?_
      · obtain ⟨f0, f1, f2⟩ := hw'; go_simp
      simp only [List.setIfInBounds_toArray, List.set_cons_zero, List.set_cons_succ]
      refine M_take 2 20 (.agg #[.int .i64 xt, .slice pt Xl ct]) _ rfl rfl (by kernel_rfl) (by kernel_rfl) (by kernel_rfl) (by kernel_rfl) (by kernel_rfl) (fun _ _ _ h => h) (by rfl) (fun w' hw' => ?_) hT (listed' := #[true, true, true, false, false, false, false, false]) (by kernel_rfl) rfl ?_
      · obtain ⟨f0, f1, f2⟩ := hw'; go_simp
      simp only [List.setIfInBounds_toArray, List.set_cons_zero, List.set_cons_succ]
      refine M_call 3 21 87 #[.agg #[.int .i64 xt, .slice pt Xl ct]] rfl rfl (by kernel_rfl) (by rfl) (listed' := #[true, true, true, true, false, false, false, false]) (by kernel_rfl) (fun W => by go_simp) ?_
      refine Calls.mono HW0.out ?_
      rintro e W1 ⟨vv, bs, rfl, hO, hA, hb1⟩
      obtain ⟨a1, m1, c1, rfl⟩ : ∃ a m c, vv = .slice a m c := by
        obtain ⟨vv', _, _, e1, _, h7, _⟩ := hO
        simp at e1
        obtain ⟨_, rfl⟩ := e1
        obtain ⟨a, c, e⟩ := own_form h7.own
        exact ⟨a, _, c, e⟩
      have hbw1 : Below w.heap.size w W1 := hbd.trans (hb1.mono hbd.size)
      have BE1 := BE0.below hb1
      have HNS1 : Hid (TdS n b0 b0 gt (.slice va i vc) (.slice ua Kr uc) (t.es.take i) t.rest rows bss W1) := HNSd.out.sm (Sm.below hb1 (HNSd.out.lt (more := []) (by simpa using HAPd.out)))
      have hW0B : b0 ≤ W0.heap.size := by have := HNSd.out.rb.lt; omega
      have HAP1 : Hid (Apt b0 W1 (([gt] ++ blkOf (.slice ua Kr uc)) ++ (allB (.slice va i vc) bss ++ bs))) := (HAPd.out.append hA hW0B (Nat.le_refl _) hb1.size).of_count fun k => by simp only [List.count_append]; omega
      have HGE1 : Hid (∀ k ∈ ([gt] ++ blkOf (.slice ua Kr uc)) ++ (allB (.slice va i vc) bss ++ bs), b0 < k) := fun k hk => by
        simp only [List.mem_append] at hk
        rcases hk with hk | hk | hk
        · exact HGE.out k (by simp only [List.mem_append]; exact .inl hk)
        · exact HGE.out k (by simp only [List.mem_append]; exact .inr hk)
        · have h1 := (hA.2 k hk).1
          have h2 := HNSd.out.rb.lt
          omega
      have HVE : Hid (EnO (TrO n b0) b0 W1 [.int .i64 xt, .slice a1 m1 c1] x bs) := hO.baseE hW0B
      have hT1 := hTb W1 HNS1.out.tr BE1
      refine ⟨_, rfl, hT1, ?_⟩
      simp only [List.setIfInBounds_toArray, List.set_cons_zero, List.set_cons_succ]
      clear HNSd HAPd hbd hO hA hT HGE BE0 HW0
      have hal : Below W1.heap.size W1 (W1.alloc (.cells #[.int .i64 xt, .slice a1 m1 c1] 50)) := (Below.refl _ _).alloc (Nat.le_refl _) _
      have hbw3 : Below w.heap.size w (W1.alloc (.cells #[.int .i64 xt, .slice a1 m1 c1] 50)) := hbw1.trans (hal.mono hbw1.size)
      have BN := Blk.new W1 #[.int .i64 xt, .slice a1 m1 c1] 50
      have BE3 := BE1.below hal
      have HNS3 : Hid (TdS n b0 b0 gt (.slice va i vc) (.slice ua Kr uc) (t.es.take i) t.rest rows bss (W1.alloc (.cells #[.int .i64 xt, .slice a1 m1 c1] 50))) := HNS1.out.sm (Sm.below hal (HNS1.out.lt (more := bs) HAP1.out))
      have HAP3 : Hid (Apt b0 (W1.alloc (.cells #[.int .i64 xt, .slice a1 m1 c1] 50)) (([gt] ++ blkOf (.slice ua Kr uc)) ++ (allB (.slice va i vc) bss ++ bs))) := HAP1.out.mono hal.size
      have HVE3 : Hid (EnO (TrO n b0) b0 (W1.alloc (.cells #[.int .i64 xt, .slice a1 m1 c1] 50)) [.int .i64 xt, .slice a1 m1 c1] x bs) := HVE.out.sm (Sm.below hal fun k hk => (HAP1.out.2 k (by simp only [List.mem_append]; exact .inr (.inr hk))).2)
      have hW3B : b0 ≤ (W1.alloc (.cells #[.int .i64 xt, .slice a1 m1 c1] 50)).heap.size := by have := hb1.size; simp; omega
      have hbeW : be < (W1.alloc (.cells #[.int .i64 xt, .slice a1 m1 c1] 50)).heap.size := BE3.lt
      have hT3 := hTb _ HNS3.out.tr BE3
      have HNW : Hid (w.heap.size ≤ (W1.alloc (.cells #[.int .i64 xt, .slice a1 m1 c1] 50)).heap.size) := hbw3.size
      obtain ⟨bz, hbz⟩ : ∃ n, W1.heap.size = n := ⟨_, rfl⟩
      refine M_run 4 22 (.slice (some ⟨W1.heap.size, 0, none⟩) 1 1) ((W1.alloc (.cells #[.int .i64 xt, .slice a1 m1 c1] 50))) rfl rfl (by kernel_rfl) (by rfl) (listed' := #[true, true, true, true, true, false, false, false]) (by kernel_rfl) (by go_simp) hT3 ?_
      simp only [List.setIfInBounds_toArray, List.set_cons_zero, List.set_cons_succ]
      rw [hbz] at BN ⊢
      generalize (W1.alloc (.cells #[.int .i64 xt, .slice a1 m1 c1] 50)) = W3 at *
      clear hbz hal HNS1 HAP1 HVE BE1 hbw1 hT1 hb1
      obtain ⟨i0, hi0, hz0, hz1, hz2⟩ := info_parts infoEt
      have hown := HNS3.out.row.own
      have hlj : (t.es.take i).length = i := by rw [List.length_take, HKe.out]; omega
      rw [hlj] at hown
      obtain ⟨v', W4, r1, r2, r3, _, r5⟩ := run_append_own_at W3 b0 22 22 50 i0 _ 2 32 Try.underlying22 hi0 hz0 hz1 hz2 rfl (by decide) (.slice va i vc) i _ hown ⟨bz, 0, none⟩ 1 1 [.int .i64 xt, .slice a1 m1 c1] rfl (fun j u hu => by
        have := BN.cell j
        rw [Addr.add_lit, Nat.zero_add, this]
        simpa using hu) (fun u hu => by
        simp only [List.mem_cons, List.not_mem_nil, or_false] at hu
        rcases hu with rfl | rfl <;> rfl) (by unfold maxLen; omega) (by omega) hW3B
      have HRUN : Hid _ := r1
      have HROW4 : Hid (RowO (EnO (TrO n b0) b0) b0 50 2 W4 v' (t.es.take (i + 1)) (rows ++ [[.int .i64 xt, .slice a1 m1 c1]]) (bss ++ [bs])) := by
        show RowO _ _ _ _ _ _ _ _ _
        rw [take_atQ HX.out]
        exact HNS3.out.row.push (HAP3.out.of_count fun k => by simp only [List.count_append]; omega) (by rw [hlj]; exact r2) r3 HVE3.out rfl fun _ _ _ hp hb => hp.sm hb
      have HAP4 : Hid (Apt b0 W4 (([gt] ++ blkOf (.slice ua Kr uc)) ++ allB v' (bss ++ [bs]))) := HAP3.out.push r5 r2 r3.size hW3B
      have HGE4 : Hid (∀ k ∈ ([gt] ++ blkOf (.slice ua Kr uc)) ++ allB v' (bss ++ [bs]), b0 < k) := fun k hk => by
        simp only [allB, List.flatten_append, List.flatten_cons, List.flatten_nil, List.append_nil, List.mem_append] at hk
        rcases hk with hk | hk | hk | hk
        · exact HGE1.out k (by simp only [List.mem_append]; exact .inl hk)
        · rcases r5 with e | e
          · exact HGE1.out k (by simp only [allB, List.mem_append]; exact .inr (.inl (.inl (mem_blkOf.2 (by rw [← e]; exact mem_blkOf.1 hk)))))
          · have := mem_blkOf.1 hk
            rw [e] at this
            have h2 := HNS3.out.rb.lt
            have h3 : W3.heap.size = k := Option.some.inj this
            omega
        · exact HGE1.out k (by simp only [allB, List.mem_append]; exact .inr (.inl (.inr hk)))
        · exact HGE1.out k (by simp only [List.mem_append]; exact .inr (.inr hk))
      have hno : ∀ k ∈ ([gt] ++ blkOf (.slice ua Kr uc)), k ∉ blkOf (.slice va i vc) := fun k hk hq => HAP3.out.apart k hk (by simp [allB, hq])
      have hsm4 : ∀ q : Nat, q < W3.heap.size → q ∉ blkOf (.slice va i vc) → W4.heap[q]? = W3.heap[q]? := fun q h1 h2 => r3.block q h1 (fun e => h2 (mem_blkOf.2 e.symm))
      have BN4 : Blk W4 gt #[.int .i64 3, .int .i64 0, .string ⟨#[]⟩, .slice va i vc, .slice ua Kr uc] 25 := (hsm4 gt HNS3.out.tr.lt (hno gt (by simp))).trans HNS3.out.tr
      have BX4 : Blk W4 b0 #[.int .i64 0, .int .i64 0, .string ⟨#[]⟩, .slice none 0 0, .slice none 0 0] 25 := (hsm4 b0 HNS3.out.rb.lt (fun hq => by have := HGE1.out b0 (by simp only [allB, List.mem_append]; exact .inr (.inl (.inl hq))); omega)).trans HNS3.out.rb
      have BE4 : Blk W4 be #[.int .i64 xt, .slice pt Xl ct] 91 := (hsm4 be hbeW (fun hq => by have := HBL.out be (mem_blkOf.1 hq); omega)).trans BE3
      have HO4 : Hid (W4.ownsRow b0 83 4 (.slice ua Kr uc) t.rest.length (rawCells t.rest)) := own_sm HNS3.out.rst fun k hk => hsm4 k (own_lt HNS3.out.rst (mem_blkOf.1 hk)).2 (hno k (by simp [hk]))
      have hbw4 : Below w.heap.size w W4 := hbw3.grown r3 HNW.out (fun k hk => by have := (own_lt hown hk).1; have := HBZ.out; omega)
      have hT4 := hTb W4 BN4 BE4
      obtain ⟨na, nc, hv'⟩ := own_form r2
      subst hv'
      clear r1 r2 r3 r5 hown HNS3 HAP3 HVE3 BE3 hbw3 hT3 BN hno hsm4 HGE1
      refine M_run 5 23 (.slice na (i + 1) nc) (W4) rfl rfl (by kernel_rfl) (by rfl) (listed' := #[true, true, true, true, true, true, false, false]) (by kernel_rfl) (append_run rfl rfl rfl HRUN.out) hT4 ?_
      simp only [List.setIfInBounds_toArray, List.set_cons_zero, List.set_cons_succ]
      clear HRUN
      refine M_take 6 24 (.pointer (some ⟨gt, 3, none⟩)) _ rfl rfl (by kernel_rfl) (by kernel_rfl) (by kernel_rfl) (by kernel_rfl) (by kernel_rfl) (fun _ _ _ h => h) (by rfl) (fun w' hw' => ?_) hT4 (listed' := #[true, true, true, true, true, true, true, false]) (by kernel_rfl) rfl ?_
      · obtain ⟨f0, f1, f2⟩ := hw'; go_simp
      simp only [List.setIfInBounds_toArray, List.set_cons_zero, List.set_cons_succ]
      have s1 := (BN4.cell 3).trans rfl
      have s2 := BN4.froz 3
      refine M_store 7 (W4.setCell ⟨gt, 3, none⟩ (.slice na (i + 1) nc)) rfl rfl (by kernel_rfl) (by rfl) (listed' := #[true, true, true, true, true, true, true, true]) (by kernel_rfl) (by go_simp) (by kernel_rfl) ?_
      refine M_done (by kernel_rfl) ?_ _
      have KS : Kp (fun q => q = gt) W4 (W4.setCell ⟨gt, 3, none⟩ (.slice na (i + 1) nc)) := by
        refine Kp.setCell ?_ (fun _ => by simp) _
        exact Kp.refl _ _
      have hnb : ∀ k ∈ blkOf (.slice ua Kr uc) ++ allB (.slice na (i + 1) nc) (bss ++ [bs]), k ≠ gt := fun k hk e => by
        subst e
        exact (HAP4.out.of_count (cs := [k] ++ (blkOf (.slice ua Kr uc) ++ allB (.slice na (i + 1) nc) (bss ++ [bs]))) fun q => by simp only [List.count_append]; omega).apart k (by simp) hk
      have hsm5 : ∀ bs : List Nat, (∀ k ∈ bs, k < W4.heap.size) → (∀ k ∈ bs, k ≠ gt) → Sm W4 (W4.setCell ⟨gt, 3, none⟩ (.slice na (i + 1) nc)) bs := fun bs h1 h2 k hk => KS.block k (h1 k hk) (h2 k hk)
      have hgn0 := HGN.out
      have HNS5 : Hid (TdS n b0 b0 gt (.slice na (i + 1) nc) (.slice ua Kr uc) (t.es.take (i + 1)) t.rest (rows ++ [[.int .i64 xt, .slice a1 m1 c1]]) (bss ++ [bs]) (W4.setCell ⟨gt, 3, none⟩ (.slice na (i + 1) nc))) :=
        ⟨HROW4.out.sm (hsm5 _ (fun k hk => (HAP4.out.2 k (List.mem_append.2 (.inr hk))).2) fun k hk => hnb k (List.mem_append.2 (.inr hk))) fun _ _ _ hp hb => hp.sm hb, own_sm HO4.out (hsm5 _ (fun k hk => (own_lt HO4.out (mem_blkOf.1 hk)).2) fun k hk => hnb k (List.mem_append.2 (.inl hk))), BN4.set 3 _ rfl, BX4.kp KS (by omega)⟩
      have HAP5 : Hid (Apt b0 (W4.setCell ⟨gt, 3, none⟩ (.slice na (i + 1) nc)) (([gt] ++ blkOf (.slice ua Kr uc)) ++ allB (.slice na (i + 1) nc) (bss ++ [bs]))) := HAP4.out.mono KS.size
      have hbw5 : Below w.heap.size w (W4.setCell ⟨gt, 3, none⟩ (.slice na (i + 1) nc)) := hbw4.trans (KS.toBelow hbw4.size (fun q e => by have := HBZ.out; omega))
      generalize (W4.setCell ⟨gt, 3, none⟩ (.slice na (i + 1) nc)) = W5 at *
      clear s1 s2 KS BN4 BX4 BE4 HROW4 HAP4 HO4 hbw4 hT4 hTb hsm5 hnb
      go_wp2_with fail
      go_roundw
      case rel => exact ⟨i + 1, _, _, _, _, by go_num, by omega, HNS5, HAP5, HGE4, hbw5⟩
      case measure => simp [intOf]; omega
    · obtain rfl : i = Ke := by omega
      obtain ⟨hrow, hrst, htr, hrb⟩ := HNS.out
      rw [List.take_of_length_le (by rw [HKe.out]; omega)] at hrow
      have HROW : Hid (RowO (EnO (TrO n b0) b0) b0 50 2 wr (.slice va i vc) t.es rows bss) := hrow
      have HRST : Hid (wr.ownsRow b0 83 4 (.slice ua Kr uc) t.rest.length (rawCells t.rest)) := hrst
      have q0 := (htr.cell 0).trans rfl
      have q1 := (htr.cell 1).trans rfl
      have q2 := (htr.cell 2).trans rfl
      have q3 := (htr.cell 3).trans rfl
      have q4 := (htr.cell 4).trans rfl
      have c0 := (hrb.cell 0).trans rfl
      have c1 := (hrb.cell 1).trans rfl
      have c2 := (hrb.cell 2).trans rfl
      have c3 := (hrb.cell 3).trans rfl
      have c4 := (hrb.cell 4).trans rfl
      have z0 := hrb.froz 0
      have z1 := hrb.froz 1
      have z2 := hrb.froz 2
      have z3 := hrb.froz 3
      have z4 := hrb.froz 4
      clear hrow hrst htr hrb HNS
      go_wp2_with fail
      refine bodyPost_ret (results_cell rfl _ _ _ ⟨b0, 0, none⟩ (.agg #[.int .i64 3, .int .i64 0, .string ⟨#[]⟩, .slice va i vc, .slice ua Kr uc]) (by go_simp) (by go_simp)) rfl ?_
      refine td_done HBZ.out HT3.out HROW.out HRST.out HFA.out HAP.out HGE.out hbel ?_
      refine Kp.setCell ?_ (fun _ => by simp) _
      refine Kp.setCell ?_ (fun _ => by simp) _
      refine Kp.setCell ?_ (fun _ => by simp) _
      refine Kp.setCell ?_ (fun _ => by simp) _
      refine Kp.setCell ?_ (fun _ => by simp) _
      exact Kp.refl _ _
end Go.Proofs.Ytlmkgbdcpphofaa
/- Tree of a value. -/
namespace Go.Proofs.Ytlmkgbdcpphofaa
open Go.ChangeShapes Go.WideShapes Go.ChangeAt Go.RowKit
set_option linter.unusedVariables false
set_option linter.unusedSimpArgs false
set_option maxRecDepth 20000

theorem leaf_copy {n : Nat} {t : Tr} {w w' : World} (hk : Is64 t.kind) (hn : Is64 t.n) (hs : t.s.size ≤ 140737488351232) (he : t.es = []) (hr : t.rest = []) (hb : Below w.heap.size w w') : CopyP (n + 1) t w (.returned (.agg #[.int .i64 t.kind, .int .i64 t.n, .string t.s, .slice none 0 0, .slice none 0 0])) w' := by
  refine ⟨_, [], rfl, ⟨[.int .i64 t.kind, .int .i64 t.n, .string t.s, .slice none 0 0, .slice none 0 0], rfl, ?_, Apt.nil _ _⟩, hb⟩
  refine ⟨_, _, [], [], rfl, hk, hn, hs, by rw [hr]; simp [Fd64], by rw [hr]; exact World.ownsRow_nil _ _ _ _, by rw [he]; exact RowO.nil _ _ _ _ _, rfl⟩
set_option maxHeartbeats 2000000 in
theorem vtree_step (n : Nat) (IH : ∀ t x w, VaC n w [x] t → SmN n t → Calls Try.prog 20 #[.agg #[x]] w (CopyP n t w)) (t : Tr) (x : Value) (w : World) (h : VaC (n + 1) w [x] t) (hsm : SmN (n + 1) t) :
    Calls Try.prog 20 #[.agg #[x]] w (CopyP (n + 1) t w) := by
  rcases h with ⟨h1, h2, h3⟩ | ⟨h1, h2, h3⟩ | ⟨g, vn, vr, h1, h2, h3, h4, h5, h6⟩
  · obtain rfl := (List.cons.inj h1).1
    refine (treeNum t.n w).mono ?_
    rintro e w1 ⟨rfl, hb⟩
    have e1 : t.kind = 1 := by rw [h2]
    have e3 : t.s = ByteArray.empty := by rw [h2]
    have := leaf_copy (n := n) (t := t) (w := w) (w' := w1) (by rw [e1]; exact ⟨by decide, by decide⟩) h3 (by rw [e3]; decide) (by rw [h2]) (by rw [h2]) hb
    rw [e1, e3] at this
    exact this
  · obtain rfl := (List.cons.inj h1).1
    refine (treeStr t.s w).mono ?_
    rintro e w1 ⟨rfl, hb⟩
    have e1 : t.kind = 2 := by rw [h2]
    have e3 : t.n = 0 := by rw [h2]
    have := leaf_copy (n := n) (t := t) (w := w) (w' := w1) (by rw [e1]; exact ⟨by decide, by decide⟩) (by rw [e3]; exact ⟨by decide, by decide⟩) h3 (by rw [h2]) (by rw [h2]) hb
    rw [e1, e3] at this
    exact this
  · obtain rfl := (List.cons.inj h1).1
    have HNT : Hid (∀ W, Below w.heap.size w W → Calls Try.prog 86 #[.pointer (some ⟨g, 0, none⟩)] W (CopyP (n + 1) t W)) := fun W hW => ntree_step n IH t g vn vr W (h3.below hW) h4 (h5.below hW) (h6.belowVe hW) h2 hsm
    clear h1 h2 h3 h4 h5 h6 hsm IH
    have hm := run_treeNode (.pointer (some ⟨g, 0, none⟩))
    have hbA : Below w.heap.size w ((w.alloc (Obj.cells #[.iface 39 (.pointer (some ⟨g, 0, none⟩))] 34)).alloc (Obj.cells #[.int .i64 0, .int .i64 0, .string ⟨#[]⟩, .slice none 0 0, .slice none 0 0] 25)) := ((Below.refl _ _).alloc (Nat.le_refl _) _).alloc (by simp) _
    go_enter Try.func20, Try.ntmps20
    go_wp2_with fail
    refine (HNT.out _ hbA).mono ?_
    rintro e w1 ⟨v, bs, rfl, ⟨r, rfl, hO, hA⟩, hb⟩
    have hB1 : Blk w1 (w.heap.size + 1) #[.int .i64 0, .int .i64 0, .string ⟨#[]⟩, .slice none 0 0, .slice none 0 0] 25 := Blk.below (blk_new2 w _ _ _) hb
    have hb1 : Below w.heap.size w w1 := hbA.trans (hb.mono hbA.size)
    have hA2 : ∀ k ∈ bs, w.heap.size + 1 < k ∧ k < w1.heap.size := fun k hk => by
      have := hA.2 k hk
      simp at this
      omega
    have HAP : Hid (Apt w.heap.size w1 bs) := hA.base (by simp; omega)
    have HO : Hid (TrO (n + 1) w.heap.size w1 r t bs) := hO.base (by simp; omega)
    obtain ⟨z1, n1, e1, z2, n2, e2, hr⟩ := hO.open
    subst hr
    obtain ⟨R, hR⟩ : ∃ R, w.heap.size + 1 = R := ⟨_, rfl⟩
    have hRl : w.heap.size ≤ R := by omega
    rw [hR] at hB1 hA2
    simp only [hR]
    have HA2 : Hid (∀ k ∈ bs, R < k ∧ k < w1.heap.size) := hA2
    clear hb hR hO hA hA2 hbA HNT
    have q0 := hB1.cell 0
    have q1 := hB1.cell 1
    have q2 := hB1.cell 2
    have q3 := hB1.cell 3
    have q4 := hB1.cell 4
    have z0 := hB1.froz 0
    have zz1 := hB1.froz 1
    have zz2 := hB1.froz 2
    have z3 := hB1.froz 3
    have z4 := hB1.froz 4
    simp at q0 q1 q2 q3 q4
    clear hB1
    generalize t.kind = tk at *
    generalize t.n = tn at *
    generalize t.s = ts at *
    go_wp2_with fail
    refine bodyPost_ret (results_cell rfl _ _ _ ⟨R, 0, none⟩ (.agg #[.int .i64 tk, .int .i64 tn, .string ts, .slice z1 n1 e1, .slice z2 n2 e2]) (by go_simp) (by go_simp)) rfl ?_
    have hfin : ∀ W, Kp (fun q => q = R) w1 W → CopyP (n + 1) t w (.returned (.agg #[.int .i64 tk, .int .i64 tn, .string ts, .slice z1 n1 e1, .slice z2 n2 e2])) W := fun W KS =>
      ⟨_, bs, rfl, ⟨[.int .i64 tk, .int .i64 tn, .string ts, .slice z1 n1 e1, .slice z2 n2 e2], rfl, HO.out.sm fun k hk => KS.block k (HA2.out k hk).2 (fun e => by have := (HA2.out k hk).1; omega), HAP.out.mono KS.size⟩, hb1.trans (KS.toBelow hb1.size (fun q e => by omega))⟩
    refine hfin _ ?_
    refine Kp.setCell ?_ (fun _ => by simp) _
    refine Kp.setCell ?_ (fun _ => by simp) _
    refine Kp.setCell ?_ (fun _ => by simp) _
    refine Kp.setCell ?_ (fun _ => by simp) _
    refine Kp.setCell ?_ (fun _ => by simp) _
    exact Kp.refl _ _
theorem vtree_any : ∀ (n : Nat) (t : Tr) (x : Value) (w : World), VaC n w [x] t → SmN n t → Calls Try.prog 20 #[.agg #[x]] w (CopyP n t w)
  | 0, _, _, _, h, _ => h.elim
  | n + 1, t, x, w, h, hs => vtree_step n (fun t x w h hs => vtree_any n t x w h hs) t x w h hs
end Go.Proofs.Ytlmkgbdcpphofaa
/- Tags and Get of a node. -/
namespace Go.Proofs.Ytlmkgbdcpphofaa
open Go.ChangeShapes Go.WideShapes Go.ChangeAt Go.RowKit
set_option linter.unusedVariables false
set_option linter.unusedSimpArgs false
set_option maxRecDepth 20000

theorem infoIg : (Try.prog.info? 3).map (fun i => (i.zero, i.size, i.bytes)) = some (some (.int .i64 0), 1, 8) := by kernel_rfl
def tagCells (es : List (Int × List Tr)) : List Value := es.map fun e => Value.int .i64 e.1
theorem tagCells_snoc (es : List (Int × List Tr)) (e : Int × List Tr) : tagCells (es ++ [e]) = tagCells es ++ [.int .i64 e.1] := by simp [tagCells]
theorem take_atG {α : Type} {l : List α} {i : Nat} {x : α} (h : l[i]? = some x) : l.take (i + 1) = l.take i ++ [x] := by
  obtain ⟨hl, rfl⟩ := List.getElem?_eq_some_iff.1 h
  rw [List.take_succ_eq_append_getElem hl]
set_option maxHeartbeats 2000000 in
theorem ntags_any {n : Nat} {w : World} {g : Nat} {vn vr : Value} {es : List (Int × List Tr)} (hB : Blk w g #[vn, vr] 89) (he : VesC n w vn es) (hl : es.length ≤ 1000) :
    Calls Try.prog 24 #[.pointer (some ⟨g, 0, none⟩)] w fun e w' => ∃ r, e = .returned r ∧ w'.ownsRow w.heap.size 3 1 r es.length (tagCells es) ∧ Below w.heap.size w w' := by
  obtain ⟨i0, hi, hz0, hz1, hz2⟩ := info_parts infoIg
  obtain ⟨pe, ce, rfl, u1, u2, -⟩ := he.open
  unfold maxLen at u2
  obtain ⟨Ke, hKe⟩ : ∃ K, es.length = K := ⟨_, rfl⟩
  rw [hKe] at u1 hl hB ⊢
  have EA : Hid (VesC n w (.slice pe Ke ce) es) := (by rw [← hKe]; exact he : VesC n w (.slice pe Ke ce) es)
  have HKe : Hid (es.length = Ke) := hKe
  have q0 := (hB.cell 0).trans rfl
  clear hKe he hB
  go_enter Try.func24, Try.ntmps24
  go_wp2_with fail
  clear q0
  go_loopw [3, 11] (fun ov iv wr => ∃ (i : Nat) (oa : Option Addr) (oc : Nat), iv = .int .i64 (i : Int) ∧ ov = .slice oa i oc ∧ i ≤ Ke ∧ Hid (wr.ownsRow w.heap.size 3 1 (.slice oa i oc) i (tagCells (es.take i))) ∧ Below w.heap.size w wr) (fun _ iv _ => Ke - (intOf iv).toNat)
  case atStart => exact ⟨0, none, 0, rfl, rfl, by omega, World.ownsRow_nil _ _ _ _, Below.refl _ _⟩
  case round =>
    obtain ⟨i, oa, oc, rfl, rfl, hi', HO, hbel⟩ := hrel
    by_cases hlt : i < Ke
    · obtain ⟨x, hx⟩ : ∃ r, es[i]? = some r := ⟨_, List.getElem?_eq_getElem (by rw [HKe.out]; exact hlt)⟩
      obtain ⟨ge, off, rfl, cc⟩ := (EA.out.belowVe hbel).get hx
      obtain ⟨vt, p0, p1, p2, p3⟩ := ves_at cc
      obtain ⟨ta, tc, rfl, -⟩ := RowP.open p3
      have HX : Hid (tagCells (es.take (i + 1)) = tagCells (es.take i) ++ [.int .i64 x.1]) := (by rw [take_atG hx, tagCells_snoc] : tagCells (es.take (i + 1)) = tagCells (es.take i) ++ [.int .i64 x.1])
      generalize x.2.length = Xl at *
      generalize x.1 = xt at *
      clear cc p2 p3 hx
      have hws := hbel.size
      have hown := HO.out
      go_wp2_with (first
        | (at_builtin; refine wpList_append_own _ rfl _ _ 44 rfl w.heap.size 3 i0 (.int .i64 0) 1 8 Try.underlying44 hi hz0 hz1 hz2 rfl (by decide) _ _ _ rfl ((hown.alloc _).alloc _) ⟨wr.heap.size + 1, 0, none⟩ 1 1 [.int .i64 xt] rfl rfl ?c1 ?c2 ?c3 ?c4 ?c5 ?_)
        | fail)
      case c1 =>
        intro j u hj
        match j, hj with
        | 0, hj => simp at hj; subst hj; simp [Addr.add]
      case c2 => intro u hu; simp at hu; subst hu; rfl
      case c3 => unfold maxLen; omega
      case c4 => omega
      case c5 => simp; omega
      intro v' w2 hown' hgrow _
      have hb2 : Below w.heap.size w w2 := ((hbel.alloc hws _).alloc (by simp; omega) _).grown hgrow (by simp; omega) (fun k hk => (hown.lt k hk).1)
      rw [← HX.out] at hown'
      obtain ⟨na, nc, hv'⟩ := own_form hown'
      subst hv'
      have HO2 : Hid (w2.ownsRow w.heap.size 3 1 (.slice na (i + 1) nc) (i + 1) (tagCells (es.take (i + 1)))) := hown'
      clear hown hown' hgrow HO p0 p1 hbel hws HX
      go_wp2_with fail
      go_roundw
      case rel => exact ⟨i + 1, na, nc, by go_num, rfl, by omega, HO2, hb2⟩
      case measure => simp [intOf]; omega
    · go_wp2_with fail
      go_ret
      have h5 := HO.out
      obtain rfl : i = Ke := by omega
      rw [List.take_of_length_le (by rw [HKe.out]; omega)] at h5
      exact ⟨_, rfl, h5, hbel⟩
/-- What stands under a tag. -/
def undB (es : List (Int × List Tr)) (tag : Int) : List Tr := ((es.find? fun e => e.1 == tag).map (·.2)).getD []
theorem und_yes {es : List (Int × List Tr)} {i : Nat} {x : Int × List Tr} {tag : Int} (h : es[i]? = some x) (hx : x.1 = tag) (hn : hasB (es.take i) tag = false) : undB es tag = x.2 := by
  obtain ⟨hl, rfl⟩ := List.getElem?_eq_some_iff.1 h
  have h1 : es = es.take i ++ (es[i] :: es.drop (i + 1)) := by
    rw [← List.drop_eq_getElem_cons hl, List.take_append_drop]
  have h2 : (es.take i).find? (fun e => e.1 == tag) = none := by
    rw [List.find?_eq_none]
    intro e he
    have := List.any_eq_false.1 hn e he
    simpa using this
  have h3 : es.find? (fun e => e.1 == tag) = some es[i] := by
    conv => lhs; rw [h1]
    rw [List.find?_append, h2, Option.none_or, List.find?_cons_of_pos (by simpa using hx)]
  rw [undB, h3]
  rfl
theorem und_no {es : List (Int × List Tr)} {tag : Int} (hn : hasB es tag = false) : undB es tag = [] := by
  have h2 : es.find? (fun e => e.1 == tag) = none := by
    rw [List.find?_eq_none]
    intro e he
    have := List.any_eq_false.1 hn e he
    simpa using this
  rw [undB, h2]
  rfl
theorem hasG_step {es : List (Int × List Tr)} {i : Nat} {x : Int × List Tr} {tag : Int} (h : es[i]? = some x) : hasB (es.take (i + 1)) tag = (hasB (es.take i) tag || (x.1 == tag)) := by
  rw [take_atG h, hasB, hasB, List.any_append]; simp
set_option maxHeartbeats 1000000 in
theorem cloneV_any {n : Nat} {w : World} {v : Value} {l : List Tr} (hr : VasC n w v l) (hl : l.length ≤ 1000) :
    Calls Try.prog 46 #[v] w fun e w' => ∃ r, e = .returned r ∧ VasC n w' r l ∧ Below w.heap.size w w' := by
  obtain ⟨rows, g1, g2, g3⟩ := hr
  have hone : ∀ r ∈ rows, r.length = 1 ∧ ∀ u ∈ r, u.oneCell' = true := fun r hr => by
    obtain ⟨i, hi, e⟩ := List.getElem_of_mem hr
    have ht : l[i]? = some (l[i]'(by rw [← g2]; exact hi)) := List.getElem?_eq_getElem _
    obtain ⟨r', e1, e2⟩ := g3 i _ ht
    rw [List.getElem?_eq_getElem hi, e] at e1
    cases e1
    obtain ⟨T, u, rfl⟩ := e2.one
    exact ⟨rfl, fun u' hu => by simp at hu; subst hu; rfl⟩
  have hw1 : ∀ r ∈ rows, r.length = 1 := fun r hr => (hone r hr).1
  have hc1 : ∀ u ∈ rows.flatten, u.oneCell' = true := fun u hu => by
    obtain ⟨r, hr, hu⟩ := List.mem_flatten.1 hu
    exact (hone r hr).2 u hu
  obtain ⟨a, cap, rfl, h1, h2, h4, h5⟩ := g1.form
  cases a with
  | none =>
    have hl0 : rows = [] := by
      cases rows with
      | nil => rfl
      | cons r rs =>
        obtain ⟨g, off, e, _⟩ := h5 (by simp)
        cases e
    subst hl0
    have := h4 rfl
    subst this
    have hl1 : l = [] := by simpa using g2.symm
    subst hl1
    have hq : ∀ W, (binOp .eql 46 (.slice none 0 0) (.slice none 0 0)).run Try.prog W = .ok (.bool true) W := fun W => by kernel_rfl
    simp only [List.length_nil]
    go_enter Try.func46, Try.ntmps46
    go_wp2_with fail
    go_ret
    exact ⟨_, rfl, RowP.nil _ _ _, Below.refl _ _⟩
  | some a =>
    have hal : Below w.heap.size w (w.alloc (Obj.cells #[] 34)) := (Below.refl _ _).alloc (Nat.le_refl _) _
    obtain ⟨v', W4, r1, r2, r3⟩ := run_joinG (w := w.alloc (Obj.cells #[] 34)) 46 46 34 1 16 _ Try.underlying46 infoVa rfl (by decide) w.heap.size (.slice (some ⟨w.heap.size, 0, none⟩) 0 0) 0 [] (own_empty (Blk.new w _ _) (Nat.le_refl _)) (.slice (some a) rows.length cap) rows (g1.below hal) hw1 hc1 (by omega) (by decide) hal.size
    have HRUN : Hid _ := r1
    rw [List.nil_append, Nat.zero_add] at r2
    have hb4 : Below w.heap.size w W4 := hal.grown r3 hal.size (fun q hq => by simp [Value.ownBlock] at hq; omega)
    have HO : Hid (VasC n W4 v' l) := (⟨rows, (RowG.own hw1 (by decide) r2).1, g2, fun i x hx => by
      obtain ⟨r, e1, e2⟩ := g3 i x hx
      exact ⟨r, e1, e2.below hb4⟩⟩ : VasC n W4 v' l)
    obtain ⟨na, nc, hv'⟩ := own_form r2
    subst hv'
    clear r1 r2 r3 g1 g3 h4 h5 hone hw1 hc1 hal
    generalize hLn : rows.length = Ln at *
    clear hLn g2 hl
    have hq : ∀ W, (binOp .eql 46 (.slice (some a) Ln cap) (.slice none 0 0)).run Try.prog W = .ok (.bool false) W := fun W => by kernel_rfl
    go_enter Try.func46, Try.ntmps46
    go_wp2_with (first | (at_builtin; refine wpList_ran rfl (append_run rfl rfl rfl HRUN.out) ?_) | fail)
    go_ret
    exact ⟨_, rfl, HO.out, hb4⟩
set_option maxHeartbeats 2000000 in
theorem nget_any {n : Nat} {w : World} {g : Nat} {vn vr : Value} {es : List (Int × List Tr)} (tag : Int) (hB : Blk w g #[vn, vr] 89) (he : VesC n w vn es) (hl : ∀ e ∈ es, e.2.length ≤ 1000) :
    Calls Try.prog 25 #[.pointer (some ⟨g, 0, none⟩), .int .i64 tag] w fun e w' => ∃ r, e = .returned r ∧ VasC n w' r (undB es tag) ∧ Below w.heap.size w w' := by
  obtain ⟨pe, ce, rfl, u1, u2, -⟩ := he.open
  unfold maxLen at u2
  obtain ⟨Ke, hKe⟩ : ∃ K, es.length = K := ⟨_, rfl⟩
  rw [hKe] at u1 hB
  have EA : Hid (VesC n w (.slice pe Ke ce) es) := (by rw [← hKe]; exact he : VesC n w (.slice pe Ke ce) es)
  have HKe : Hid (es.length = Ke) := hKe
  have HL : Hid (∀ e ∈ es, e.2.length ≤ 1000) := hl
  have q0 := (hB.cell 0).trans rfl
  clear hKe he hB hl
  go_enter Try.func25, Try.ntmps25
  go_wp2_with fail
  clear q0
  go_loopw [12] (fun iv wr => ∃ i : Nat, iv = .int .i64 (i : Int) ∧ i ≤ Ke ∧ Hid (hasB (es.take i) tag = false) ∧ Below w.heap.size w wr) (fun iv _ => Ke - (intOf iv).toNat)
  case atStart => exact ⟨0, rfl, by omega, (by simp [hasB] : hasB (es.take 0) tag = false), Below.refl _ _⟩
  case round =>
    obtain ⟨i, rfl, hi', HM, hbel⟩ := hrel
    by_cases hlt : i < Ke
    · obtain ⟨x, hx⟩ : ∃ r, es[i]? = some r := ⟨_, List.getElem?_eq_getElem (by rw [HKe.out]; exact hlt)⟩
      obtain ⟨ge, off, rfl, cc⟩ := (EA.out.belowVe hbel).get hx
      obtain ⟨vt, p0, p1, p2, p3⟩ := ves_at cc
      obtain ⟨ta, tc, rfl, -⟩ := RowP.open p3
      have hal : Below wr.heap.size wr (wr.alloc (Obj.cells #[.int .i64 x.1, .slice ta x.2.length tc] 91)) := (Below.refl _ _).alloc (Nat.le_refl _) _
      have hb2 : Below w.heap.size w (wr.alloc (Obj.cells #[.int .i64 x.1, .slice ta x.2.length tc] 91)) := hbel.trans (hal.mono hbel.size)
      by_cases hxt : x.1 = tag
      · have HC : Hid (Calls Try.prog 46 #[.slice ta x.2.length tc] (wr.alloc (Obj.cells #[.int .i64 x.1, .slice ta x.2.length tc] 91)) fun e w' => ∃ r, e = .returned r ∧ VasC n w' r x.2 ∧ Below (wr.alloc (Obj.cells #[.int .i64 x.1, .slice ta x.2.length tc] 91)).heap.size (wr.alloc (Obj.cells #[.int .i64 x.1, .slice ta x.2.length tc] 91)) w') := cloneV_any (p3.belowV hal) (HL.out x (List.mem_of_getElem? hx))
        have HU : Hid (undB es tag = x.2) := und_yes hx hxt HM.out
        have hq : (x.1 == tag) = true := by simpa using hxt
        clear cc p2 p3 hx hxt HM
        generalize x.2.length = Xl at *
        generalize x.1 = xt at *
        go_wp2_with fail
        refine HC.out.mono ?_
        rintro e w1 ⟨r, rfl, hv, hb⟩
        have hb3 : Below w.heap.size w w1 := hb2.trans (hb.mono hb2.size)
        obtain ⟨na, nc, rfl, -⟩ := RowP.open hv
        have HV : Hid (VasC n w1 (.slice na x.2.length nc) (undB es tag)) := (by rw [HU.out]; exact hv : VasC n w1 (.slice na x.2.length nc) (undB es tag))
        clear hv hb hb2 hbel hal p0 p1 HC HU
        generalize x.2.length = Xl at *
        go_wp2_with fail
        go_ret
        exact ⟨_, rfl, HV.out, hb3⟩
      · have hq : (x.1 == tag) = false := by simpa using hxt
        have HM2 : Hid (hasB (es.take (i + 1)) tag = false) := (by rw [hasG_step hx, HM.out, hq]; rfl : hasB (es.take (i + 1)) tag = false)
        clear cc p2 p3 hx hxt HM
        generalize x.2.length = Xl at *
        generalize x.1 = xt at *
        go_wp2_with fail
        clear p0 p1 hq hbel hal
        go_roundw
        case rel => exact ⟨i + 1, by go_num, by omega, HM2, hb2⟩
        case measure => simp [intOf]; omega
    · have HU : Hid (undB es tag = []) := (by
        have h1 := HM.out
        rw [List.take_of_length_le (by rw [HKe.out]; omega)] at h1
        exact und_no h1 : undB es tag = [])
      clear HM
      go_wp2_with fail
      go_ret
      exact ⟨_, rfl, by rw [HU.out]; exact RowP.nil _ _ _, hbel⟩
end Go.Proofs.Ytlmkgbdcpphofaa

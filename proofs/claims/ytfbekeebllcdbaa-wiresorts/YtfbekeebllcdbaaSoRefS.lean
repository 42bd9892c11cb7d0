/- What the reference's Sorted answers. -/
import Derived.Test.YtfbekeebllcdbaaSoRef
namespace Go.Proofs.Ytfbekeebllcdbaa
open Go.ChangeShapes Go.WideShapes Go.ChangeAt Go.RowKit
set_option linter.unusedVariables false
set_option linter.unusedSimpArgs false
set_option maxRecDepth 20000

theorem below_set {B g : Nat} {w W : World} (h : Below B w W) (hg : B ≤ g) (o : Nat) (v : Value) : Below B w (W.setCell ⟨g, o, none⟩ v) :=
  h.trans ⟨rfl, rfl, rfl, by simp, fun k hk => heap_setCell_other W ⟨g, o, none⟩ k v (by show k ≠ g; omega)⟩

set_option maxHeartbeats 4000000 in
theorem rsorted_any (a : Option Addr) (rs : List Fd) (N cap : Nat) (w : World) (hN : rs.length = N) (hl : N ≤ 1000000) (hadr : rs = [] ∨ ∃ g off, a = some ⟨g, off, none⟩) (hc : N ≤ cap) (hm : cap ≤ maxLen) (hh : HoldsR w a rs) :
    Calls Try.prog 25 #[.slice a N cap] w fun e w' => ∃ v, e = .returned v ∧ w'.ownsRow w.heap.size 24 4 v N (rawCells (sortF rs)) ∧ Below w.heap.size w w' := by
  obtain ⟨i0, hi0, hz0, hz1, hz2⟩ := info_parts infoRaw
  have HN : Hid (rs.length = N) := hN
  have HADR : Hid (rs = [] ∨ ∃ g off, a = some ⟨g, off, none⟩) := hadr
  have HH : Hid (HoldsR w a rs) := hh
  unfold maxLen at hm
  clear hN hadr hh
  go_enter Try.func25, Try.ntmps25
  go_wp2_with fail
  go_loopw [3, 4] (fun mv iv wr => ∃ i : Nat, iv = .int .i64 (i : Int) ∧ i ≤ N ∧ Hid (wr.ownsRow w.heap.size 24 4 mv i (rawCells (insA (rs.take i)))) ∧ Below w.heap.size w wr) (fun _ iv _ => N - (intOf iv).toNat)
  case atStart => exact ⟨0, rfl, by omega, by rw [List.take_zero]; exact World.ownsRow_nil _ _ _ _, Below.refl _ _⟩
  case round =>
    obtain ⟨i, rfl, hi, HO, hbel⟩ := hrel
    have hws := hbel.size
    by_cases hlt : i < N
    · have hr : rs[i]? = some (rs[i]'(by rw [HN.out]; exact hlt)) := List.getElem?_eq_getElem _
      generalize rs[i]'(by rw [HN.out]; exact hlt) = r at hr
      rcases HADR.out with h0 | ⟨g, off, rfl⟩
      · exact absurd hlt (by have := HN.out; rw [h0] at this; simp at this; omega)
      obtain ⟨p0, p1, p2, p3⟩ := (HH.out.below hbel).at hr
      have HNX : Hid (insA (rs.take (i + 1)) = mergeF (insA (rs.take i)) [r]) := by
        show _ = _
        rw [List.take_add_one, hr]
        exact insA_snoc _ _
      have hML := insA_all (rs.take i)
      obtain ⟨M, hM⟩ : ∃ M, insA (rs.take i) = M := ⟨_, rfl⟩
      rw [hM] at HNX HO hML
      have HRI : Hid (Rises M) := hML.1
      have HMLn : Hid (M.length = i) := by show _ = _; rw [hML.2.1, List.length_take, HN.out]; omega
      clear hr hM hML
      obtain ⟨aM, cM, hv, -⟩ := own_openR HO.out
      have e0 := HMLn.out
      rw [e0] at hv
      subst hv
      clear e0
      obtain ⟨t, kk, nn, bb⟩ := r
      simp only at p0 p1 p2 p3
      go_wp2_with (first
        | (at_builtin; refine wpList_append_own _ rfl _ _ 25 rfl w.heap.size 24 i0 _ 4 40 Try.underlying25 hi0 hz0 hz1 hz2 rfl (by decide) _ _ _ rfl (HO.out.alloc _) ⟨_, 0, none⟩ 1 1 (Fd.cells ⟨t, kk, nn, bb⟩) rfl rfl ?c1 ?c2 ?c3 ?c4 ?c5 ?_)
        | fail)
      case c1 =>
        intro j u hj
        match j, hj with
        | 0, hj | 1, hj | 2, hj | 3, hj => simp [Fd.cells] at hj; subst hj; simp [Addr.add]
      case c2 => intro u hu; simp [Fd.cells] at hu; rcases hu with rfl | rfl | rfl | rfl <;> rfl
      case c3 => unfold maxLen; omega
      case c4 => omega
      case c5 => simp; omega
      intro v w8 ho8 hg8 _
      have hb8 : Below w.heap.size w w8 := (hbel.alloc hws _).grown hg8 (by simp; omega) (fun k hk => (HO.out.lt k hk).1)
      have ho8' : w8.ownsRow w.heap.size 24 4 v (i + 1) (rawCells (M ++ [⟨t, kk, nn, bb⟩])) := by
        rw [(rawCells_snoc M _).2]
        exact ho8
      obtain ⟨a9, c9, hv9, -, h91 | ⟨g9, rfl, -, -⟩, h92, h93, -⟩ := own_openR ho8'
      · exact absurd h91.2.1 (by simp)
      rw [show (M ++ [(⟨t, kk, nn, bb⟩ : Fd)]).length = i + 1 by rw [List.length_append, HMLn.out]; rfl] at hv9 h92
      subst hv9
      unfold maxLen at h93
      have HO8 : Hid (w8.ownsRow w.heap.size 24 4 (.slice (some ⟨g9, 0, none⟩) (i + 1) c9) (i + 1) (rawCells (M ++ [⟨t, kk, nn, bb⟩]))) := ho8'
      clear HO ho8 ho8' hg8 hbel p0 p1 p2 p3
      go_wp2_with fail
      go_loopw [5] (fun kv wi => ∃ (p q : List Fd) (k : Nat), kv = .int .i64 (k : Int) ∧ k ≤ i ∧ Hid (p.length = k) ∧ Hid (M = p ++ q) ∧ Hid (∀ y ∈ q, t < y.tag) ∧ Hid (wi.ownsRow w.heap.size 24 4 (.slice (some ⟨g9, 0, none⟩) (i + 1) c9) (i + 1) (rawCells (p ++ ⟨t, kk, nn, bb⟩ :: q))) ∧ Below w.heap.size w wi) (fun kv _ => (intOf kv).toNat)
      case atStart => exact ⟨M, [], i, rfl, Nat.le_refl _, HMLn, (by simp : M = M ++ []), (by simp : ∀ y ∈ ([] : List Fd), t < y.tag), HO8, hb8⟩
      case round =>
        obtain ⟨p, q, k, rfl, hki, HPL, HMP, HQ, HOW, hbi⟩ := hrel
        cases k with
        | zero =>
          obtain rfl : p = [] := List.eq_nil_of_length_eq_zero HPL.out
          have HEND : Hid (insA (rs.take (i + 1)) = [] ++ ⟨t, kk, nn, bb⟩ :: q) := by show _ = _; rw [HNX.out]; exact insA_at HMP.out HRI.out HQ.out (by simp)
          clear HPL HMP HQ HNX HRI HMLn HO8
          go_wp2_with fail
          go_quiet (fail)
          have hbn := below_drewN nq hbi
          go_wp2_with fail
          go_roundw
          case rel => exact ⟨i + 1, by go_num, by omega, by rw [HEND.out]; exact HOW.out, hbn⟩
          case measure => simp [intOf]; omega
        | succ j =>
          have hwj : IntKind.i64.wrap (j : Int) = (j : Int) := by rw [IntKind.wrap_i64]; omega
          obtain ⟨p', y, rfl⟩ : ∃ p' y, p = p' ++ [y] := by
            rcases List.eq_nil_or_concat p with h | ⟨p', y, h⟩
            · have := HPL.out; rw [h] at this; simp at this
            · exact ⟨p', y, by rw [h, List.concat_eq_append]⟩
          have HPL' : Hid (p'.length = j) := by show _ = _; have := HPL.out; simpa using this
          have hre : p' ++ [y] ++ ⟨t, kk, nn, bb⟩ :: q = p' ++ y :: ⟨t, kk, nn, bb⟩ :: q := by simp
          rw [hre] at HOW
          have hH : HoldsR wr (some ⟨g9, 0, none⟩) (p' ++ y :: ⟨t, kk, nn, bb⟩ :: q) := by
            intro b hb jj u hu
            obtain rfl : ⟨g9, 0, none⟩ = b := by simpa using hb
            exact HOW.out.cells (g := g9) rfl jj u hu
          obtain ⟨c0, c1, c2, c3⟩ := hH.at (i := j) (r := y) (by rw [List.getElem?_append_right (by rw [HPL'.out]; exact Nat.le_refl _), HPL'.out]; simp)
          obtain ⟨d0, d1, d2, d3⟩ := hH.at (i := j + 1) (r := ⟨t, kk, nn, bb⟩) (by rw [List.getElem?_append_right (by rw [HPL'.out]; omega), HPL'.out]; simp)
          simp only [Nat.zero_add] at c0 c1 c2 c3 d0 d1 d2 d3
          have fz : ∀ o, wr.frozen? ⟨g9, o, none⟩ = false := fun o => HOW.out.frozenAt o
          obtain ⟨yt, yk, yn, yb⟩ := y
          simp only at c0 c1 c2 c3
          clear hH hre HPL HO8
          by_cases hyt : t < yt
          · have hd : decide (t < yt) = true := by simp [hyt]
            have HQ2 : Hid (∀ z ∈ (⟨yt, yk, yn, yb⟩ : Fd) :: q, t < z.tag) := by
              intro z hz
              rcases List.mem_cons.1 hz with rfl | hz
              · exact hyt
              · exact HQ.out z hz
            have HMP2 : Hid (M = p' ++ ⟨yt, yk, yn, yb⟩ :: q) := by show _ = _; rw [HMP.out]; simp
            clear HQ HMP
            go_wp2_with fail
            go_quiet (fail)
            go_wp2_with fail
            go_region
            have hg9 : w.heap.size ≤ g9 := (HOW.out.lt g9 rfl).1
            have hsw := swap_own (w := wr.drewN (nq + 1)) (p := p') (q := q) (y := ⟨yt, yk, yn, yb⟩) (x := ⟨t, kk, nn, bb⟩) HOW.out (j * 4) (by rw [HPL'.out]) ((j + 1) * 4) (by omega)
            have hbs := (below_set (below_set (below_set (below_set (below_set (below_set (below_set (below_set (below_drewN (nq + 1) hbi) hg9 (j * 4) (.int .i64 t)) hg9 (j * 4 + 1) (.int .i64 kk)) hg9 (j * 4 + 2) (.int .i64 nn)) hg9 (j * 4 + 3) (.string bb)) hg9 ((j + 1) * 4) (.int .i64 yt)) hg9 ((j + 1) * 4 + 1) (.int .i64 yk)) hg9 ((j + 1) * 4 + 2) (.int .i64 yn)) hg9 ((j + 1) * 4 + 3) (.string yb))
            simp only at hsw
            generalize ((((((((wr.drewN (nq + 1)).setCell ⟨g9, j * 4, none⟩ (.int .i64 t)).setCell ⟨g9, j * 4 + 1, none⟩ (.int .i64 kk)).setCell ⟨g9, j * 4 + 2, none⟩ (.int .i64 nn)).setCell ⟨g9, j * 4 + 3, none⟩ (.string bb)).setCell ⟨g9, (j + 1) * 4, none⟩ (.int .i64 yt)).setCell ⟨g9, (j + 1) * 4 + 1, none⟩ (.int .i64 yk)).setCell ⟨g9, (j + 1) * 4 + 2, none⟩ (.int .i64 yn)).setCell ⟨g9, (j + 1) * 4 + 3, none⟩ (.string yb) = w9 at *
            have HSW : Hid (w9.ownsRow w.heap.size 24 4 (.slice (some ⟨g9, 0, none⟩) (i + 1) c9) (i + 1) (rawCells (p' ++ ⟨t, kk, nn, bb⟩ :: (⟨yt, yk, yn, yb⟩ : Fd) :: q))) := hsw
            clear c0 c1 c2 c3 d0 d1 d2 d3 fz HOW hsw
            go_wp2_with fail
            go_roundw
            case rel => exact ⟨p', ⟨yt, yk, yn, yb⟩ :: q, j, by first | rfl | go_num, by omega, HPL', HMP2, HQ2, HSW, hbs⟩
            case measure => simp [intOf]
          · have hd : decide (t < yt) = false := by simp; omega
            have HEND : Hid (insA (rs.take (i + 1)) = (p' ++ [⟨yt, yk, yn, yb⟩]) ++ ⟨t, kk, nn, bb⟩ :: q) := by
              show _ = _
              rw [HNX.out]
              exact insA_at HMP.out HRI.out HQ.out (by intro z hz; simp at hz; subst hz; simp; omega)
            have HOW2 : Hid (wr.ownsRow w.heap.size 24 4 (.slice (some ⟨g9, 0, none⟩) (i + 1) c9) (i + 1) (rawCells ((p' ++ [⟨yt, yk, yn, yb⟩]) ++ ⟨t, kk, nn, bb⟩ :: q))) := by
              show World.ownsRow _ _ _ _ _ _ _
              have := HOW.out
              simpa using this
            clear HQ HMP HNX HRI HMLn HOW
            go_wp2_with fail
            go_quiet (fail)
            have hbn := below_drewN nq hbi
            clear c0 c1 c2 c3 d0 d1 d2 d3 fz
            go_wp2_with fail
            go_roundw
            case rel => exact ⟨i + 1, by go_num, by omega, by rw [HEND.out]; exact HOW2.out, hbn⟩
            case measure => simp [intOf]; omega
    · obtain rfl : N = i := by omega
      have h1 := HO.out
      rw [List.take_of_length_le (by rw [HN.out]; exact Nat.le_refl _), insA_sortF] at h1
      have HF := (show Hid _ from h1)
      clear h1 HO
      go_wp2_with fail
      go_ret
      exact ⟨_, rfl, HF.out, hbel⟩
end Go.Proofs.Ytfbekeebllcdbaa

/- All trees of a level's lists. -/
import Derived.Test.YtgedelgdjcnogaaTvMsgs
namespace Go.Proofs.Ytgedelgdjcnogaa
open Go.ChangeShapes Go.WideShapes Go.ChangeAt Go.RowKit
set_option linter.unusedVariables false
set_option linter.unusedSimpArgs false
set_option maxRecDepth 20000

theorem infoTq : (Try.prog.info? 25).map (fun i => (i.zero, i.size, i.bytes)) = some (some (.agg #[.int .i64 0, .int .i64 0, .string ⟨#[]⟩, .slice none 0 0, .slice none 0 0]), 5, 80) := by kernel_rfl
/-- Cells side by side with the trees that they are. -/
def SideT (n : Nat) (w : World) (rows : List (List Value)) (ts : List Tr) : Prop := rows.length = ts.length ∧ ∀ (i : Nat) (r : List Value) (t : Tr), rows[i]? = some r → ts[i]? = some t → TrQ n w r t
theorem SideT.append {n : Nat} {w : World} {rows rs : List (List Value)} {ts us : List Tr} (h : SideT n w rows ts) (k : SideT n w rs us) : SideT n w (rows ++ rs) (ts ++ us) := by
  refine ⟨by simp [h.1, k.1], fun i r t hr ht => ?_⟩
  by_cases hi : i < rows.length
  · rw [List.getElem?_append_left hi] at hr
    rw [List.getElem?_append_left (by rw [← h.1]; exact hi)] at ht
    exact h.2 i r t hr ht
  · rw [List.getElem?_append_right (by omega)] at hr
    rw [List.getElem?_append_right (by rw [← h.1]; omega), ← h.1] at ht
    exact k.2 _ r t hr ht
theorem SideT.below {n : Nat} {w w1 : World} {rows : List (List Value)} {ts : List Tr} (h : SideT n w rows ts) (hb : Below w.heap.size w w1) : SideT n w1 rows ts := ⟨h.1, fun i r t hr ht => (h.2 i r t hr ht).below hb⟩
theorem TrQ.five {n : Nat} {w : World} {r : List Value} {t : Tr} (h : TrQ n w r t) : r.length = 5 ∧ ∀ u ∈ r, u.oneCell' = true := by
  cases n with
  | zero => exact h.elim
  | succ n =>
    obtain ⟨ve, vr, rfl, _, _, _, _, h6, h7, _⟩ := h
    obtain ⟨a1, c1, rfl, _⟩ := RowP.open h7
    obtain ⟨a2, c2, rfl, _⟩ := h6.form2
    refine ⟨rfl, fun u hu => ?_⟩
    simp only [List.mem_cons, List.not_mem_nil, or_false] at hu
    rcases hu with rfl | rfl | rfl | rfl | rfl <;> rfl
theorem SideT.rows {n : Nat} {w : World} {rows : List (List Value)} {ts : List Tr} (h : SideT n w rows ts) : (∀ r ∈ rows, r.length = 5) ∧ ∀ u ∈ rows.flatten, u.oneCell' = true := by
  have each : ∀ r ∈ rows, r.length = 5 ∧ ∀ u ∈ r, u.oneCell' = true := fun r hr => by
    obtain ⟨i, hi, e⟩ := List.getElem_of_mem hr
    have ht : ts[i]? = some (ts[i]'(by rw [← h.1]; exact hi)) := List.getElem?_eq_getElem _
    exact (h.2 i r _ (by rw [List.getElem?_eq_getElem hi, e]) ht).five
  refine ⟨fun r hr => (each r hr).1, fun u hu => ?_⟩
  obtain ⟨r, hr, hu⟩ := List.mem_flatten.1 hu
  exact (each r hr).2 u hu
theorem TrsQ_side {n : Nat} {w : World} {v : Value} {ts : List Tr} (h : TrsQ n w v ts) : ∃ rows, RowG w v 5 rows ∧ SideT n w rows ts := by
  obtain ⟨rows, h1, h2, h3⟩ := h
  refine ⟨rows, h1, h2, fun i r t hr ht => ?_⟩
  obtain ⟨r', e, hp⟩ := h3 i t ht
  rw [hr] at e
  cases e
  exact hp
theorem SideT.row {n : Nat} {w : World} {rows : List (List Value)} {ts : List Tr} (h : SideT n w rows ts) {B k : Nat} {v : Value} (ho : w.ownsRow B 25 5 v k rows.flatten) : TrsQ n w v ts := by
  refine ⟨rows, (RowG.own h.rows.1 (by decide) ho).1, h.1, fun i t ht => ?_⟩
  obtain ⟨r, hr⟩ : ∃ r, rows[i]? = some r := ⟨_, List.getElem?_eq_getElem (by rw [h.1]; exact (List.getElem?_eq_some_iff.1 ht).1)⟩
  exact ⟨r, hr, h.2 i r t hr ht⟩
def subsL (M : List (List (Int × List Tr))) : List Tr := M.flatMap subs
theorem subs_snoc (es : List (Int × List Tr)) (e : Int × List Tr) : subs (es ++ [e]) = subs es ++ e.2 := by simp [subs, List.flatMap_append]
theorem subsL_snoc (M : List (List (Int × List Tr))) (m : List (Int × List Tr)) : subsL (M ++ [m]) = subsL M ++ subs m := by simp [subsL, List.flatMap_append]
theorem take_atQ {α : Type} {l : List α} {i : Nat} {x : α} (h : l[i]? = some x) : l.take (i + 1) = l.take i ++ [x] := by
  obtain ⟨hl, rfl⟩ := List.getElem?_eq_some_iff.1 h
  rw [List.take_succ_eq_append_getElem hl]
theorem subs_take_le (m : List (Int × List Tr)) (j : Nat) : (subs (m.take j)).length ≤ (subs m).length := by
  have : subs m = subs (m.take j) ++ subs (m.drop j) := by rw [subs, subs, subs, ← List.flatMap_append, List.take_append_drop]
  rw [this, List.length_append]
  omega
theorem subsL_take_le (M : List (List (Int × List Tr))) (j : Nat) : (subsL (M.take j)).length ≤ (subsL M).length := by
  have : subsL M = subsL (M.take j) ++ subsL (M.drop j) := by rw [subsL, subsL, subsL, ← List.flatMap_append, List.take_append_drop]
  rw [this, List.length_append]
  omega
theorem acc_le {M : List (List (Int × List Tr))} {m : List (Int × List Tr)} {i j : Nat} (h : M[i]? = some m) : (subsL (M.take i) ++ subs (m.take j)).length ≤ (subsL M).length := by
  refine Nat.le_trans ?_ (subsL_take_le M (i + 1))
  rw [take_atQ h, subsL_snoc, List.length_append, List.length_append]
  have := subs_take_le m j
  omega
/-- What inside answers. -/
def InsP (n : Nat) (M : List (List (Int × List Tr))) (w : World) (e : Ending) (w' : World) : Prop := ∃ v, e = .returned v ∧ TrsQ n w' v (subsL M) ∧ Below w.heap.size w w'
set_option maxHeartbeats 4000000 in
theorem inside_any (n : Nat) (v : Value) (M : List (List (Int × List Tr))) (w : World) (h : LvQ n w v M) (hl : (subsL M).length ≤ 1000) :
    Calls Try.prog 35 #[v] w (InsP n M w) := by
  obtain ⟨a, cap, rfl, h1, h2, -⟩ := RowP.open h
  obtain ⟨N, hN⟩ : ∃ N, M.length = N := ⟨_, rfl⟩
  rw [hN] at h1 ⊢
  have HH : Hid (LvQ n w (.slice a N cap) M) := (by rw [← hN]; exact h : LvQ n w (.slice a N cap) M)
  have HN : Hid (M.length = N) := hN
  have HL : Hid ((subsL M).length ≤ 1000) := hl
  unfold maxLen at h2
  clear h hN hl
  go_enter Try.func35, Try.ntmps35
  go_wp2_with fail
  go_loopw [3, 10] (fun ov iv wr => ∃ (i k : Nat) (oa : Option Addr) (oc : Nat) (rows : List (List Value)), iv = .int .i64 (i : Int) ∧ ov = .slice oa k oc ∧ i ≤ N ∧ Hid (SideT n w rows (subsL (M.take i))) ∧ Hid (wr.ownsRow w.heap.size 25 5 (.slice oa k oc) k rows.flatten) ∧ Below w.heap.size w wr) (fun _ iv _ => N - (intOf iv).toNat)
  case atStart => exact ⟨0, 0, none, 0, [], rfl, rfl, by omega, (⟨rfl, by simp⟩ : SideT n w [] (subsL (M.take 0))), World.ownsRow_nil _ _ _ _, Below.refl _ _⟩
  case round =>
    obtain ⟨i, k, oa, oc, rows, rfl, rfl, hi, HS, HO, hbel⟩ := hrel
    by_cases hlt : i < N
    · obtain ⟨m, hm⟩ : ∃ r, M[i]? = some r := ⟨_, List.getElem?_eq_getElem (by rw [HN.out]; exact hlt)⟩
      obtain ⟨g, off, rfl, r, ⟨ve, rfl, he, hp⟩, hc⟩ := HH.out.get hm
      obtain ⟨ea, ec, rfl, e1, e2, -⟩ := RowP.open he
      have c0 := (hbel.cell (World.block_lt_of_cell? _ _ (hc 0 _ rfl))).trans (hc 0 _ rfl)
      simp only [Nat.mul_one, Nat.add_zero] at c0
      obtain ⟨El, hEl⟩ : ∃ N, m.length = N := ⟨_, rfl⟩
      rw [hEl] at e1 c0
      have HE : Hid (EnsQ n w (.slice ea El ec) m) := (by rw [← hEl]; exact he : EnsQ n w (.slice ea El ec) m)
      have HEl : Hid (m.length = El) := hEl
      have HM : Hid (M[i]? = some m) := hm
      unfold maxLen at e2
      clear hc he hp hm hEl
      go_wp2_with fail
      clear c0
      go_loopw [3, 16] (fun ov jv wz => ∃ (j k : Nat) (oa : Option Addr) (oc : Nat) (rows : List (List Value)), jv = .int .i64 (j : Int) ∧ ov = .slice oa k oc ∧ j ≤ El ∧ Hid (SideT n w rows (subsL (M.take i) ++ subs (m.take j))) ∧ Hid (wz.ownsRow w.heap.size 25 5 (.slice oa k oc) k rows.flatten) ∧ Below w.heap.size w wz) (fun _ jv _ => El - (intOf jv).toNat)
      case atStart => exact ⟨0, k, oa, oc, rows, rfl, rfl, by omega, (by simpa [subs] using HS.out : SideT n w rows (subsL (M.take i) ++ subs (m.take 0))), HO, hbel⟩
      case round =>
        clear HS HO hbel
        obtain ⟨j, k, oa, oc, rows, rfl, rfl, hj, HS, HO, hbel⟩ := hrel
        by_cases hlt2 : j < El
        · obtain ⟨x, hx⟩ : ∃ r, m[j]? = some r := ⟨_, List.getElem?_eq_getElem (by rw [HEl.out]; exact hlt2)⟩
          obtain ⟨ge, offe, rfl, r, ⟨vt, rfl, -, ht⟩, hc⟩ := HE.out.get hx
          obtain ⟨ta, tc, rfl, -⟩ := RowP.open ht
          have c0 := (hbel.cell (World.block_lt_of_cell? _ _ (hc 0 _ rfl))).trans (hc 0 _ rfl)
          have c1 := (hbel.cell (World.block_lt_of_cell? _ _ (hc 1 _ rfl))).trans (hc 1 _ rfl)
          simp only [Nat.add_zero] at c0
          obtain ⟨rs, hrg, hsd⟩ := TrsQ_side ht
          have hal : Below wr.heap.size wr (wr.alloc (Obj.cells #[.int .i64 x.1, .slice ta x.2.length tc] 50)) := (Below.refl _ _).alloc (Nat.le_refl _) _
          have hb2 : Below w.heap.size w (wr.alloc (Obj.cells #[.int .i64 x.1, .slice ta x.2.length tc] 50)) := hbel.trans (hal.mono hbel.size)
          have hlen : k + rs.length ≤ 1000 := by
            have h1 := acc_le (j := j + 1) HM.out
            rw [take_atQ hx, subs_snoc] at h1
            have h2 := HL.out
            have h3 := HS.out.1
            have h4 := hsd.1
            have h5 := (RowG.own HS.out.rows.1 (by decide) HO.out).2
            simp only [List.length_append] at h1 h3
            omega
          obtain ⟨v', W4, r1, r2, r3⟩ := run_joinG (w := wr.alloc (Obj.cells #[.int .i64 x.1, .slice ta x.2.length tc] 50)) 48 48 25 5 80 _ Try.underlying48 infoTq rfl (by decide) w.heap.size (.slice oa k oc) k rows.flatten (own_below HO.out hal) (.slice ta x.2.length tc) rs (hrg.below hb2) hsd.rows.1 hsd.rows.2 (by omega) (by decide) hb2.size
          have HRUN : Hid _ := r1
          have HS4 : Hid (SideT n w (rows ++ rs) (subsL (M.take i) ++ subs (m.take (j + 1)))) := (by rw [take_atQ hx, subs_snoc, ← List.append_assoc]; exact HS.out.append hsd : SideT n w (rows ++ rs) (subsL (M.take i) ++ subs (m.take (j + 1))))
          have hb4 : Below w.heap.size w W4 := hb2.grown r3 hb2.size (fun q hq => (own_lt HO.out hq).1)
          rw [← List.flatten_append] at r2
          obtain ⟨na, nc, hv'⟩ := own_form r2
          subst hv'
          have HO4 : Hid (W4.ownsRow w.heap.size 25 5 (.slice na (k + rs.length) nc) (k + rs.length) (rows ++ rs).flatten) := r2
          clear r1 r2 r3 hrg hsd hc ht hx HS HO
          generalize x.2.length = Xl at *
          generalize x.1 = xt at *
          generalize k + rs.length = k2 at *
          go_wp2_with (first | (at_builtin; refine wpList_ran rfl (append_run rfl rfl rfl HRUN.out) ?_) | fail)
          clear HRUN c0 c1 hal hb2 hbel
          go_roundw
          case rel => exact ⟨j + 1, k2, na, nc, _, by go_num, rfl, by omega, HS4, HO4, hb4⟩
          case measure => simp [intOf]; omega
        · have HS5 : Hid (SideT n w rows (subsL (M.take (i + 1)))) := (by
            have := HS.out
            rw [List.take_of_length_le (l := m) (by rw [HEl.out]; omega)] at this
            rw [take_atQ HM.out, subsL_snoc]
            exact this : SideT n w rows (subsL (M.take (i + 1))))
          clear HS
          go_wp2_with fail
          go_roundw
          case rel => exact ⟨i + 1, k, oa, oc, rows, by go_num, rfl, by omega, HS5, HO, hbel⟩
          case measure => simp [intOf]; omega
    · go_wp2_with fail
      go_ret
      have h5 := HS.out
      rw [List.take_of_length_le (by rw [HN.out]; omega)] at h5
      exact ⟨_, rfl, (h5.below hbel).row HO.out, hbel⟩
end Go.Proofs.Ytgedelgdjcnogaa

/- The reference's Rising and Sorted. -/
import Derived.Test.YtfbekeebllcdbaaSoLeaf
import Derived.Test.YtfbekeebllcdbaaWrGet
import Derived.Laws.OwnMore
import Derived.RegionTactic
import Derived.ChangeAlike
namespace Go.Proofs.Ytfbekeebllcdbaa
open Go.ChangeShapes Go.WideShapes Go.ChangeAt Go.RowKit
set_option linter.unusedVariables false
set_option linter.unusedSimpArgs false
set_option maxRecDepth 20000

set_option maxHeartbeats 1000000 in
theorem rrising_any (a : Option Addr) (rs : List Fd) (N cap : Nat) (w : World) (hN : rs.length = N) (hadr : rs = [] ∨ ∃ g off, a = some ⟨g, off, none⟩) (hc : N ≤ cap) (hm : cap ≤ maxLen) (hh : HoldsR w a rs) :
    Calls Try.prog 24 #[.slice a N cap] w fun e w' => e = .returned (.bool (risesB rs)) ∧ Below w.heap.size w w' := by
  have HN : Hid (rs.length = N) := hN
  have HA : Hid (rs = [] ∨ ∃ g off, a = some ⟨g, off, none⟩) := hadr
  have HH : Hid (HoldsR w a rs) := hh
  obtain ⟨R, hR⟩ : ∃ R, risesB rs = R := ⟨_, rfl⟩
  rw [hR]
  have HR : Hid (risesB rs = R) := hR
  unfold maxLen at hm
  clear hN hadr hh hR
  go_enter Try.func24, Try.ntmps24
  go_wp2_with fail
  go_loopw [3] (fun iv wr => ∃ i : Nat, iv = .int .i64 ((i : Int) + 1) ∧ i ≤ N ∧ Hid (∀ j x y, j < i → rs[j]? = some x → rs[j + 1]? = some y → x.tag ≤ y.tag) ∧ Below w.heap.size w wr) (fun iv _ => N + 1 - (intOf iv).toNat)
  case atStart => exact ⟨0, rfl, by omega, (fun j x y hj => absurd hj (by omega) : ∀ j x y, j < 0 → rs[j]? = some x → rs[j + 1]? = some y → x.tag ≤ y.tag), Below.refl _ _⟩
  case round =>
    obtain ⟨i, rfl, hi, HT, hbel⟩ := hrel
    by_cases hlt : i + 1 < N
    · have hr : rs[i]? = some (rs[i]'(by rw [HN.out]; omega)) := List.getElem?_eq_getElem _
      generalize rs[i]'(by rw [HN.out]; omega) = r at hr
      have hs : rs[i + 1]? = some (rs[i + 1]'(by rw [HN.out]; exact hlt)) := List.getElem?_eq_getElem _
      generalize rs[i + 1]'(by rw [HN.out]; exact hlt) = s at hs
      rcases HA.out with h0 | ⟨g, off, rfl⟩
      · exact absurd hlt (by have := HN.out; rw [h0] at this; simp at this; omega)
      obtain ⟨p0, -, -, -⟩ := (HH.out.below hbel).at hr
      obtain ⟨q0, -, -, -⟩ := (HH.out.below hbel).at hs
      have HK : Hid (rs[i]? = some r) := hr
      have HK2 : Hid (rs[i + 1]? = some s) := hs
      obtain ⟨x, hx⟩ : ∃ q, r.tag = q := ⟨_, rfl⟩
      obtain ⟨y, hy⟩ : ∃ q, s.tag = q := ⟨_, rfl⟩
      rw [hx] at p0
      rw [hy] at q0
      have HX : Hid (r.tag = x) := hx
      have HY : Hid (s.tag = y) := hy
      have hlti : (i : Int) + 1 < (N : Int) := by omega
      clear hr hs hx hy
      by_cases hle : y < x
      · have hd : decide (y < x) = true := by simp [hle]
        obtain rfl : R = false := by rw [← HR.out]; exact rises_break i r s HK.out HK2.out (by rw [HX.out, HY.out]; exact hle)
        clear HT HK HK2 HX HY HR
        go_wp2_with fail
        go_quiet (fail)
        have hbn := below_drewN nq hbel
        clear p0 q0 hbel
        go_wp2_with fail
        go_ret
        exact ⟨rfl, hbn⟩
      · have hd : decide (y < x) = false := by simp; omega
        have HT2 : Hid (∀ j u v, j < i + 1 → rs[j]? = some u → rs[j + 1]? = some v → u.tag ≤ v.tag) := fun j u v hj hu hv => by
          by_cases hji : j = i
          · subst hji
            rw [HK.out] at hu
            rw [HK2.out] at hv
            obtain rfl : r = u := by simpa using hu
            obtain rfl : s = v := by simpa using hv
            rw [HX.out, HY.out]; omega
          · exact HT.out j u v (by omega) hu hv
        clear HT HK HK2 HX HY
        go_wp2_with fail
        go_quiet (fail)
        have hbn := below_drewN nq hbel
        clear p0 q0 hbel
        go_wp2_with fail
        go_roundw
        case rel => exact ⟨i + 1, by go_num, by omega, HT2, hbn⟩
        case measure => simp [intOf]; omega
    · obtain rfl : R = true := by
        rw [← HR.out]
        refine rises_steps fun j x y hx hy => HT.out j x y ?_ hx hy
        have := (List.getElem?_eq_some_iff.1 hy).1
        rw [HN.out] at this
        omega
      have hnl : ¬ (i : Int) + 1 < (N : Int) := by omega
      clear HT HR
      go_wp2_with fail
      go_ret
      exact ⟨rfl, hbel⟩

/-- A rising list is told by its tags' fields. -/
theorem rises_uniq : ∀ (l m : List Fd), Rises l → Rises m → (∀ t : Int, l.filter (fun x => x.tag == t) = m.filter (fun x => x.tag == t)) → l = m
  | [], m, _, _, h => by
    cases m with
    | nil => rfl
    | cons y m => have := h y.tag; simp at this
  | x :: l, m, h1, h2, h => by
    cases m with
    | nil => have := h x.tag; simp at this
    | cons y m =>
      have p1 := List.pairwise_cons.1 h1
      have p2 := List.pairwise_cons.1 h2
      have hx : x ∈ y :: m := by
        have : x ∈ (y :: m).filter (fun z => z.tag == x.tag) := by rw [← h x.tag]; simp
        exact (List.mem_filter.1 this).1
      have hy : y ∈ x :: l := by
        have : y ∈ (x :: l).filter (fun z => z.tag == y.tag) := by rw [h y.tag]; simp
        exact (List.mem_filter.1 this).1
      have e1 : y.tag ≤ x.tag := by
        rcases List.mem_cons.1 hx with rfl | hx
        · exact Int.le_refl _
        · exact p2.1 x hx
      have e2 : x.tag ≤ y.tag := by
        rcases List.mem_cons.1 hy with rfl | hy
        · exact Int.le_refl _
        · exact p1.1 y hy
      have e : x.tag = y.tag := by omega
      have hf := h x.tag
      rw [List.filter_cons, List.filter_cons, if_pos (by simp), if_pos (by simp [e])] at hf
      obtain rfl : x = y := (List.cons.inj hf).1
      congr 1
      refine rises_uniq l m p1.2 p2.2 fun t => ?_
      have := h t
      rw [List.filter_cons, List.filter_cons] at this
      by_cases ht : (x.tag == t) = true
      · rw [if_pos ht, if_pos ht] at this; exact (List.cons.inj this).2
      · rw [if_neg ht, if_neg ht] at this; exact this
/-- One by one. -/
def insA (rs : List Fd) : List Fd := rs.foldl (fun m x => mergeF m [x]) []
theorem insA_snoc (rs : List Fd) (x : Fd) : insA (rs ++ [x]) = mergeF (insA rs) [x] := by simp [insA]
theorem ins_all : ∀ (rs m : List Fd), Rises m → Rises (rs.foldl (fun m x => mergeF m [x]) m) ∧ (rs.foldl (fun m x => mergeF m [x]) m).length = m.length + rs.length ∧ ∀ t : Int, (rs.foldl (fun m x => mergeF m [x]) m).filter (fun x => x.tag == t) = m.filter (fun x => x.tag == t) ++ rs.filter (fun x => x.tag == t)
  | [], m, h => ⟨h, by simp, fun t => by simp⟩
  | x :: rs, m, h => by
    obtain ⟨h1, h2, h3⟩ := ins_all rs (mergeF m [x]) (mergeF_rises _ _ h (by simp [Rises]))
    refine ⟨h1, ?_, fun t => ?_⟩
    · rw [List.foldl_cons, h2, mergeF_len]; simp; omega
    · rw [List.foldl_cons, h3 t, mergeF_filter t _ _ h, List.append_assoc, ← List.filter_append]
      rfl
theorem insA_all (rs : List Fd) : Rises (insA rs) ∧ (insA rs).length = rs.length ∧ ∀ t : Int, (insA rs).filter (fun x => x.tag == t) = rs.filter (fun x => x.tag == t) := by
  obtain ⟨h1, h2, h3⟩ := ins_all rs [] (by simp [Rises])
  unfold insA
  exact ⟨h1, by simpa using h2, fun t => by simpa using h3 t⟩
theorem insA_sortF (rs : List Fd) : insA rs = sortF rs := by
  have h1 := insA_all rs
  have h2 := sortF_all _ rs (Nat.le_refl _)
  exact rises_uniq _ _ h1.1 h2.1 fun t => by rw [h1.2.2 t, h2.2.2.2 t]
/-- Where a field comes to stand. -/
theorem insA_at {m p q : List Fd} {x : Fd} (hm : m = p ++ q) (hr : Rises m) (hq : ∀ y ∈ q, x.tag < y.tag) (hp : ∀ y, p.getLast? = some y → y.tag ≤ x.tag) : mergeF m [x] = p ++ x :: q := by
  have hall : ∀ y ∈ p, y.tag ≤ x.tag := by
    intro y hy
    rcases List.eq_nil_or_concat p with rfl | ⟨p', z, rfl⟩
    · simp at hy
    · have hz := hp z (by simp)
      rw [List.concat_eq_append, List.mem_append] at hy
      rcases hy with hy | hy
      · have hr' : Rises (p' ++ [z]) := by
          rw [hm, List.concat_eq_append] at hr
          exact hr.sublist (List.sublist_append_left _ _)
        have := (List.pairwise_append.1 hr').2.2 y hy z (by simp)
        omega
      · obtain rfl : y = z := by simpa using hy
        exact hz
  have hu : upN m x.tag = p.length := by
    refine upN_step (fun j y hj hy => hall y ?_) ?_
    · rw [hm, List.getElem?_append_left hj] at hy
      exact List.mem_of_getElem? hy
    · cases q with
      | nil => left; rw [hm]; simp
      | cons z q => right; exact ⟨z, by rw [hm]; simp, by have := hq z (by simp); omega⟩
  rw [mergeF, hu, hm]
  simp [mergeF]
/-- Two neighbours that change places. -/
theorem swap_own {w : World} {B g n cap : Nat} {p q : List Fd} {y x : Fd} (h : w.ownsRow B 24 4 (.slice (some ⟨g, 0, none⟩) n cap) n (rawCells (p ++ y :: x :: q))) (o : Nat) (ho : o = p.length * 4) (o2 : Nat) (ho2 : o2 = o + 4) :
    ((((((((w.setCell ⟨g, o, none⟩ (.int .i64 x.tag)).setCell ⟨g, o + 1, none⟩ (.int .i64 x.wire)).setCell ⟨g, o + 2, none⟩ (.int .i64 x.n)).setCell ⟨g, o + 3, none⟩ (.string x.b)).setCell ⟨g, o2, none⟩ (.int .i64 y.tag)).setCell ⟨g, o2 + 1, none⟩ (.int .i64 y.wire)).setCell ⟨g, o2 + 2, none⟩ (.int .i64 y.n)).setCell ⟨g, o2 + 3, none⟩ (.string y.b)).ownsRow B 24 4 (.slice (some ⟨g, 0, none⟩) n cap) n (rawCells (p ++ x :: y :: q)) := by
  have s1 := (h.stored o (.int .i64 x.tag)).1
  have s2 := (s1.stored (o + 1) (.int .i64 x.wire)).1
  have s3 := (s2.stored (o + 2) (.int .i64 x.n)).1
  have s4 := (s3.stored (o + 3) (.string x.b)).1
  have s5 := (s4.stored o2 (.int .i64 y.tag)).1
  have s6 := (s5.stored (o2 + 1) (.int .i64 y.wire)).1
  have s7 := (s6.stored (o2 + 2) (.int .i64 y.n)).1
  have s8 := (s7.stored (o2 + 3) (.string y.b)).1
  have e : rawCells (p ++ x :: y :: q) = ((((((((rawCells (p ++ y :: x :: q)).set o (.int .i64 x.tag)).set (o + 1) (.int .i64 x.wire)).set (o + 2) (.int .i64 x.n)).set (o + 3) (.string x.b)).set o2 (.int .i64 y.tag)).set (o2 + 1) (.int .i64 y.wire)).set (o2 + 2) (.int .i64 y.n)).set (o2 + 3) (.string y.b) := by
    have hl : (rawCells p).length = p.length * 4 := rawCells_len p
    rw [ho2, ho, ← hl, rawCells_app, rawCells_app, rawCells_cons, rawCells_cons, rawCells_cons, rawCells_cons]
    generalize rawCells p = D
    generalize rawCells q = E
    have sb : ∀ (l : List Value) (j : Nat) (v : Value), (D ++ l).set (D.length + j) v = D ++ l.set j v := fun l j v => by rw [List.set_append, if_neg (by omega), Nat.add_sub_cancel_left]
    have s0 : ∀ (l : List Value) (v : Value), (D ++ l).set D.length v = D ++ l.set 0 v := fun l v => sb l 0 v
    simp only [Nat.add_assoc, s0, sb, Fd.cells]
    simp
  rw [e]
  exact s8
end Go.Proofs.Ytfbekeebllcdbaa

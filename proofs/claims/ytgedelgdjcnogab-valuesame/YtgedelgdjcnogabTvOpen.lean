/- A tree that came in, in the walks' words. -/
import Derived.Test.YtgedelgdjcnogabTvRow
import Derived.OpenShut
import Derived.SizedLaws
import Derived.Deep.Slices
import Derived.Deep.Strs
import Derived.Lib.SmallJoins
import Derived.ChangeArms
namespace Go.Proofs.Ytgedelgdjcnogab
open Go.ChangeShapes Go.WideShapes Go.ChangeAt Go.RowKit
set_option linter.unusedVariables false
set_option linter.unusedSimpArgs false
set_option maxRecDepth 20000

/-- All that a datum weighs is within the reach. -/
def LiteT {H : Type} (t : TypeId) (d : DataW H) : Prop := ∀ n ∈ d.weights Try.prog t, n ≤ 140737488351232
theorem liteT_all {H : Type} {e : TypeId} : ∀ {l : List (DataW H)} {d : DataW H}, d ∈ l → ∀ n ∈ d.weights Try.prog e, n ∈ DataW.weightsAll Try.prog e l
  | x :: l, d, h, n, hn => by
    simp only [DataW.weightsAll, List.mem_append]
    rcases List.mem_cons.1 h with rfl | h
    · exact .inl hn
    · exact .inr (liteT_all h n hn)
theorem liteT_each {H : Type} {ts : List TypeId} {ds : List (DataW H)} (h : ∀ n ∈ DataW.weightsEach Try.prog ts ds, n ≤ 140737488351232) {j : Nat} {t : TypeId} {d : DataW H} (ht : ts[j]? = some t) (hd : ds[j]? = some d) : LiteT t d :=
  fun n hn => h n (DataW.weights_mem_each ht hd n hn)
section
variable {H : Type} {enc : TypeId × Value → H} {W : World} {base : Nat} {spare : Nat → Bool} {held : Bool}
theorem liteT_struct {t : TypeId} {fs : Array Field} {ds : List (DataW H)} (hu : Try.prog.underlying t = some (.struct fs)) (h : LiteT t (.agg ds : DataW H)) {j : Nat} {u : TypeId} {d : DataW H} (ht : (fs.toList.map (·.type))[j]? = some u) (hd : ds[j]? = some d) : LiteT u d := by
  refine liteT_each (ts := fs.toList.map (·.type)) (ds := ds) (fun n hn => h n ?_) ht hd
  simp only [DataW.weights, hu]
  exact hn
/-- A row that came in. -/
theorem rowP_in {α : Type} [Inhabited α] {t e : TypeId} {size : Nat} (hc : Try.prog.cellsOf e = size) (hpos : 0 < size) (ht : Try.prog.underlying t = some (.slice e)) (P : List Value → α → Prop) (hw : ∀ r x, P r x → r.length = size)
    {fuel : Nat} {c : Value} {x : DataW H × List MemPlace} (h : DataW.trod enc Try.prog W base spare held fuel t [c] = some x) (hl : LiteT t x.1)
    (one : ∀ n cs' y, n < fuel → DataW.trod enc Try.prog W base spare held n e cs' = some y → LiteT e y.1 → ∃ r, P cs' r) : ∃ rs : List α, RowP P W size c rs := by
  rcases DataW.trod_slice ht h with ⟨hcs, -⟩ | ⟨ad, len, cap, elems, rest, n, hfu, hcs, hx, hb, hle, hm, hlen, hel, -, -⟩
  · obtain rfl : c = .slice none 0 0 := by simpa using hcs
    exact ⟨[], RowP.nil P W size⟩
  · obtain rfl : c = .slice (some ad) len cap := by simpa using hcs
    rw [hc] at hel
    have each : ∀ i, i < len → ∃ (cs' : List Value) (r : α), W.cells? base (ad.add (i * size)) size = some cs' ∧ P cs' r := fun i hi => by
      have h1 := hel i hi
      rw [List.getElem?_eq_getElem (by omega)] at h1
      obtain ⟨cs', h2, h3⟩ := Option.bind_eq_some_iff.1 h1
      obtain ⟨r, hp⟩ := one n cs' _ (by omega) h3 (fun k hk => hl k (by
        rw [hx]
        simp only [DataW.weights, ht, List.mem_cons, List.mem_append]
        exact .inr (.inl (liteT_all (List.mem_map.2 ⟨_, List.getElem_mem (by omega), rfl⟩) k hk))))
      exact ⟨cs', r, h2, hp⟩
    obtain ⟨f, hf⟩ : ∃ f : Nat → List Value × α, ∀ i, i < len → W.cells? base (ad.add (i * size)) size = some (f i).1 ∧ P (f i).1 (f i).2 :=
      ⟨fun i => if h : i < len then (Classical.choose (each i h), Classical.choose (Classical.choose_spec (each i h))) else ([], default), fun i hi => by simp only [dif_pos hi]; exact Classical.choose_spec (Classical.choose_spec (each i hi))⟩
    refine ⟨(List.range len).map fun i => (f i).2, (List.range len).map fun i => (f i).1, ⟨some ad, cap, by simp, by simpa using hle, hm, (fun e => by cases e), fun hne => ?_⟩, by simp, fun i y hy => ?_⟩
    · have hlp : 0 < len := by
        rcases Nat.eq_zero_or_pos len with h0 | h0
        · subst h0; simp at hne
        · exact h0
      have hcell : ∀ i, i < len → ∀ k, k < size → W.cell? ((ad.add (i * size)).add k) = (f i).1[k]? := fun i hi => (World.cells?_some (hf i hi).1).2.2
      obtain ⟨g, off, spot⟩ := ad
      have hspot : spot = none := by
        have h1 := hcell 0 hlp 0 hpos
        obtain ⟨u, hu⟩ : ∃ u, (f 0).1[0]? = some u := ⟨_, List.getElem?_eq_getElem (by rw [hw _ _ (hf 0 hlp).2]; exact hpos)⟩
        rw [hu] at h1
        simpa [Addr.add] using World.cell?_spot h1
      subst hspot
      refine ⟨g, off, rfl, fun i c u j hi hj => ?_⟩
      simp only [List.getElem?_map, Option.map_eq_some_iff] at hi
      obtain ⟨i', hi', rfl⟩ := hi
      obtain ⟨hil, hie⟩ := List.getElem?_eq_some_iff.1 hi'
      simp at hie
      subst hie
      simp only [List.length_range] at hil
      have hjs : j < size := by rw [← hw _ _ (hf i hil).2]; exact (List.getElem?_eq_some_iff.1 hj).1
      have h2 := hcell i hil j hjs
      rw [hj, Deep.add_add, Addr.add_lit] at h2
      rw [Nat.add_assoc]
      exact h2
    · simp only [List.getElem?_map, Option.map_eq_some_iff] at hy
      obtain ⟨i', hi', rfl⟩ := hy
      obtain ⟨hil, hie⟩ := List.getElem?_eq_some_iff.1 hi'
      simp at hie
      subst hie
      simp only [List.length_range] at hil
      exact ⟨(f i).1, by simp [hil], (hf i hil).2⟩
theorem cellsRwT : Try.prog.cellsOf 36 = 4 := by kernel_rfl
theorem cellsTrT : Try.prog.cellsOf 25 = 5 := by kernel_rfl
theorem cellsEnT : Try.prog.cellsOf 33 = 2 := by kernel_rfl
theorem cellsOneT : Try.prog.cellsOf 3 = 1 ∧ Try.prog.cellsOf 9 = 1 ∧ Try.prog.cellsOf 23 = 1 ∧ Try.prog.cellsOf 31 = 1 ∧ Try.prog.cellsOf 22 = 1 := ⟨by kernel_rfl, by kernel_rfl, by kernel_rfl, by kernel_rfl, by kernel_rfl⟩
theorem intT_in {n : Nat} {c : Value} {y : DataW H × List MemPlace} (h : DataW.trod enc Try.prog W base spare held n 3 [c] = some y) : ∃ b : Int, c = .int .i64 b ∧ Is64 b := by
  obtain ⟨b, e, hy, w⟩ := DataW.trod_int Try.underlying3 h
  simp only [List.cons.injEq, and_true] at e
  subst e
  exact ⟨b, rfl, bounds_i64 w⟩
theorem strT_in {n : Nat} {c : Value} {y : DataW H × List MemPlace} (h : DataW.trod enc Try.prog W base spare held n 9 [c] = some y) (hl : LiteT 9 y.1) : ∃ b : ByteArray, c = .string b ∧ b.size ≤ 140737488351232 := by
  obtain ⟨b, e, hy, w⟩ := DataW.trod_string Try.underlying9 h
  simp only [List.cons.injEq, and_true] at e
  subst e hy
  refine ⟨b, rfl, ?_⟩
  have := hl b.data.toList.length (by simp [DataW.weights])
  simpa using this
def RawC (r : List Value) (f : Fd) : Prop := r = f.cells ∧ Is64 f.tag ∧ Is64 f.wire ∧ Is64 f.n ∧ f.b.size ≤ 140737488351232
theorem rawT_in : ∀ n cs' y, DataW.trod enc Try.prog W base spare held n 36 cs' = some y → LiteT 36 y.1 → ∃ f : Fd, RawC cs' f := by
  intro n cs y h hl
  obtain ⟨y0, y1, y2, y3, m, hy, hc, h0, h1, h2, h3⟩ := _root_.Go.Joins.trod_struct4 Try.underlying36 h
  rw [cellsRwT] at hc
  match cs, hc with
  | [c0, c1, c2, c3], _ =>
    rw [cellsOneT.1] at h0 h1 h2
    rw [cellsOneT.2.1] at h3
    simp only [List.drop_zero, List.drop_succ_cons, List.take_succ_cons, List.take_zero] at h0 h1 h2 h3
    subst hy
    obtain ⟨b0, rfl, s0⟩ := intT_in h0
    obtain ⟨b1, rfl, s1⟩ := intT_in h1
    obtain ⟨b2, rfl, s2⟩ := intT_in h2
    obtain ⟨b3, rfl, s3⟩ := strT_in h3 (liteT_struct Try.underlying36 hl (j := 3) rfl rfl)
    exact ⟨⟨b0, b1, b2, b3⟩, rfl, s0, s1, s2, s3⟩
theorem rawRow {w : World} {v : Value} {l : List Fd} (h : RowP RawC w 4 v l) : RowG w v 4 (fdRows l) ∧ ∀ f ∈ l, Is64 f.tag ∧ Is64 f.wire ∧ Is64 f.n ∧ f.b.size ≤ 140737488351232 := by
  obtain ⟨rows, h1, h2, h3⟩ := h
  have hr : rows = fdRows l := by
    refine List.ext_getElem? fun i => ?_
    by_cases hi : i < l.length
    · obtain ⟨r, e, hp⟩ := h3 i _ (List.getElem?_eq_getElem hi)
      rw [e, hp.1]
      simp [fdRows, hi]
    · rw [List.getElem?_eq_none (by omega), List.getElem?_eq_none (by simp [fdRows]; omega)]
  rw [hr] at h1
  refine ⟨h1, fun f hf => ?_⟩
  obtain ⟨i, hi, e⟩ := List.getElem_of_mem hf
  obtain ⟨r, _, hp⟩ := h3 i f (by rw [List.getElem?_eq_getElem hi, e])
  exact hp.2
theorem TrC.le {n m : Nat} (h : n ≤ m) {w : World} {r : List Value} {t : Tr} (hc : TrC n w r t) : TrC m w r t := by
  induction h with
  | refl => exact hc
  | step _ ih => exact ih.more
theorem TrC.len {n : Nat} {w : World} {r : List Value} {t : Tr} (h : TrC n w r t) : r.length = 5 := by
  cases n with
  | zero => exact h.elim
  | succ n => obtain ⟨ve, vr, rfl, _⟩ := h; rfl
/-- A tree's reading, by fuel. -/
theorem treeC_in (N : Nat) : ∀ fuel, fuel ≤ N → ∀ cs' y, DataW.trod enc Try.prog W base spare held fuel 25 cs' = some y → LiteT 25 y.1 → ∃ t : Tr, TrC fuel W cs' t := by
  induction N with
  | zero =>
    intro fuel hf cs y h hl
    obtain rfl : fuel = 0 := by omega
    simp [DataW.trod] at h
  | succ N ih =>
    intro fuel hf cs y h hl
    obtain ⟨xs, n, rfl, rfl, hc, hlen, hfs⟩ := DataW.trod_struct Try.underlying25 h
    rw [cellsTrT] at hc
    match xs, hlen with
    | [y0, y1, y2, y3, y4], _ =>
      match cs, hc with
      | [c0, c1, c2, c3, c4], _ =>
        have h0 := hfs 0 _ rfl
        have h1 := hfs 1 _ rfl
        have h2 := hfs 2 _ rfl
        have h3 := hfs 3 _ rfl
        have h4 := hfs 4 _ rfl
        simp only [cellsOneT.1, cellsOneT.2.1, cellsOneT.2.2.1, cellsOneT.2.2.2.2, List.drop_zero, List.drop_succ_cons, List.take_succ_cons, List.take_zero, List.getElem?_cons_zero, List.getElem?_cons_succ] at h0 h1 h2 h3 h4
        obtain ⟨b0, rfl, s0⟩ := intT_in h0
        obtain ⟨b1, rfl, s1⟩ := intT_in h1
        obtain ⟨b2, rfl, s2⟩ := strT_in h2 (liteT_struct Try.underlying25 hl (j := 2) rfl rfl)
        haveI : Inhabited Fd := ⟨fd0⟩
        haveI : Inhabited Tr := ⟨tr0⟩
        obtain ⟨fs, hfr⟩ := rowP_in cellsRwT (by decide) Try.underlying23 RawC (fun r x hp => by rw [hp.1]; rfl) h4 (liteT_struct Try.underlying25 hl (j := 4) rfl rfl) (fun n cs' y _ => rawT_in n cs' y)
        obtain ⟨es, her⟩ := rowP_in cellsEnT (by decide) Try.underlying22 (EnC (TrC n W) W) (fun r x hp => by obtain ⟨vt, rfl, _⟩ := hp; rfl) h3 (liteT_struct Try.underlying25 hl (j := 3) rfl rfl) (fun n2 cs2 y2 hn2 ht2 hl2 => by
          obtain ⟨xs2, n3, rfl, rfl, hc2, hlen2, hfs2⟩ := DataW.trod_struct Try.underlying33 ht2
          rw [cellsEnT] at hc2
          match xs2, hlen2 with
          | [z0, z1], _ =>
            match cs2, hc2 with
            | [d0, d1], _ =>
              have g0 := hfs2 0 _ rfl
              have g1 := hfs2 1 _ rfl
              simp only [cellsOneT.1, cellsOneT.2.2.2.1, List.drop_zero, List.drop_succ_cons, List.take_succ_cons, List.take_zero, List.getElem?_cons_zero, List.getElem?_cons_succ] at g0 g1
              obtain ⟨tg, rfl, st⟩ := intT_in g0
              obtain ⟨ts, htr⟩ := rowP_in cellsTrT (by decide) Try.underlying31 (TrC n W) (fun r x hp => hp.len) g1 (liteT_struct Try.underlying33 hl2 (j := 1) rfl rfl) (fun n4 cs4 y4 hn4 ht4 hl4 => by
                obtain ⟨t, ht⟩ := ih n4 (by omega) cs4 y4 ht4 hl4
                exact ⟨t, ht.le (by omega)⟩)
              exact ⟨(tg, ts), d1, rfl, st, htr⟩)
        obtain ⟨r1, r2⟩ := rawRow hfr
        exact ⟨⟨b0, b1, b2, es, fs⟩, c3, c4, rfl, s0, s1, s2, r2, r1, her⟩
/-- A tree by value. -/
theorem tree_in {r : Reach} {b0 : Nat} {v : Value} {d : DataW H} {p : List MemPlace} (hv : Value.okWide Try.prog W r b0 25 v) (h : DataW.Trod enc Try.prog W base spare held 25 v d p) (hl : LiteT 25 d) : ∃ n t, TrIn n W v t := by
  obtain ⟨cs, rfl, hsz⟩ := okWide_struct Try.underlying25 hv
  obtain ⟨fuel, hf⟩ := h
  obtain ⟨t, ht⟩ := treeC_in fuel fuel (Nat.le_refl _) _ _ hf hl
  exact ⟨fuel, t, _, by simp [Value.cells], ht⟩
end
end Go.Proofs.Ytgedelgdjcnogab

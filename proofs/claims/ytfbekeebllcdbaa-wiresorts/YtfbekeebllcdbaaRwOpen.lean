/- A slice of fields that came in, in the walks' words. -/
import Derived.Test.YtfbekeebllcdbaaRwRow
import Derived.OpenShut
import Derived.Deep.Slices
import Derived.Lib.SmallJoins
namespace Go.Proofs.Ytfbekeebllcdbaa
open Go.ChangeShapes Go.WideShapes Go.ChangeAt Go.RowKit
set_option linter.unusedVariables false
set_option linter.unusedSimpArgs false
set_option maxRecDepth 20000

/-- Fields that came in: what the walks ask. -/
structure CameR (w : World) (a : Option Addr) (N cap : Nat) (rs : List Fd) : Prop where
  len : rs.length = N
  holds : HoldsR w a rs
  i64 : ∀ r ∈ rs, Is64 r.tag ∧ Is64 r.wire ∧ Is64 r.n
  le : N ≤ cap
  max : cap ≤ maxLen
  nil : a = none → rs = [] ∧ cap = 0
  adr : rs = [] ∨ ∃ g off, a = some ⟨g, off, none⟩
theorem CameR.below {w w1 : World} {a : Option Addr} {N cap : Nat} {rs : List Fd} (h : CameR w a N cap rs) (hb : Below w.heap.size w w1) : CameR w1 a N cap rs :=
  ⟨h.len, h.holds.below hb, h.i64, h.le, h.max, h.nil, h.adr⟩
theorem CameR.n64 {w : World} {a : Option Addr} {N cap : Nat} {rs : List Fd} (h : CameR w a N cap rs) : ∀ r ∈ rs, Is64 r.n := fun r hr => (h.i64 r hr).2.2

section
variable {H : Type} {enc : TypeId × Value → H} {W : World} {base : Nat} {spare : Nat → Bool} {held : Bool}

/-- One field out of its cells. -/
theorem fd_of {fuel : Nat} {cs : List Value} {x : DataW H × List MemPlace} (h : DataW.trod enc Try.prog W base spare held fuel 24 cs = some x) : ∃ r : Fd, cs = r.cells ∧ Is64 r.tag ∧ Is64 r.wire ∧ Is64 r.n := by
  obtain ⟨y0, y1, y2, y3, n, -, hl, h0, h1, h2, h3⟩ := _root_.Go.Joins.trod_struct4 Try.underlying24 h
  rw [show Try.prog.cellsOf 24 = 4 from by kernel_rfl] at hl
  match cs, hl with
  | [c0, c1, c2, c3], _ =>
    rw [show Try.prog.cellsOf 3 = 1 from by kernel_rfl] at h0 h1 h2
    rw [show Try.prog.cellsOf 9 = 1 from by kernel_rfl] at h3
    simp only [List.drop_zero, List.drop_succ_cons, List.take_succ_cons, List.take_zero] at h0 h1 h2 h3
    obtain ⟨t, e0, -, w0⟩ := DataW.trod_int Try.underlying3 h0
    obtain ⟨k, e1, -, w1⟩ := DataW.trod_int Try.underlying3 h1
    obtain ⟨m, e2, -, w2⟩ := DataW.trod_int Try.underlying3 h2
    obtain ⟨b, e3, -, w3⟩ := DataW.trod_string Try.underlying9 h3
    simp only [List.cons.injEq, and_true] at e0 e1 e2 e3
    subst e0 e1 e2 e3
    exact ⟨⟨t, k, m, b⟩, rfl, bounds_i64 w0, bounds_i64 w1, bounds_i64 w2⟩

/-- A field by value. -/
theorem fd_in {r : Reach} {b0 : Nat} {v : Value} {d : DataW H} {p : List MemPlace} (hv : Value.okWide Try.prog W r b0 24 v) (h : DataW.Trod enc Try.prog W base spare held 24 v d p) : ∃ r : Fd, v = r.val ∧ Is64 r.tag ∧ Is64 r.wire ∧ Is64 r.n := by
  obtain ⟨cs, rfl, hsz⟩ := okWide_struct Try.underlying24 hv
  obtain ⟨fuel, hf⟩ := h
  obtain ⟨r, hr, h64⟩ := fd_of hf
  refine ⟨r, ?_, h64⟩
  simp only [Value.cells] at hr
  unfold Fd.val
  congr 1
  apply Array.ext'
  rw [hr]
  rfl

theorem raws_in {fuel : Nat} {a : Option Addr} {len cap : Nat} {x : DataW H × List MemPlace} (h : DataW.trod enc Try.prog W base spare held fuel 25 [.slice a len cap] = some x) : ∃ rs, CameR W a len cap rs := by
  rcases Deep.open_slice Try.underlying25 h with ⟨hcs, -⟩ | ⟨ad, len', cap', m, n, D, Pl, hcs, -, hl, hm, hmm, -, hx⟩
  · simp only [List.cons.injEq, Value.slice.injEq, and_true] at hcs
    obtain ⟨rfl, rfl, rfl⟩ := hcs
    exact ⟨[], rfl, HoldsR.nil, by simp, Nat.le_refl _, by decide, fun _ => ⟨rfl, rfl⟩, .inl rfl⟩
  · simp only [List.cons.injEq, Value.slice.injEq, and_true] at hcs
    obtain ⟨rfl, rfl, rfl⟩ := hcs
    have hml : len ≤ m := by rw [hmm]; split <;> omega
    have each : ∀ i, i < len → ∃ r : Fd, W.cells? base (ad.add (i * 4)) 4 = some r.cells ∧ Is64 r.tag ∧ Is64 r.wire ∧ Is64 r.n := fun i hi => by
      obtain ⟨cs', h1, h2⟩ := hx i (by omega)
      obtain ⟨r, rfl, h64⟩ := fd_of h2
      exact ⟨r, h1, h64⟩
    obtain ⟨f, hf⟩ : ∃ f : Nat → Fd, ∀ i, i < len → W.cells? base (ad.add (i * 4)) 4 = some (f i).cells ∧ Is64 (f i).tag ∧ Is64 (f i).wire ∧ Is64 (f i).n :=
      ⟨fun i => if h : i < len then Classical.choose (each i h) else fd0, fun i hi => by simp only [dif_pos hi]; exact Classical.choose_spec (each i hi)⟩
    have hcell : ∀ i, i < len → ∀ c, c < 4 → W.cell? ((ad.add (i * 4)).add c) = (f i).cells[c]? := fun i hi => (World.cells?_some (hf i hi).1).2.2
    have hlen : ((List.range len).map f).length = len := by simp
    refine ⟨(List.range len).map f, hlen, ?_, ?_, hl, hm, (fun h => by cases h), ?_⟩
    · intro b hb j u hu
      obtain rfl : ad = b := by simpa using hb
      have hj : j < len * 4 := by
        have := (List.getElem?_eq_some_iff.1 hu).1
        rw [rawCells_len, hlen] at this
        exact this
      have hi : j / 4 < len := by omega
      have hg : ((List.range len).map f)[j / 4]? = some (f (j / 4)) := by simp [hi]
      obtain ⟨u', hu'⟩ : ∃ u', (f (j / 4)).cells[j % 4]? = some u' := ⟨_, List.getElem?_eq_getElem (by simp [Fd.cells]; omega)⟩
      have h1 := rawCells_get _ _ _ hg _ _ hu'
      rw [show j / 4 * 4 + j % 4 = j by omega, hu] at h1
      have h2 := hcell (j / 4) hi (j % 4) (by omega)
      rw [hu'] at h2
      rw [Deep.add_add, show j / 4 * 4 + j % 4 = j by omega] at h2
      rw [h2, ← h1]
    · intro r hr
      simp only [List.mem_map, List.mem_range] at hr
      obtain ⟨i, hi, rfl⟩ := hr
      exact (hf i hi).2
    · by_cases h0 : len = 0
      · left; rw [h0]; rfl
      · right
        have h1 := hcell 0 (by omega) 0 (by omega)
        obtain ⟨g, off, spot⟩ := ad
        have hspot : spot = none := by
          have : W.cell? (((⟨g, off, spot⟩ : Addr).add (0 * 4)).add 0) = some (.int .i64 (f 0).tag) := h1
          simpa [Addr.add] using World.cell?_spot this
        subst hspot
        exact ⟨g, off, rfl⟩
end
end Go.Proofs.Ytfbekeebllcdbaa

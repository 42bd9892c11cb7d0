/- A schema that came in, in the walks' words. -/
import Derived.OpenShut
import Derived.SizedLaws
import Derived.Deep.Slices
import Derived.Deep.Strs
import Derived.Lib.SmallJoins
import Derived.Shelf.Strings.BuilderK
import Derived.Shelf.Strings.OnBuilder
import Derived.Shelf.LaysM
import Derived.Shelf.Strconv.Itoa3
import Derived.Shelf.Sort.Plain
import Derived.Shelf.Slices.In.SortNone
import Derived.Shelf.SlGeneric
import Derived.Shelf.SlSortCmp.InsertionK
import Derived.Ground.SlsfProg
import Derived.Sort.LotA
import Derived.Lib.ItoaNum
import Derived.Lib.Join
import Derived.Lib.ItoaLen
import Derived.Laws.OwnMore
import Derived.Test.YtkfhlgajeejgeaaGreatDoorProg
import Derived.Test.YtkfhlgajeejgeaaGreatDoorPkB
import Derived.Test.YtkfhlgajeejgeaaGreatDoorPkC
import Derived.Test.YtkfhlgajeejgeaaGreatDoorPkA
namespace Go.Proofs.YtkfhlgajeejgeaaGreatDoor
open Go.ChangeShapes Go.WideShapes Go.ChangeAt Go.RowKit
set_option linter.unusedVariables false
set_option linter.unusedSimpArgs false
set_option maxRecDepth 20000

/-- All that a datum weighs is within the reach. -/
def Lite {H : Type} (t : TypeId) (d : DataW H) : Prop := ∀ n ∈ d.weights Tryz.prog t, n ≤ 140737488351232
theorem lite_all {H : Type} {e : TypeId} : ∀ {l : List (DataW H)} {d : DataW H}, d ∈ l → ∀ n ∈ d.weights Tryz.prog e, n ∈ DataW.weightsAll Tryz.prog e l
  | x :: l, d, h, n, hn => by
    simp only [DataW.weightsAll, List.mem_append]
    rcases List.mem_cons.1 h with rfl | h
    · exact .inl hn
    · exact .inr (lite_all h n hn)
theorem lite_each {H : Type} {ts : List TypeId} {ds : List (DataW H)} (h : ∀ n ∈ DataW.weightsEach Tryz.prog ts ds, n ≤ 140737488351232) {j : Nat} {t : TypeId} {d : DataW H} (ht : ts[j]? = some t) (hd : ds[j]? = some d) : Lite t d :=
  fun n hn => h n (DataW.weights_mem_each ht hd n hn)
theorem lite_str {H : Type} {t : TypeId} {l : List UInt8} (h : Lite t (.lit (.string l) : DataW H)) : l.length ≤ 140737488351232 := h _ (by simp [DataW.weights])
section
variable {H : Type} {enc : TypeId × Value → H} {W : World} {base : Nat} {spare : Nat → Bool} {held : Bool}
theorem lite_struct {t : TypeId} {fs : Array Field} {ds : List (DataW H)} (hu : Tryz.prog.underlying t = some (.struct fs)) (h : Lite t (.agg ds : DataW H)) {j : Nat} {u : TypeId} {d : DataW H} (ht : (fs.toList.map (·.type))[j]? = some u) (hd : ds[j]? = some d) : Lite u d := by
  refine lite_each (ts := fs.toList.map (·.type)) (ds := ds) (fun n hn => h n ?_) ht hd
  simp only [DataW.weights, hu]
  exact hn
/-- A row that came in. -/
theorem row_in {α : Type} {t e : TypeId} {size : Nat} (hc : Tryz.prog.cellsOf e = size) (hpos : 0 < size) (ht : Tryz.prog.underlying t = some (.slice e)) (cells : α → List Value) (hcl : ∀ r, (cells r).length = size) (P : α → Prop) (dflt : α)
    {fuel : Nat} {a : Option Addr} {len cap : Nat} {x : DataW H × List MemPlace} (h : DataW.trod enc Tryz.prog W base spare held fuel t [.slice a len cap] = some x) (hl : Lite t x.1)
    (one : ∀ n cs' y, DataW.trod enc Tryz.prog W base spare held n e cs' = some y → Lite e y.1 → ∃ r, cs' = cells r ∧ P r) :
    ∃ rs : List α, rs.length = len ∧ RowG W (.slice a len cap) size (rs.map cells) ∧ ∀ r ∈ rs, P r := by
  rcases Deep.open_slice ht h with ⟨hcs, -⟩ | ⟨ad, len', cap', m, n, D, Pl, hcs, -, hle, hm, hmm, hx0, hx⟩
  · simp only [List.cons.injEq, Value.slice.injEq, and_true] at hcs
    obtain ⟨rfl, rfl, rfl⟩ := hcs
    exact ⟨[], rfl, RowG.nil _ _, by simp⟩
  · simp only [List.cons.injEq, Value.slice.injEq, and_true] at hcs
    obtain ⟨rfl, rfl, rfl⟩ := hcs
    subst hx0
    have hml : len ≤ m := by rw [hmm]; split <;> omega
    rw [hc] at hx
    have each : ∀ i, i < len → ∃ r : α, W.cells? base (ad.add (i * size)) size = some (cells r) ∧ P r := fun i hi => by
      obtain ⟨cs', h1, h2⟩ := hx i (by omega)
      obtain ⟨r, rfl, hp⟩ := one n cs' _ h2 (fun k hk => hl k (by
        simp only [DataW.weights, ht, List.mem_cons, List.mem_append]
        exact .inr (.inl (lite_all (List.mem_map.2 ⟨i, List.mem_range.2 hi, rfl⟩) k hk))))
      exact ⟨r, h1, hp⟩
    obtain ⟨f, hf⟩ : ∃ f : Nat → α, ∀ i, i < len → W.cells? base (ad.add (i * size)) size = some (cells (f i)) ∧ P (f i) :=
      ⟨fun i => if h : i < len then Classical.choose (each i h) else dflt, fun i hi => by simp only [dif_pos hi]; exact Classical.choose_spec (each i hi)⟩
    refine ⟨(List.range len).map f, by simp, ?_, ?_⟩
    · refine ⟨some ad, cap, by simp, by simpa using hle, hm, (fun e => by cases e), fun hne => ?_⟩
      have hlen : 0 < len := by
        rcases Nat.eq_zero_or_pos len with h0 | h0
        · subst h0; simp at hne
        · exact h0
      have hcell : ∀ i, i < len → ∀ c, c < size → W.cell? ((ad.add (i * size)).add c) = (cells (f i))[c]? := fun i hi => (World.cells?_some (hf i hi).1).2.2
      obtain ⟨g, off, spot⟩ := ad
      have hspot : spot = none := by
        have h1 := hcell 0 hlen 0 hpos
        obtain ⟨u, hu⟩ : ∃ u, (cells (f 0))[0]? = some u := ⟨_, List.getElem?_eq_getElem (by rw [hcl]; exact hpos)⟩
        rw [hu] at h1
        simpa [Addr.add] using World.cell?_spot h1
      subst hspot
      refine ⟨g, off, rfl, fun i c u j hi hj => ?_⟩
      simp only [List.map_map, List.getElem?_map, Option.map_eq_some_iff, Function.comp_apply] at hi
      obtain ⟨i', hi', rfl⟩ := hi
      obtain ⟨hil, hie⟩ := List.getElem?_eq_some_iff.1 hi'
      simp at hie
      subst hie
      simp only [List.length_range] at hil
      have hjs : j < size := by rw [← hcl (f i)]; exact (List.getElem?_eq_some_iff.1 hj).1
      have h2 := hcell i hil j hjs
      rw [hj, Deep.add_add, Addr.add_lit] at h2
      rw [Nat.add_assoc]
      exact h2
    · intro r hr
      simp only [List.mem_map, List.mem_range] at hr
      obtain ⟨i, hi, rfl⟩ := hr
      exact (hf i hi).2
theorem i64_of {n : Int} (h : (Lit.int .i64 n).wf = true) : I64 n := bounds_i64 h
theorem cellsIn : Tryz.prog.cellsOf 3 = 1 := by kernel_rfl
theorem cellsSt : Tryz.prog.cellsOf 9 = 1 := by kernel_rfl
theorem cellsTy : Tryz.prog.cellsOf 42 = 2 := by kernel_rfl
theorem cellsFl : Tryz.prog.cellsOf 44 = 5 := by kernel_rfl
theorem cellsNm : Tryz.prog.cellsOf 49 = 2 := by kernel_rfl
theorem cellsMt : Tryz.prog.cellsOf 54 = 3 := by kernel_rfl
theorem cellsMs : Tryz.prog.cellsOf 40 = 3 := by kernel_rfl
theorem cellsEn : Tryz.prog.cellsOf 47 = 2 := by kernel_rfl
theorem cellsSc : Tryz.prog.cellsOf 26 = 4 := by kernel_rfl
theorem cellsSl : Tryz.prog.cellsOf 37 = 1 ∧ Tryz.prog.cellsOf 38 = 1 ∧ Tryz.prog.cellsOf 45 = 1 ∧ Tryz.prog.cellsOf 22 = 1 ∧ Tryz.prog.cellsOf 23 = 1 ∧ Tryz.prog.cellsOf 24 = 1 := ⟨by kernel_rfl, by kernel_rfl, by kernel_rfl, by kernel_rfl, by kernel_rfl, by kernel_rfl⟩
theorem str_in {n : Nat} {c : Value} {y : DataW H × List MemPlace} (h : DataW.trod enc Tryz.prog W base spare held n 9 [c] = some y) (hl : Lite 9 y.1) : ∃ b : ByteArray, c = .string b ∧ b.size ≤ 140737488351232 := by
  obtain ⟨b, e, hy, w⟩ := DataW.trod_string Tryz.underlying9 h
  simp only [List.cons.injEq, and_true] at e
  subst e hy
  exact ⟨b, rfl, lite_str hl⟩
theorem int_in {n : Nat} {c : Value} {y : DataW H × List MemPlace} (h : DataW.trod enc Tryz.prog W base spare held n 3 [c] = some y) : ∃ b : Int, c = .int .i64 b ∧ I64 b := by
  obtain ⟨b, e, hy, w⟩ := DataW.trod_int Tryz.underlying3 h
  simp only [List.cons.injEq, and_true] at e
  subst e
  exact ⟨b, rfl, i64_of w⟩
theorem sfield_in : ∀ n cs' y, DataW.trod enc Tryz.prog W base spare held n 44 cs' = some y → Lite 44 y.1 → ∃ r : FlS, cs' = r.cells ∧ FlW r := by
  intro n cs y h hl
  obtain ⟨y0, y1, y2, y3, m, hy, hc, h0, h1, h2, h3⟩ := _root_.Go.Joins.trod_struct4 Tryz.underlying44 h
  rw [cellsFl] at hc
  match cs, hc with
  | [c0, c1, c2, c3, c4], _ =>
    rw [cellsIn] at h1 h2
    rw [cellsSt] at h0
    rw [cellsTy] at h3
    simp only [List.drop_zero, List.drop_succ_cons, List.take_succ_cons, List.take_zero] at h0 h1 h2 h3
    subst hy
    obtain ⟨z0, z1, k, hz, hcz, g0, g1⟩ := trod_struct2 Tryz.underlying42 h3
    rw [cellsIn] at g0
    rw [cellsSt] at g1
    simp only [List.drop_zero, List.drop_succ_cons, List.take_succ_cons, List.take_zero] at g0 g1
    have l3 : Lite 42 y3.1 := lite_struct Tryz.underlying44 hl (j := 3) rfl rfl
    subst hz
    obtain ⟨b0, rfl, s0⟩ := str_in h0 (lite_struct Tryz.underlying44 hl (j := 0) rfl rfl)
    obtain ⟨b1, rfl, s1⟩ := int_in h1
    obtain ⟨b2, rfl, s2⟩ := int_in h2
    obtain ⟨b3, rfl, s3⟩ := int_in g0
    obtain ⟨b4, rfl, s4⟩ := str_in g1 (lite_struct Tryz.underlying42 l3 (j := 1) rfl rfl)
    exact ⟨⟨b0, b1, b2, b3, b4⟩, rfl, s0, s4, s1, s2, s3⟩
theorem named_in : ∀ n cs' y, DataW.trod enc Tryz.prog W base spare held n 49 cs' = some y → Lite 49 y.1 → ∃ r : NmS, cs' = r.cells ∧ NmW r := by
  intro n cs y h hl
  obtain ⟨y0, y1, m, hy, hc, h0, h1⟩ := trod_struct2 Tryz.underlying49 h
  rw [cellsNm] at hc
  match cs, hc with
  | [c0, c1], _ =>
    rw [cellsIn] at h1
    rw [cellsSt] at h0
    simp only [List.drop_zero, List.drop_succ_cons, List.take_succ_cons, List.take_zero] at h0 h1
    subst hy
    obtain ⟨b0, rfl, s0⟩ := str_in h0 (lite_struct Tryz.underlying49 hl (j := 0) rfl rfl)
    obtain ⟨b1, rfl, s1⟩ := int_in h1
    exact ⟨⟨b0, b1⟩, rfl, s0, s1⟩
theorem method_in : ∀ n cs' y, DataW.trod enc Tryz.prog W base spare held n 54 cs' = some y → Lite 54 y.1 → ∃ r : MtS, cs' = r.cells ∧ MtW r := by
  intro n cs y h hl
  obtain ⟨y0, y1, y2, m, hy, hc, h0, h1, h2⟩ := Deep.trod_struct3 Tryz.underlying54 h
  rw [cellsMt] at hc
  match cs, hc with
  | [c0, c1, c2], _ =>
    rw [cellsSt] at h0 h1 h2
    simp only [List.drop_zero, List.drop_succ_cons, List.take_succ_cons, List.take_zero] at h0 h1 h2
    subst hy
    obtain ⟨b0, rfl, s0⟩ := str_in h0 (lite_struct Tryz.underlying54 hl (j := 0) rfl rfl)
    obtain ⟨b1, rfl, s1⟩ := str_in h1 (lite_struct Tryz.underlying54 hl (j := 1) rfl rfl)
    obtain ⟨b2, rfl, s2⟩ := str_in h2 (lite_struct Tryz.underlying54 hl (j := 2) rfl rfl)
    exact ⟨⟨b0, b1, b2⟩, rfl, s0, s1, s2⟩
/-- A slice's value out of its reading. -/
theorem slice_form {t e : TypeId} {n : Nat} {c : Value} {y : DataW H × List MemPlace} (ht : Tryz.prog.underlying t = some (.slice e)) (h : DataW.trod enc Tryz.prog W base spare held n t [c] = some y) : ∃ a len cap, c = .slice a len cap := by
  rcases Deep.open_slice ht h with ⟨hcs, -⟩ | ⟨ad, len', cap', m, n, D, Pl, hcs, -⟩
  · simp only [List.cons.injEq, and_true] at hcs; exact ⟨_, _, _, hcs⟩
  · simp only [List.cons.injEq, and_true] at hcs; exact ⟨_, _, _, hcs⟩
theorem ints_in {n : Nat} {c : Value} {y : DataW H × List MemPlace} (h : DataW.trod enc Tryz.prog W base spare held n 38 [c] = some y) (hl : Lite 38 y.1) : ∃ ns : List Int, RowG W c 1 (inRows ns) ∧ ∀ x ∈ ns, I64 x := by
  obtain ⟨a, len, cap, rfl⟩ := slice_form Tryz.underlying38 h
  obtain ⟨rs, h1, h2, h3⟩ := row_in cellsIn (by decide) Tryz.underlying38 (fun x : Int => [.int .i64 x]) (fun _ => rfl) I64 0 h hl (fun n cs' y h _ => by
    obtain ⟨b, e, _, w⟩ := DataW.trod_int Tryz.underlying3 h
    exact ⟨b, e, i64_of w⟩)
  exact ⟨rs, h2, h3⟩
def msC (p : MsS × Value × Value) : List Value := [.string p.1.name, p.2.1, p.2.2]
def msP (W : World) (p : MsS × Value × Value) : Prop := RowG W p.2.1 5 (flRows p.1.fields) ∧ RowG W p.2.2 1 (inRows p.1.reserved) ∧ MsW p.1
theorem message_in : ∀ n cs' y, DataW.trod enc Tryz.prog W base spare held n 40 cs' = some y → Lite 40 y.1 → ∃ r : MsS × Value × Value, cs' = msC r ∧ msP W r := by
  intro n cs y h hl
  obtain ⟨y0, y1, y2, m, hy, hc, h0, h1, h2⟩ := Deep.trod_struct3 Tryz.underlying40 h
  rw [cellsMs] at hc
  match cs, hc with
  | [c0, c1, c2], _ =>
    rw [cellsSt] at h0
    rw [cellsSl.1] at h1
    rw [cellsSl.2.1] at h2
    simp only [List.drop_zero, List.drop_succ_cons, List.take_succ_cons, List.take_zero] at h0 h1 h2
    subst hy
    obtain ⟨b0, rfl, s0⟩ := str_in h0 (lite_struct Tryz.underlying40 hl (j := 0) rfl rfl)
    obtain ⟨a, len, cap, rfl⟩ := slice_form Tryz.underlying37 h1
    obtain ⟨fs, -, f2, f3⟩ := row_in cellsFl (by decide) Tryz.underlying37 FlS.cells (fun _ => rfl) FlW ⟨⟨#[]⟩, 0, 0, 0, ⟨#[]⟩⟩ h1 (lite_struct Tryz.underlying40 hl (j := 1) rfl rfl) sfield_in
    obtain ⟨ns, n2, n3⟩ := ints_in h2 (lite_struct Tryz.underlying40 hl (j := 2) rfl rfl)
    exact ⟨(⟨b0, fs, ns⟩, _, _), rfl, f2, n2, s0, f3, n3⟩
def enC (p : EnS × Value) : List Value := [.string p.1.name, p.2]
def enP (W : World) (p : EnS × Value) : Prop := RowG W p.2 2 (nmRows p.1.values) ∧ EnW p.1
theorem enumer_in : ∀ n cs' y, DataW.trod enc Tryz.prog W base spare held n 47 cs' = some y → Lite 47 y.1 → ∃ r : EnS × Value, cs' = enC r ∧ enP W r := by
  intro n cs y h hl
  obtain ⟨y0, y1, m, hy, hc, h0, h1⟩ := trod_struct2 Tryz.underlying47 h
  rw [cellsEn] at hc
  match cs, hc with
  | [c0, c1], _ =>
    rw [cellsSt] at h0
    rw [cellsSl.2.2.1] at h1
    simp only [List.drop_zero, List.drop_succ_cons, List.take_succ_cons, List.take_zero] at h0 h1
    subst hy
    obtain ⟨b0, rfl, s0⟩ := str_in h0 (lite_struct Tryz.underlying47 hl (j := 0) rfl rfl)
    obtain ⟨a, len, cap, rfl⟩ := slice_form Tryz.underlying45 h1
    obtain ⟨fs, -, f2, f3⟩ := row_in cellsNm (by decide) Tryz.underlying45 NmS.cells (fun _ => rfl) NmW ⟨⟨#[]⟩, 0⟩ h1 (lite_struct Tryz.underlying47 hl (j := 1) rfl rfl) named_in
    exact ⟨(⟨b0, fs⟩, _), rfl, f2, s0, f3⟩
/-- A schema by value. -/
theorem schema_in {r : Reach} {b0 : Nat} {v : Value} {d : DataW H} {p : List MemPlace} (hv : Value.okWide Tryz.prog W r b0 26 v) (h : DataW.Trod enc Tryz.prog W base spare held 26 v d p) (hl : Lite 26 d) : ∃ s : ScS, ScIn W v s ∧ ScW s := by
  obtain ⟨cs, rfl, hsz⟩ := okWide_struct Tryz.underlying26 hv
  obtain ⟨fuel, hf⟩ := h
  obtain ⟨y0, y1, y2, y3, m, hy, hc, h0, h1, h2, h3⟩ := _root_.Go.Joins.trod_struct4 Tryz.underlying26 hf
  rw [cellsSc] at hc
  obtain ⟨l⟩ := cs
  simp only [Value.cells] at h0 h1 h2 h3 hc
  match l, hc with
  | [c0, c1, c2, c3], _ =>
    rw [cellsSt] at h0
    rw [cellsSl.2.2.2.1] at h1
    rw [cellsSl.2.2.2.2.1] at h2
    rw [cellsSl.2.2.2.2.2] at h3
    simp only [List.drop_zero, List.drop_succ_cons, List.take_succ_cons, List.take_zero] at h0 h1 h2 h3
    have hd : d = .agg [y0.1, y1.1, y2.1, y3.1] := congrArg Prod.fst hy
    subst hd
    obtain ⟨b0, rfl, s0⟩ := str_in h0 (lite_struct Tryz.underlying26 hl (j := 0) rfl rfl)
    obtain ⟨a1, len1, cap1, rfl⟩ := slice_form Tryz.underlying22 h1
    obtain ⟨a2, len2, cap2, rfl⟩ := slice_form Tryz.underlying23 h2
    obtain ⟨a3, len3, cap3, rfl⟩ := slice_form Tryz.underlying24 h3
    obtain ⟨ms, m1, m2, m3⟩ := row_in cellsMs (by decide) Tryz.underlying22 msC (fun _ => rfl) (msP W) (⟨⟨#[]⟩, [], []⟩, .bool false, .bool false) h1 (lite_struct Tryz.underlying26 hl (j := 1) rfl rfl) message_in
    obtain ⟨es, e1, e2, e3⟩ := row_in cellsEn (by decide) Tryz.underlying23 enC (fun _ => rfl) (enP W) (⟨⟨#[]⟩, []⟩, .bool false) h2 (lite_struct Tryz.underlying26 hl (j := 2) rfl rfl) enumer_in
    obtain ⟨ts, t1, t2, t3⟩ := row_in cellsMt (by decide) Tryz.underlying24 MtS.cells (fun _ => rfl) MtW ⟨⟨#[]⟩, ⟨#[]⟩, ⟨#[]⟩⟩ h3 (lite_struct Tryz.underlying26 hl (j := 3) rfl rfl) method_in
    refine ⟨⟨b0, ms.map (·.1), es.map (·.1), ts⟩, ⟨_, _, _, rfl, ⟨ms.map msC, m2, by simp, fun i m hm => ?_⟩, ⟨es.map enC, e2, by simp, fun i m hm => ?_⟩, t2⟩, s0, fun m hm => ?_, fun m hm => ?_, t3⟩
    · simp only [List.getElem?_map, Option.map_eq_some_iff] at hm
      obtain ⟨q, hq, rfl⟩ := hm
      obtain ⟨g1, g2, _⟩ := m3 q (List.mem_of_getElem? hq)
      exact ⟨q.2.1, q.2.2, by simp [hq, msC], g1, g2⟩
    · simp only [List.getElem?_map, Option.map_eq_some_iff] at hm
      obtain ⟨q, hq, rfl⟩ := hm
      obtain ⟨g1, _⟩ := e3 q (List.mem_of_getElem? hq)
      exact ⟨q.2, by simp [hq, enC], g1⟩
    · obtain ⟨q, hq, rfl⟩ := List.mem_map.1 hm
      exact (m3 q hq).2.2
    · obtain ⟨q, hq, rfl⟩ := List.mem_map.1 hm
      exact (e3 q hq).2
end
end Go.Proofs.YtkfhlgajeejgeaaGreatDoor

/- The page that print writes: a builder that lies in it; what its calls do. -/
namespace Go.Proofs.YtkfhlgajeejgeaaGreatDoor
open Go.ChangeShapes Go.WideShapes Go.ChangeAt Go.RowKit
set_option linter.unusedVariables false
set_option linter.unusedSimpArgs false
set_option maxRecDepth 20000

/-- A page in block b that holds these bytes; below its base all is as in w0. -/
structure Pg (w0 : World) (b : Nat) (bs : List UInt8) (w : World) : Prop where
  bel : Below w0.heap.size w0 w
  low : w0.heap.size ≤ b
  row : ∃ p v, (p = .pointer none ∨ p = .pointer (some ⟨b, 0, none⟩)) ∧ Blk w b #[p, v] 68 ∧ w.ownsRow w0.heap.size 5 1 v bs.length (Lib.byteCells bs)
/-- All that is no page of ours and no row of bytes stands as it stood. -/
def Ot (b : Nat) (w w' : World) : Prop := Lib.OthersKept 5 (some b) w w'
theorem Ot.refl (b : Nat) (w : World) : Ot b w w := Lib.OthersKept.refl _ _ _
theorem Ot.trans {b : Nat} {w w1 w2 : World} (h : Ot b w w1) (k : Ot b w1 w2) : Ot b w w2 := Lib.OthersKept.trans h k
theorem Ot.ofBelow {b : Nat} {w w1 : World} (h : Below w.heap.size w w1) : Ot b w w1 := fun k o hk _ _ => (h.block k (Array.getElem?_eq_some_iff.1 hk).1).trans hk
theorem Ot.blk {b k : Nat} {w w1 : World} {cs : Array Value} {t : TypeId} (h : Ot b w w1) (hb : Blk w k cs t) (hk : k ≠ b) (ht : t ≠ 5) : Blk w1 k cs t :=
  h k _ hb (fun e => hk (by simpa using e)) (fun c fz e => ht (by simp at e; exact e.2.1))
theorem Pg.below {w0 w w1 : World} {b : Nat} {bs : List UInt8} (h : Pg w0 b bs w) (hb : Below w.heap.size w w1) : Pg w0 b bs w1 := by
  obtain ⟨p, v, h1, h2, h3⟩ := h.row
  exact ⟨h.bel.trans (hb.mono h.bel.size), h.low, p, v, h1, h2.below hb, own_below h3 hb⟩
theorem Pg.lt {w0 w : World} {b : Nat} {bs : List UInt8} (h : Pg w0 b bs w) : b < w.heap.size := by
  obtain ⟨p, v, h1, h2, h3⟩ := h.row
  exact h2.lt
theorem Pg.new {w0 w : World} (hb : Below w0.heap.size w0 w) : Pg w0 w.heap.size [] (w.alloc (.cells #[.pointer none, .slice none 0 0] 68)) :=
  ⟨hb.alloc hb.size _, hb.size, .pointer none, .slice none 0 0, .inl rfl, Blk.new _ _ _, World.ownsRow_nil _ _ _ _⟩
theorem sizeBld : (Tryz.prog.info? 66).map (·.size) = some 2 := by kernel_rfl
theorem infoU8 : (Tryz.prog.info? 5).map (fun i => (i.zero, i.size, i.bytes)) = some (some (.int .u8 0), 1, 1) := by kernel_rfl
theorem liesPage : liesAt Tryz.prog Tryz.prog.depth 68 (2 / Tryz.prog.cellsOf 68) 0 66 1 = true := by kernel_rfl
set_option maxHeartbeats 1000000 in
theorem pgUsed_any {b : Nat} {w : World} (h0 : w.cell? ⟨b, 0, none⟩ = some (.pointer (some ⟨b, 0, none⟩))) :
    Calls Tryz.prog 87 #[.pointer (some ⟨b, 0, none⟩)] w fun e w' => e = .returned (.tuple #[]) ∧ w' = w := by
  obtain ⟨j, hj, _⟩ := Option.map_eq_some_iff.1 sizeBld
  go_enter Tryz.func87, Tryz.ntmps87
  go_wp2_with fail
  rw [Lib.run_neq_ptr_same w _ Tryz.underlying63 hj]
  go_wp2_with fail
  go_end0
  exact ⟨rfl, rfl⟩
set_option maxHeartbeats 1000000 in
theorem pgFresh_any {b : Nat} {w : World} (h0 : w.cell? ⟨b, 0, none⟩ = some (.pointer none)) (hsh : w.shape? b = some (68, 2)) (hfz : w.frozen? ⟨b, 0, none⟩ = false) :
    Calls Tryz.prog 87 #[.pointer (some ⟨b, 0, none⟩)] w fun e w' => e = .returned (.tuple #[]) ∧ w' = w.setCell ⟨b, 0, none⟩ (.pointer (some ⟨b, 0, none⟩)) := by
  obtain ⟨j, hj, hjs⟩ := Option.map_eq_some_iff.1 sizeBld
  go_enter Tryz.func87, Tryz.ntmps87
  go_wp2_with fail
  rw [Lib.run_to_unsafe w ⟨b, 0, none⟩ Tryz.underlying63 Tryz.underlying179 hj (by rw [hjs]; decide) hsh (Nat.zero_lt_succ 1)]
  simp only [Result.andThen]
  rw [Oper.upon_value]
  go_wp2_with fail
  rw [run_callFunc_extern Tryz.func136 (by kernel_rfl) (by kernel_rfl) (by kernel_rfl) (e := Extern.AbiNoEscape.same) (by kernel_rfl)]
  rw [Lib.run_noEscape]
  simp only [Result.andThen]
  rw [Oper.upon_value]
  go_wp2_with fail
  rw [Lib.run_from_unsafe w ⟨b, 0, none⟩ Tryz.underlying179 Tryz.underlying63 hj hsh liesPage]
  simp only [Result.andThen]
  rw [Oper.upon_value]
  go_wp2_with fail
  go_end0
  exact ⟨rfl, rfl⟩
/-- Behind the look at its own address. -/
def Pu (w0 : World) (b : Nat) (bs : List UInt8) (v : Value) (w : World) : Prop :=
  Below w0.heap.size w0 w ∧ w0.heap.size ≤ b ∧ Blk w b #[.pointer (some ⟨b, 0, none⟩), v] 68 ∧ w.ownsRow w0.heap.size 5 1 v bs.length (Lib.byteCells bs)
theorem Pu.pg {w0 : World} {b : Nat} {bs : List UInt8} {v : Value} {w : World} (h : Pu w0 b bs v w) : Pg w0 b bs w := ⟨h.1, h.2.1, _, v, .inr rfl, h.2.2.1, h.2.2.2⟩
theorem ot_set {b : Nat} {w w' : World} (h : Kp (fun k => k = b) w w') : Ot b w w' := fun k o hk hne _ => (h.block k (Array.getElem?_eq_some_iff.1 hk).1 (fun e => hne (by rw [e]))).trans hk
theorem own_type8 {w : World} {B : Nat} {v : Value} {n : Nat} {xs : List Value} {k : Nat} {cs : Array Value} {t : TypeId} (h : w.ownsRow B 5 1 v n xs) (hb : Blk w k cs t) (ht : t ≠ 5) : ¬ v.ownBlock = some k := by
  intro hk
  rcases h.2 with ⟨rfl, _⟩ | ⟨q, cap, cur, rfl, _, hq, _⟩
  · cases hk
  · simp only [Value.ownBlock, Option.some.injEq] at hk
    subst hk
    unfold Blk at hb
    rw [hq] at hb
    simp only [Option.some.injEq, Obj.cells.injEq] at hb
    exact ht hb.2.1.symm
theorem pgCheck_any {w0 w : World} {b : Nat} {bs : List UInt8} (h : Pg w0 b bs w) :
    Calls Tryz.prog 87 #[.pointer (some ⟨b, 0, none⟩)] w fun e w' => e = .returned (.tuple #[]) ∧ (∃ v, Pu w0 b bs v w') ∧ Ot b w w' := by
  obtain ⟨p, v, rfl | rfl, h2, h3⟩ := h.row
  · refine (pgFresh_any (h2.cell 0) (by unfold Blk at h2; simp [World.shape?, h2]) (h2.froz 0)).mono ?_
    rintro e w' ⟨rfl, rfl⟩
    have hk : Kp (fun k => k = b) w (w.setCell ⟨b, 0, none⟩ (.pointer (some ⟨b, 0, none⟩))) := Kp.setCell (S := fun k => k = b) (Kp.refl _ w) (p := ⟨b, 0, none⟩) (fun _ => rfl) _
    refine ⟨rfl, ⟨v, h.bel.trans (hk.toBelow h.bel.size (fun k e => by subst e; exact h.low)), h.low, h2.set 0 _ rfl, own_kpV h3 hk (fun k hv e => by subst e; exact own_type8 h3 h2 (by decide) hv)⟩, ot_set hk⟩
  · refine (pgUsed_any (h2.cell 0)).mono ?_
    rintro e w' ⟨rfl, rfl⟩
    exact ⟨rfl, ⟨v, h.bel, h.low, h2, h3⟩, Ot.refl _ _⟩
theorem pu_put {w0 w w2 : World} {b : Nat} {bs : List UInt8} {v v' : Value} (h : Pu w0 b bs v w) (bs' : List UInt8) (hown : w2.ownsRow w0.heap.size 5 1 v' bs'.length (Lib.byteCells bs')) (hg : w.grownBy w2 v.ownBlock) :
    Blk w2 b #[.pointer (some ⟨b, 0, none⟩), v] 68 ∧ Pu w0 b bs' v' (w2.setCell ⟨b, 1, none⟩ v') ∧ Ot b w (w2.setCell ⟨b, 1, none⟩ v') := by
  obtain ⟨h1, h2, h3, h4⟩ := h
  have hnb : ¬ v.ownBlock = some b := own_type8 h4 h3 (by decide)
  have hb2 : Blk w2 b #[.pointer (some ⟨b, 0, none⟩), v] 68 := (hg.block b h3.lt (fun e => hnb e.symm)).trans h3
  have hk : Kp (fun k => k = b) w2 (w2.setCell ⟨b, 1, none⟩ v') := Kp.setCell (S := fun k => k = b) (Kp.refl _ w2) (p := ⟨b, 1, none⟩) (fun _ => rfl) _
  have hbel : Below w0.heap.size w0 w2 := h1.grown hg h1.size (fun k hk => (h4.lt k hk).1)
  refine ⟨hb2, ⟨hbel.trans (hk.toBelow hbel.size (fun k e => by subst e; exact h2)), h2, hb2.set 1 _ rfl, own_kpV hown hk (fun k hv e => by subst e; exact own_type8 hown hb2 (by decide) hv)⟩, ?_⟩
  refine Ot.trans (w1 := w2) ?_ (ot_set hk)
  intro k o hko hne hn
  have hlt := (Array.getElem?_eq_some_iff.1 hko).1
  refine (hg.block k hlt (fun e => ?_)).trans hko
  rcases h4.2 with ⟨rfl, _⟩ | ⟨q, cap, cur, rfl, _, hq, _⟩
  · cases e
  · simp only [Value.ownBlock, Option.some.injEq] at e
    subst e
    rw [hq] at hko
    exact hn _ _ (Option.some.inj hko).symm
set_option maxHeartbeats 2000000 in
theorem pgStr_any {w0 w : World} {b : Nat} {bs : List UInt8} (s : ByteArray) (h : Pg w0 b bs w) (hlen : bs.length + s.size ≤ 1000000000) :
    Calls Tryz.prog 53 #[.pointer (some ⟨b, 0, none⟩), .string s] w fun e w' => e = .returned (.tuple #[.int .i64 s.size, .nilIface]) ∧ Pg w0 b (bs ++ s.data.toList) w' ∧ Ot b w w' := by
  obtain ⟨i0, hi, hz0, hz1, hz2⟩ := info_parts infoU8
  have HP : Hid (Pg w0 b bs w) := h
  clear h
  go_enter Tryz.func53, Tryz.ntmps53
  go_wp2_with (go_at_call 87; refine (pgCheck_any HP.out).mono ?_)
  rintro e w1 ⟨rfl, ⟨v, hu⟩, ho⟩
  have c1 := (hu.2.2.1.cell 1).trans rfl
  have hown := hu.2.2.2
  have HU : Hid (Pu w0 b bs v w1) := hu
  have HO : Hid (Ot b w w1) := ho
  have hbase := hu.1.size
  clear hu ho
  go_wp2_with (at_builtin; refine Lib.wpList_append_own_string _ rfl _ _ 64 9 rfl w0.heap.size 5 i0 Tryz.underlying64 Tryz.underlying9 hi hz0 hz1 hz2 _ _ _ rfl hown s rfl ?c3 ?c4 ?c5 ?_)
  case c3 => unfold maxLen; omega
  case c4 => omega
  case c5 => exact hbase
  intro v' w2 hown' hgrow _
  have hcells : Lib.byteCells bs ++ Lib.strCells s = Lib.byteCells (bs ++ s.data.toList) := by unfold Lib.byteCells Lib.strCells; rw [List.map_append]
  have hlen2 : bs.length + s.size = (bs ++ s.data.toList).length := by rw [List.length_append, Array.length_toList]; rfl
  rw [hcells, hlen2] at hown'
  obtain ⟨hb2, hpu, hot⟩ := pu_put HU.out _ hown' hgrow
  obtain ⟨ao, cap, hv⟩ := own_form hown'
  subst hv
  have d1 := (hb2.cell 1).trans rfl
  have f1 := hb2.froz 1
  have HPU : Hid (Pg w0 b (bs ++ s.data.toList) (w2.setCell ⟨b, 1, none⟩ (.slice ao (bs ++ s.data.toList).length cap))) := hpu.pg
  have HOT : Hid (Ot b w (w2.setCell ⟨b, 1, none⟩ (.slice ao (bs ++ s.data.toList).length cap))) := HO.out.trans hot
  generalize (bs ++ s.data.toList).length = N at *
  clear hcells hlen2 hown' hgrow hpu hot hown c1
  go_wp2_with fail
  go_ret2
  exact ⟨rfl, HPU.out, HOT.out⟩
set_option maxHeartbeats 2000000 in
theorem pgByte_any {w0 w : World} {b : Nat} {bs : List UInt8} (c : UInt8) (h : Pg w0 b bs w) (hlen : bs.length + 1 ≤ 1000000000) :
    Calls Tryz.prog 54 #[.pointer (some ⟨b, 0, none⟩), .int .u8 (c.toNat : Int)] w fun e w' => e = .returned .nilIface ∧ Pg w0 b (bs ++ [c]) w' ∧ Ot b w w' := by
  obtain ⟨i0, hi, hz0, hz1, hz2⟩ := info_parts infoU8
  have HP : Hid (Pg w0 b bs w) := h
  clear h
  generalize hC : (c.toNat : Int) = C
  have HC : Hid ((c.toNat : Int) = C) := hC
  clear hC
  go_enter Tryz.func54, Tryz.ntmps54
  go_wp2_with (go_at_call 87; refine (pgCheck_any HP.out).mono ?_)
  rintro e w1 ⟨rfl, ⟨v, hu⟩, ho⟩
  have c1 := (hu.2.2.1.cell 1).trans rfl
  have hal : Below w1.heap.size w1 (w1.alloc (.cells #[.int .u8 C] 5)) := (Below.refl _ _).alloc (Nat.le_refl _) _
  have hown := own_below hu.2.2.2 hal
  have HU : Hid (Pu w0 b bs v (w1.alloc (.cells #[.int .u8 C] 5))) := ⟨hu.1.trans (hal.mono hu.1.size), hu.2.1, hu.2.2.1.below hal, hown⟩
  have HO : Hid (Ot b w (w1.alloc (.cells #[.int .u8 C] 5))) := ho.trans (Ot.ofBelow hal)
  have hbase := hu.1.size
  clear hu ho hal
  go_wp2_with (at_builtin; refine wpList_append_own _ rfl _ _ 64 rfl w0.heap.size 5 i0 (.int .u8 0) 1 1 Tryz.underlying64 hi hz0 hz1 hz2 rfl (by decide) _ _ _ rfl hown ⟨w1.heap.size, 0, none⟩ 1 1 [.int .u8 C] rfl rfl ?c1 ?c2 ?c3 ?c4 ?c5 ?_)
  case c1 =>
    intro j u hj
    match j, hj with
    | 0, hj => simp at hj; subst hj; simp [Addr.add]
  case c2 => intro u hu; simp at hu; subst hu; rfl
  case c3 => unfold maxLen; omega
  case c4 => omega
  case c5 => simp; omega
  intro v' w2 hown' hgrow _
  have hcells : Lib.byteCells bs ++ [.int .u8 C] = Lib.byteCells (bs ++ [c]) := by unfold Lib.byteCells; rw [List.map_append, ← HC.out]; rfl
  have hlen2 : bs.length + 1 = (bs ++ [c]).length := by simp
  rw [hcells, hlen2] at hown'
  obtain ⟨hb2, hpu, hot⟩ := pu_put HU.out _ hown' hgrow
  obtain ⟨ao, cap, hv⟩ := own_form hown'
  subst hv
  have d1 := (hb2.cell 1).trans rfl
  have f1 := hb2.froz 1
  have HPU : Hid (Pg w0 b (bs ++ [c]) (w2.setCell ⟨b, 1, none⟩ (.slice ao (bs ++ [c]).length cap))) := hpu.pg
  have HOT : Hid (Ot b w (w2.setCell ⟨b, 1, none⟩ (.slice ao (bs ++ [c]).length cap))) := HO.out.trans hot
  generalize (bs ++ [c]).length = N at *
  clear hcells hlen2 hown' hgrow hpu hot hown c1
  go_wp2_with fail
  go_ret
  exact ⟨rfl, HPU.out, HOT.out⟩
theorem cellsU8 : Tryz.prog.cellsOf 5 = 1 := by kernel_rfl
set_option maxHeartbeats 2000000 in
theorem pgString_any {w0 w : World} {b : Nat} {l : List UInt8} (h : Pg w0 b l w) (h0 : l ≠ []) :
    Calls Tryz.prog 33 #[.pointer (some ⟨b, 0, none⟩)] w fun e w' => e = .returned (.string ⟨l.toArray⟩) ∧ Below w0.heap.size w0 w' := by
  obtain ⟨p, v, _, hbk, hown⟩ := h.row
  have hl0 : l.length ≠ 0 := by simpa using h0
  have hbel := h.bel
  obtain ⟨g, cap, cur, rfl, hbg, hg, hnc, hcm, hcs, htake⟩ : ∃ g cap cur, v = .slice (some ⟨g, 0, none⟩) l.length cap ∧ w0.heap.size ≤ g ∧ w.heap[g]? = some (.cells cur 5 (0, 0)) ∧ l.length ≤ cap ∧ cap ≤ maxLen ∧ cur.size = cap * 1 ∧ cur.toList.take (l.length * 1) = Lib.byteCells l := by
    rcases hown.2 with ⟨_, hz⟩ | ⟨g, cap, cur, hv, r⟩
    · exact absurd hz hl0
    · exact ⟨g, cap, cur, hv, r⟩
  have c1 : w.drew.cell? ⟨b, 1, none⟩ = some (.slice (some ⟨g, 0, none⟩) l.length cap) := by
    have : Blk w.drew b #[p, .slice (some ⟨g, 0, none⟩) l.length cap] 68 := hbk
    exact this.cell 1
  have hSD : (Builtin.unsafeSliceData_ #[64] 100 #[.slice (some ⟨g, 0, none⟩) l.length cap]).run Tryz.prog w.drew = .ok (.pointer (some ⟨g, 0, none⟩)) w.drew :=
    Lib.run_unsafeSliceData_row _ _ _ _ _ _ (by omega)
  have hUS : (Builtin.unsafeString_ #[100, 3] 9 #[.pointer (some ⟨g, 0, none⟩), .int .i64 l.length]).run Tryz.prog w.drew = .ok (.string ⟨l.toArray⟩) (w.drew.freeze ⟨g, 0, none⟩ l.length) := by
    refine Lib.run_unsafeString_row w.drew 100 3 9 5 Tryz.underlying100 cellsU8 g cur.size (by have hg' : w.drew.heap[g]? = some (.cells cur 5 (0, 0)) := hg; simp [World.shape?, hg']) l h0 (by omega) (by unfold maxLen at hcm; omega) ?_
    intro j x hx
    exact hown.cells (g := g) rfl j (.int .u8 x.toNat) (by simp [Lib.byteCells, hx])
  go_enter Tryz.func33, Tryz.ntmps33
  go_wp2_with fail
  go_region
  all_goals (go_wp2_with fail; go_ret; exact ⟨rfl, Lib.below_freeze (Below.drew hbel) (p := ⟨g, 0, none⟩) hbg _⟩)
end Go.Proofs.YtkfhlgajeejgeaaGreatDoor

/- What of the library this program bears: tables of numbers. -/
namespace Go.Proofs.YtkfhlgajeejgeaaGreatDoor
open Go.Shelf
def lays156_ren : Go.Shelf.Ren := ⟨fun | 156 => 89 | 165 => 138 | 166 => 53 | 169 => 33 | 240 => 87 | 241 => 171 | 276 => 136 | 277 => 186 | n => n, fun | 31 => 92 | 9 => 9 | 3 => 3 | 4 => 4 | 0 => 0 | 20 => 20 | 72 => 66 | 76 => 95 | 70 => 63 | 37 => 64 | 75 => 94 | 127 => 100 | 164 => 179 | 5 => 5 | 80 => 72 | n => n, fun | n => n⟩
theorem lays156 : Go.Proofs.Lays.n156 Tryz.prog lays156_ren := {
  mixed := by kernel_rfl
  f156 := Tryz.func89.trans (congrArg some (by kernel_rfl))
  f165 := Tryz.func138.trans (congrArg some (by kernel_rfl))
  f166 := Tryz.func53.trans (congrArg some (by kernel_rfl))
  f169 := Tryz.func33.trans (congrArg some (by kernel_rfl))
  f240 := Tryz.func87.trans (congrArg some (by kernel_rfl))
  f241 := Tryz.func171.trans (congrArg some (by kernel_rfl))
  f276 := Tryz.func136.trans (congrArg some (by kernel_rfl))
  f277 := Tryz.func186.trans (congrArg some (by kernel_rfl))
  t0 := Tryz.underlying0
  a0 := Tryz.isAgg0
  z0 := Tryz.sizeOf0
  v0 := Tryz.zeroValue0
  t3 := Tryz.underlying3
  a3 := Tryz.isAgg3
  z3 := Tryz.sizeOf3
  v3 := Tryz.zeroValue3
  t4 := Tryz.underlying4
  a4 := Tryz.isAgg4
  z4 := Tryz.sizeOf4
  v4 := Tryz.zeroValue4
  t9 := Tryz.underlying9
  a9 := Tryz.isAgg9
  z9 := Tryz.sizeOf9
  v9 := Tryz.zeroValue9
  t20 := Tryz.underlying20
  a20 := Tryz.isAgg20
  z20 := Tryz.sizeOf20
  v20 := Tryz.zeroValue20
  t31 := Tryz.underlying92
  a31 := Tryz.isAgg92
  z31 := Tryz.sizeOf92
  v31 := Tryz.zeroValue92
  t37 := Tryz.underlying64
  a37 := Tryz.isAgg64
  z37 := Tryz.sizeOf64
  v37 := Tryz.zeroValue64
  t70 := Tryz.underlying63
  a70 := Tryz.isAgg63
  z70 := Tryz.sizeOf63
  v70 := Tryz.zeroValue63
  t72 := Tryz.underlying66
  a72 := Tryz.isAgg66
  z72 := Tryz.sizeOf66
  v72 := Tryz.zeroValue66
  t75 := Tryz.underlying94
  a75 := Tryz.isAgg94
  z75 := Tryz.sizeOf94
  v75 := Tryz.zeroValue94
  t76 := Tryz.underlying95
  a76 := Tryz.isAgg95
  z76 := Tryz.sizeOf95
  v76 := Tryz.zeroValue95
  t127 := Tryz.underlying100
  a127 := Tryz.isAgg100
  z127 := Tryz.sizeOf100
  v127 := Tryz.zeroValue100
  t164 := Tryz.underlying179
  a164 := Tryz.isAgg179
  z164 := Tryz.sizeOf179
  v164 := Tryz.zeroValue179 }
def laysM171_ren : Go.Shelf.Ren := ⟨fun | 171 => 57 | 243 => 88 | 246 => 137 | 283 => 167 | 284 => 168 | 285 => 169 | 286 => 170 | 129 => 133 | 317 => 182 | 318 => 183 | 319 => 184 | 320 => 185 | 337 => 190 | 338 => 191 | n => n, fun | 3 => 3 | 9 => 9 | 2 => 2 | 4 => 4 | 171 => 202 | 0 => 0 | 53 => 176 | 37 => 64 | 5 => 5 | 173 => 204 | 212 => 216 | 51 => 174 | 20 => 20 | 213 => 217 | 46 => 135 | 232 => 222 | 233 => 223 | n => n, fun | 17 => 0 | 18 => 3 | 19 => 4 | n => n⟩
theorem laysM171 : Go.Proofs.LaysM.n171 Tryz.prog laysM171_ren := {
  mixed := by kernel_rfl
  f129 := Tryz.func133.trans (congrArg some (by kernel_rfl))
  f171 := Tryz.func57.trans (congrArg some (by kernel_rfl))
  f243 := Tryz.func88.trans (congrArg some (by kernel_rfl))
  f246 := Tryz.func137.trans (congrArg some (by kernel_rfl))
  f283 := Tryz.func167.trans (congrArg some (by kernel_rfl))
  f284 := Tryz.func168.trans (congrArg some (by kernel_rfl))
  f285 := Tryz.func169.trans (congrArg some (by kernel_rfl))
  f286 := Tryz.func170.trans (congrArg some (by kernel_rfl))
  f317 := Tryz.func182.trans (congrArg some (by kernel_rfl))
  f318 := Tryz.func183.trans (congrArg some (by kernel_rfl))
  f319 := Tryz.func184.trans (congrArg some (by kernel_rfl))
  f320 := Tryz.func185.trans (congrArg some (by kernel_rfl))
  f337 := Tryz.func190.trans (congrArg some (by kernel_rfl))
  f338 := Tryz.func191.trans (congrArg some (by kernel_rfl))
  t0 := Tryz.underlying0
  a0 := Tryz.isAgg0
  z0 := Tryz.sizeOf0
  v0 := Tryz.zeroValue0
  t2 := Tryz.underlying2
  a2 := Tryz.isAgg2
  z2 := Tryz.sizeOf2
  v2 := Tryz.zeroValue2
  t3 := Tryz.underlying3
  a3 := Tryz.isAgg3
  z3 := Tryz.sizeOf3
  v3 := Tryz.zeroValue3
  t4 := Tryz.underlying4
  a4 := Tryz.isAgg4
  z4 := Tryz.sizeOf4
  v4 := Tryz.zeroValue4
  t5 := Tryz.underlying5
  a5 := Tryz.isAgg5
  z5 := Tryz.sizeOf5
  v5 := Tryz.zeroValue5
  t9 := Tryz.underlying9
  a9 := Tryz.isAgg9
  z9 := Tryz.sizeOf9
  v9 := Tryz.zeroValue9
  t20 := Tryz.underlying20
  a20 := Tryz.isAgg20
  z20 := Tryz.sizeOf20
  v20 := Tryz.zeroValue20
  t37 := Tryz.underlying64
  a37 := Tryz.isAgg64
  z37 := Tryz.sizeOf64
  v37 := Tryz.zeroValue64
  t46 := Tryz.underlying135
  a46 := Tryz.isAgg135
  z46 := Tryz.sizeOf135
  v46 := Tryz.zeroValue135
  t51 := Tryz.underlying174
  a51 := Tryz.isAgg174
  z51 := Tryz.sizeOf174
  v51 := Tryz.zeroValue174
  t53 := Tryz.underlying176
  a53 := Tryz.isAgg176
  z53 := Tryz.sizeOf176
  v53 := Tryz.zeroValue176
  t171 := Tryz.underlying202
  a171 := Tryz.isAgg202
  z171 := Tryz.sizeOf202
  v171 := Tryz.zeroValue202
  t173 := Tryz.underlying204
  a173 := Tryz.isAgg204
  z173 := Tryz.sizeOf204
  v173 := Tryz.zeroValue204
  t212 := Tryz.underlying216
  a212 := Tryz.isAgg216
  z212 := Tryz.sizeOf216
  v212 := Tryz.zeroValue216
  t213 := Tryz.underlying217
  a213 := Tryz.isAgg217
  z213 := Tryz.sizeOf217
  t232 := Tryz.underlying222
  a232 := Tryz.isAgg222
  z232 := Tryz.sizeOf222
  v232 := Tryz.zeroValue222
  t233 := Tryz.underlying223
  a233 := Tryz.isAgg223
  z233 := Tryz.sizeOf223
  v233 := Tryz.zeroValue223
  g17 := by kernel_rfl
  g18 := by kernel_rfl
  g19 := by kernel_rfl
  i0 := by kernel_rfl
  i2 := by kernel_rfl
  i3 := by kernel_rfl
  i4 := by kernel_rfl
  i5 := by kernel_rfl
  i9 := by kernel_rfl
  i20 := by kernel_rfl
  i37 := by kernel_rfl
  i46 := by kernel_rfl
  i51 := by kernel_rfl
  i53 := by kernel_rfl
  i171 := by kernel_rfl
  i173 := by kernel_rfl
  i212 := by kernel_rfl
  i232 := by kernel_rfl
  i233 := by kernel_rfl
  m17 := by kernel_rfl
  m18 := by kernel_rfl
  m19 := by kernel_rfl }
def lays189_ren : Go.Shelf.Ren := ⟨fun | 189 => 49 | 125 => 85 | 257 => 84 | 128 => 132 | 129 => 133 | 294 => 123 | 295 => 124 | 296 => 125 | 297 => 126 | 298 => 127 | 299 => 128 | 216 => 129 | 300 => 130 | 301 => 131 | 328 => 161 | 329 => 162 | 330 => 163 | 331 => 164 | 332 => 165 | 215 => 122 | 343 => 180 | n => n, fun | 28 => 38 | 3 => 3 | 46 => 135 | 0 => 0 | 51 => 174 | 53 => 176 | 4 => 4 | 183 => 166 | 182 => 165 | 131 => 171 | 5 => 5 | 9 => 9 | 218 => 196 | 222 => 200 | 228 => 211 | 229 => 212 | n => n, fun | n => n⟩
theorem lays189 : Go.Proofs.Lays.n189 Tryz.prog lays189_ren := {
  mixed := by kernel_rfl
  f125 := Tryz.func85.trans (congrArg some (by kernel_rfl))
  f128 := Tryz.func132.trans (congrArg some (by kernel_rfl))
  f129 := Tryz.func133.trans (congrArg some (by kernel_rfl))
  f189 := Tryz.func49.trans (congrArg some (by kernel_rfl))
  f215 := Tryz.func122.trans (congrArg some (by kernel_rfl))
  f216 := Tryz.func129.trans (congrArg some (by kernel_rfl))
  f257 := Tryz.func84.trans (congrArg some (by kernel_rfl))
  f294 := Tryz.func123.trans (congrArg some (by kernel_rfl))
  f295 := Tryz.func124.trans (congrArg some (by kernel_rfl))
  f296 := Tryz.func125.trans (congrArg some (by kernel_rfl))
  f297 := Tryz.func126.trans (congrArg some (by kernel_rfl))
  f298 := Tryz.func127.trans (congrArg some (by kernel_rfl))
  f299 := Tryz.func128.trans (congrArg some (by kernel_rfl))
  f300 := Tryz.func130.trans (congrArg some (by kernel_rfl))
  f301 := Tryz.func131.trans (congrArg some (by kernel_rfl))
  f328 := Tryz.func161.trans (congrArg some (by kernel_rfl))
  f329 := Tryz.func162.trans (congrArg some (by kernel_rfl))
  f330 := Tryz.func163.trans (congrArg some (by kernel_rfl))
  f331 := Tryz.func164.trans (congrArg some (by kernel_rfl))
  f332 := Tryz.func165.trans (congrArg some (by kernel_rfl))
  f343 := Tryz.func180.trans (congrArg some (by kernel_rfl))
  t0 := Tryz.underlying0
  a0 := Tryz.isAgg0
  z0 := Tryz.sizeOf0
  v0 := Tryz.zeroValue0
  t3 := Tryz.underlying3
  a3 := Tryz.isAgg3
  z3 := Tryz.sizeOf3
  v3 := Tryz.zeroValue3
  t4 := Tryz.underlying4
  a4 := Tryz.isAgg4
  z4 := Tryz.sizeOf4
  v4 := Tryz.zeroValue4
  t5 := Tryz.underlying5
  a5 := Tryz.isAgg5
  z5 := Tryz.sizeOf5
  v5 := Tryz.zeroValue5
  t9 := Tryz.underlying9
  a9 := Tryz.isAgg9
  z9 := Tryz.sizeOf9
  v9 := Tryz.zeroValue9
  t28 := Tryz.underlying38
  a28 := Tryz.isAgg38
  z28 := Tryz.sizeOf38
  v28 := Tryz.zeroValue38
  t46 := Tryz.underlying135
  a46 := Tryz.isAgg135
  z46 := Tryz.sizeOf135
  v46 := Tryz.zeroValue135
  t51 := Tryz.underlying174
  a51 := Tryz.isAgg174
  z51 := Tryz.sizeOf174
  v51 := Tryz.zeroValue174
  t53 := Tryz.underlying176
  a53 := Tryz.isAgg176
  z53 := Tryz.sizeOf176
  v53 := Tryz.zeroValue176
  t131 := Tryz.underlying171
  a131 := Tryz.isAgg171
  z131 := Tryz.sizeOf171
  v131 := Tryz.zeroValue171
  t182 := Tryz.underlying165
  a182 := Tryz.isAgg165
  z182 := Tryz.sizeOf165
  v182 := Tryz.zeroValue165
  t183 := Tryz.underlying166
  a183 := Tryz.isAgg166
  z183 := Tryz.sizeOf166
  v183 := Tryz.zeroValue166
  t218 := Tryz.underlying196
  a218 := Tryz.isAgg196
  z218 := Tryz.sizeOf196
  v218 := Tryz.zeroValue196
  t222 := Tryz.underlying200
  a222 := Tryz.isAgg200
  z222 := Tryz.sizeOf200
  v222 := Tryz.zeroValue200
  t228 := Tryz.underlying211
  a228 := Tryz.isAgg211
  z228 := Tryz.sizeOf211
  v228 := Tryz.zeroValue211
  t229 := Tryz.underlying212
  a229 := Tryz.isAgg212
  z229 := Tryz.sizeOf212
  v229 := Tryz.zeroValue212 }
def laysF_ren : Go.Shelf.Ren := ⟨fun | 20 => 120 | n => n, fun | 24 => 44 | 22 => 37 | 3 => 3 | 25 => 86 | 4 => 4 | 0 => 0 | n => n, fun | n => n⟩
theorem laysF : Go.Proofs.SlLaysF0.n20 Tryz.prog laysF_ren := {
  mixed := by kernel_rfl
  f20 := ⟨Tryz.f120.name, by decide, Tryz.func120.trans (congrArg some (by kernel_rfl))⟩
  t0 := Tryz.underlying0
  a0 := Tryz.isAgg0
  z0 := Tryz.sizeOf0
  v0 := Tryz.zeroValue0
  t3 := Tryz.underlying3
  a3 := Tryz.isAgg3
  z3 := Tryz.sizeOf3
  v3 := Tryz.zeroValue3
  t4 := Tryz.underlying4
  a4 := Tryz.isAgg4
  z4 := Tryz.sizeOf4
  v4 := Tryz.zeroValue4
  t22 := Tryz.underlying37
  a22 := Tryz.isAgg37
  z22 := Tryz.sizeOf37
  v22 := Tryz.zeroValue37
  t25 := Tryz.underlying86
  a25 := Tryz.isAgg86
  z25 := Tryz.sizeOf86
  v25 := Tryz.zeroValue86 }
def laysN_ren : Go.Shelf.Ren := ⟨fun | 20 => 134 | n => n, fun | 24 => 49 | 22 => 45 | 3 => 3 | 25 => 90 | 4 => 4 | 0 => 0 | n => n, fun | n => n⟩
theorem laysN : Go.Proofs.SlLaysF0.n20 Tryz.prog laysN_ren := {
  mixed := by kernel_rfl
  f20 := ⟨Tryz.f134.name, by decide, Tryz.func134.trans (congrArg some (by kernel_rfl))⟩
  t0 := Tryz.underlying0
  a0 := Tryz.isAgg0
  z0 := Tryz.sizeOf0
  v0 := Tryz.zeroValue0
  t3 := Tryz.underlying3
  a3 := Tryz.isAgg3
  z3 := Tryz.sizeOf3
  v3 := Tryz.zeroValue3
  t4 := Tryz.underlying4
  a4 := Tryz.isAgg4
  z4 := Tryz.sizeOf4
  v4 := Tryz.zeroValue4
  t22 := Tryz.underlying45
  a22 := Tryz.isAgg45
  z22 := Tryz.sizeOf45
  v22 := Tryz.zeroValue45
  t25 := Tryz.underlying90
  a25 := Tryz.isAgg90
  z25 := Tryz.sizeOf90
  v25 := Tryz.zeroValue90 }
end Go.Proofs.YtkfhlgajeejgeaaGreatDoor

/- Lists in order of a number, those of one number in theirs: plain mathematics. -/
namespace Go.Proofs.YtkfhlgajeejgeaaGreatDoor
set_option linter.unusedVariables false
set_option linter.unusedSimpArgs false
set_option maxRecDepth 20000

section
variable {α : Type} (key : α → Int)
def UpK (l : List α) : Prop := l.Pairwise fun x y => key x ≤ key y
/-- m is l in order. -/
def SrtK (l m : List α) : Prop := UpK key m ∧ ∀ t : Int, m.filter (fun x => key x == t) = l.filter (fun x => key x == t)
/-- x behind all that are not greater. -/
def insK (x : α) : List α → List α
  | [] => [x]
  | y :: l => if key x < key y then x :: y :: l else y :: insK x l
def srtF (l : List α) : List α := l.foldl (fun m x => insK key x m) []
theorem insK_len (x : α) : ∀ l : List α, (insK key x l).length = l.length + 1
  | [] => rfl
  | y :: l => by unfold insK; split <;> simp [insK_len x l]
theorem insK_mem (x : α) : ∀ (l : List α) (z : α), z ∈ insK key x l ↔ z = x ∨ z ∈ l
  | [], z => by simp [insK]
  | y :: l, z => by
    unfold insK
    split
    · simp
    · simp only [List.mem_cons, insK_mem x l z]
      constructor
      · rintro (h | h | h)
        · exact .inr (.inl h)
        · exact .inl h
        · exact .inr (.inr h)
      · rintro (h | h | h)
        · exact .inr (.inl h)
        · exact .inl h
        · exact .inr (.inr h)
theorem insK_up (x : α) : ∀ l : List α, UpK key l → UpK key (insK key x l)
  | [], _ => by simp [insK, UpK]
  | y :: l, h => by
    unfold UpK at h
    rw [List.pairwise_cons] at h
    unfold insK
    split
    · rename_i hlt
      unfold UpK
      rw [List.pairwise_cons]
      refine ⟨?_, by rw [List.pairwise_cons]; exact h⟩
      intro z hz
      rcases List.mem_cons.1 hz with rfl | hz
      · omega
      · have := h.1 z hz; omega
    · rename_i hge
      unfold UpK
      rw [List.pairwise_cons]
      refine ⟨?_, insK_up x l h.2⟩
      intro z hz
      rcases (insK_mem key x l z).1 hz with rfl | hz
      · omega
      · exact h.1 z hz
theorem insK_filter (x : α) (t : Int) : ∀ l : List α, UpK key l → (insK key x l).filter (fun z => key z == t) = l.filter (fun z => key z == t) ++ [x].filter (fun z => key z == t)
  | [], _ => by simp [insK]
  | y :: l, h => by
    unfold UpK at h
    rw [List.pairwise_cons] at h
    unfold insK
    split
    · rename_i hlt
      by_cases hx : key x = t
      · have h0 : (y :: l).filter (fun z => key z == t) = [] := by
          rw [List.filter_eq_nil_iff]
          intro z hz
          have : key y ≤ key z := by
            rcases List.mem_cons.1 hz with rfl | hz
            · omega
            · exact h.1 z hz
          simp; omega
        rw [List.filter_cons, h0]
        simp [hx]
      · have hb : (key x == t) = false := by simpa using hx
        rw [List.filter_cons, hb]
        simp [hx]
    · rw [List.filter_cons, insK_filter x t l h.2, List.filter_cons (xs := l)]
      split <;> simp
theorem srt_fold : ∀ (l m : List α), UpK key m → UpK key (l.foldl (fun m x => insK key x m) m) ∧ (l.foldl (fun m x => insK key x m) m).length = m.length + l.length ∧ (∀ t : Int, (l.foldl (fun m x => insK key x m) m).filter (fun z => key z == t) = m.filter (fun z => key z == t) ++ l.filter (fun z => key z == t)) ∧ ∀ z, z ∈ l.foldl (fun m x => insK key x m) m ↔ z ∈ m ∨ z ∈ l
  | [], m, h => ⟨h, by simp, by simp, by simp⟩
  | x :: l, m, h => by
    obtain ⟨h1, h2, h3, h4⟩ := srt_fold l (insK key x m) (insK_up key x m h)
    refine ⟨h1, ?_, ?_, ?_⟩
    · rw [List.foldl_cons, h2, insK_len, List.length_cons]; omega
    · intro t
      rw [List.foldl_cons, h3 t, insK_filter key x t m h, List.append_assoc, ← List.filter_append]; rfl
    · intro z
      rw [List.foldl_cons, h4 z, insK_mem, List.mem_cons]
      constructor
      · rintro ((h | h) | h)
        · exact .inr (.inl h)
        · exact .inl h
        · exact .inr (.inr h)
      · rintro (h | h | h)
        · exact .inl (.inr h)
        · exact .inl (.inl h)
        · exact .inr h
theorem srtF_srt (l : List α) : SrtK key l (srtF key l) := by
  obtain ⟨h1, _, h3, _⟩ := srt_fold key l [] (by simp [UpK])
  exact ⟨h1, fun t => by rw [srtF, h3 t]; simp⟩
theorem srtF_len (l : List α) : (srtF key l).length = l.length := by
  obtain ⟨_, h2, _, _⟩ := srt_fold key l [] (by simp [UpK])
  rw [srtF, h2]; simp
theorem srtF_mem (l : List α) (z : α) : z ∈ srtF key l ↔ z ∈ l := by
  obtain ⟨_, _, _, h4⟩ := srt_fold key l [] (by simp [UpK])
  rw [srtF, h4 z]; simp
theorem srtF_snoc (l : List α) (x : α) : srtF key (l ++ [x]) = insK key x (srtF key l) := by simp [srtF]
theorem srt_uniq : ∀ (l m : List α), UpK key l → UpK key m → (∀ t : Int, l.filter (fun x => key x == t) = m.filter (fun x => key x == t)) → l = m
  | [], [], _, _, _ => rfl
  | [], y :: m, _, _, h => by have := h (key y); simp at this
  | x :: l, [], _, _, h => by have := h (key x); simp at this
  | x :: l, y :: m, hl, hm, h => by
    unfold UpK at hl hm
    rw [List.pairwise_cons] at hl hm
    have hxy : key x = key y := by
      have h1 : key x ≤ key y := by
        have := h (key y)
        have hy : y ∈ (y :: m).filter (fun z => key z == key y) := by simp
        rw [← this, List.mem_filter] at hy
        rcases List.mem_cons.1 hy.1 with rfl | hz
        · omega
        · exact hl.1 _ hz
      have h2 : key y ≤ key x := by
        have := h (key x)
        have hx : x ∈ (x :: l).filter (fun z => key z == key x) := by simp
        rw [this, List.mem_filter] at hx
        rcases List.mem_cons.1 hx.1 with rfl | hz
        · omega
        · exact hm.1 _ hz
      omega
    have hh := h (key x)
    rw [List.filter_cons, List.filter_cons] at hh
    simp only [beq_self_eq_true, if_true, hxy] at hh
    injection hh with h1 h2
    subst h1
    congr 1
    refine srt_uniq l m hl.2 hm.2 (fun t => ?_)
    have := h t
    rw [List.filter_cons, List.filter_cons] at this
    split at this
    · injection this
    · exact this
theorem srtK_eq {l m : List α} (h : SrtK key l m) : m = srtF key l :=
  srt_uniq key m (srtF key l) h.1 (srtF_srt key l).1 (fun t => (h.2 t).trans ((srtF_srt key l).2 t).symm)
theorem srtF_id {l : List α} (h : UpK key l) : srtF key l = l := (srtK_eq key ⟨h, fun _ => rfl⟩).symm
theorem srtF_twice (l : List α) : srtF key (srtF key l) = srtF key l := srtF_id key (srtF_srt key l).1
/-- Where the numbers are all different, the order they come in plays no part. -/
theorem srtF_perm {l m : List α} (hp : l.Perm m) (hd : (l.map key).Nodup) : srtF key l = srtF key m := by
  refine (srtK_eq key ⟨(srtF_srt key l).1, fun t => ?_⟩)
  rw [(srtF_srt key l).2 t]
  have h1 : ∀ (k : List α), (k.map key).Nodup → (k.filter (fun x => key x == t)).length ≤ 1 := by
    intro k
    induction k with
    | nil => intro _; simp
    | cons x k ih =>
      intro h
      rw [List.map_cons, List.nodup_cons] at h
      rw [List.filter_cons]
      split
      · rename_i hx
        have hx : key x = t := by simpa using hx
        have : k.filter (fun x => key x == t) = [] := by
          rw [List.filter_eq_nil_iff]
          intro z hz
          simp only [beq_iff_eq]
          intro e
          exact h.1 (List.mem_map.2 ⟨z, hz, by rw [e, hx]⟩)
        rw [this]; simp
      · exact ih h.2
  have hpf : (l.filter (fun x => key x == t)).Perm (m.filter (fun x => key x == t)) := hp.filter _
  have hl := h1 l hd
  generalize l.filter (fun x => key x == t) = a at *
  generalize m.filter (fun x => key x == t) = b at *
  match a, hl with
  | [], _ => exact (List.nil_perm.1 hpf).symm
  | [x], _ => exact List.singleton_perm.1 hpf
end
/-- Integers: the one sorted list. -/
theorem merge_srt (l : List Int) : l.mergeSort (fun x y => decide (x ≤ y)) = srtF (fun x => x) l := by
  refine srtK_eq (fun x => x) ⟨?_, fun t => ?_⟩
  · have := List.pairwise_mergeSort (le := fun x y : Int => decide (x ≤ y)) (by intro a b c h1 h2; simp at *; omega) (by intro a b; simp; omega) l
    exact this.imp (fun h => by simpa using h)
  · have hp := List.mergeSort_perm l (fun x y : Int => decide (x ≤ y))
    have h1 : ∀ k : List Int, k.filter (fun x => x == t) = List.replicate (k.count t) t := fun k => List.filter_beq t
    rw [h1, h1, hp.count_eq]
/-! ### Arrays, by adjacent exchanges -/
open Go.Sort in
theorem swp_list {α : Type} [Inhabited α] (d : Array α) (j : Nat) (h : j + 1 < d.size) : ∃ p x y q, d.toList = p ++ x :: y :: q ∧ (swp d (j + 1) j).toList = p ++ y :: x :: q ∧ p.length = j ∧ d[j]! = x ∧ d[j + 1]! = y := by
  have hj : j < d.size := by omega
  refine ⟨d.toList.take j, d[j], d[j + 1], d.toList.drop (j + 2), ?_, ?_, by simp; omega, getElem!_pos d j hj, getElem!_pos d (j + 1) h⟩
  · have e1 : d.toList.drop j = d.toList[j] :: d.toList.drop (j + 1) := List.drop_eq_getElem_cons (by simpa using hj)
    have e2 : d.toList.drop (j + 1) = d.toList[j + 1] :: d.toList.drop (j + 2) := List.drop_eq_getElem_cons (by simpa using h)
    have := (List.take_append_drop j d.toList).symm
    rw [e1, e2] at this
    simpa using this
  · unfold swp
    rw [getElem!_pos d j hj, getElem!_pos d (j + 1) h]
    apply List.ext_getElem?
    intro i
    simp only [Array.toList_setIfInBounds, List.getElem?_set, Array.length_toList, List.length_set]
    rcases Nat.lt_trichotomy i j with hi | hi | hi
    · rw [if_neg (by omega), if_neg (by omega), List.getElem?_append_left (by simp; omega), List.getElem?_take_of_lt hi]
    · subst hi
      rw [if_pos rfl, if_pos hj, List.getElem?_append_right (by simp; omega)]
      simp [Nat.min_eq_left (Nat.le_of_lt hj)]
    · rw [if_neg (by omega), List.getElem?_append_right (by simp; omega)]
      rw [show (List.take j d.toList).length = j by simp; omega]
      rcases Nat.eq_or_lt_of_le (show j + 1 ≤ i from hi) with e | e
      · subst e
        rw [if_pos rfl, if_pos h, show j + 1 - j = 1 by omega]; rfl
      · rw [if_neg (by omega), show i - j = (i - j - 2) + 2 by omega, List.getElem?_cons_succ, List.getElem?_cons_succ, List.getElem?_drop]
        congr 1; omega
/-- Exchanges of neighbours that are not of one number. -/
theorem swp_filter {α : Type} [Inhabited α] (key : α → Int) (d : Array α) (j : Nat) (h : j + 1 < d.size) (hne : key d[j]! ≠ key d[j + 1]!) (t : Int) : (Go.Sort.swp d (j + 1) j).toList.filter (fun x => key x == t) = d.toList.filter (fun x => key x == t) := by
  obtain ⟨p, x, y, q, e1, e2, _, e3, e4⟩ := swp_list d j h
  rw [e3, e4] at hne
  rw [e1, e2, List.filter_append, List.filter_append]
  congr 1
  rw [List.filter_cons, List.filter_cons, List.filter_cons, List.filter_cons]
  by_cases h1 : key x = t <;> by_cases h2 : key y = t <;> simp [h1, h2]
  exact absurd (h1.trans h2.symm) hne
theorem swp_size {α : Type} [Inhabited α] (d : Array α) (i j : Nat) : (Go.Sort.swp d i j).size = d.size := by simp [Go.Sort.swp]
def ltK {α : Type} (key : α → Int) (x y : α) : Bool := decide (key x < key y)
theorem swo_ltK {α : Type} (key : α → Int) : Go.Sort.SWO (ltK key) :=
  ⟨fun x => by simp [ltK], fun x y z h1 h2 => by simp [ltK] at *; omega, fun x y z h1 h2 => by simp [ltK] at *; omega⟩
theorem insInner_filter {α : Type} [Inhabited α] (key : α → Int) (a : Nat) (t : Int) : ∀ (j : Nat) (d : Array α), j < d.size → (Go.Sort.insInner (ltK key) a j d).toList.filter (fun x => key x == t) = d.toList.filter (fun x => key x == t) ∧ (Go.Sort.insInner (ltK key) a j d).size = d.size
  | 0, d, _ => ⟨rfl, rfl⟩
  | j + 1, d, h => by
    unfold Go.Sort.insInner
    split
    · rename_i hc
      simp only [Bool.and_eq_true, decide_eq_true_eq, ltK] at hc
      obtain ⟨h1, h2⟩ := insInner_filter key a t j (Go.Sort.swp d (j + 1) j) (by rw [swp_size]; omega)
      rw [h1, h2, swp_filter key d j h (by omega), swp_size]
      exact ⟨rfl, rfl⟩
    · exact ⟨rfl, rfl⟩
theorem insOuter_filter {α : Type} [Inhabited α] (key : α → Int) (a b : Nat) (t : Int) : ∀ (n i : Nat) (d : Array α), b - i ≤ n → b ≤ d.size → (Go.Sort.insOuter (ltK key) a b i d).toList.filter (fun x => key x == t) = d.toList.filter (fun x => key x == t) ∧ (Go.Sort.insOuter (ltK key) a b i d).size = d.size
  | 0, i, d, hn, hb => by
    unfold Go.Sort.insOuter
    rw [if_neg (by omega)]
    exact ⟨rfl, rfl⟩
  | n + 1, i, d, hn, hb => by
    unfold Go.Sort.insOuter
    split
    · rename_i hi
      obtain ⟨h1, h2⟩ := insInner_filter key a t i d (by omega)
      obtain ⟨h3, h4⟩ := insOuter_filter key a b t n (i + 1) (Go.Sort.insInner (ltK key) a i d) (by omega) (by omega)
      rw [h3, h4, h1, h2]
      exact ⟨rfl, rfl⟩
    · exact ⟨rfl, rfl⟩
theorem insSort_filter {α : Type} [Inhabited α] (key : α → Int) (a b : Nat) (t : Int) (d : Array α) (hb : b ≤ d.size) : (Go.Sort.insertionSort (ltK key) d a b).toList.filter (fun x => key x == t) = d.toList.filter (fun x => key x == t) :=
  (insOuter_filter key a b t (b - (a + 1)) (a + 1) d (Nat.le_refl _) hb).1
theorem sorted_up {α : Type} [Inhabited α] (key : α → Int) (d : Array α) (h : Go.Sort.SortedIn (ltK key) 0 d.size d) : UpK key d.toList := by
  unfold UpK
  rw [List.pairwise_iff_getElem]
  intro i j hi hj hij
  have := h i j (Nat.zero_le _) hij (by simpa using hj)
  rw [getElem!_pos d i (by simpa using hi), getElem!_pos d j (by simpa using hj)] at this
  simp only [ltK, decide_eq_false_iff_not] at this
  simp only [Array.getElem_toList]
  omega
/-- The library's insertion sort makes the list in order. -/
theorem insSort_srt {α : Type} [Inhabited α] (key : α → Int) (l : List α) : (Go.Sort.insertionSort (ltK key) l.toArray 0 l.toArray.size).toList = srtF key l := by
  refine srtK_eq key ⟨?_, fun t => ?_⟩
  · obtain ⟨hp, hs⟩ := Go.Sort.insertionSort_holds (lt := ltK key) (swo_ltK key) l.toArray 0 l.toArray.size (Nat.zero_le _) (Nat.le_refl _)
    refine sorted_up key _ ?_
    rw [hp.1]
    exact hs
  · rw [insSort_filter key 0 _ t _ (Nat.le_refl _)]
end Go.Proofs.YtkfhlgajeejgeaaGreatDoor

/- Rows of one's own that the library sorts: from its words to ours and back. -/
namespace Go.Proofs.YtkfhlgajeejgeaaGreatDoor
open Go.ChangeShapes Go.WideShapes Go.ChangeAt Go.RowKit Go.Sort Go.Lib
set_option linter.unusedVariables false
set_option linter.unusedSimpArgs false
set_option maxRecDepth 20000

theorem below_grow (w : World) (q : Nat) (os : Array Obj) : RowKit.Below w.heap.size w (grow (w.drewN q) os) :=
  ⟨rfl, rfl, rfl, by simp [grow, World.drewN], fun k hk => by simp [grow, World.drewN, Array.getElem?_append_left hk]⟩
/-- The cells of a list of things of k cells. -/
theorem flatK_list {α : Type} [Inhabited α] (enc : α → List Value) (k : Nat) (hk0 : 0 < k) (hk : ∀ x, (enc x).length = k) (l : List α) : (flatK enc k l.toArray).toList = (l.map enc).flatten := by
  have hlen : ((l.map enc).flatten).length = l.length * k := by
    rw [flat_len (l.map enc) (fun r hr => by obtain ⟨x, _, rfl⟩ := List.mem_map.1 hr; exact hk x), List.length_map]
  apply List.ext_getElem?
  intro t
  by_cases ht : t < l.length * k
  · have hi : t / k < l.length := (Nat.div_lt_iff_lt_mul hk0).2 ht
    have hj : t % k < k := Nat.mod_lt _ hk0
    have e1 : (l.map enc)[t / k]? = some (enc l[t / k]) := by simp [hi]
    have e2 : (enc l[t / k])[t % k]? = some ((enc l[t / k])[t % k]'(by rw [hk]; exact hj)) := List.getElem?_eq_getElem _
    have := flat_get (l.map enc) (fun r hr => by obtain ⟨x, _, rfl⟩ := List.mem_map.1 hr; exact hk x) (t / k) _ e1 (t % k) _ e2
    rw [Nat.div_add_mod' t k] at this
    rw [this]
    unfold flatK
    simp [ht]
    have hg : l[t / k]?.getD default = l[t / k] := by simp [hi]
    rw [hg, List.getElem?_eq_getElem (by rw [hk]; exact hj)]
    rfl
  · rw [List.getElem?_eq_none (by simp [size_flatK]; omega), List.getElem?_eq_none (by omega)]
theorem take_put (cur F : Array Value) (h : F.size ≤ cur.size) : (putCells id 0 F cur).toList.take F.size = F.toList := by
  apply List.ext_getElem?
  intro i
  by_cases hi : i < F.size
  · rw [List.getElem?_take_of_lt hi]
    have hc : i < cur.size := by omega
    simp [putCells, hi, hc]
  · rw [List.getElem?_eq_none (by simp; omega), List.getElem?_eq_none (by simp; omega)]
/-- A row of one's own whose cells are laid anew. -/
theorem own_put {w : World} {B e k g n cap m : Nat} {xs : List Value} {F : Array Value} {os : Array Obj} (h : w.ownsRow B e k (.slice (some ⟨g, 0, none⟩) n cap) n xs) (hF : F.size = n * k) :
    (grow (putRow id (Sort.ahead w m) g 0 F) os).ownsRow B e k (.slice (some ⟨g, 0, none⟩) n cap) n F.toList ∧ Kp (fun b => b = g) w (grow (putRow id (Sort.ahead w m) g 0 F) os) := by
  rcases h.2 with ⟨h0, _⟩ | ⟨q, cap', cur, h1, h2, h3, h4, h5, h6, h7⟩
  · cases h0
  · simp only [Value.slice.injEq, Option.some.injEq, Addr.mk.injEq] at h1
    obtain ⟨⟨rfl, _⟩, _, rfl⟩ := h1
    have hg : g < w.heap.size := (Array.getElem?_eq_some_iff.1 h3).1
    have hb : ∀ b, b < w.heap.size → b ≠ g → (grow (putRow id (Sort.ahead w m) g 0 F) os).heap[b]? = w.heap[b]? := by
      intro b hb hne
      show ((putRow id (Sort.ahead w m) g 0 F).heap ++ os)[b]? = _
      rw [Array.getElem?_append_left (by rw [size_putRow]; exact hb)]
      show ((Sort.ahead w m).heap.modify g _)[b]? = _
      rw [Array.getElem?_modify, if_neg (Ne.symm hne)]
      rfl
    have hbg : (grow (putRow id (Sort.ahead w m) g 0 F) os).heap[g]? = some (.cells (putCells id 0 F cur) e (0, 0)) := by
      show ((putRow id (Sort.ahead w m) g 0 F).heap ++ os)[g]? = _
      rw [Array.getElem?_append_left (by rw [size_putRow]; exact hg)]
      show ((Sort.ahead w m).heap.modify g _)[g]? = _
      rw [Array.getElem?_modify, if_pos rfl]
      show Option.map _ w.heap[g]? = _
      rw [h3]; rfl
    refine ⟨⟨by simpa using hF, .inr ⟨g, cap, putCells id 0 F cur, rfl, h2, hbg, h4, h5, by simpa [putCells] using h6, ?_⟩⟩, ⟨rfl, rfl, rfl, ?_, fun b hb' hs => hb b hb' hs⟩⟩
    · rw [← hF]
      exact take_put cur F (by rw [hF, h6]; exact Nat.mul_le_mul_right _ h4)
    · show w.heap.size ≤ ((putRow id (Sort.ahead w m) g 0 F).heap ++ os).size
      rw [Array.size_append, size_putRow]; exact Nat.le_add_right _ _
theorem own_holds {w : World} {B e k g n cap : Nat} {F : Array Value} (h : w.ownsRow B e k (.slice (some ⟨g, 0, none⟩) n cap) n F.toList) : Holds id w g 0 F := by
  intro j hj
  have h2 : F.toList[j]? = some (F[j]!) := by
    rw [getElem!_pos F j hj]; simp [hj]
  have := h.cells (g := g) rfl j _ h2
  rw [Addr.add_lit] at this
  exact ⟨this, own_froz h (0 + j)⟩
/-- Things of k cells each, in a row of one's own, as the library has them. -/
theorem own_holdsK {α : Type} [Inhabited α] {enc : α → List Value} {k : Nat} (hk0 : 0 < k) (hk : ∀ x, (enc x).length = k) {w : World} {B e g n cap : Nat} {l : List α} (h : w.ownsRow B e k (.slice (some ⟨g, 0, none⟩) n cap) n (l.map enc).flatten) : HoldsK enc k w g 0 l.toArray := by
  refine own_holds (B := B) (e := e) (k := k) (n := n) (cap := cap) (F := flatK enc k l.toArray) ?_
  rw [flatK_list enc k hk0 hk l]
  exact h
theorem own_sortedK {α : Type} [Inhabited α] {enc : α → List Value} {k : Nat} (hk0 : 0 < k) (hk : ∀ x, (enc x).length = k) {w : World} {B e g n cap m : Nat} {xs : List Value} {d : Array α} {os : Array Obj} (h : w.ownsRow B e k (.slice (some ⟨g, 0, none⟩) n cap) n xs) (hd : d.size = n) :
    (sortWorldK enc k w g 0 m d os).ownsRow B e k (.slice (some ⟨g, 0, none⟩) n cap) n (d.toList.map enc).flatten ∧ Kp (fun b => b = g) w (sortWorldK enc k w g 0 m d os) := by
  have := own_put (m := m) (os := os) h (F := flatK enc k d) (by rw [size_flatK, hd])
  have e1 : (flatK enc k d).toList = (d.toList.map enc).flatten := flatK_list enc k hk0 hk d.toList
  rw [e1] at this
  exact this
/-- Integers. -/
theorem own_sortedI {w : World} {B g n cap m : Nat} {xs : List Value} {ns : List Int} {os : Array Obj} (h : w.ownsRow B 3 1 (.slice (some ⟨g, 0, none⟩) n cap) n xs) (hd : ns.length = n) :
    (grow (putRow (Value.int .i64) (Sort.ahead w m) g 0 ns.toArray) os).ownsRow B 3 1 (.slice (some ⟨g, 0, none⟩) n cap) n (inRows ns).flatten ∧ Kp (fun b => b = g) w (grow (putRow (Value.int .i64) (Sort.ahead w m) g 0 ns.toArray) os) := by
  have e1 : putRow (Value.int .i64) (Sort.ahead w m) g 0 ns.toArray = putRow id (Sort.ahead w m) g 0 (ns.map (Value.int .i64)).toArray := by
    unfold putRow
    apply mapBlock_congr
    intro c e fr _
    unfold putCells
    simp only [List.size_toArray, List.length_map]
    apply Array.ext_getElem?
    intro i
    simp only [Array.getElem?_mapIdx]
    cases c[i]? with
    | none => rfl
    | some x =>
      simp only [Option.map_some]
      congr 1
      split
      · rename_i hi
        have : i < ns.length := by omega
        simp [this]
      · rfl
  rw [e1]
  have := own_put (m := m) (os := os) h (F := (ns.map (Value.int .i64)).toArray) (by simp [hd])
  have e2 : (ns.map (Value.int .i64)) = (inRows ns).flatten := by
    clear this e1 hd
    induction ns with
    | nil => rfl
    | cons a l ih => rw [List.map_cons, ih]; rfl
  simpa [e2] using this
theorem own_holdsI {w : World} {B g n cap : Nat} {ns : List Int} (h : w.ownsRow B 3 1 (.slice (some ⟨g, 0, none⟩) n cap) n (inRows ns).flatten) : Holds (Value.int .i64) w g 0 ns.toArray := by
  intro j hj
  have hj' : j < ns.length := by simpa using hj
  have h2 : (inRows ns)[j]? = some [.int .i64 ns[j]] := by simp [inRows, hj']
  have := own_at (inr_len ns) h h2 (j := 0) rfl
  rw [Nat.mul_one, Nat.add_zero] at this
  refine ⟨?_, own_froz h (0 + j)⟩
  rw [Nat.zero_add, this, getElem!_pos ns.toArray j hj]
  simp
end Go.Proofs.YtkfhlgajeejgeaaGreatDoor

/- A schema in order, and as a text: plain mathematics. -/
namespace Go.Proofs.YtkfhlgajeejgeaaGreatDoor
set_option linter.unusedVariables false
set_option linter.unusedSimpArgs false

def canonM (m : MsS) : MsS := ⟨m.name, srtF FlS.tag m.fields, srtF (fun x => x) m.reserved⟩
def canonE (e : EnS) : EnS := ⟨e.name, srtF NmS.n e.values⟩
def canonS (s : ScS) : ScS := ⟨s.name, s.msgs.map canonM, s.enums.map canonE, s.methods⟩
def plabL (n : Int) : List UInt8 := if n = 2 then [111, 112, 116, 105, 111, 110, 97, 108, 32] else if n = 3 then [114, 101, 112, 101, 97, 116, 101, 100, 32] else []
def wordL (k : Int) (t : ByteArray) : List UInt8 :=
  if k = 1 then [105, 110, 116, 51, 50] else if k = 2 then [105, 110, 116, 54, 52] else if k = 3 then [98, 111, 111, 108] else if k = 4 then [116, 101, 120, 116] else if k = 5 then [98, 121, 116, 101, 115] else t.data.toList
def fieldL (f : FlS) : List UInt8 := [32, 32] ++ plabL f.label ++ wordL f.kind f.tname ++ [32] ++ f.name.data.toList ++ [32, 61, 32] ++ Lib.itoa f.tag ++ [59, 10]
def numsL (ns : List Int) : List UInt8 := Lib.join (ns.map Lib.itoa) [44, 32]
def resL (ns : List Int) : List UInt8 := if ns = [] then [] else [32, 32, 114, 101, 115, 101, 114, 118, 101, 100, 32] ++ numsL ns ++ [59, 10]
def msgL (m : MsS) : List UInt8 := [109, 101, 115, 115, 97, 103, 101, 32] ++ m.name.data.toList ++ [32, 123, 10] ++ (m.fields.map fieldL).flatten ++ resL m.reserved ++ [125, 10]
def valL (v : NmS) : List UInt8 := [32, 32] ++ v.name.data.toList ++ [32, 61, 32] ++ Lib.itoa v.n ++ [59, 10]
def enumL (e : EnS) : List UInt8 := [101, 110, 117, 109, 32] ++ e.name.data.toList ++ [32, 123, 10] ++ (e.values.map valL).flatten ++ [125, 10]
def methL (m : MtS) : List UInt8 := [99, 97, 108, 108, 32] ++ m.name.data.toList ++ [40] ++ m.inn.data.toList ++ [41, 32, 114, 101, 116, 117, 114, 110, 115, 32, 40] ++ m.out.data.toList ++ [41, 59, 10]
/-- The text of a schema that is in order. -/
def textL (s : ScS) : List UInt8 := [115, 99, 104, 101, 109, 97, 32] ++ s.name.data.toList ++ [59, 10] ++ (s.msgs.map msgL).flatten ++ (s.enums.map enumL).flatten ++ (s.methods.map methL).flatten
def printL (s : ScS) : List UInt8 := textL (canonS s)
def printB (s : ScS) : ByteArray := ⟨(printL s).toArray⟩
end Go.Proofs.YtkfhlgajeejgeaaGreatDoor

/- What print's line, label, word answer; numbers as texts. -/
namespace Go.Proofs.YtkfhlgajeejgeaaGreatDoor
open Go.ChangeShapes Go.WideShapes Go.ChangeAt Go.RowKit
set_option linter.unusedVariables false
set_option linter.unusedSimpArgs false
set_option maxRecDepth 20000

/-- The table of tens, as the library lays it. -/
def PTab (w : World) : Prop := Lib.TabIs Tryz.prog w "internal/strconv.uint64pow10" .u64 Lib.pow10Tab
theorem gPow : Tryz.prog.globalNamed "internal/strconv.uint64pow10" = some 0 := by kernel_rfl
theorem PTab.below {w w1 : World} (h : PTab w) (hb : Below w.heap.size w w1) : PTab w1 := by
  unfold PTab Lib.TabIs World.var? at *
  rw [gPow] at *
  simp only [Option.bind_some] at *
  rcases Nat.lt_or_ge 0 w.heap.size with h0 | h0
  · rw [hb.block _ h0]; exact h
  · rw [Array.getElem?_eq_none h0] at h; simp at h
theorem itoa_any (n : Int) (h0 : -9223372036854775808 ≤ n) (h1 : n ≤ 9223372036854775807) {w : World} (ht : PTab w) :
    Calls Tryz.prog 57 #[.int .i64 n] w fun e w' => e = .returned (.string ⟨(Lib.itoa n).toArray⟩) ∧ Below w.heap.size w w' := by
  refine (Any.strconv_Itoa laysM171 n h0 h1 w ht).mono ?_
  rintro e w' ⟨rfl, k, os, rfl⟩
  exact ⟨rfl, below_grow w k os⟩
def piecesL (ps : List ByteArray) : List UInt8 := (ps.map (·.data.toList)).flatten
theorem pieces_take {ps : List ByteArray} {k : Nat} {p : ByteArray} (h : ps[k]? = some p) : piecesL (ps.take (k + 1)) = piecesL (ps.take k) ++ p.data.toList := by
  unfold piecesL
  rw [List.take_add_one, h]
  simp
theorem pieces_le (ps : List ByteArray) (k : Nat) : (piecesL (ps.take k)).length ≤ (piecesL ps).length := by
  have : piecesL ps = piecesL (ps.take k) ++ piecesL (ps.drop k) := by
    unfold piecesL
    rw [← List.flatten_append, ← List.map_append, List.take_append_drop]
  rw [this, List.length_append]
  exact Nat.le_add_right _ _
set_option maxHeartbeats 2000000 in
theorem line_any {w0 w : World} {b g : Nat} {bs : List UInt8} {ps : List ByteArray} {n : Nat} (h : Pg w0 b bs w) (hB : Blk w g (ps.map Value.string).toArray 9) (hn : ps.length = n) (hn2 : n ≤ 100) (hlen : bs.length + (piecesL ps).length + 1 ≤ 1000000000) :
    Calls Tryz.prog 30 #[.pointer (some ⟨b, 0, none⟩), .slice (some ⟨g, 0, none⟩) n n] w fun e w' => e = .returned (.tuple #[]) ∧ Pg w0 b (bs ++ piecesL ps ++ [10]) w' ∧ Ot b w w' := by
  have HP : Hid (Pg w0 b bs w) := h
  have HB : Hid (Blk w g (ps.map Value.string).toArray 9) := hB
  have HN : Hid (ps.length = n) := hn
  have HL : Hid (bs.length + (piecesL ps).length + 1 ≤ 1000000000) := hlen
  have hgb : g ≠ b := by
    intro e
    obtain ⟨p, v, _, h2, _⟩ := h.row
    subst e
    unfold Blk at hB h2
    rw [hB] at h2
    simp at h2
  clear h hB hn hlen
  go_enter Tryz.func30, Tryz.ntmps30
  go_wp2_with fail
  go_loopw [8] (fun iv wr => ∃ k : Nat, iv = .int .i64 (k : Int) ∧ k ≤ n ∧ Hid (Pg w0 b (bs ++ piecesL (ps.take k)) wr) ∧ Hid (Ot b w wr)) (fun iv _ => n - (intOf iv).toNat)
  case atStart => exact ⟨0, rfl, by omega, by show Pg _ _ _ _; simpa [piecesL] using HP.out, Ot.refl _ _⟩
  case round =>
    obtain ⟨k, rfl, hk, HPk, HOk⟩ := hrel
    by_cases hlt : k < n
    · obtain ⟨p, hp⟩ : ∃ p, ps[k]? = some p := ⟨_, List.getElem?_eq_getElem (by rw [HN.out]; exact hlt)⟩
      have c0 : wr.cell? ⟨g, k, none⟩ = some (.string p) := by
        rw [(HOk.out.blk HB.out hgb (by decide)).cell k]
        simp [hp]
      have hkn : (k : Int) < (n : Int) := by omega
      have HT := pieces_take hp
      have HS : Hid ((bs ++ piecesL (ps.take k)).length + p.size ≤ 1000000000) := by
        have h1 := pieces_le ps (k + 1)
        rw [HT, List.length_append] at h1
        have h2 : p.data.toList.length = p.size := rfl
        have h3 := HL.out
        show _ ≤ _
        rw [List.length_append]
        omega
      have HT : Hid (piecesL (ps.take (k + 1)) = piecesL (ps.take k) ++ p.data.toList) := HT
      clear hp
      go_wp2_with fail
      refine (pgStr_any p HPk.out HS.out).mono ?_
      rintro e w1 ⟨rfl, h1, h2⟩
      have HP1 : Hid (Pg w0 b (bs ++ piecesL (ps.take (k + 1))) w1) := by show Pg _ _ _ _; rw [HT.out, ← List.append_assoc]; exact h1
      have HO1 : Hid (Ot b w w1) := HOk.out.trans h2
      clear h1 h2 c0
      go_wp2_with fail
      go_roundw
      case rel => exact ⟨k + 1, by go_num, by omega, HP1, HO1⟩
      case measure => simp [intOf]; omega
    · obtain rfl : k = n := by omega
      have HP1 : Hid (Pg w0 b (bs ++ piecesL ps) wr) := by
        have := HPk.out
        rw [List.take_of_length_le (by rw [HN.out]; omega)] at this
        exact this
      have hkn : ¬ (k : Int) < (k : Int) := by omega
      clear HPk
      go_wp2_with fail
      refine (pgByte_any 10 HP1.out (by have := HL.out; rw [List.length_append]; omega)).mono ?_
      rintro e w1 ⟨rfl, h1, h2⟩
      have HP2 : Hid (Pg w0 b (bs ++ piecesL ps ++ [10]) w1) := h1
      have HO2 : Hid (Ot b w w1) := HOk.out.trans h2
      clear h1 h2
      go_wp2_with fail
      go_end0
      exact ⟨rfl, HP2.out, HO2.out⟩
def labTx (n : Int) : ByteArray := ⟨(plabL n).toArray⟩
set_option maxHeartbeats 1000000 in
theorem plabel_any (n : Int) (w : World) : Calls Tryz.prog 55 #[.int .i64 n] w fun e w' => e = .returned (.string (labTx n)) ∧ w' = w := by
  by_cases h2 : n = 2
  · subst h2
    go_enter Tryz.func55, Tryz.ntmps55
    go_wp2_with fail
    go_ret
    exact ⟨rfl, rfl⟩
  · by_cases h3 : n = 3
    · subst h3
      go_enter Tryz.func55, Tryz.ntmps55
      go_wp2_with fail
      go_ret
      exact ⟨rfl, rfl⟩
    · have e : labTx n = ⟨#[]⟩ := by unfold labTx plabL; rw [if_neg h2, if_neg h3]
      have b2 : (n == 2) = false := by simpa using h2
      have b3 : (n == 3) = false := by simpa using h3
      rw [e]
      clear e h2 h3
      go_enter Tryz.func55, Tryz.ntmps55
      go_wp2_with fail
      go_ret
      exact ⟨rfl, rfl⟩
def wordTx (k : Int) (t : ByteArray) : ByteArray := ⟨(wordL k t).toArray⟩
set_option maxHeartbeats 2000000 in
theorem word_any (k : Int) (t : ByteArray) (w : World) : Calls Tryz.prog 56 #[.agg #[.int .i64 k, .string t]] w fun e w' => e = .returned (.string (wordTx k t)) ∧ Below w.heap.size w w' := by
  have hb : Below w.heap.size w (w.alloc (.cells #[.int .i64 k, .string t] 42)) := (Below.refl _ _).alloc (Nat.le_refl _) _
  by_cases h1 : k = 1
  · subst h1
    go_enter Tryz.func56, Tryz.ntmps56
    go_wp2_with fail
    go_ret
    exact ⟨rfl, hb⟩
  by_cases h2 : k = 2
  · subst h2
    go_enter Tryz.func56, Tryz.ntmps56
    go_wp2_with fail
    go_ret
    exact ⟨rfl, hb⟩
  by_cases h3 : k = 3
  · subst h3
    go_enter Tryz.func56, Tryz.ntmps56
    go_wp2_with fail
    go_ret
    exact ⟨rfl, hb⟩
  by_cases h4 : k = 4
  · subst h4
    go_enter Tryz.func56, Tryz.ntmps56
    go_wp2_with fail
    go_ret
    exact ⟨rfl, hb⟩
  by_cases h5 : k = 5
  · subst h5
    go_enter Tryz.func56, Tryz.ntmps56
    go_wp2_with fail
    go_ret
    exact ⟨rfl, hb⟩
  have e : wordTx k t = t := by unfold wordTx wordL; rw [if_neg h1, if_neg h2, if_neg h3, if_neg h4, if_neg h5]
  have b1 : (k == 1) = false := by simpa using h1
  have b2 : (k == 2) = false := by simpa using h2
  have b3 : (k == 3) = false := by simpa using h3
  have b4 : (k == 4) = false := by simpa using h4
  have b5 : (k == 5) = false := by simpa using h5
  rw [e]
  clear e h1 h2 h3 h4 h5
  go_enter Tryz.func56, Tryz.ntmps56
  go_wp2_with fail
  go_ret
  exact ⟨rfl, hb⟩
end Go.Proofs.YtkfhlgajeejgeaaGreatDoor

/- What print's numbers answers: the numbers with a comma and a blank between. -/
namespace Go.Proofs.YtkfhlgajeejgeaaGreatDoor
open Go.ChangeShapes Go.WideShapes Go.ChangeAt Go.RowKit
set_option linter.unusedVariables false
set_option linter.unusedSimpArgs false
set_option maxRecDepth 20000

theorem extra156 : Builder.Extra Tryz.prog lays156_ren :=
  { sizeBuilder := by kernel_rfl, liesBuilder := by kernel_rfl, t5 := Tryz.underlying5, a5 := Tryz.isAgg5, z5 := Tryz.sizeOf5, v5 := Tryz.zeroValue5, infoByte := by kernel_rfl, cellsByte := by kernel_rfl, sizeByte := by kernel_rfl, neB5 := by decide }
theorem pinfoSt : (Tryz.prog.info? 9).map (fun i => (i.zero, i.size, i.bytes)) = some (some (.string ⟨#[]⟩), 1, 16) := by kernel_rfl
def itoaB (n : Int) : ByteArray := ⟨(Lib.itoa n).toArray⟩
def numsB (ns : List Int) : ByteArray := ⟨(numsL ns).toArray⟩
theorem nums_len (ns : List Int) (h : ∀ n ∈ ns, -9223372036854775808 ≤ n ∧ n ≤ 9223372036854775807) : (numsL ns).length ≤ ns.length * 23 := by
  unfold numsL Lib.join
  induction ns with
  | nil => simp [List.intercalate]
  | cons a l ih =>
    have h1 := Lib.itoa_length_le a (h a (List.mem_cons_self ..)).1 (h a (List.mem_cons_self ..)).2
    have ih := ih (fun n hn => h n (List.mem_cons_of_mem _ hn))
    cases l with
    | nil => simp [List.intercalate]; omega
    | cons b l =>
      simp only [List.map_cons, List.length_cons] at ih ⊢
      have e : List.intercalate [44, 32] (Lib.itoa a :: Lib.itoa b :: List.map Lib.itoa l) = Lib.itoa a ++ ([44, 32] ++ List.intercalate [44, 32] (Lib.itoa b :: List.map Lib.itoa l)) := by simp [List.intercalate]
      rw [e, List.length_append, List.length_append]
      simp only [List.length_cons, List.length_nil] at *
      omega
set_option maxHeartbeats 2000000 in
theorem pnumbers_any {w : World} {v : Value} {ns : List Int} (hr : RowG w v 1 (inRows ns)) (hne : ns ≠ []) (hn : ns.length ≤ 1000) (hi : ∀ n ∈ ns, I64 n) (ht : PTab w) :
    Calls Tryz.prog 58 #[v] w fun e w' => e = .returned (.string (numsB ns)) ∧ Below w.heap.size w w' := by
  have HR : Hid (RowG w v 1 (inRows ns)) := hr
  obtain ⟨a, c, rfl, q1, q2, q3, q4⟩ := row_ints hr
  obtain ⟨g, off, rfl⟩ := q3 hne
  obtain ⟨N, hN⟩ : ∃ N, ns.length = N := ⟨_, rfl⟩
  have h0 : 0 < N := by rw [← hN]; exact List.length_pos_iff.2 hne
  rw [hN] at q1 hn HR ⊢
  have HN : Hid (ns.length = N) := hN
  have HI : Hid (∀ n ∈ ns, I64 n) := hi
  have HT : Hid (PTab w) := ht
  have HC : Hid (∀ (i : Nat) (n : Int), ns[i]? = some n → w.cell? ⟨g, off + i, none⟩ = some (.int .i64 n)) := q4 g off rfl
  have q2' : c ≤ 9223372036854775807 := by unfold maxLen at q2; omega
  obtain ⟨i0, hi0, hz0, hz1, hz2⟩ := info_parts pinfoSt
  obtain ⟨w1, hmk, ho1, hg1⟩ := run_makeSlice_full (P := Tryz.prog) w w.heap.size 92 9 i0 (.string ⟨#[]⟩) 1 Tryz.underlying92 hi0 hz0 hz1 .i64 .i64 N (by omega) (by rw [hz2]; omega) (by unfold maxLen; omega) (Nat.le_refl _)
  have hb1 : Below w.heap.size w w1 := (Below.refl _ _).grown hg1 (Nat.le_refl _) (fun k hk => by cases hk)
  have HO1 : Hid (w1.ownsRow w.heap.size 9 1 (.slice (some ⟨w.heap.size, 0, none⟩) N N) N (madeCells (Value.string ⟨#[]⟩).cells (N * 1)).toList) := ho1
  generalize (madeCells (Value.string ⟨#[]⟩).cells (N * 1)).toList = xs0 at *
  clear hN hi ht q4 q3 q2 hr ho1 hg1 hz0 hz1 hz2 hi0
  obtain ⟨q, hq⟩ : ∃ q, w.heap.size = q := ⟨_, rfl⟩
  have HQ : Hid (w.heap.size = q) := hq
  rw [hq] at hmk
  have HO1 : Hid (w1.ownsRow w.heap.size 9 1 (.slice (some ⟨q, 0, none⟩) N N) N xs0) := by rw [hq] at HO1 ⊢; exact HO1
  clear hq
  go_enter Tryz.func58, Tryz.ntmps58
  go_wp2_with fail
  clear hmk
  go_loopw [11] (fun iv wr => ∃ (k : Nat) (xs : List Value), iv = .int .i64 (k : Int) ∧ k ≤ N ∧ Hid (wr.ownsRow w.heap.size 9 1 (.slice (some ⟨q, 0, none⟩) N N) N xs) ∧ Hid (∀ j n, j < k → ns[j]? = some n → xs[j]? = some (.string (itoaB n))) ∧ Below w.heap.size w wr) (fun iv _ => N - (intOf iv).toNat)
  case atStart => exact ⟨0, _, rfl, by omega, HO1, fun j n hj => absurd hj (Nat.not_lt_zero _), hb1⟩
  case round =>
    obtain ⟨k, xs, rfl, hk, HOk, HXk, hbel⟩ := hrel
    by_cases hlt : k < N
    · obtain ⟨n, hn'⟩ : ∃ n, ns[k]? = some n := ⟨_, List.getElem?_eq_getElem (by rw [HN.out]; exact hlt)⟩
      have c0 : wr.cell? ⟨g, off + k, none⟩ = some (.int .i64 n) := by
        have := HC.out k n hn'
        rw [hbel.cell (World.block_lt_of_cell? _ _ this)]; exact this
      have HNK : Hid (ns[k]? = some n) := hn'
      have hin := HI.out n (List.mem_of_getElem? hn')
      have HIN : Hid (I64 n) := hin
      have hkn : (k : Int) < (N : Int) := by omega
      clear hn' hin
      go_wp2_with fail
      refine (itoa_any n HIN.out.1 HIN.out.2 (HT.out.below hbel)).mono ?_
      rintro e w2 ⟨rfl, hb2⟩
      have HO2 : Hid (w2.ownsRow w.heap.size 9 1 (.slice (some ⟨q, 0, none⟩) N N) N xs) := own_below HOk.out hb2
      have hbel2 : Below w.heap.size w w2 := hbel.trans (hb2.mono hbel.size)
      have hxl : xs.length = N := by have := HO2.out.1; omega
      obtain ⟨u, hu⟩ : ∃ u, xs[k]? = some u := ⟨_, List.getElem?_eq_getElem (by omega)⟩
      have d0 : w2.cell? ⟨q, k, none⟩ = some u := by
        have := HO2.out.cells (g := q) rfl k u hu
        rw [Addr.add_lit, Nat.zero_add] at this
        exact this
      have f0 := own_froz HO2.out k
      have hset := own_set HO2.out (j := k) (.string ⟨(Lib.itoa n).toArray⟩)
      have KS : Kp (fun b => b = q) w2 (w2.setCell ⟨q, k, none⟩ (.string ⟨(Lib.itoa n).toArray⟩)) := by
        refine Kp.setCell ?_ (fun _ => by simp) _
        exact Kp.refl _ _
      have HO3 : Hid ((w2.setCell ⟨q, k, none⟩ (.string ⟨(Lib.itoa n).toArray⟩)).ownsRow w.heap.size 9 1 (.slice (some ⟨q, 0, none⟩) N N) N (xs.set k (.string ⟨(Lib.itoa n).toArray⟩))) := hset
      have HX3 : Hid (∀ j m, j < k + 1 → ns[j]? = some m → (xs.set k (.string ⟨(Lib.itoa n).toArray⟩))[j]? = some (.string (itoaB m))) := by
        intro j m hj hm
        by_cases e : k = j
        · subst e
          rw [HNK.out] at hm
          cases hm
          rw [List.getElem?_set_self (by omega)]
          rfl
        · rw [List.getElem?_set_ne e]
          exact HXk.out j m (by omega) hm
      have hbel3 : Below w.heap.size w (w2.setCell ⟨q, k, none⟩ (.string ⟨(Lib.itoa n).toArray⟩)) := hbel2.trans (KS.toBelow hbel2.size (fun b e => by have := HQ.out; omega))
      clear hset KS hu hxl
      generalize (⟨(Lib.itoa n).toArray⟩ : ByteArray) = tx at *
      go_wp2_with fail
      go_roundw
      case rel => exact ⟨k + 1, _, by go_num, by omega, HO3, HX3, hbel3⟩
      case measure => simp [intOf]; omega
    · obtain rfl : k = N := by omega
      have hkn : ¬ (k : Int) < (k : Int) := by omega
      have hxl : xs.length = k := by have := HOk.out.1; omega
      have HJ := Any.strings_Join lays156 extra156 q 0 k (ns.map itoaB) ⟨#[44, 32]⟩ wr (fun j x hx => by
        simp only [List.getElem?_map, Option.map_eq_some_iff] at hx
        obtain ⟨n, hn1, rfl⟩ := hx
        have hj : j < k := by rw [← HN.out]; exact (List.getElem?_eq_some_iff.1 hn1).1
        have := HOk.out.cells (g := q) rfl j _ (HXk.out j n hj hn1)
        rwa [Addr.add_lit] at this) ((HOk.out.lt q rfl).2) (by rw [List.length_map, HN.out]; omega) (by rw [List.length_map, HN.out]; exact Nat.le_refl _) (by
        have h1 := nums_len ns (fun n hn => HI.out n hn)
        have h2 := HN.out
        have e : (ns.map itoaB).map (·.data.toList) = ns.map Lib.itoa := by rw [List.map_map]; rfl
        rw [e]
        show (numsL ns).length ≤ _
        omega)
      rw [List.length_map, HN.out, show (ns.map itoaB).map (·.data.toList) = ns.map Lib.itoa by rw [List.map_map]; rfl] at HJ
      have HJ : Hid (Calls Tryz.prog 89 #[.slice (some ⟨q, 0, none⟩) k k, .string ⟨#[44, 32]⟩] wr fun e w' => e = .returned (.string (numsB ns)) ∧ Below wr.heap.size wr w') := HJ
      clear HOk HXk hxl
      go_wp2_with fail
      refine Calls.mono HJ.out ?_
      rintro e w2 ⟨rfl, hb2⟩
      have hbel2 : Below w.heap.size w w2 := hbel.trans (hb2.mono hbel.size)
      go_wp2_with fail
      go_ret
      exact ⟨rfl, hbel2⟩
end Go.Proofs.YtkfhlgajeejgeaaGreatDoor

/- A block of cells is a row. -/
namespace Go.Proofs.YtkfhlgajeejgeaaGreatDoor
open Go.ChangeShapes Go.WideShapes Go.ChangeAt Go.RowKit
set_option linter.unusedVariables false
set_option linter.unusedSimpArgs false
set_option maxRecDepth 20000

/-- A block of cells is a row. -/
theorem RowG.blk {w : World} {b : Nat} {cs : Array Value} {t : TypeId} {size n : Nat} {rs : List (List Value)} (h : Blk w b cs t) (hc : cs.toList = rs.flatten) (hl : ∀ r ∈ rs, r.length = size) (hn : rs.length = n) (hm : n ≤ 1000000) : RowG w (.slice (some ⟨b, 0, none⟩) n n) size rs := by
  subst hn
  refine ⟨some ⟨b, 0, none⟩, rs.length, rfl, Nat.le_refl _, by unfold maxLen; omega, (fun e => by cases e), fun _ => ⟨b, 0, rfl, fun i c u j hi hj => ?_⟩⟩
  rw [h.cell, ← Array.getElem?_toList, hc, Nat.zero_add]
  exact flat_get rs hl i c hi j u hj
theorem Blk.newAt {w : World} {b : Nat} {cs : Array Value} {t : TypeId} (h : w.heap.size = b) : Blk (w.alloc (.cells cs t)) b cs t := by subst h; exact Blk.new w cs t
theorem Blk.up {w : World} {b : Nat} {cs : Array Value} {t : TypeId} (h : Blk w b cs t) (o : Obj) : Blk (w.alloc o) b cs t := h.below ((Below.refl _ _).alloc (Nat.le_refl _) _)
end Go.Proofs.YtkfhlgajeejgeaaGreatDoor

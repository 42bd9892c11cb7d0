/- A schema that came in, in the walks' words. -/
import Derived.OpenShut
import Derived.SizedLaws
import Derived.Deep.Slices
import Derived.Deep.Strs
import Derived.Lib.SmallJoins
import Derived.Test.YtfnjbbaphmmjlaaPkC
namespace Go.Proofs.Ytfnjbbaphmmjlaa
open Go.ChangeShapes Go.WideShapes Go.ChangeAt Go.RowKit
set_option linter.unusedVariables false
set_option linter.unusedSimpArgs false
set_option maxRecDepth 20000

/-- All that a datum weighs is within the reach. -/
def Lite {H : Type} (t : TypeId) (d : DataW H) : Prop := ∀ n ∈ d.weights Try.prog t, n ≤ 140737488351232
theorem lite_all {H : Type} {e : TypeId} : ∀ {l : List (DataW H)} {d : DataW H}, d ∈ l → ∀ n ∈ d.weights Try.prog e, n ∈ DataW.weightsAll Try.prog e l
  | x :: l, d, h, n, hn => by
    simp only [DataW.weightsAll, List.mem_append]
    rcases List.mem_cons.1 h with rfl | h
    · exact .inl hn
    · exact .inr (lite_all h n hn)
theorem lite_each {H : Type} {ts : List TypeId} {ds : List (DataW H)} (h : ∀ n ∈ DataW.weightsEach Try.prog ts ds, n ≤ 140737488351232) {j : Nat} {t : TypeId} {d : DataW H} (ht : ts[j]? = some t) (hd : ds[j]? = some d) : Lite t d :=
  fun n hn => h n (DataW.weights_mem_each ht hd n hn)
theorem lite_str {H : Type} {t : TypeId} {l : List UInt8} (h : Lite t (.lit (.string l) : DataW H)) : l.length ≤ 140737488351232 := h _ (by simp [DataW.weights])
section
variable {H : Type} {enc : TypeId × Value → H} {W : World} {base : Nat} {spare : Nat → Bool} {held : Bool}
theorem lite_struct {t : TypeId} {fs : Array Field} {ds : List (DataW H)} (hu : Try.prog.underlying t = some (.struct fs)) (h : Lite t (.agg ds : DataW H)) {j : Nat} {u : TypeId} {d : DataW H} (ht : (fs.toList.map (·.type))[j]? = some u) (hd : ds[j]? = some d) : Lite u d := by
  refine lite_each (ts := fs.toList.map (·.type)) (ds := ds) (fun n hn => h n ?_) ht hd
  simp only [DataW.weights, hu]
  exact hn
/-- A row that came in. -/
theorem row_in {α : Type} {t e : TypeId} {size : Nat} (hc : Try.prog.cellsOf e = size) (hpos : 0 < size) (ht : Try.prog.underlying t = some (.slice e)) (cells : α → List Value) (hcl : ∀ r, (cells r).length = size) (P : α → Prop) (dflt : α)
    {fuel : Nat} {a : Option Addr} {len cap : Nat} {x : DataW H × List MemPlace} (h : DataW.trod enc Try.prog W base spare held fuel t [.slice a len cap] = some x) (hl : Lite t x.1)
    (one : ∀ n cs' y, DataW.trod enc Try.prog W base spare held n e cs' = some y → Lite e y.1 → ∃ r, cs' = cells r ∧ P r) :
    ∃ rs : List α, rs.length = len ∧ RowG W (.slice a len cap) size (rs.map cells) ∧ ∀ r ∈ rs, P r := by
  rcases Deep.open_slice ht h with ⟨hcs, -⟩ | ⟨ad, len', cap', m, n, D, Pl, hcs, -, hle, hm, hmm, hx0, hx⟩
  · simp only [List.cons.injEq, Value.slice.injEq, and_true] at hcs
    obtain ⟨rfl, rfl, rfl⟩ := hcs
    exact ⟨[], rfl, RowG.nil _ _, by simp⟩
  · simp only [List.cons.injEq, Value.slice.injEq, and_true] at hcs
    obtain ⟨rfl, rfl, rfl⟩ := hcs
    subst hx0
    have hml : len ≤ m := by rw [hmm]; split <;> omega
    rw [hc] at hx
    have each : ∀ i, i < len → ∃ r : α, W.cells? base (ad.add (i * size)) size = some (cells r) ∧ P r := fun i hi => by
      obtain ⟨cs', h1, h2⟩ := hx i (by omega)
      obtain ⟨r, rfl, hp⟩ := one n cs' _ h2 (fun k hk => hl k (by
        simp only [DataW.weights, ht, List.mem_cons, List.mem_append]
        exact .inr (.inl (lite_all (List.mem_map.2 ⟨i, List.mem_range.2 hi, rfl⟩) k hk))))
      exact ⟨r, h1, hp⟩
    obtain ⟨f, hf⟩ : ∃ f : Nat → α, ∀ i, i < len → W.cells? base (ad.add (i * size)) size = some (cells (f i)) ∧ P (f i) :=
      ⟨fun i => if h : i < len then Classical.choose (each i h) else dflt, fun i hi => by simp only [dif_pos hi]; exact Classical.choose_spec (each i hi)⟩
    refine ⟨(List.range len).map f, by simp, ?_, ?_⟩
    · refine ⟨some ad, cap, by simp, by simpa using hle, hm, (fun e => by cases e), fun hne => ?_⟩
      have hlen : 0 < len := by
        rcases Nat.eq_zero_or_pos len with h0 | h0
        · subst h0; simp at hne
        · exact h0
      have hcell : ∀ i, i < len → ∀ c, c < size → W.cell? ((ad.add (i * size)).add c) = (cells (f i))[c]? := fun i hi => (World.cells?_some (hf i hi).1).2.2
      obtain ⟨g, off, spot⟩ := ad
      have hspot : spot = none := by
        have h1 := hcell 0 hlen 0 hpos
        obtain ⟨u, hu⟩ : ∃ u, (cells (f 0))[0]? = some u := ⟨_, List.getElem?_eq_getElem (by rw [hcl]; exact hpos)⟩
        rw [hu] at h1
        simpa [Addr.add] using World.cell?_spot h1
      subst hspot
      refine ⟨g, off, rfl, fun i c u j hi hj => ?_⟩
      simp only [List.map_map, List.getElem?_map, Option.map_eq_some_iff, Function.comp_apply] at hi
      obtain ⟨i', hi', rfl⟩ := hi
      obtain ⟨hil, hie⟩ := List.getElem?_eq_some_iff.1 hi'
      simp at hie
      subst hie
      simp only [List.length_range] at hil
      have hjs : j < size := by rw [← hcl (f i)]; exact (List.getElem?_eq_some_iff.1 hj).1
      have h2 := hcell i hil j hjs
      rw [hj, Deep.add_add, Addr.add_lit] at h2
      rw [Nat.add_assoc]
      exact h2
    · intro r hr
      simp only [List.mem_map, List.mem_range] at hr
      obtain ⟨i, hi, rfl⟩ := hr
      exact (hf i hi).2
theorem i64_of {n : Int} (h : (Lit.int .i64 n).wf = true) : I64 n := bounds_i64 h
theorem cellsIn : Try.prog.cellsOf 3 = 1 := by kernel_rfl
theorem cellsSt : Try.prog.cellsOf 9 = 1 := by kernel_rfl
theorem cellsTy : Try.prog.cellsOf 41 = 2 := by kernel_rfl
theorem cellsFl : Try.prog.cellsOf 49 = 5 := by kernel_rfl
theorem cellsNm : Try.prog.cellsOf 54 = 2 := by kernel_rfl
theorem cellsMt : Try.prog.cellsOf 56 = 3 := by kernel_rfl
theorem cellsMs : Try.prog.cellsOf 47 = 3 := by kernel_rfl
theorem cellsEn : Try.prog.cellsOf 52 = 2 := by kernel_rfl
theorem cellsSc : Try.prog.cellsOf 26 = 4 := by kernel_rfl
theorem cellsSl : Try.prog.cellsOf 44 = 1 ∧ Try.prog.cellsOf 45 = 1 ∧ Try.prog.cellsOf 50 = 1 ∧ Try.prog.cellsOf 22 = 1 ∧ Try.prog.cellsOf 23 = 1 ∧ Try.prog.cellsOf 24 = 1 := ⟨by kernel_rfl, by kernel_rfl, by kernel_rfl, by kernel_rfl, by kernel_rfl, by kernel_rfl⟩
theorem str_in {n : Nat} {c : Value} {y : DataW H × List MemPlace} (h : DataW.trod enc Try.prog W base spare held n 9 [c] = some y) (hl : Lite 9 y.1) : ∃ b : ByteArray, c = .string b ∧ b.size ≤ 140737488351232 := by
  obtain ⟨b, e, hy, w⟩ := DataW.trod_string Try.underlying9 h
  simp only [List.cons.injEq, and_true] at e
  subst e hy
  exact ⟨b, rfl, lite_str hl⟩
theorem int_in {n : Nat} {c : Value} {y : DataW H × List MemPlace} (h : DataW.trod enc Try.prog W base spare held n 3 [c] = some y) : ∃ b : Int, c = .int .i64 b ∧ I64 b := by
  obtain ⟨b, e, hy, w⟩ := DataW.trod_int Try.underlying3 h
  simp only [List.cons.injEq, and_true] at e
  subst e
  exact ⟨b, rfl, i64_of w⟩
theorem sfield_in : ∀ n cs' y, DataW.trod enc Try.prog W base spare held n 49 cs' = some y → Lite 49 y.1 → ∃ r : FlS, cs' = r.cells ∧ FlW r := by
  intro n cs y h hl
  obtain ⟨y0, y1, y2, y3, m, hy, hc, h0, h1, h2, h3⟩ := _root_.Go.Joins.trod_struct4 Try.underlying49 h
  rw [cellsFl] at hc
  match cs, hc with
  | [c0, c1, c2, c3, c4], _ =>
    rw [cellsIn] at h1 h2
    rw [cellsSt] at h0
    rw [cellsTy] at h3
    simp only [List.drop_zero, List.drop_succ_cons, List.take_succ_cons, List.take_zero] at h0 h1 h2 h3
    subst hy
    obtain ⟨z0, z1, k, hz, hcz, g0, g1⟩ := trod_struct2 Try.underlying41 h3
    rw [cellsIn] at g0
    rw [cellsSt] at g1
    simp only [List.drop_zero, List.drop_succ_cons, List.take_succ_cons, List.take_zero] at g0 g1
    have l3 : Lite 41 y3.1 := lite_struct Try.underlying49 hl (j := 3) rfl rfl
    subst hz
    obtain ⟨b0, rfl, s0⟩ := str_in h0 (lite_struct Try.underlying49 hl (j := 0) rfl rfl)
    obtain ⟨b1, rfl, s1⟩ := int_in h1
    obtain ⟨b2, rfl, s2⟩ := int_in h2
    obtain ⟨b3, rfl, s3⟩ := int_in g0
    obtain ⟨b4, rfl, s4⟩ := str_in g1 (lite_struct Try.underlying41 l3 (j := 1) rfl rfl)
    exact ⟨⟨b0, b1, b2, b3, b4⟩, rfl, s0, s4, s1, s2, s3⟩
theorem named_in : ∀ n cs' y, DataW.trod enc Try.prog W base spare held n 54 cs' = some y → Lite 54 y.1 → ∃ r : NmS, cs' = r.cells ∧ NmW r := by
  intro n cs y h hl
  obtain ⟨y0, y1, m, hy, hc, h0, h1⟩ := trod_struct2 Try.underlying54 h
  rw [cellsNm] at hc
  match cs, hc with
  | [c0, c1], _ =>
    rw [cellsIn] at h1
    rw [cellsSt] at h0
    simp only [List.drop_zero, List.drop_succ_cons, List.take_succ_cons, List.take_zero] at h0 h1
    subst hy
    obtain ⟨b0, rfl, s0⟩ := str_in h0 (lite_struct Try.underlying54 hl (j := 0) rfl rfl)
    obtain ⟨b1, rfl, s1⟩ := int_in h1
    exact ⟨⟨b0, b1⟩, rfl, s0, s1⟩
theorem method_in : ∀ n cs' y, DataW.trod enc Try.prog W base spare held n 56 cs' = some y → Lite 56 y.1 → ∃ r : MtS, cs' = r.cells ∧ MtW r := by
  intro n cs y h hl
  obtain ⟨y0, y1, y2, m, hy, hc, h0, h1, h2⟩ := Deep.trod_struct3 Try.underlying56 h
  rw [cellsMt] at hc
  match cs, hc with
  | [c0, c1, c2], _ =>
    rw [cellsSt] at h0 h1 h2
    simp only [List.drop_zero, List.drop_succ_cons, List.take_succ_cons, List.take_zero] at h0 h1 h2
    subst hy
    obtain ⟨b0, rfl, s0⟩ := str_in h0 (lite_struct Try.underlying56 hl (j := 0) rfl rfl)
    obtain ⟨b1, rfl, s1⟩ := str_in h1 (lite_struct Try.underlying56 hl (j := 1) rfl rfl)
    obtain ⟨b2, rfl, s2⟩ := str_in h2 (lite_struct Try.underlying56 hl (j := 2) rfl rfl)
    exact ⟨⟨b0, b1, b2⟩, rfl, s0, s1, s2⟩
/-- A slice's value out of its reading. -/
theorem slice_form {t e : TypeId} {n : Nat} {c : Value} {y : DataW H × List MemPlace} (ht : Try.prog.underlying t = some (.slice e)) (h : DataW.trod enc Try.prog W base spare held n t [c] = some y) : ∃ a len cap, c = .slice a len cap := by
  rcases Deep.open_slice ht h with ⟨hcs, -⟩ | ⟨ad, len', cap', m, n, D, Pl, hcs, -⟩
  · simp only [List.cons.injEq, and_true] at hcs; exact ⟨_, _, _, hcs⟩
  · simp only [List.cons.injEq, and_true] at hcs; exact ⟨_, _, _, hcs⟩
theorem ints_in {n : Nat} {c : Value} {y : DataW H × List MemPlace} (h : DataW.trod enc Try.prog W base spare held n 45 [c] = some y) (hl : Lite 45 y.1) : ∃ ns : List Int, RowG W c 1 (inRows ns) ∧ ∀ x ∈ ns, I64 x := by
  obtain ⟨a, len, cap, rfl⟩ := slice_form Try.underlying45 h
  obtain ⟨rs, h1, h2, h3⟩ := row_in cellsIn (by decide) Try.underlying45 (fun x : Int => [.int .i64 x]) (fun _ => rfl) I64 0 h hl (fun n cs' y h _ => by
    obtain ⟨b, e, _, w⟩ := DataW.trod_int Try.underlying3 h
    exact ⟨b, e, i64_of w⟩)
  exact ⟨rs, h2, h3⟩
def msC (p : MsS × Value × Value) : List Value := [.string p.1.name, p.2.1, p.2.2]
def msP (W : World) (p : MsS × Value × Value) : Prop := RowG W p.2.1 5 (flRows p.1.fields) ∧ RowG W p.2.2 1 (inRows p.1.reserved) ∧ MsW p.1
theorem message_in : ∀ n cs' y, DataW.trod enc Try.prog W base spare held n 47 cs' = some y → Lite 47 y.1 → ∃ r : MsS × Value × Value, cs' = msC r ∧ msP W r := by
  intro n cs y h hl
  obtain ⟨y0, y1, y2, m, hy, hc, h0, h1, h2⟩ := Deep.trod_struct3 Try.underlying47 h
  rw [cellsMs] at hc
  match cs, hc with
  | [c0, c1, c2], _ =>
    rw [cellsSt] at h0
    rw [cellsSl.1] at h1
    rw [cellsSl.2.1] at h2
    simp only [List.drop_zero, List.drop_succ_cons, List.take_succ_cons, List.take_zero] at h0 h1 h2
    subst hy
    obtain ⟨b0, rfl, s0⟩ := str_in h0 (lite_struct Try.underlying47 hl (j := 0) rfl rfl)
    obtain ⟨a, len, cap, rfl⟩ := slice_form Try.underlying44 h1
    obtain ⟨fs, -, f2, f3⟩ := row_in cellsFl (by decide) Try.underlying44 FlS.cells (fun _ => rfl) FlW ⟨⟨#[]⟩, 0, 0, 0, ⟨#[]⟩⟩ h1 (lite_struct Try.underlying47 hl (j := 1) rfl rfl) sfield_in
    obtain ⟨ns, n2, n3⟩ := ints_in h2 (lite_struct Try.underlying47 hl (j := 2) rfl rfl)
    exact ⟨(⟨b0, fs, ns⟩, _, _), rfl, f2, n2, s0, f3, n3⟩
def enC (p : EnS × Value) : List Value := [.string p.1.name, p.2]
def enP (W : World) (p : EnS × Value) : Prop := RowG W p.2 2 (nmRows p.1.values) ∧ EnW p.1
theorem enumer_in : ∀ n cs' y, DataW.trod enc Try.prog W base spare held n 52 cs' = some y → Lite 52 y.1 → ∃ r : EnS × Value, cs' = enC r ∧ enP W r := by
  intro n cs y h hl
  obtain ⟨y0, y1, m, hy, hc, h0, h1⟩ := trod_struct2 Try.underlying52 h
  rw [cellsEn] at hc
  match cs, hc with
  | [c0, c1], _ =>
    rw [cellsSt] at h0
    rw [cellsSl.2.2.1] at h1
    simp only [List.drop_zero, List.drop_succ_cons, List.take_succ_cons, List.take_zero] at h0 h1
    subst hy
    obtain ⟨b0, rfl, s0⟩ := str_in h0 (lite_struct Try.underlying52 hl (j := 0) rfl rfl)
    obtain ⟨a, len, cap, rfl⟩ := slice_form Try.underlying50 h1
    obtain ⟨fs, -, f2, f3⟩ := row_in cellsNm (by decide) Try.underlying50 NmS.cells (fun _ => rfl) NmW ⟨⟨#[]⟩, 0⟩ h1 (lite_struct Try.underlying52 hl (j := 1) rfl rfl) named_in
    exact ⟨(⟨b0, fs⟩, _), rfl, f2, s0, f3⟩
/-- A schema by value. -/
theorem schema_in {r : Reach} {b0 : Nat} {v : Value} {d : DataW H} {p : List MemPlace} (hv : Value.okWide Try.prog W r b0 26 v) (h : DataW.Trod enc Try.prog W base spare held 26 v d p) (hl : Lite 26 d) : ∃ s : ScS, ScIn W v s ∧ ScW s := by
  obtain ⟨cs, rfl, hsz⟩ := okWide_struct Try.underlying26 hv
  obtain ⟨fuel, hf⟩ := h
  obtain ⟨y0, y1, y2, y3, m, hy, hc, h0, h1, h2, h3⟩ := _root_.Go.Joins.trod_struct4 Try.underlying26 hf
  rw [cellsSc] at hc
  obtain ⟨l⟩ := cs
  simp only [Value.cells] at h0 h1 h2 h3 hc
  match l, hc with
  | [c0, c1, c2, c3], _ =>
    rw [cellsSt] at h0
    rw [cellsSl.2.2.2.1] at h1
    rw [cellsSl.2.2.2.2.1] at h2
    rw [cellsSl.2.2.2.2.2] at h3
    simp only [List.drop_zero, List.drop_succ_cons, List.take_succ_cons, List.take_zero] at h0 h1 h2 h3
    have hd : d = .agg [y0.1, y1.1, y2.1, y3.1] := congrArg Prod.fst hy
    subst hd
    obtain ⟨b0, rfl, s0⟩ := str_in h0 (lite_struct Try.underlying26 hl (j := 0) rfl rfl)
    obtain ⟨a1, len1, cap1, rfl⟩ := slice_form Try.underlying22 h1
    obtain ⟨a2, len2, cap2, rfl⟩ := slice_form Try.underlying23 h2
    obtain ⟨a3, len3, cap3, rfl⟩ := slice_form Try.underlying24 h3
    obtain ⟨ms, m1, m2, m3⟩ := row_in cellsMs (by decide) Try.underlying22 msC (fun _ => rfl) (msP W) (⟨⟨#[]⟩, [], []⟩, .bool false, .bool false) h1 (lite_struct Try.underlying26 hl (j := 1) rfl rfl) message_in
    obtain ⟨es, e1, e2, e3⟩ := row_in cellsEn (by decide) Try.underlying23 enC (fun _ => rfl) (enP W) (⟨⟨#[]⟩, []⟩, .bool false) h2 (lite_struct Try.underlying26 hl (j := 2) rfl rfl) enumer_in
    obtain ⟨ts, t1, t2, t3⟩ := row_in cellsMt (by decide) Try.underlying24 MtS.cells (fun _ => rfl) MtW ⟨⟨#[]⟩, ⟨#[]⟩, ⟨#[]⟩⟩ h3 (lite_struct Try.underlying26 hl (j := 3) rfl rfl) method_in
    refine ⟨⟨b0, ms.map (·.1), es.map (·.1), ts⟩, ⟨_, _, _, rfl, ⟨ms.map msC, m2, by simp, fun i m hm => ?_⟩, ⟨es.map enC, e2, by simp, fun i m hm => ?_⟩, t2⟩, s0, fun m hm => ?_, fun m hm => ?_, t3⟩
    · simp only [List.getElem?_map, Option.map_eq_some_iff] at hm
      obtain ⟨q, hq, rfl⟩ := hm
      obtain ⟨g1, g2, _⟩ := m3 q (List.mem_of_getElem? hq)
      exact ⟨q.2.1, q.2.2, by simp [hq, msC], g1, g2⟩
    · simp only [List.getElem?_map, Option.map_eq_some_iff] at hm
      obtain ⟨q, hq, rfl⟩ := hm
      obtain ⟨g1, _⟩ := e3 q (List.mem_of_getElem? hq)
      exact ⟨q.2, by simp [hq, enC], g1⟩
    · obtain ⟨q, hq, rfl⟩ := List.mem_map.1 hm
      exact (m3 q hq).2.2
    · obtain ⟨q, hq, rfl⟩ := List.mem_map.1 hm
      exact (e3 q hq).2
end
end Go.Proofs.Ytfnjbbaphmmjlaa

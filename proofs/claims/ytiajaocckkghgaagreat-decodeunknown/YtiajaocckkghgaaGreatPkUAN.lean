/- Part 14 of what the proof stands on. -/
import Derived.Test.YtiajaocckkghgaaGreatPkUAM
import Derived.Deep.Slices
import Derived.Lib.SmallJoins
import Derived.Deep.DeepAppendWide
namespace Go.Proofs.YtiajaocckkghgaaGreat
set_option linter.unusedVariables false
set_option linter.unusedSimpArgs false
open Go.ChangeShapes Go.WideShapes Go.ChangeAt Go.RowKit
set_option maxRecDepth 20000
theorem TrO.trIn {n B : Nat} {w : World} {r : List Value} {t : Tr} {bs : List Nat} (h : TrO n B w r t bs) : TrIn n w (.agg r.toArray) t := ⟨r, rfl, h.trC⟩
structure CameR (w : World) (a : Option Addr) (N cap : Nat) (rs : List Fd) : Prop where
 len : rs.length = N
 holds : HoldsR w a rs
 i64 : ∀ r ∈ rs, Is64 r.tag ∧ Is64 r.wire ∧ Is64 r.n
 le : N ≤ cap
 max : cap ≤ maxLen
 nil : a = none → rs = [] ∧ cap = 0
 adr : rs = [] ∨ ∃ g off, a = some ⟨g, off, none⟩
theorem CameR.below {w w1 : World} {a : Option Addr} {N cap : Nat} {rs : List Fd} (h : CameR w a N cap rs) (hb : Below w.heap.size w w1) : CameR w1 a N cap rs :=
 ⟨h.len, h.holds.below hb, h.i64, h.le, h.max, h.nil, h.adr⟩
theorem CameR.n64 {w : World} {a : Option Addr} {N cap : Nat} {rs : List Fd} (h : CameR w a N cap rs) : ∀ r ∈ rs, Is64 r.n := fun r hr => (h.i64 r hr).2.2
section
variable {H : Type} {enc : TypeId × Value → H} {W : World} {base : Nat} {spare : Nat → Bool} {held : Bool}
theorem fd_of {fuel : Nat} {cs : List Value} {x : DataW H × List MemPlace} (h : DataW.trod enc Tryz.prog W base spare held fuel 61 cs = some x) : ∃ r : Fd, cs = r.cells ∧ Is64 r.tag ∧ Is64 r.wire ∧ Is64 r.n := by
 obtain ⟨y0, y1, y2, y3, n, -, hl, h0, h1, h2, h3⟩ := _root_.Go.Joins.trod_struct4 Tryz.underlying61 h
 rw [show Tryz.prog.cellsOf 61 = 4 from by kernel_rfl] at hl
 match cs, hl with
 | [c0, c1, c2, c3], _ =>
  rw [show Tryz.prog.cellsOf 3 = 1 from by kernel_rfl] at h0 h1 h2
  rw [show Tryz.prog.cellsOf 9 = 1 from by kernel_rfl] at h3
  simp only [List.drop_zero, List.drop_succ_cons, List.take_succ_cons, List.take_zero] at h0 h1 h2 h3
  obtain ⟨t, e0, -, w0⟩ := DataW.trod_int Tryz.underlying3 h0
  obtain ⟨k, e1, -, w1⟩ := DataW.trod_int Tryz.underlying3 h1
  obtain ⟨m, e2, -, w2⟩ := DataW.trod_int Tryz.underlying3 h2
  obtain ⟨b, e3, -, w3⟩ := DataW.trod_string Tryz.underlying9 h3
  simp only [List.cons.injEq, and_true] at e0 e1 e2 e3
  subst e0 e1 e2 e3
  exact ⟨⟨t, k, m, b⟩, rfl, bounds_i64 w0, bounds_i64 w1, bounds_i64 w2⟩
theorem raws_in {fuel : Nat} {a : Option Addr} {len cap : Nat} {x : DataW H × List MemPlace} (h : DataW.trod enc Tryz.prog W base spare held fuel 31 [.slice a len cap] = some x) : ∃ rs, CameR W a len cap rs := by
 rcases Deep.open_slice Tryz.underlying31 h with ⟨hcs, -⟩ | ⟨ad, len', cap', m, n, D, Pl, hcs, -, hl, hm, hmm, -, hx⟩
 ·simp only [List.cons.injEq, Value.slice.injEq, and_true] at hcs
  obtain ⟨rfl, rfl, rfl⟩ := hcs
  exact ⟨[], rfl, HoldsR.nil, by simp, Nat.le_refl _, by decide, fun _ => ⟨rfl, rfl⟩, .inl rfl⟩
 ·simp only [List.cons.injEq, Value.slice.injEq, and_true] at hcs
  obtain ⟨rfl, rfl, rfl⟩ := hcs
  have hml : len ≤ m := by rw [hmm]; split <;> omega
  have each : ∀ i, i < len → ∃ r : Fd, W.cells? base (ad.add (i * 4)) 4 = some r.cells ∧ Is64 r.tag ∧ Is64 r.wire ∧ Is64 r.n := fun i hi => by
   obtain ⟨cs', h1, h2⟩ := hx i (by omega)
   obtain ⟨r, rfl, h64⟩ := fd_of h2
   exact ⟨r, h1, h64⟩
  obtain ⟨f, hf⟩ : ∃ f : Nat → Fd, ∀ i, i < len → W.cells? base (ad.add (i * 4)) 4 = some (f i).cells ∧ Is64 (f i).tag ∧ Is64 (f i).wire ∧ Is64 (f i).n :=
   ⟨fun i => if h : i < len then Classical.choose (each i h) else fd0, fun i hi => by simp only [dif_pos hi]; exact Classical.choose_spec (each i hi)⟩
  have hcell : ∀ i, i < len → ∀ c, c < 4 → W.cell? ((ad.add (i * 4)).add c) = (f i).cells[c]? := fun i hi => (World.cells?_some (hf i hi).1).2.2
  have hlen : ((List.range len).map f).length = len := by simp
  refine ⟨(List.range len).map f, hlen, ?_, ?_, hl, hm, (fun h => by cases h), ?_⟩
  ·intro b hb j u hu
   obtain rfl : ad = b := by simpa using hb
   have hj : j < len * 4 := by
    have := (List.getElem?_eq_some_iff.1 hu).1
    rw [rawCells_len, hlen] at this
    exact this
   have hi : j / 4 < len := by omega
   have hg : ((List.range len).map f)[j / 4]? = some (f (j / 4)) := by simp [hi]
   obtain ⟨u', hu'⟩ : ∃ u', (f (j / 4)).cells[j % 4]? = some u' := ⟨_, List.getElem?_eq_getElem (by simp [Fd.cells]; omega)⟩
   have h1 := rawCells_get _ _ _ hg _ _ hu'
   rw [show j / 4 * 4 + j % 4 = j by omega, hu] at h1
   have h2 := hcell (j / 4) hi (j % 4) (by omega)
   rw [hu'] at h2
   rw [Deep.add_add, show j / 4 * 4 + j % 4 = j by omega] at h2
   rw [h2, ← h1]
  ·intro r hr
   simp only [List.mem_map, List.mem_range] at hr
   obtain ⟨i, hi, rfl⟩ := hr
   exact (hf i hi).2
  ·by_cases h0 : len = 0
   ·left; rw [h0]; rfl
   ·right
    have h1 := hcell 0 (by omega) 0 (by omega)
    obtain ⟨g, off, spot⟩ := ad
    have hspot : spot = none := by
     have : W.cell? (((⟨g, off, spot⟩ : Addr).add (0 * 4)).add 0) = some (.int .i64 (f 0).tag) := h1
     simpa [Addr.add] using World.cell?_spot this
    subst hspot
    exact ⟨g, off, rfl⟩
end
theorem wpList_joinR {w : World} {ops : Array Oper} {rest : List Oper} {o : Oper} {a : Act} {Q : Exit → Act → World → Prop} (hgd : o.guard = none) (s x : Operand)
  (ho : o.op = .call { callee := .builtin .append, args := #[s, x], argTypes := #[31, 31] }) (base : Nat) (v : Value) (n : Nat) (ns : List Fd) (hs : a.eval s = v) (hown : w.ownsRow base 61 4 v n (rawCells ns))
  (ao : Option Addr) (ms : List Fd) (m c : Nat) (hx : a.eval x = .slice ao m c) (hm : m = ms.length) (hao : ao = none → ms = [] ∧ c = 0) (hh : HoldsR w ao ms) (hb : ns.length + ms.length ≤ 1000000) (hbase : base ≤ w.heap.size)
  (h : ∀ v' w', w'.ownsRow base 61 4 v' (ns ++ ms).length (rawCells (ns ++ ms)) → w.grownBy w' v.ownBlock → wpList Tryz.prog ops Q rest (a.put o.dst v') w') : wpList Tryz.prog ops Q (o :: rest) a w := by
 obtain ⟨i0, hi, hz0, hz1, hz2⟩ := info_parts infoRaw
 have hn : n = ns.length := by have := hown.1; rw [rawCells_len] at this; omega
 subst hm hn
 cases ao with
 | none =>
  obtain ⟨rfl, rfl⟩ := hao rfl
  refine wpList_append_own_none hgd s x 31 ho base 61 i0 4 Tryz.underlying31 hi v _ _ hs hown hx ?_
  refine h v w ?_ ⟨rfl, rfl, rfl, Nat.le_refl _, fun _ _ _ => rfl⟩
  rw [List.append_nil]
  exact hown
 | some ad =>
  refine wpList_append_own w hgd s x 31 ho base 61 i0 _ 4 40 Tryz.underlying31 hi hz0 hz1 hz2 rfl (by decide) v _ _ hs hown ad ms.length c (rawCells ms) hx (by rw [rawCells_len]) (hh ad rfl) (rawCells_one ms) (by unfold maxLen; omega) (by omega) hbase ?_
  intro v' w' h1 h2 _
  refine h v' w' ?_ h2
  rw [rawCells_app, List.length_append]
  exact h1
set_option maxHeartbeats 1000000 in
theorem raws_any (a : Option Addr) (rs : List Fd) (N cap : Nat) (w : World) (hN : rs.length = N) (hl : N ≤ 1000000) (ha : a = none → rs = [] ∧ cap = 0) (hh : HoldsR w a rs) :
  Calls Tryz.prog 26 #[.slice a N cap] w fun e w' => ∃ r, e = .returned r ∧ w'.ownsRow w.heap.size 61 4 r N (rawCells rs) ∧ Below w.heap.size w w' := by
 have HH : Hid (HoldsR w a rs) := hh
 have HA : Hid (a = none → rs = [] ∧ cap = 0) := ha
 have HN : Hid (rs.length = N) := hN
 clear hh ha hN
 go_enter Tryz.func26, Tryz.ntmps26
 go_wp2_with (first
  | (at_builtin; refine wpList_joinR rfl _ _ rfl w.heap.size (.slice none 0 0) 0 [] rfl (World.ownsRow_nil _ _ _ _) a rs _ _ rfl HN.out.symm HA.out HH.out ?c1 ?c2 ?_)
  | fail)
 case c1 => have := HN.out; simp; omega
 case c2 => exact Nat.le_refl _
 intro r w1 ho hg
 have hb : Below w.heap.size w w1 := (Below.refl _ _).grown hg (Nat.le_refl _) (fun k hk => by cases hk)
 have HO : Hid (w1.ownsRow w.heap.size 61 4 r N (rawCells rs)) := by
  show World.ownsRow _ _ _ _ _ _ _
  try rw [List.nil_append] at ho
  rw [HN.out] at ho
  exact ho
 clear hg ho
 go_wp2_with fail
 go_ret
 exact ⟨_, rfl, HO.out, hb⟩
theorem rowG_holdsS {w : World} {a : Option Addr} {n c : Nat} {l : List Fd} (h : RowG w (.slice a n c) 4 (fdRows l)) : HoldsR w a l := by
 intro b hb j u hu
 subst hb
 obtain ⟨a', cap, e1, -, -, -, e4⟩ := h.form
 simp only [Value.slice.injEq] at e1
 obtain ⟨rfl, -, -⟩ := e1
 rw [rawCells_flat] at hu
 obtain ⟨i, c, k, g1, g2, rfl⟩ := flat_inv (fdRows l) (fdr_len l) j u hu
 obtain ⟨g, off, e5, e6⟩ := e4 (by intro e; rw [e] at g1; simp at g1)
 cases e5
 have := e6 i c u k g1 g2
 rw [Nat.add_assoc] at this
 rw [Addr.add_lit]
 exact this
theorem sameRows_any {w : World} {v1 v2 : Value} {l : List Fd} (h1 : RowG w v1 4 (fdRows l)) (h2 : RowG w v2 4 (fdRows l)) (hl : l.length ≤ 1000000) :
  Calls Tryz.prog 29 #[v1, v2] w fun e w' => e = .returned (.bool true) ∧ Below w.heap.size w w' := by
 obtain ⟨a, c, rfl, a1, a2, a3, -⟩ := rest_holds h1
 obtain ⟨b, d, rfl, b1, b2, b3, -⟩ := rest_holds h2
 exact same_any a b l l.length c d w rfl a3 b3 a1 b1 a2 b2 hl (rowG_holdsS h1) (rowG_holdsS h2)
set_option maxHeartbeats 1000000 in
theorem rrising_any (a : Option Addr) (rs : List Fd) (N cap : Nat) (w : World) (hN : rs.length = N) (hadr : rs = [] ∨ ∃ g off, a = some ⟨g, off, none⟩) (hc : N ≤ cap) (hm : cap ≤ maxLen) (hh : HoldsR w a rs) :
  Calls Tryz.prog 158 #[.slice a N cap] w fun e w' => e = .returned (.bool (risesB rs)) ∧ Below w.heap.size w w' := by
 have HN : Hid (rs.length = N) := hN
 have HA : Hid (rs = [] ∨ ∃ g off, a = some ⟨g, off, none⟩) := hadr
 have HH : Hid (HoldsR w a rs) := hh
 obtain ⟨R, hR⟩ : ∃ R, risesB rs = R := ⟨_, rfl⟩
 rw [hR]
 have HR : Hid (risesB rs = R) := hR
 unfold maxLen at hm
 clear hN hadr hh hR
 go_enter Tryz.func158, Tryz.ntmps158
 go_wp2_with fail
 go_loopw [3] (fun iv wr => ∃ i : Nat, iv = .int .i64 ((i : Int) + 1) ∧ i ≤ N ∧ Hid (∀ j x y, j < i → rs[j]? = some x → rs[j + 1]? = some y → x.tag ≤ y.tag) ∧ Below w.heap.size w wr) (fun iv _ => N + 1 - (intOf iv).toNat)
 case atStart => exact ⟨0, rfl, by omega, (fun j x y hj => absurd hj (by omega) : ∀ j x y, j < 0 → rs[j]? = some x → rs[j + 1]? = some y → x.tag ≤ y.tag), Below.refl _ _⟩
 case round =>
  obtain ⟨i, rfl, hi, HT, hbel⟩ := hrel
  by_cases hlt : i + 1 < N
  ·have hr : rs[i]? = some (rs[i]'(by rw [HN.out]; omega)) := List.getElem?_eq_getElem _
   generalize rs[i]'(by rw [HN.out]; omega) = r at hr
   have hs : rs[i + 1]? = some (rs[i + 1]'(by rw [HN.out]; exact hlt)) := List.getElem?_eq_getElem _
   generalize rs[i + 1]'(by rw [HN.out]; exact hlt) = s at hs
   rcases HA.out with h0 | ⟨g, off, rfl⟩
   ·exact absurd hlt (by have := HN.out; rw [h0] at this; simp at this; omega)
   obtain ⟨p0, -, -, -⟩ := (HH.out.below hbel).at hr
   obtain ⟨q0, -, -, -⟩ := (HH.out.below hbel).at hs
   have HK : Hid (rs[i]? = some r) := hr
   have HK2 : Hid (rs[i + 1]? = some s) := hs
   obtain ⟨x, hx⟩ : ∃ q, r.tag = q := ⟨_, rfl⟩
   obtain ⟨y, hy⟩ : ∃ q, s.tag = q := ⟨_, rfl⟩
   rw [hx] at p0
   rw [hy] at q0
   have HX : Hid (r.tag = x) := hx
   have HY : Hid (s.tag = y) := hy
   have hlti : (i : Int) + 1 < (N : Int) := by omega
   clear hr hs hx hy
   by_cases hle : y < x
   ·have hd : decide (y < x) = true := by simp [hle]
    obtain rfl : R = false := by rw [← HR.out]; exact rises_break i r s HK.out HK2.out (by rw [HX.out, HY.out]; exact hle)
    clear HT HK HK2 HX HY HR
    go_wp2_with fail
    go_quiet (fail)
    have hbn := below_drewN nq hbel
    clear p0 q0 hbel
    go_wp2_with fail
    go_ret
    exact ⟨rfl, hbn⟩
   ·have hd : decide (y < x) = false := by simp; omega
    have HT2 : Hid (∀ j u v, j < i + 1 → rs[j]? = some u → rs[j + 1]? = some v → u.tag ≤ v.tag) := fun j u v hj hu hv => by
     by_cases hji : j = i
     ·subst hji
      rw [HK.out] at hu
      rw [HK2.out] at hv
      obtain rfl : r = u := by simpa using hu
      obtain rfl : s = v := by simpa using hv
      rw [HX.out, HY.out]; omega
     ·exact HT.out j u v (by omega) hu hv
    clear HT HK HK2 HX HY
    go_wp2_with fail
    go_quiet (fail)
    have hbn := below_drewN nq hbel
    clear p0 q0 hbel
    go_wp2_with fail
    go_roundw
    case rel => exact ⟨i + 1, by go_num, by omega, HT2, hbn⟩
    case measure => simp [intOf]; omega
  ·obtain rfl : R = true := by
    rw [← HR.out]
    refine rises_steps fun j x y hx hy => HT.out j x y ?_ hx hy
    have := (List.getElem?_eq_some_iff.1 hy).1
    rw [HN.out] at this
    omega
   have hnl : ¬ (i : Int) + 1 < (N : Int) := by omega
   clear HT HR
   go_wp2_with fail
   go_ret
   exact ⟨rfl, hbel⟩
def insA (rs : List Fd) : List Fd := rs.foldl (fun m x => mergeF m [x]) []
theorem insA_snoc (rs : List Fd) (x : Fd) : insA (rs ++ [x]) = mergeF (insA rs) [x] := by simp [insA]
theorem ins_all : ∀ (rs m : List Fd), Rises m → Rises (rs.foldl (fun m x => mergeF m [x]) m) ∧ (rs.foldl (fun m x => mergeF m [x]) m).length = m.length + rs.length ∧ ∀ t : Int, (rs.foldl (fun m x => mergeF m [x]) m).filter (fun x => x.tag == t) = m.filter (fun x => x.tag == t) ++ rs.filter (fun x => x.tag == t)
 | [], m, h => ⟨h, by simp, fun t => by simp⟩
 | x :: rs, m, h => by
  obtain ⟨h1, h2, h3⟩ := ins_all rs (mergeF m [x]) (mergeF_rises _ _ h (by simp [Rises]))
  refine ⟨h1, ?_, fun t => ?_⟩
  ·rw [List.foldl_cons, h2, mergeF_len]; simp; omega
  ·rw [List.foldl_cons, h3 t, mergeF_filter t _ _ h, List.append_assoc, ← List.filter_append]
   rfl
theorem insA_all (rs : List Fd) : Rises (insA rs) ∧ (insA rs).length = rs.length ∧ ∀ t : Int, (insA rs).filter (fun x => x.tag == t) = rs.filter (fun x => x.tag == t) := by
 obtain ⟨h1, h2, h3⟩ := ins_all rs [] (by simp [Rises])
 unfold insA
 exact ⟨h1, by simpa using h2, fun t => by simpa using h3 t⟩
theorem insA_sortF (rs : List Fd) : insA rs = sortF rs := by
 have h1 := insA_all rs
 have h2 := sortF_all _ rs (Nat.le_refl _)
 exact rises_uniq _ _ h1.1 h2.1 fun t => by rw [h1.2.2 t, h2.2.2.2 t]
theorem insA_at {m p q : List Fd} {x : Fd} (hm : m = p ++ q) (hr : Rises m) (hq : ∀ y ∈ q, x.tag < y.tag) (hp : ∀ y, p.getLast? = some y → y.tag ≤ x.tag) : mergeF m [x] = p ++ x :: q := by
 have hall : ∀ y ∈ p, y.tag ≤ x.tag := by
  intro y hy
  rcases List.eq_nil_or_concat p with rfl | ⟨p', z, rfl⟩
  ·simp at hy
  ·have hz := hp z (by simp)
   rw [List.concat_eq_append, List.mem_append] at hy
   rcases hy with hy | hy
   ·have hr' : Rises (p' ++ [z]) := by
     rw [hm, List.concat_eq_append] at hr
     exact hr.sublist (List.sublist_append_left _ _)
    have := (List.pairwise_append.1 hr').2.2 y hy z (by simp)
    omega
   ·obtain rfl : y = z := by simpa using hy
    exact hz
 have hu : upN m x.tag = p.length := by
  refine upN_step (fun j y hj hy => hall y ?_) ?_
  ·rw [hm, List.getElem?_append_left hj] at hy
   exact List.mem_of_getElem? hy
  ·cases q with
   | nil => left; rw [hm]; simp
   | cons z q => right; exact ⟨z, by rw [hm]; simp, by have := hq z (by simp); omega⟩
 rw [mergeF, hu, hm]
 simp [mergeF]
theorem swap_own {w : World} {B g n cap : Nat} {p q : List Fd} {y x : Fd} (h : w.ownsRow B 61 4 (.slice (some ⟨g, 0, none⟩) n cap) n (rawCells (p ++ y :: x :: q))) (o : Nat) (ho : o = p.length * 4) (o2 : Nat) (ho2 : o2 = o + 4) :
  ((((((((w.setCell ⟨g, o, none⟩ (.int .i64 x.tag)).setCell ⟨g, o + 1, none⟩ (.int .i64 x.wire)).setCell ⟨g, o + 2, none⟩ (.int .i64 x.n)).setCell ⟨g, o + 3, none⟩ (.string x.b)).setCell ⟨g, o2, none⟩ (.int .i64 y.tag)).setCell ⟨g, o2 + 1, none⟩ (.int .i64 y.wire)).setCell ⟨g, o2 + 2, none⟩ (.int .i64 y.n)).setCell ⟨g, o2 + 3, none⟩ (.string y.b)).ownsRow B 61 4 (.slice (some ⟨g, 0, none⟩) n cap) n (rawCells (p ++ x :: y :: q)) := by
 have s1 := (h.stored o (.int .i64 x.tag)).1
 have s2 := (s1.stored (o + 1) (.int .i64 x.wire)).1
 have s3 := (s2.stored (o + 2) (.int .i64 x.n)).1
 have s4 := (s3.stored (o + 3) (.string x.b)).1
 have s5 := (s4.stored o2 (.int .i64 y.tag)).1
 have s6 := (s5.stored (o2 + 1) (.int .i64 y.wire)).1
 have s7 := (s6.stored (o2 + 2) (.int .i64 y.n)).1
 have s8 := (s7.stored (o2 + 3) (.string y.b)).1
 have e : rawCells (p ++ x :: y :: q) = ((((((((rawCells (p ++ y :: x :: q)).set o (.int .i64 x.tag)).set (o + 1) (.int .i64 x.wire)).set (o + 2) (.int .i64 x.n)).set (o + 3) (.string x.b)).set o2 (.int .i64 y.tag)).set (o2 + 1) (.int .i64 y.wire)).set (o2 + 2) (.int .i64 y.n)).set (o2 + 3) (.string y.b) := by
  have hl : (rawCells p).length = p.length * 4 := rawCells_len p
  rw [ho2, ho, ← hl, rawCells_app, rawCells_app, rawCells_cons, rawCells_cons, rawCells_cons, rawCells_cons]
  generalize rawCells p = D
  generalize rawCells q = E
  have sb : ∀ (l : List Value) (j : Nat) (v : Value), (D ++ l).set (D.length + j) v = D ++ l.set j v := fun l j v => by rw [List.set_append, if_neg (by omega), Nat.add_sub_cancel_left]
  have s0 : ∀ (l : List Value) (v : Value), (D ++ l).set D.length v = D ++ l.set 0 v := fun l v => sb l 0 v
  simp only [Nat.add_assoc, s0, sb, Fd.cells]
  simp
 rw [e]
 exact s8
theorem below_set {B g : Nat} {w W : World} (h : Below B w W) (hg : B ≤ g) (o : Nat) (v : Value) : Below B w (W.setCell ⟨g, o, none⟩ v) :=
 h.trans ⟨rfl, rfl, rfl, by simp, fun k hk => heap_setCell_other W ⟨g, o, none⟩ k v (by show k ≠ g; omega)⟩
set_option maxHeartbeats 4000000 in
theorem rsorted_any (a : Option Addr) (rs : List Fd) (N cap : Nat) (w : World) (hN : rs.length = N) (hl : N ≤ 1000000) (hadr : rs = [] ∨ ∃ g off, a = some ⟨g, off, none⟩) (hc : N ≤ cap) (hm : cap ≤ maxLen) (hh : HoldsR w a rs) :
  Calls Tryz.prog 66 #[.slice a N cap] w fun e w' => ∃ v, e = .returned v ∧ w'.ownsRow w.heap.size 61 4 v N (rawCells (sortF rs)) ∧ Below w.heap.size w w' := by
 obtain ⟨i0, hi0, hz0, hz1, hz2⟩ := info_parts infoRaw
 have HN : Hid (rs.length = N) := hN
 have HADR : Hid (rs = [] ∨ ∃ g off, a = some ⟨g, off, none⟩) := hadr
 have HH : Hid (HoldsR w a rs) := hh
 unfold maxLen at hm
 clear hN hadr hh
 go_enter Tryz.func66, Tryz.ntmps66
 go_wp2_with fail
 go_loopw [3, 4] (fun mv iv wr => ∃ i : Nat, iv = .int .i64 (i : Int) ∧ i ≤ N ∧ Hid (wr.ownsRow w.heap.size 61 4 mv i (rawCells (insA (rs.take i)))) ∧ Below w.heap.size w wr) (fun _ iv _ => N - (intOf iv).toNat)
 case atStart => exact ⟨0, rfl, by omega, by rw [List.take_zero]; exact World.ownsRow_nil _ _ _ _, Below.refl _ _⟩
 case round =>
  obtain ⟨i, rfl, hi, HO, hbel⟩ := hrel
  have hws := hbel.size
  by_cases hlt : i < N
  ·have hr : rs[i]? = some (rs[i]'(by rw [HN.out]; exact hlt)) := List.getElem?_eq_getElem _
   generalize rs[i]'(by rw [HN.out]; exact hlt) = r at hr
   rcases HADR.out with h0 | ⟨g, off, rfl⟩
   ·exact absurd hlt (by have := HN.out; rw [h0] at this; simp at this; omega)
   obtain ⟨p0, p1, p2, p3⟩ := (HH.out.below hbel).at hr
   have HNX : Hid (insA (rs.take (i + 1)) = mergeF (insA (rs.take i)) [r]) := by
    show _ = _
    rw [List.take_add_one, hr]
    exact insA_snoc _ _
   have hML := insA_all (rs.take i)
   obtain ⟨M, hM⟩ : ∃ M, insA (rs.take i) = M := ⟨_, rfl⟩
   rw [hM] at HNX HO hML
   have HRI : Hid (Rises M) := hML.1
   have HMLn : Hid (M.length = i) := by show _ = _; rw [hML.2.1, List.length_take, HN.out]; omega
   clear hr hM hML
   obtain ⟨aM, cM, hv, -⟩ := own_openR HO.out
   have e0 := HMLn.out
   rw [e0] at hv
   subst hv
   clear e0
   obtain ⟨t, kk, nn, bb⟩ := r
   simp only at p0 p1 p2 p3
   go_wp2_with (first
    | (at_builtin; refine wpList_append_own _ rfl _ _ 31 rfl w.heap.size 61 i0 _ 4 40 Tryz.underlying31 hi0 hz0 hz1 hz2 rfl (by decide) _ _ _ rfl (HO.out.alloc _) ⟨_, 0, none⟩ 1 1 (Fd.cells ⟨t, kk, nn, bb⟩) rfl rfl ?c1 ?c2 ?c3 ?c4 ?c5 ?_)
    | fail)
   case c1 =>
    intro j u hj
    match j, hj with
    | 0, hj | 1, hj | 2, hj | 3, hj => simp [Fd.cells] at hj; subst hj; simp [Addr.add]
   case c2 => intro u hu; simp [Fd.cells] at hu; rcases hu with rfl | rfl | rfl | rfl <;> rfl
   case c3 => unfold maxLen; omega
   case c4 => omega
   case c5 => simp; omega
   intro v w8 ho8 hg8 _
   have hb8 : Below w.heap.size w w8 := (hbel.alloc hws _).grown hg8 (by simp; omega) (fun k hk => (HO.out.lt k hk).1)
   have ho8' : w8.ownsRow w.heap.size 61 4 v (i + 1) (rawCells (M ++ [⟨t, kk, nn, bb⟩])) := by
    rw [(rawCells_snoc M _).2]
    exact ho8
   obtain ⟨a9, c9, hv9, -, h91 | ⟨g9, rfl, -, -⟩, h92, h93, -⟩ := own_openR ho8'
   ·exact absurd h91.2.1 (by simp)
   rw [show (M ++ [(⟨t, kk, nn, bb⟩ : Fd)]).length = i + 1 by rw [List.length_append, HMLn.out]; rfl] at hv9 h92
   subst hv9
   unfold maxLen at h93
   have HO8 : Hid (w8.ownsRow w.heap.size 61 4 (.slice (some ⟨g9, 0, none⟩) (i + 1) c9) (i + 1) (rawCells (M ++ [⟨t, kk, nn, bb⟩]))) := ho8'
   clear HO ho8 ho8' hg8 hbel p0 p1 p2 p3
   go_wp2_with fail
   go_loopw [5] (fun kv wi => ∃ (p q : List Fd) (k : Nat), kv = .int .i64 (k : Int) ∧ k ≤ i ∧ Hid (p.length = k) ∧ Hid (M = p ++ q) ∧ Hid (∀ y ∈ q, t < y.tag) ∧ Hid (wi.ownsRow w.heap.size 61 4 (.slice (some ⟨g9, 0, none⟩) (i + 1) c9) (i + 1) (rawCells (p ++ ⟨t, kk, nn, bb⟩ :: q))) ∧ Below w.heap.size w wi) (fun kv _ => (intOf kv).toNat)
   case atStart => exact ⟨M, [], i, rfl, Nat.le_refl _, HMLn, (by simp : M = M ++ []), (by simp : ∀ y ∈ ([] : List Fd), t < y.tag), HO8, hb8⟩
   case round =>
    obtain ⟨p, q, k, rfl, hki, HPL, HMP, HQ, HOW, hbi⟩ := hrel
    cases k with
    | zero =>
     obtain rfl : p = [] := List.eq_nil_of_length_eq_zero HPL.out
     have HEND : Hid (insA (rs.take (i + 1)) = [] ++ ⟨t, kk, nn, bb⟩ :: q) := by show _ = _; rw [HNX.out]; exact insA_at HMP.out HRI.out HQ.out (by simp)
     clear HPL HMP HQ HNX HRI HMLn HO8
     go_wp2_with fail
     go_quiet (fail)
     have hbn := below_drewN nq hbi
     go_wp2_with fail
     go_roundw
     case rel => exact ⟨i + 1, by go_num, by omega, by rw [HEND.out]; exact HOW.out, hbn⟩
     case measure => simp [intOf]; omega
    | succ j =>
     have hwj : IntKind.i64.wrap (j : Int) = (j : Int) := by rw [IntKind.wrap_i64]; omega
     obtain ⟨p', y, rfl⟩ : ∃ p' y, p = p' ++ [y] := by
      rcases List.eq_nil_or_concat p with h | ⟨p', y, h⟩
      ·have := HPL.out; rw [h] at this; simp at this
      ·exact ⟨p', y, by rw [h, List.concat_eq_append]⟩
     have HPL' : Hid (p'.length = j) := by show _ = _; have := HPL.out; simpa using this
     have hre : p' ++ [y] ++ ⟨t, kk, nn, bb⟩ :: q = p' ++ y :: ⟨t, kk, nn, bb⟩ :: q := by simp
     rw [hre] at HOW
     have hH : HoldsR wr (some ⟨g9, 0, none⟩) (p' ++ y :: ⟨t, kk, nn, bb⟩ :: q) := by
      intro b hb jj u hu
      obtain rfl : ⟨g9, 0, none⟩ = b := by simpa using hb
      exact HOW.out.cells (g := g9) rfl jj u hu
     obtain ⟨c0, c1, c2, c3⟩ := hH.at (i := j) (r := y) (by rw [List.getElem?_append_right (by rw [HPL'.out]; exact Nat.le_refl _), HPL'.out]; simp)
     obtain ⟨d0, d1, d2, d3⟩ := hH.at (i := j + 1) (r := ⟨t, kk, nn, bb⟩) (by rw [List.getElem?_append_right (by rw [HPL'.out]; omega), HPL'.out]; simp)
     simp only [Nat.zero_add] at c0 c1 c2 c3 d0 d1 d2 d3
     have fz : ∀ o, wr.frozen? ⟨g9, o, none⟩ = false := fun o => HOW.out.frozenAt o
     obtain ⟨yt, yk, yn, yb⟩ := y
     simp only at c0 c1 c2 c3
     clear hH hre HPL HO8
     by_cases hyt : t < yt
     ·have hd : decide (t < yt) = true := by simp [hyt]
      have HQ2 : Hid (∀ z ∈ (⟨yt, yk, yn, yb⟩ : Fd) :: q, t < z.tag) := by
       intro z hz
       rcases List.mem_cons.1 hz with rfl | hz
       ·exact hyt
       ·exact HQ.out z hz
      have HMP2 : Hid (M = p' ++ ⟨yt, yk, yn, yb⟩ :: q) := by show _ = _; rw [HMP.out]; simp
      clear HQ HMP
      go_wp2_with fail
      go_quiet (fail)
      go_wp2_with fail
      go_region
      have hg9 : w.heap.size ≤ g9 := (HOW.out.lt g9 rfl).1
      have hsw := swap_own (w := wr.drewN (nq + 1)) (p := p') (q := q) (y := ⟨yt, yk, yn, yb⟩) (x := ⟨t, kk, nn, bb⟩) HOW.out (j * 4) (by rw [HPL'.out]) ((j + 1) * 4) (by omega)
      have hbs := (below_set (below_set (below_set (below_set (below_set (below_set (below_set (below_set (below_drewN (nq + 1) hbi) hg9 (j * 4) (.int .i64 t)) hg9 (j * 4 + 1) (.int .i64 kk)) hg9 (j * 4 + 2) (.int .i64 nn)) hg9 (j * 4 + 3) (.string bb)) hg9 ((j + 1) * 4) (.int .i64 yt)) hg9 ((j + 1) * 4 + 1) (.int .i64 yk)) hg9 ((j + 1) * 4 + 2) (.int .i64 yn)) hg9 ((j + 1) * 4 + 3) (.string yb))
      simp only at hsw
      generalize ((((((((wr.drewN (nq + 1)).setCell ⟨g9, j * 4, none⟩ (.int .i64 t)).setCell ⟨g9, j * 4 + 1, none⟩ (.int .i64 kk)).setCell ⟨g9, j * 4 + 2, none⟩ (.int .i64 nn)).setCell ⟨g9, j * 4 + 3, none⟩ (.string bb)).setCell ⟨g9, (j + 1) * 4, none⟩ (.int .i64 yt)).setCell ⟨g9, (j + 1) * 4 + 1, none⟩ (.int .i64 yk)).setCell ⟨g9, (j + 1) * 4 + 2, none⟩ (.int .i64 yn)).setCell ⟨g9, (j + 1) * 4 + 3, none⟩ (.string yb) = w9 at *
      have HSW : Hid (w9.ownsRow w.heap.size 61 4 (.slice (some ⟨g9, 0, none⟩) (i + 1) c9) (i + 1) (rawCells (p' ++ ⟨t, kk, nn, bb⟩ :: (⟨yt, yk, yn, yb⟩ : Fd) :: q))) := hsw
      clear c0 c1 c2 c3 d0 d1 d2 d3 fz HOW hsw
      go_wp2_with fail
      go_roundw
      case rel => exact ⟨p', ⟨yt, yk, yn, yb⟩ :: q, j, by first | rfl | go_num, by omega, HPL', HMP2, HQ2, HSW, hbs⟩
      case measure => simp [intOf]
     ·have hd : decide (t < yt) = false := by simp; omega
      have HEND : Hid (insA (rs.take (i + 1)) = (p' ++ [⟨yt, yk, yn, yb⟩]) ++ ⟨t, kk, nn, bb⟩ :: q) := by
       show _ = _
       rw [HNX.out]
       exact insA_at HMP.out HRI.out HQ.out (by intro z hz; simp at hz; subst hz; simp; omega)
      have HOW2 : Hid (wr.ownsRow w.heap.size 61 4 (.slice (some ⟨g9, 0, none⟩) (i + 1) c9) (i + 1) (rawCells ((p' ++ [⟨yt, yk, yn, yb⟩]) ++ ⟨t, kk, nn, bb⟩ :: q))) := by
       show World.ownsRow _ _ _ _ _ _ _
       have := HOW.out
       simpa using this
      clear HQ HMP HNX HRI HMLn HOW
      go_wp2_with fail
      go_quiet (fail)
      have hbn := below_drewN nq hbi
      clear c0 c1 c2 c3 d0 d1 d2 d3 fz
      go_wp2_with fail
      go_roundw
      case rel => exact ⟨i + 1, by go_num, by omega, by rw [HEND.out]; exact HOW2.out, hbn⟩
      case measure => simp [intOf]; omega
  ·obtain rfl : N = i := by omega
   have h1 := HO.out
   rw [List.take_of_length_le (by rw [HN.out]; exact Nat.le_refl _), insA_sortF] at h1
   have HF := (show Hid _ from h1)
   clear h1 HO
   go_wp2_with fail
   go_ret
   exact ⟨_, rfl, HF.out, hbel⟩
set_option maxHeartbeats 1000000 in
theorem rcheckV_any (t k n : Int) (b : ByteArray) (w : World) :
  Calls Tryz.prog 134 #[.agg #[.int .i64 t, .int .i64 k, .int .i64 n, .string b]] w fun e w' => e = .returned (.bool (okV t k n b)) ∧ Below w.heap.size w w' := by
 by_cases h1 : 1 ≤ t
 ·by_cases h2 : t ≤ 500
  ·by_cases hk : k = 0
   ·subst hk
    go_enter Tryz.func134, Tryz.ntmps134
    go_wp2_with fail
    all_goals
     go_ret
     exact ⟨ret_boolF (by simp [okV, h1, h2]), (Below.refl _ _).alloc (Nat.le_refl _) _⟩
   ·by_cases hk1 : k = 1
    ·subst hk1
     by_cases hn : n = 0
     ·subst hn
      go_enter Tryz.func134, Tryz.ntmps134
      go_wp2_with fail
      all_goals
       go_ret
       exact ⟨ret_boolF (by simp [okV, h1, h2]), (Below.refl _ _).alloc (Nat.le_refl _) _⟩
     ·go_enter Tryz.func134, Tryz.ntmps134
      go_wp2_with fail
      all_goals
       go_ret
       exact ⟨ret_boolF (by simp [okV, hn]), (Below.refl _ _).alloc (Nat.le_refl _) _⟩
    ·have e0 : (k == 0) = false := by simp [hk]
     have e1 : (k == 1) = false := by simp [hk1]
     go_enter Tryz.func134, Tryz.ntmps134
     go_wp2_with fail
     all_goals
      go_ret
      exact ⟨ret_boolF (by simp [okV, hk, hk1]), (Below.refl _ _).alloc (Nat.le_refl _) _⟩
  ·have hok : okV t k n b = false := by simp [okV]; omega
   rw [hok]
   clear hok
   have hd : decide (t < 1) = false := by simp; omega
   have hd5 : decide (500 < t) = true := by simp; omega
   go_enter Tryz.func134, Tryz.ntmps134
   go_wp2_with fail
   all_goals
    go_ret
    exact ⟨rfl, (Below.refl _ _).alloc (Nat.le_refl _) _⟩
 ·have hok : okV t k n b = false := by simp [okV]; omega
  rw [hok]
  clear hok
  have hd : decide (t < 1) = true := by simp; omega
  go_enter Tryz.func134, Tryz.ntmps134
  go_wp2_with fail
  all_goals
   go_ret
   exact ⟨rfl, (Below.refl _ _).alloc (Nat.le_refl _) _⟩
theorem rcheckF_any (r : Fd) (w : World) : Calls Tryz.prog 134 #[r.val] w fun e w' => e = .returned (.bool (okF r)) ∧ Below w.heap.size w w' := rcheckV_any _ _ _ _ w
set_option maxHeartbeats 400000 in
theorem rzig_any (n : Int) (w : World) (h1 : -9223372036854775808 ≤ n) (h2 : n ≤ 9223372036854775807) :
  Calls Tryz.prog 160 #[.int .i64 n] w fun e w' => e = .returned (.int .u64 (zigN n)) ∧ w' = w := by
 by_cases h : n < 0
 all_goals
  go_enter Tryz.func160, Tryz.ntmps160
  go_wp2
  go_ret
  refine ⟨vret_int ?_, rfl⟩
  unfold zigN
  first
   | (rw [if_pos ‹_›]; omega)
   | (rw [if_neg (by omega)]; try omega)
set_option maxHeartbeats 1000000 in
theorem rput_any (v : Nat) (w : World) (hv : v < 18446744073709551616) :
  Calls Tryz.prog 159 #[.int .u64 (v : Int)] w fun e w' => ∃ r, e = .returned r ∧
   w'.ownsRow w.heap.size 5 1 r (digs v).length (byteCells (digs v)) ∧ Below w.heap.size w w' := by
 obtain ⟨i0, hi, hz0, hz1, hz2⟩ := info_parts infoByte
 have hd := (digs_len64 v hv).2
 go_enter Tryz.func159, Tryz.ntmps159
 go_wp2_with fail
 go_loopw [0, 3] (fun vv out wr => ∃ (v' : Nat) (acc : List Nat), vv = .int .u64 (v' : Int) ∧ v' < 18446744073709551616 ∧ acc.length + (digs v').length ≤ 10 ∧ Hid (acc ++ digs v' = digs v) ∧ Hid (wr.ownsRow w.heap.size 5 1 out acc.length (byteCells acc)) ∧ Below w.heap.size w wr)
  (fun vv _ _ => (intOf vv).toNat)
 case atStart => exact ⟨v, [], rfl, hv, by simpa using hd, rfl, World.ownsRow_nil _ _ _ _, Below.refl _ _⟩
 case round =>
  obtain ⟨v', acc, rfl, hv', hacc, HD, HP, hbel⟩ := hrel
  have hws := hbel.size
  have hown := HP.out
  clear HP
  by_cases h : v' < 128
  ·have HE : Hid (acc ++ [v'] = digs v) := by show _ = _; rw [← HD.out, digs_small h]
   have hlen : acc.length ≤ 9 := by rw [digs_small h] at hacc; simp at hacc; omega
   clear HD hacc
   go_wp2_with (first
    | (at_builtin; refine wpList_append_own _ rfl _ _ 27 rfl w.heap.size 5 i0 (.int .u8 0) 1 1 Tryz.underlying27 hi hz0 hz1 hz2 rfl (by decide) _ _ _ rfl (hown.alloc _) ⟨wr.heap.size, 0, none⟩ 1 1 [.int .u8 (v' : Int)] rfl rfl ?c1 ?c2 ?c3 ?c4 ?c5 ?_)
    | fail)
   case c1 =>
    intro j u hj
    match j, hj with
    | 0, hj => simp at hj; subst hj; simp [Addr.add]
   case c2 => intro u hu; simp at hu; subst hu; rfl
   case c3 => unfold maxLen; omega
   case c4 => omega
   case c5 => simp; omega
   intro r w2 hown' hgrow _
   have hb2 : Below w.heap.size w w2 := (hbel.alloc hws _).grown hgrow (by simp; omega) (fun k hk => (hown.lt k hk).1)
   have HO : Hid (w2.ownsRow w.heap.size 5 1 r (acc ++ [v']).length (byteCells (acc ++ [v']))) := own_step (ns := []) (acc := acc) hown' rfl rfl (Nat.le_refl _)
   clear hown hown' hgrow
   go_wp2_with fail
   go_ret
   exact ⟨_, rfl, by rw [← HE.out]; exact HO.out, hb2⟩
  ·have HE : Hid (acc ++ [v' % 128 + 128] ++ digs (v' / 128) = digs v) := by show _ = _; rw [← HD.out, digs_big h]; simp
   have hlen : acc.length ≤ 9 := by have := List.length_pos_iff.2 (digs_ne v'); omega
   have hacc' : (acc ++ [v' % 128 + 128]).length + (digs (v' / 128)).length ≤ 10 := by rw [digs_big h] at hacc; simp at hacc ⊢; omega
   clear HD hacc
   obtain ⟨c, hc⟩ : ∃ c, v' % 128 + 128 = c := ⟨_, rfl⟩
   have hci : (v' : Int) % 128 + 128 = (c : Int) := by omega
   rw [hc] at HE hacc'
   clear hc
   go_wp2_with (first
    | (at_builtin; refine wpList_append_own _ rfl _ _ 27 rfl w.heap.size 5 i0 (.int .u8 0) 1 1 Tryz.underlying27 hi hz0 hz1 hz2 rfl (by decide) _ _ _ rfl (hown.alloc _) ⟨wr.heap.size, 0, none⟩ 1 1 [.int .u8 (c : Int)] rfl rfl ?c1 ?c2 ?c3 ?c4 ?c5 ?_)
    | fail)
   case c1 =>
    intro j u hj
    match j, hj with
    | 0, hj => simp at hj; subst hj; simp [Addr.add]
   case c2 => intro u hu; simp at hu; subst hu; rfl
   case c3 => unfold maxLen; omega
   case c4 => omega
   case c5 => simp; omega
   intro r w2 hown' hgrow _
   have hb2 : Below w.heap.size w w2 := (hbel.alloc hws _).grown hgrow (by simp; omega) (fun k hk => (hown.lt k hk).1)
   have HO : Hid (w2.ownsRow w.heap.size 5 1 r (acc ++ [c]).length (byteCells (acc ++ [c]))) := own_step (ns := []) (acc := acc) hown' rfl rfl (Nat.le_refl _)
   clear hown hown' hgrow hci
   go_wp2_with fail
   go_roundw
   case rel => exact ⟨v' / 128, acc ++ [c], by go_num, by omega, hacc', HE, HO, hb2⟩
   case measure => simp [intOf]; omega
theorem own_holds {B : Nat} {w : World} {r : Value} {n : Nat} {ns : List Nat} (ho : w.ownsRow B 5 1 r n (byteCells ns)) : ∃ a c, r = .slice a ns.length c ∧ (a = none → ns = [] ∧ c = 0) ∧ Holds w a ns := by
 obtain ⟨a, c, rfl, -, h1, -, -, h4⟩ := own_open ho
 refine ⟨a, c, rfl, ?_, h4⟩
 rcases h1 with h | ⟨g, h, _⟩
 ·exact fun _ => h.2
 ·exact fun e => by rw [h] at e; cases e
set_option maxHeartbeats 2000000 in
theorem rfield_num (t : Nat) (n : Int) (b : ByteArray) (w : World) (h1 : 1 ≤ t) (h2 : t ≤ 500) (h3 : -9223372036854775808 ≤ n) (h4 : n ≤ 9223372036854775807) :
  Calls Tryz.prog 135 #[.agg #[.int .i64 (t : Int), .int .i64 0, .int .i64 n, .string b]] w fun e w' => ∃ v, e = .returned v ∧
   w'.ownsRow w.heap.size 5 1 v (digs (2 * t) ++ digs (zigN n).toNat).length (byteCells (digs (2 * t) ++ digs (zigN n).toNat)) ∧ Below w.heap.size w w' := by
 have hz := zigN_bd n h3 h4
 have l1 := digs_len64 (2 * t) (by omega)
 have hp := fun W => rput_any (2 * t) W (by omega)
 have HP : Hid (∀ W z, z = ((2 * t : Nat) : Int) → Calls Tryz.prog 159 #[.int .u64 z] W fun e w' => ∃ r, e = .returned r ∧ w'.ownsRow W.heap.size 5 1 r (digs (2 * t)).length (byteCells (digs (2 * t))) ∧ Below W.heap.size W w') := fun W z hz => by subst hz; exact hp W
 obtain ⟨z, hzz⟩ := Int.eq_ofNat_of_zero_le hz.1
 have l2 := digs_len64 z (by omega)
 have HP2 : Hid (∀ W, Calls Tryz.prog 159 #[.int .u64 (z : Int)] W fun e w' => ∃ r, e = .returned r ∧ w'.ownsRow W.heap.size 5 1 r (digs z).length (byteCells (digs z)) ∧ Below W.heap.size W w') := fun W => rput_any z W (by omega)
 obtain ⟨R, hR⟩ : ∃ R, digs (2 * t) ++ digs (zigN n).toNat = R := ⟨_, rfl⟩
 rw [hR]
 have HR : Hid (digs (2 * t) ++ digs z = R) := by show _ = _; rw [← hR, hzz, Int.toNat_natCast]
 have HZ : Hid (zigN n = (z : Int)) := hzz
 clear hR hp hz hzz
 generalize digs (2 * t) = ds at *
 generalize digs z = es at *
 have HL1 : Hid (ds.length ≤ 10) := l1.2
 have HL2 : Hid (es.length ≤ 10) := l2.2
 clear l1 l2
 go_enter Tryz.func135, Tryz.ntmps135
 go_wp2_with fail
 refine (HP.out _ _ (by omega)).mono ?_
 rintro e w1 ⟨r1, rfl, ho1, hb⟩
 have hb0 : Below w.heap.size w w1 := (below_one w _).trans (hb.mono (by simp))
 have hcell : w1.cell? ⟨w.heap.size, 1, none⟩ = some (.int .i64 0) := by rw [hb.cell (by simp)]; simp
 have hcell2 : w1.cell? ⟨w.heap.size, 2, none⟩ = some (.int .i64 n) := by rw [hb.cell (by simp)]; simp
 have HO1 : Hid (w1.ownsRow w.heap.size 5 1 r1 ds.length (byteCells ds)) := own_mono ho1 (by simp)
 clear ho1 hb HP
 go_wp2_with fail
 refine (rzig_any n _ h3 h4).mono ?_
 rintro e w2 ⟨rfl, rfl⟩
 rw [HZ.out]
 go_wp2_with fail
 refine (HP2.out _).mono ?_
 rintro e w3 ⟨r3, rfl, ho3, hb3⟩
 have hb3' : Below w.heap.size w w3 := hb0.trans (hb3.mono hb0.size)
 have HO3 := own_belowH HO1 hb3
 obtain ⟨a3, c3, rfl, hn3, hh3⟩ := own_holds ho3
 have HN3 : Hid (a3 = none → es = [] ∧ c3 = 0) := hn3
 have HH3 : Hid (Holds w3 a3 es) := hh3
 obtain ⟨M, hM⟩ : ∃ M, es.length = M := ⟨_, rfl⟩
 rw [hM]
 have HM : Hid (M = es.length) := hM.symm
 clear HP2 HO1 ho3 hb3 hn3 hh3 hb0 hM hcell hcell2
 go_wp2_with (first
  | (at_builtin; refine wpList_join rfl _ _ rfl w.heap.size _ _ ds rfl HO3.out a3 es M c3 rfl HM.out HN3.out HH3.out ?c1 ?c2 ?_)
  | fail)
 case c1 => have := HL1.out; have := HL2.out; omega
 case c2 => exact hb3'.size
 intro v w4 ho4 hg4
 have hb4 : Below w.heap.size w w4 := hb3'.grown hg4 hb3'.size (fun k hk => (HO3.out.lt k hk).1)
 have HO4 : Hid (w4.ownsRow w.heap.size 5 1 v R.length (byteCells R)) := by
  show World.ownsRow _ _ _ _ _ _ _
  have e : ds.length + es.length = R.length := by rw [← HR.out, List.length_append]
  rw [HR.out, e] at ho4
  exact ho4
 clear ho4 hg4 HO3
 go_wp2_with fail
 go_ret
 exact ⟨_, rfl, HO4.out, hb4⟩
set_option maxHeartbeats 2000000 in
theorem rfield_text (t : Nat) (n : Int) (b : ByteArray) (w : World) (h1 : 1 ≤ t) (h2 : t ≤ 500) (h3 : b.size ≤ 4096) :
  Calls Tryz.prog 135 #[.agg #[.int .i64 (t : Int), .int .i64 1, .int .i64 n, .string b]] w fun e w' => ∃ v, e = .returned v ∧
   w'.ownsRow w.heap.size 5 1 v (digs (2 * t + 1) ++ (digs b.size ++ bytesN b)).length (byteCells (digs (2 * t + 1) ++ (digs b.size ++ bytesN b))) ∧ Below w.heap.size w w' := by
 obtain ⟨i0, hi, hz0, hz1, hz2⟩ := info_parts infoByte
 have l1 := digs_len64 (2 * t + 1) (by omega)
 have l2 := digs_len64 b.size (by omega)
 have hp := fun W => rput_any (2 * t + 1) W (by omega)
 have HP : Hid (∀ W z, z = ((2 * t + 1 : Nat) : Int) → Calls Tryz.prog 159 #[.int .u64 z] W fun e w' => ∃ r, e = .returned r ∧ w'.ownsRow W.heap.size 5 1 r (digs (2 * t + 1)).length (byteCells (digs (2 * t + 1))) ∧ Below W.heap.size W w') := fun W z hz => by subst hz; exact hp W
 have HP2 : Hid (∀ W z, z = (b.size : Int) → Calls Tryz.prog 159 #[.int .u64 z] W fun e w' => ∃ r, e = .returned r ∧ w'.ownsRow W.heap.size 5 1 r (digs b.size).length (byteCells (digs b.size)) ∧ Below W.heap.size W w') := fun W z hz => by subst hz; exact rput_any b.size W (by omega)
 obtain ⟨R, hR⟩ : ∃ R, digs (2 * t + 1) ++ (digs b.size ++ bytesN b) = R := ⟨_, rfl⟩
 rw [hR]
 have HR : Hid (digs (2 * t + 1) ++ (digs b.size ++ bytesN b) = R) := hR
 clear hR hp
 generalize digs (2 * t + 1) = ds at *
 generalize digs b.size = es at *
 have HL1 : Hid (ds.length ≤ 10) := l1.2
 have HL2 : Hid (es.length ≤ 10) := l2.2
 clear l1 l2
 go_enter Tryz.func135, Tryz.ntmps135
 go_wp2_with fail
 refine (HP.out _ _ (by omega)).mono ?_
 rintro e w1 ⟨r1, rfl, ho1, hb⟩
 have hb0 : Below w.heap.size w w1 := (below_one w _).trans (hb.mono (by simp))
 have hcell : w1.cell? ⟨w.heap.size, 1, none⟩ = some (.int .i64 1) := by rw [hb.cell (by simp)]; simp
 have hcell3 : w1.cell? ⟨w.heap.size, 3, none⟩ = some (.string b) := by rw [hb.cell (by simp)]; simp
 have hlt : w.heap.size < w1.heap.size := by have := hb.size; simp at this; omega
 have HO1 : Hid (w1.ownsRow (w.heap.size + 1) 5 1 r1 ds.length (byteCells ds)) := own_mono ho1 (by simp)
 clear ho1 hb HP
 go_wp2_with fail
 refine (HP2.out _ _ (by omega)).mono ?_
 rintro e w3 ⟨r3, rfl, ho3, hb3⟩
 have hb3' : Below w.heap.size w w3 := hb0.trans (hb3.mono hb0.size)
 have HO3 := own_belowH HO1 hb3
 have hc33 : w3.cell? ⟨w.heap.size, 3, none⟩ = some (.string b) := by rw [hb3.cell hlt]; exact hcell3
 have hlt3 : w.heap.size < w3.heap.size := Nat.lt_of_lt_of_le hlt hb3.size
 obtain ⟨a3, c3, rfl, hn3, hh3⟩ := own_holds ho3
 have HN3 : Hid (a3 = none → es = [] ∧ c3 = 0) := hn3
 have HH3 : Hid (Holds w3 a3 es) := hh3
 obtain ⟨M, hM⟩ : ∃ M, es.length = M := ⟨_, rfl⟩
 rw [hM]
 have HM : Hid (M = es.length) := hM.symm
 clear HP2 HO1 ho3 hb3 hn3 hh3 hb0 hM hcell hcell3
 go_wp2_with (first
  | (at_builtin; refine wpList_join rfl _ _ rfl (w.heap.size + 1) _ _ ds rfl HO3.out a3 es M c3 rfl HM.out HN3.out HH3.out ?c1 ?c2 ?_)
  | fail)
 case c1 => have := HL1.out; have := HL2.out; omega
 case c2 => omega
 intro v4 w4 ho4 hg4
 have hb4 : Below w.heap.size w w4 := hb3'.grown hg4 hb3'.size (fun k hk => Nat.le_trans (Nat.le_succ _) (HO3.out.lt k hk).1)
 have hc43 : w4.cell? ⟨w.heap.size, 3, none⟩ = some (.string b) := hg4.cell hc33 (by intro e; exact Nat.not_succ_le_self _ (HO3.out.lt _ e.symm).1)
 have HO4 : Hid (w4.ownsRow w.heap.size 5 1 v4 (ds ++ es).length (byteCells (ds ++ es))) := by
  show World.ownsRow _ _ _ _ _ _ _
  rw [← List.length_append] at ho4
  exact own_mono ho4 (Nat.le_succ _)
 obtain ⟨K, hK⟩ : ∃ K, (ds ++ es).length = K := ⟨_, rfl⟩
 have hK20 : K ≤ 20 := by rw [← hK, List.length_append]; have := HL1.out; have := HL2.out; omega
 have HK : Hid ((ds ++ es).length = K) := hK
 rw [hK] at HO4
 clear ho4 hg4 HO3 hK hc33
 go_wp2_with (first
  | (at_builtin; refine Lib.wpList_append_own_string _ rfl _ _ 27 9 rfl w.heap.size 5 i0 Tryz.underlying27 Tryz.underlying9 hi hz0 hz1 hz2 _ _ _ rfl HO4.out b rfl ?d1 ?d2 ?d3 ?_)
  | fail)
 case d1 => unfold maxLen; omega
 case d2 => omega
 case d3 => exact hb4.size
 intro v5 w5 ho5 hg5 _
 have hb5 : Below w.heap.size w w5 := hb4.grown hg5 hb4.size (fun k hk => (HO4.out.lt k hk).1)
 have HO5 : Hid (w5.ownsRow w.heap.size 5 1 v5 R.length (byteCells R)) := by
  show World.ownsRow _ _ _ _ _ _ _
  have e : K + b.size = R.length := by rw [← HR.out, ← HK.out]; simp [bytesN_len]; omega
  rw [strCells_bytes, ← byteCells_app, List.append_assoc, HR.out, e] at ho5
  exact ho5
 clear ho5 hg5 HO4
 go_wp2_with fail
 go_ret
 exact ⟨_, rfl, HO5.out, hb5⟩
theorem rfield_any (r : Fd) (w : World) (h : okF r = true) (hn : Is64 r.n) :
  Calls Tryz.prog 135 #[r.val] w fun e w' => ∃ v, e = .returned v ∧ w'.ownsRow w.heap.size 5 1 v (fieldN r).length (byteCells (fieldN r)) ∧ Below w.heap.size w w' := by
 rcases ok_cases h hn with ⟨t, n, rfl, h1, h2, h3⟩ | ⟨t, b, rfl, h1, h2, h3⟩
 ·rw [fieldN_num]; exact rfield_num t n _ w h1 h2 h3.1 h3.2
 ·rw [fieldN_text]; exact rfield_text t 0 b w h1 h2 h3
set_option maxHeartbeats 2000000 in
theorem rputall_any (a : Option Addr) (rs : List Fd) (N cap : Nat) (w : World) (hN : rs.length = N) (hadr : rs = [] ∨ ∃ g off, a = some ⟨g, off, none⟩) (hc : N ≤ cap) (hm : cap ≤ maxLen) (hl : N ≤ 1000000) (hh : HoldsR w a rs) (h64 : ∀ r ∈ rs, Is64 r.n) :
  Calls Tryz.prog 95 #[.slice a N cap] w fun e w' => ∃ v, e = .returned (.tuple #[v, .int .i64 ((putL rs).2 : Int)]) ∧ w'.ownsRow w.heap.size 5 1 v (putL rs).1.length (byteCells (putL rs).1) ∧ Below w.heap.size w w' := by
 have HN : Hid (rs.length = N) := hN
 have HA : Hid (rs = [] ∨ ∃ g off, a = some ⟨g, off, none⟩) := hadr
 have HH : Hid (HoldsR w a rs) := hh
 have H64 : Hid (∀ r ∈ rs, Is64 r.n) := h64
 obtain ⟨R, hR⟩ : ∃ R, putL rs = R := ⟨_, rfl⟩
 rw [hR]
 have HR : Hid (putL rs = R) := hR
 unfold maxLen at hm
 clear hN hadr hh h64 hR
 go_enter Tryz.func95, Tryz.ntmps95
 go_wp2_with fail
 go_loopw [5] (fun iv wr => ∃ i : Nat, iv = .int .i64 (i : Int) ∧ i ≤ N ∧ Hid ((rs.take i).all okF = true) ∧ Below w.heap.size w wr) (fun iv _ => N - (intOf iv).toNat)
 case atStart => exact ⟨0, rfl, by omega, (by rfl : ((rs.take 0).all okF = true)), Below.refl _ _⟩
 case round =>
  obtain ⟨i, rfl, hi, HT, hbel⟩ := hrel
  have hws := hbel.size
  by_cases hlt : i < N
  ·have hr : rs[i]? = some (rs[i]'(by rw [HN.out]; exact hlt)) := List.getElem?_eq_getElem _
   generalize rs[i]'(by rw [HN.out]; exact hlt) = r at hr
   rcases HA.out with h0 | ⟨g, off, rfl⟩
   ·exact absurd hlt (by have := HN.out; rw [h0] at this; simp at this; omega)
   obtain ⟨p0, p1, p2, p3⟩ := (HH.out.below hbel).at hr
   have HK : Hid (rs[i]? = some r) := hr
   obtain ⟨ok, hok⟩ : ∃ b, okF r = b := ⟨_, rfl⟩
   have HOK : Hid (okF r = ok) := hok
   have HCK : Hid (∀ W, Calls Tryz.prog 134 #[.agg #[.int .i64 r.tag, .int .i64 r.wire, .int .i64 r.n, .string r.b]] W fun e w' => e = .returned (.bool ok) ∧ Below W.heap.size W w') := fun W => by rw [← hok]; exact rcheckF_any r W
   clear hr hok
   generalize r.tag = t at p0 HCK
   generalize r.wire = k at p1 HCK
   generalize r.n = n at p2 HCK
   generalize r.b = b at p3 HCK
   go_wp2_with fail
   refine (HCK.out _).mono ?_
   rintro e w1 ⟨rfl, hb1⟩
   have hb1' : Below w.heap.size w w1 := hbel.trans (hb1.mono hws)
   clear hb1 p0 p1 p2 p3 HCK hbel
   cases ok with
   | true =>
    have HT2 : Hid ((rs.take (i + 1)).all okF = true) := by
     show _ = _
     rw [all_take_snoc HK.out, List.all_append, HT.out, List.all_cons, HOK.out, List.all_nil]
     rfl
    clear HT HK HOK
    go_wp2_with fail
    go_roundw
    case rel => exact ⟨i + 1, by go_num, by omega, HT2, hb1'⟩
    case measure => simp [intOf]; omega
   | false =>
    obtain rfl : R = ([], 1) := by rw [← HR.out]; exact putL_bad (all_bad HK.out HOK.out)
    clear HT HK HOK HR
    go_wp2_with fail
    go_ret2
    exact ⟨_, rfl, World.ownsRow_nil _ _ _ _, hb1'⟩
  ·obtain rfl : i = N := by omega
   have HALL : Hid (rs.all okF = true) := by
    have := HT.out
    rw [List.take_of_length_le (by rw [HN.out]; exact Nat.le_refl _)] at this
    exact this
   clear HT
   go_wp2_with fail
   go_loopw [4, 6] (fun out iv wr' => ∃ i' : Nat, iv = .int .i64 (i' : Int) ∧ i' ≤ i ∧ Hid ((flatN (rs.take i')).length ≤ 4096) ∧ Hid (wr'.ownsRow w.heap.size 5 1 out (flatN (rs.take i')).length (byteCells (flatN (rs.take i')))) ∧ Below w.heap.size w wr') (fun _ iv _ => i - (intOf iv).toNat)
   case atStart => exact ⟨0, rfl, by omega, (by rw [List.take_zero, flatN_nil]; decide : (flatN (rs.take 0)).length ≤ 4096), by rw [List.take_zero, flatN_nil]; exact World.ownsRow_nil _ _ _ _, hbel⟩
   case round =>
    obtain ⟨j, rfl, hj, HL, HO, hbel2⟩ := hrel
    have hws2 := hbel2.size
    by_cases hlt2 : j < i
    ·have hr : rs[j]? = some (rs[j]'(by rw [HN.out]; exact hlt2)) := List.getElem?_eq_getElem _
     generalize rs[j]'(by rw [HN.out]; exact hlt2) = r at hr
     rcases HA.out with h0 | ⟨g, off, rfl⟩
     ·exact absurd hlt2 (by have := HN.out; rw [h0] at this; simp at this; omega)
     obtain ⟨p0, p1, p2, p3⟩ := (HH.out.below hbel2).at hr
     have hmem : r ∈ rs := List.mem_of_getElem? hr
     have hrok : okF r = true := List.all_eq_true.1 HALL.out r hmem
     have hr64 := H64.out r hmem
     have hfl := (fieldN_len hrok hr64).2
     have HFD : Hid (∀ W, Calls Tryz.prog 135 #[.agg #[.int .i64 r.tag, .int .i64 r.wire, .int .i64 r.n, .string r.b]] W fun e w' => ∃ v, e = .returned v ∧ w'.ownsRow W.heap.size 5 1 v (fieldN r).length (byteCells (fieldN r)) ∧ Below W.heap.size W w') := fun W => rfield_any r W hrok hr64
     have HF1 : Hid (flatN (rs.take (j + 1)) = flatN (rs.take j) ++ fieldN r) := by
      show _ = _
      rw [all_take_snoc hr, flatN_app, flatN_cons, flatN_nil, List.append_nil]
     clear hr hmem hrok hr64
     generalize r.tag = t at p0 HFD
     generalize r.wire = k at p1 HFD
     generalize r.n = n at p2 HFD
     generalize r.b = b at p3 HFD
     generalize fieldN r = fs at *
     have HLF : Hid (fs.length ≤ 4116) := hfl
     clear hfl
     obtain ⟨F, hF⟩ : ∃ F, flatN (rs.take j) = F := ⟨_, rfl⟩
     rw [hF] at HL HO HF1
     clear hF
     go_wp2_with fail
     refine (HFD.out _).mono ?_
     rintro e w1 ⟨v1, rfl, ho1, hb1⟩
     have hb1' : Below w.heap.size w w1 := hbel2.trans (hb1.mono hws2)
     have HO1 := own_belowH HO hb1
     obtain ⟨a2, cap2, rfl, -, h21, h22, h23, h24⟩ := own_open ho1
     have HH2 : Hid (Holds w1 a2 fs) := h24
     have HA2 : Hid (a2 = none → fs = [] ∧ cap2 = 0) := by
      rcases h21 with h | ⟨g', h, _⟩
      ·exact fun _ => ⟨h.2.1, h.2.2⟩
      ·exact fun e => by rw [h] at e; cases e
     clear HO ho1 hb1 h21 h22 h23 h24 p0 p1 p2 p3 HFD hbel2
     obtain ⟨M, hM⟩ : ∃ M, fs.length = M := ⟨_, rfl⟩
     rw [hM]
     have HM : Hid (M = fs.length) := hM.symm
     clear hM
     go_wp2_with (first
      | (at_builtin; refine wpList_join rfl _ _ rfl w.heap.size _ _ F rfl HO1.out a2 fs M cap2 rfl HM.out HA2.out HH2.out ?c1 ?c2 ?_)
      | fail)
     case c1 => have := HL.out; have := HLF.out; omega
     case c2 => exact hb1'.size
     intro v3 w3 ho3 hg3
     have hb3 : Below w.heap.size w w3 := hb1'.grown hg3 hb1'.size (fun k hk => (HO1.out.lt k hk).1)
     obtain ⟨a3, cap3, rfl, -, h31, h32, h33, h34⟩ := own_open ho3
     have e0 : F.length + fs.length = (flatN (rs.take (j + 1))).length := by rw [HF1.out, List.length_append]
     rw [← HF1.out] at ho3 ⊢
     rw [e0] at ho3
     clear e0
     have HO3 : Hid (w3.ownsRow w.heap.size 5 1 (.slice a3 (flatN (rs.take (j + 1))).length cap3) (flatN (rs.take (j + 1))).length (byteCells (flatN (rs.take (j + 1))))) := ho3
     clear ho3 hg3 h31 h32 h33 h34 HO1 HH2 HA2 HM HL HLF HF1 hb1'
     by_cases hbig : 4096 < (flatN (rs.take (j + 1))).length
     ·obtain rfl : R = ([], 4) := by rw [← HR.out]; exact putL_big HALL.out (Nat.lt_of_lt_of_le hbig (flat_take_le rs _))
      clear HR HO3
      generalize (flatN (rs.take (j + 1))).length = L at *
      go_wp2_with fail
      go_ret2
      exact ⟨_, rfl, World.ownsRow_nil _ _ _ _, hb3⟩
     ·have HL3 : Hid ((flatN (rs.take (j + 1))).length ≤ 4096) := by show _ ≤ _; omega
      obtain ⟨L, hLL⟩ : ∃ L, (flatN (rs.take (j + 1))).length = L := ⟨_, rfl⟩
      have hbig' : ¬ 4096 < L := by omega
      rw [hLL]
      have HLL : Hid ((flatN (rs.take (j + 1))).length = L) := hLL
      clear hbig hLL
      go_wp2_with fail
      go_roundw
      case rel => exact ⟨j + 1, by go_num, by omega, HL3, by rw [← HLL.out]; exact HO3, hb3⟩
      case measure => simp [intOf]; omega
    ·obtain rfl : j = i := by omega
     have hF : flatN (rs.take j) = flatN rs := by rw [List.take_of_length_le (by rw [HN.out]; exact Nat.le_refl _)]
     rw [hF] at HL HO
     obtain rfl : R = (flatN rs, 0) := by rw [← HR.out]; exact putL_ok HALL.out HL.out
     clear HR hF
     go_wp2_with fail
     go_ret2
     exact ⟨_, rfl, HO.out, hbel2⟩
theorem kept_cellV {w : World} {a : Addr} {u : Value} (h : w.cell? a = some u) (x : Kept w.heap.size w) : x.w.cell? a = some u := by
 rw [x.below.cell (World.block_lt_of_cell? _ _ h)]; exact h
theorem has_step {es : List (Int × List Tr)} {i : Nat} {e : Int × List Tr} {tag : Int} (h : es[i]? = some e) : hasB (es.take (i + 1)) tag = (hasB (es.take i) tag || e.1 == tag) := by
 have : es.take (i + 1) = es.take i ++ [e] := by rw [List.take_add_one, h]; rfl
 rw [this]; simp [hasB]
theorem has_yes {es : List (Int × List Tr)} {i : Nat} {e : Int × List Tr} (h : es[i]? = some e) : hasB es e.1 = true := by
 simp only [hasB, List.any_eq_true, beq_iff_eq]
 exact ⟨e, List.mem_of_getElem? h, rfl⟩
set_option maxHeartbeats 2000000 in
theorem rhas_any (n : Nat) (t : Tr) (v : Value) (tag : Int) (w : World) (ht : TrIn (n + 1) w v t) :
  Calls Tryz.prog 157 #[v, .int .i64 tag] w fun e w' => e = .returned (.bool (hasB t.es tag)) ∧ Below w.heap.size w w' := by
 obtain ⟨n', ve, vr, e0, rfl, ka, na, sa, fa, ra, ea⟩ := ht.open
 obtain rfl : n' = n := by omega
 clear e0 ht
 obtain ⟨pe, ce, rfl, u1, u2, -⟩ := ea.open
 obtain ⟨pr, cr, rfl, x1, x2, -⟩ := rest_holds ra
 unfold maxLen at u2 x2
 obtain ⟨Ke, hKe⟩ : ∃ K, t.es.length = K := ⟨_, rfl⟩
 rw [hKe] at u1 ⊢
 have EA : Hid (EnsIn n' w (.slice pe Ke ce) t.es) := (by rw [← hKe]; exact ea : EnsIn n' w (.slice pe Ke ce) t.es)
 have HKe : Hid (t.es.length = Ke) := hKe
 clear hKe ea ra fa ka na sa
 obtain ⟨A, hA⟩ : ∃ A, hasB t.es tag = A := ⟨_, rfl⟩
 rw [hA]
 have HA : Hid (hasB t.es tag = A) := hA
 clear hA
 generalize t.rest.length = Kr at *
 generalize t.kind = K at *
 generalize t.n = N at *
 generalize t.s = S at *
 have B0 : Blk (w.alloc (Obj.cells #[.int .i64 K, .int .i64 N, .string S, .slice pe Ke ce, .slice pr Kr cr] 33)) w.heap.size #[.int .i64 K, .int .i64 N, .string S, .slice pe Ke ce, .slice pr Kr cr] 33 := Blk.new w _ _
 have hb0 : Below w.heap.size w (w.alloc (Obj.cells #[.int .i64 K, .int .i64 N, .string S, .slice pe Ke ce, .slice pr Kr cr] 33)) := (Below.refl _ _).alloc (Nat.le_refl _) _
 go_enter Tryz.func157, Tryz.ntmps157
 go_wp2_with fail
 generalize (w.alloc (Obj.cells #[.int .i64 K, .int .i64 N, .string S, .slice pe Ke ce, .slice pr Kr cr] 33)) = WA at *
 obtain ⟨b0, hb0'⟩ : ∃ b, w.heap.size = b := ⟨_, rfl⟩
 rw [hb0'] at B0
 rw [hb0']
 have HBZ : Hid (w.heap.size = b0) := hb0'
 clear hb0'
 go_loopw [5] (fun iv wr => ∃ i : Nat, iv = .int .i64 (i : Int) ∧ i ≤ Ke ∧ Hid (hasB (t.es.take i) tag = false) ∧ WA = wr) (fun iv _ => Ke - (intOf iv).toNat)
 case atStart => exact ⟨0, rfl, by omega, (by simp [hasB] : hasB (t.es.take 0) tag = false), rfl⟩
 case round =>
  obtain ⟨i, rfl, hi, HM, rfl⟩ := hrel
  have a3 := (B0.cell 3).trans rfl
  by_cases hlt : i < Ke
  ·obtain ⟨x, hx⟩ : ∃ r, t.es[i]? = some r := ⟨_, List.getElem?_eq_getElem (by rw [HKe.out]; exact hlt)⟩
   obtain ⟨ge, off, rfl, cc⟩ := (EA.out.belowE hb0).get hx
   obtain ⟨vt, p0, p1, p2, p3⟩ := ens_at cc
   by_cases hxt : x.1 = tag
   ·have HH : Hid (true = A) := (hxt ▸ has_yes hx).symm.trans HA.out
    have hq : (x.1 == tag) = true := by simpa using hxt
    clear cc p1 p2 p3 hx hxt HM
    go_wp2_with fail
    go_ret
    exact ⟨congrArg (fun b => Ending.returned (Value.bool b)) HH.out, hb0⟩
   ·have hq : (x.1 == tag) = false := by simpa using hxt
    have HM2 : Hid (hasB (t.es.take (i + 1)) tag = false) := (by rw [has_step hx, HM.out, hq]; rfl : hasB (t.es.take (i + 1)) tag = false)
    clear cc p1 p2 p3 hx hxt HM
    go_wp2_with fail
    clear a3 p0 hq
    go_roundw
    case rel => exact ⟨i + 1, by go_num, by omega, HM2, trivial⟩
    case measure => simp [intOf]; omega
  ·have HH : Hid (false = A) := by
    have h1 := HM.out
    rw [List.take_of_length_le (by rw [HKe.out]; omega), HA.out] at h1
    exact h1.symm
   clear HM
   go_wp2_with fail
   go_ret
   exact ⟨congrArg (fun b => Ending.returned (Value.bool b)) HH.out, hb0⟩
theorem rowG_holdsW {w : World} {a : Option Addr} {N cap : Nat} {l : List Fd} (h : RowG w (.slice a N cap) 4 (fdRows l)) : HoldsR w a l := by
 obtain ⟨a', cap', e, _, _, _, h4⟩ := h.form
 simp only [Value.slice.injEq] at e
 obtain ⟨rfl, _, _⟩ := e
 intro b hb j u hu
 rw [rawCells_flat] at hu
 obtain ⟨i, c, k, h1, h2, rfl⟩ := flat_inv (fdRows l) (fdr_len l) j u hu
 obtain ⟨g, off, e, hc⟩ := h4 (by intro e; rw [e] at h1; simp at h1)
 rw [hb] at e
 cases e
 have := hc i c u k h1 h2
 rw [Nat.add_assoc] at this
 rw [Addr.add_lit]
 exact this
theorem rowG_holdsV {w : World} {a : Option Addr} {N cap : Nat} {l : List Fd} (h : RowG w (.slice a N cap) 4 (fdRows l)) : ∀ g off, a = some ⟨g, off, none⟩ → ∀ (i : Nat) (f : Fd), l[i]? = some f → w.cell? ⟨g, off + i * 4, none⟩ = some (.int .i64 f.tag) ∧ w.cell? ⟨g, off + i * 4 + 1, none⟩ = some (.int .i64 f.wire) ∧ w.cell? ⟨g, off + i * 4 + 2, none⟩ = some (.int .i64 f.n) ∧ w.cell? ⟨g, off + i * 4 + 3, none⟩ = some (.string f.b) := by
 obtain ⟨a', cap', e1, _, _, _, _, h6⟩ := rest_holds h
 simp only [Value.slice.injEq] at e1
 obtain ⟨rfl, _, _⟩ := e1
 exact h6
theorem rest_no {rest : List Fd} {es : List (Int × List Tr)} {i : Nat} {f : Fd} (h : rest[i]? = some f) (hf : (okF f && !hasB es f.tag) = false) : restB rest es = false := by
 have : (rest.all fun f => okF f && !hasB es f.tag) = false := List.all_eq_false.2 ⟨f, List.mem_of_getElem? h, by rw [hf]; simp⟩
 rw [restB, this]; rfl
theorem rest_yes {rest : List Fd} {es : List (Int × List Tr)} (h : ∀ (i : Nat) (f : Fd), i < rest.length → rest[i]? = some f → (okF f && !hasB es f.tag) = true) : restB rest es = risesB rest := by
 have : (rest.all fun f => okF f && !hasB es f.tag) = true := List.all_eq_true.2 fun f hf => by
  obtain ⟨i, hi, e⟩ := List.getElem_of_mem hf
  exact h i f hi (by rw [List.getElem?_eq_getElem hi, e])
 rw [restB, this]; rfl
set_option maxHeartbeats 4000000 in
theorem rrest_any (n : Nat) (t : Tr) (v : Value) (w : World) (ht : TrIn (n + 1) w v t) :
  Calls Tryz.prog 133 #[v] w fun e w' => e = .returned (.bool (restB t.rest t.es)) ∧ Below w.heap.size w w' := by
 have HHS : Hid (∀ (tag : Int) W, Below w.heap.size w W → Calls Tryz.prog 157 #[v, .int .i64 tag] W fun e w' => e = .returned (.bool (hasB t.es tag)) ∧ Below W.heap.size W w') := fun tag W hW => rhas_any n t v tag W (ht.below hW)
 obtain ⟨n', ve, vr, e0, rfl, ka, na, sa, fa, ra, ea⟩ := ht.open
 obtain rfl : n' = n := by omega
 clear e0 ht
 obtain ⟨pe, ce, rfl, u1, u2, -⟩ := ea.open
 obtain ⟨pr, cr, rfl, x1, x2, x3, -⟩ := rest_holds ra
 obtain ⟨Kr, hKr⟩ : ∃ K, t.rest.length = K := ⟨_, rfl⟩
 rw [hKr] at x1 HHS ⊢
 have RA : Hid (RowG w (.slice pr Kr cr) 4 (fdRows t.rest)) := (by rw [← hKr]; exact ra : RowG w (.slice pr Kr cr) 4 (fdRows t.rest))
 have HKr : Hid (t.rest.length = Kr) := hKr
 have HRR : Hid (∀ W, Below w.heap.size w W → Calls Tryz.prog 158 #[.slice pr Kr cr] W fun e w' => e = .returned (.bool (risesB t.rest)) ∧ Below W.heap.size W w') := fun W hW => rrising_any pr t.rest Kr cr W hKr x3 x1 x2 (rowG_holdsW (RA.out.below hW))
 have HX3 : Hid (t.rest = [] ∨ ∃ g off, pr = some ⟨g, off, none⟩) := x3
 unfold maxLen at u2 x2
 clear hKr ea ra fa ka na sa x3
 obtain ⟨A, hA⟩ : ∃ A, restB t.rest t.es = A := ⟨_, rfl⟩
 rw [hA]
 have HA : Hid (restB t.rest t.es = A) := hA
 clear hA
 generalize t.es.length = Ke at *
 generalize t.kind = K at *
 generalize t.n = N at *
 generalize t.s = S at *
 have B0 : Blk (w.alloc (Obj.cells #[.int .i64 K, .int .i64 N, .string S, .slice pe Ke ce, .slice pr Kr cr] 33)) w.heap.size #[.int .i64 K, .int .i64 N, .string S, .slice pe Ke ce, .slice pr Kr cr] 33 := Blk.new w _ _
 have hb0 : Below w.heap.size w (w.alloc (Obj.cells #[.int .i64 K, .int .i64 N, .string S, .slice pe Ke ce, .slice pr Kr cr] 33)) := (Below.refl _ _).alloc (Nat.le_refl _) _
 go_enter Tryz.func133, Tryz.ntmps133
 go_wp2_with fail
 generalize (w.alloc (Obj.cells #[.int .i64 K, .int .i64 N, .string S, .slice pe Ke ce, .slice pr Kr cr] 33)) = WA at *
 obtain ⟨b0, hb0'⟩ : ∃ b, w.heap.size = b := ⟨_, rfl⟩
 rw [hb0'] at B0
 rw [hb0']
 have HBZ : Hid (w.heap.size = b0) := hb0'
 clear hb0'
 go_loopw [3] (fun iv wr => ∃ i : Nat, iv = .int .i64 (i : Int) ∧ i ≤ Kr ∧ Hid (∀ (j : Nat) (f : Fd), j < i → t.rest[j]? = some f → (okF f && !hasB t.es f.tag) = true) ∧ Hid (Blk wr b0 #[.int .i64 K, .int .i64 N, .string S, .slice pe Ke ce, .slice pr Kr cr] 33) ∧ Below w.heap.size w wr) (fun iv _ => Kr - (intOf iv).toNat)
 case atStart => exact ⟨0, rfl, by omega, (fun j f hj => absurd hj (by omega) : ∀ (j : Nat) (f : Fd), j < 0 → t.rest[j]? = some f → (okF f && !hasB t.es f.tag) = true), B0, hb0⟩
 case round =>
  clear B0 hb0
  obtain ⟨i, rfl, hi, HM, HB, hbel⟩ := hrel
  have a4 := (HB.out.cell 4).trans rfl
  by_cases hlt : i < Kr
  ·obtain ⟨x, hx⟩ : ∃ r, t.rest[i]? = some r := ⟨_, List.getElem?_eq_getElem (by rw [HKr.out]; exact hlt)⟩
   obtain ⟨g, off, rfl⟩ : ∃ g off, pr = some ⟨g, off, none⟩ := by
    rcases HX3.out with h | h
    ·rw [h] at hx; simp at hx
    ·exact h
   obtain ⟨p0, p1, p2, p3⟩ := rowG_holdsV (RA.out.below hbel) g off rfl i x hx
   have a0 := (HB.out.cell 0).trans rfl
   have a1 := (HB.out.cell 1).trans rfl
   have a2 := (HB.out.cell 2).trans rfl
   have a3 := (HB.out.cell 3).trans rfl
   have HX : Hid (t.rest[i]? = some x) := hx
   have k0 := kept_cellV a0
   have k1 := kept_cellV a1
   have k2 := kept_cellV a2
   have k3 := kept_cellV a3
   have k4 := kept_cellV a4
   have k5 := kept_cellV p0
   have k6 := kept_cellV p1
   have k7 := kept_cellV p2
   have k8 := kept_cellV p3
   clear hx a0 a1 a2 a3 p0 p1 p2 p3
   cases hok : okF x with
   | false =>
    have HC : Hid (∀ W1, Below wr.heap.size wr W1 → Calls Tryz.prog 134 #[.agg #[.int .i64 x.tag, .int .i64 x.wire, .int .i64 x.n, .string x.b]] W1 fun e w' => e = .returned (.bool false) ∧ Below wr.heap.size wr w') := fun W1 hW1 => by
     refine (rcheckV_any x.tag x.wire x.n x.b W1).mono ?_
     rintro e W' ⟨rfl, hb⟩
     exact ⟨by rw [show okV x.tag x.wire x.n x.b = okF x from rfl, hok], hW1.trans (hb.mono hW1.size)⟩
    have HH : Hid (false = A) := (rest_no HX.out (by rw [hok]; rfl)).symm.trans HA.out
    clear hok HM
    go_wp2_with fail
    clear a4
    haveI := nonempty_qb (Below.refl wr.heap.size wr)
    refine wp_region_qb (Below.refl wr.heap.size wr) (by kernel_rfl) (by kernel_rfl) ?_
    repeat (go_big_quiet_step (first | (go_at_call 134; exact qb_call HC.out)))
    refine wpQuiet_nil ?_
    rintro W1 ⟨⟨_, hW1⟩, rfl⟩
    have hb1 := hbel.trans (hW1.mono hbel.size)
    clear k0 k1 k2 k3 k4 k5 k6 k7 k8 hW1 hbel
    go_wp2_with fail
    go_ret
    exact ⟨congrArg (fun b => Ending.returned (Value.bool b)) HH.out, hb1⟩
   | true =>
    cases hhs : hasB t.es x.tag with
    | true =>
     have HC : Hid (∀ W1, Below wr.heap.size wr W1 → Calls Tryz.prog 134 #[.agg #[.int .i64 x.tag, .int .i64 x.wire, .int .i64 x.n, .string x.b]] W1 fun e w' => e = .returned (.bool true) ∧ Below wr.heap.size wr w') := fun W1 hW1 => by
      refine (rcheckV_any x.tag x.wire x.n x.b W1).mono ?_
      rintro e W' ⟨rfl, hb⟩
      exact ⟨by rw [show okV x.tag x.wire x.n x.b = okF x from rfl, hok], hW1.trans (hb.mono hW1.size)⟩
     have HD : Hid (∀ W1, Below wr.heap.size wr W1 → Calls Tryz.prog 157 #[.agg #[.int .i64 K, .int .i64 N, .string S, .slice pe Ke ce, .slice (some ⟨g, off, none⟩) Kr cr], .int .i64 x.tag] W1 fun e w' => e = .returned (.bool true) ∧ Below wr.heap.size wr w') := fun W1 hW1 => by
      refine (HHS.out x.tag W1 (hbel.trans (hW1.mono hbel.size))).mono ?_
      rintro e W' ⟨rfl, hb⟩
      exact ⟨by rw [hhs], hW1.trans (hb.mono hW1.size)⟩
     have HH : Hid (false = A) := (rest_no HX.out (by rw [hok, hhs]; rfl)).symm.trans HA.out
     clear hok hhs HM
     go_wp2_with fail
     clear a4
     haveI := nonempty_qb (Below.refl wr.heap.size wr)
     refine wp_region_qb (Below.refl wr.heap.size wr) (by kernel_rfl) (by kernel_rfl) ?_
     repeat (go_big_quiet_step (first | (go_at_call 134; exact qb_call HC.out) | (go_at_call 157; exact qb_call HD.out)))
     refine wpQuiet_nil ?_
     rintro W1 ⟨⟨_, hW1⟩, rfl⟩
     have hb1 := hbel.trans (hW1.mono hbel.size)
     clear k0 k1 k2 k3 k4 k5 k6 k7 k8 hW1 hbel
     go_wp2_with fail
     go_ret
     exact ⟨congrArg (fun b => Ending.returned (Value.bool b)) HH.out, hb1⟩
    | false =>
     have HC : Hid (∀ W1, Below wr.heap.size wr W1 → Calls Tryz.prog 134 #[.agg #[.int .i64 x.tag, .int .i64 x.wire, .int .i64 x.n, .string x.b]] W1 fun e w' => e = .returned (.bool true) ∧ Below wr.heap.size wr w') := fun W1 hW1 => by
      refine (rcheckV_any x.tag x.wire x.n x.b W1).mono ?_
      rintro e W' ⟨rfl, hb⟩
      exact ⟨by rw [show okV x.tag x.wire x.n x.b = okF x from rfl, hok], hW1.trans (hb.mono hW1.size)⟩
     have HD : Hid (∀ W1, Below wr.heap.size wr W1 → Calls Tryz.prog 157 #[.agg #[.int .i64 K, .int .i64 N, .string S, .slice pe Ke ce, .slice (some ⟨g, off, none⟩) Kr cr], .int .i64 x.tag] W1 fun e w' => e = .returned (.bool false) ∧ Below wr.heap.size wr w') := fun W1 hW1 => by
      refine (HHS.out x.tag W1 (hbel.trans (hW1.mono hbel.size))).mono ?_
      rintro e W' ⟨rfl, hb⟩
      exact ⟨by rw [hhs], hW1.trans (hb.mono hW1.size)⟩
     have HM2 : Hid (∀ (j : Nat) (f : Fd), j < i + 1 → t.rest[j]? = some f → (okF f && !hasB t.es f.tag) = true) := fun j f hj hf => by
      rcases Nat.lt_or_eq_of_le (Nat.le_of_lt_succ hj) with h | h
      ·exact HM.out j f h hf
      ·subst h
       have hxf : x = f := Option.some.inj (HX.out.symm.trans hf)
       subst hxf
       rw [hok, hhs]; rfl
     clear hok hhs HM
     go_wp2_with fail
     clear a4
     haveI := nonempty_qb (Below.refl wr.heap.size wr)
     refine wp_region_qb (Below.refl wr.heap.size wr) (by kernel_rfl) (by kernel_rfl) ?_
     repeat (go_big_quiet_step (first | (go_at_call 134; exact qb_call HC.out) | (go_at_call 157; exact qb_call HD.out)))
     refine wpQuiet_nil ?_
     rintro W1 ⟨⟨_, hW1⟩, rfl⟩
     have hb1 := hbel.trans (hW1.mono hbel.size)
     have HB2 : Hid (Blk W1 b0 #[.int .i64 K, .int .i64 N, .string S, .slice pe Ke ce, .slice (some ⟨g, off, none⟩) Kr cr] 33) := HB.out.below hW1
     clear k0 k1 k2 k3 k4 k5 k6 k7 k8 hW1 hbel HB
     go_wp2_with fail
     go_roundw
     case rel => exact ⟨i + 1, by go_num, by omega, HM2, HB2, hb1⟩
     case measure => simp [intOf]; omega
  ·have HH : Hid (risesB t.rest = A) := (rest_yes fun j f hj hf => HM.out j f (by rw [HKr.out] at hj; omega) hf).symm.trans HA.out
   clear HM HA
   go_wp2_with fail
   refine (HRR.out _ hbel).mono ?_
   rintro e w1 ⟨rfl, hb⟩
   rw [HH.out]
   have hb1 := hbel.trans (hb.mono hbel.size)
   clear hb hbel a4
   go_wp2_with fail
   go_ret
   exact ⟨rfl, hb1⟩
def mxN (n : Nat) (l : List Tr) : Nat := (l.map (dpN n)).foldr max 0
theorem mx_app (n : Nat) (a b : List Tr) : mxN n (a ++ b) = max (mxN n a) (mxN n b) := by
 unfold mxN
 induction a with
 | nil => simp
 | cons x a ih => simp only [List.cons_append, List.map_cons, List.foldr_cons, ih]; omega
theorem mx_one (n : Nat) (x : Tr) : mxN n [x] = dpN n x := by simp [mxN]
theorem mx_step (n : Nat) {a l : List Tr} {j : Nat} {x : Tr} (h : l[j]? = some x) : mxN n (a ++ l.take (j + 1)) = max (mxN n (a ++ l.take j)) (dpN n x) := by
 have : l.take (j + 1) = l.take j ++ [x] := by rw [List.take_add_one, h]; rfl
 rw [this, ← List.append_assoc, mx_app, mx_one]
theorem subs_step {es : List (Int × List Tr)} {i : Nat} {e : Int × List Tr} (h : es[i]? = some e) : subs (es.take (i + 1)) = subs (es.take i) ++ e.2 := by
 have : es.take (i + 1) = es.take i ++ [e] := by rw [List.take_add_one, h]; rfl
 rw [this]; simp [subs]
set_option maxHeartbeats 4000000 in
theorem rdepth_step (n : Nat) (IH : ∀ t v (d : Nat) w, TrIn n w v t → d + n ≤ 100 → Calls Tryz.prog 131 #[v, .int .i64 (d : Int)] w fun e w' => e = .returned (.int .i64 (dpN n t : Nat)) ∧ Below w.heap.size w w') (t : Tr) (v : Value) (d : Nat) (w : World) (ht : TrIn (n + 1) w v t) (hd : d + (n + 1) ≤ 100) :
  Calls Tryz.prog 131 #[v, .int .i64 (d : Int)] w fun e w' => e = .returned (.int .i64 (dpN (n + 1) t : Nat)) ∧ Below w.heap.size w w' := by
 obtain ⟨n', ve, vr, e0, rfl, ka, na, sa, fa, ra, ea⟩ := ht.open
 obtain rfl : n' = n := by omega
 clear e0 ht
 obtain ⟨pe, ce, rfl, u1, u2, -⟩ := ea.open
 obtain ⟨pr, cr, rfl, x1, x2, -⟩ := rest_holds ra
 unfold maxLen at u2 x2
 obtain ⟨Ke, hKe⟩ : ∃ K, t.es.length = K := ⟨_, rfl⟩
 rw [hKe] at u1 ⊢
 have EA : Hid (EnsIn n' w (.slice pe Ke ce) t.es) := (by rw [← hKe]; exact ea : EnsIn n' w (.slice pe Ke ce) t.es)
 have HKe : Hid (t.es.length = Ke) := hKe
 have HI : Hid (∀ t v (d : Nat) w, TrIn n' w v t → d + n' ≤ 100 → Calls Tryz.prog 131 #[v, .int .i64 (d : Int)] w fun e w' => e = .returned (.int .i64 (dpN n' t : Nat)) ∧ Below w.heap.size w w') := IH
 clear hKe ea ra fa ka na sa IH
 by_cases hk : t.kind = 3
 ·have HR : Hid (dpN (n' + 1) t = 1 + mxN n' (subs t.es)) := (by simp [dpN, hk, mxN] : dpN (n' + 1) t = 1 + mxN n' (subs t.es))
  generalize dpN (n' + 1) t = R at *
  have HES : Hid (t.es = t.es) := rfl
  rw [hk]
  clear hk
  generalize t.rest.length = Kr at *
  obtain ⟨N, hN⟩ : ∃ K, t.n = K := ⟨_, rfl⟩
  obtain ⟨S, hS⟩ : ∃ K, t.s = K := ⟨_, rfl⟩
  rw [hN, hS]
  clear hN hS
  have B0 : Blk (w.alloc (Obj.cells #[.int .i64 3, .int .i64 N, .string S, .slice pe Ke ce, .slice pr Kr cr] 33)) w.heap.size #[.int .i64 3, .int .i64 N, .string S, .slice pe Ke ce, .slice pr Kr cr] 33 := Blk.new w _ _
  have hb0 : Below w.heap.size w (w.alloc (Obj.cells #[.int .i64 3, .int .i64 N, .string S, .slice pe Ke ce, .slice pr Kr cr] 33)) := (Below.refl _ _).alloc (Nat.le_refl _) _
  have hd1 : decide ((d : Int) > 100) = false := by simp; omega
  go_enter Tryz.func131, Tryz.ntmps131
  go_wp2_with fail
  generalize (w.alloc (Obj.cells #[.int .i64 3, .int .i64 N, .string S, .slice pe Ke ce, .slice pr Kr cr] 33)) = WA at *
  obtain ⟨b0, hb0'⟩ : ∃ b, w.heap.size = b := ⟨_, rfl⟩
  have HBZ : Hid (w.heap.size = b0) := hb0'
  rw [hb0'] at B0
  rw [hb0']
  clear hb0'
  go_loopw [5, 6] (fun mv iv wr => ∃ (i M : Nat), mv = .int .i64 (M : Int) ∧ iv = .int .i64 (i : Int) ∧ i ≤ Ke ∧ M ≤ 100 ∧ Hid (M = mxN n' (subs (t.es.take i))) ∧ Hid (Blk wr b0 #[.int .i64 3, .int .i64 N, .string S, .slice pe Ke ce, .slice pr Kr cr] 33) ∧ Below w.heap.size w wr) (fun _ iv _ => Ke - (intOf iv).toNat)
  case atStart => exact ⟨0, 0, rfl, rfl, by omega, by omega, (by simp [subs, mxN] : 0 = mxN n' (subs (t.es.take 0))), B0, hb0⟩
  case round =>
   clear B0 hb0
   obtain ⟨i, M, rfl, rfl, hi, hM, HM, HB, hbel⟩ := hrel
   have a3 := (HB.out.cell 3).trans rfl
   by_cases hlt : i < Ke
   ·obtain ⟨x, hx⟩ : ∃ r, t.es[i]? = some r := ⟨_, List.getElem?_eq_getElem (by rw [HKe.out]; exact hlt)⟩
    obtain ⟨ge, off, rfl, cc⟩ := (EA.out.belowE hbel).get hx
    obtain ⟨vt, p0, p1, p2, p3⟩ := ens_at cc
    obtain ⟨pt, ct, rfl, t1, t2, -⟩ := p3.open
    have HX : Hid (t.es[i]? = some x) := hx
    obtain ⟨Xl, hXl⟩ : ∃ K, x.2.length = K := ⟨_, rfl⟩
    rw [hXl] at p1 p3 t1
    have HXl : Hid (x.2.length = Xl) := hXl
    have HT : Hid (TrsIn n' wr (.slice pt Xl ct) x.2) := p3
    have HP1 : Hid (wr.cell? ⟨ge, off + i * 2 + 1, none⟩ = some (.slice pt Xl ct)) := p1
    unfold maxLen at t2
    clear hx cc p0 p1 p2 p3 hXl
    go_wp2_with fail
    clear a3
    have HW : Hid (Below wr.heap.size wr wr) := Below.refl _ _
    obtain ⟨W, hW⟩ : ∃ W, wr = W := ⟨_, rfl⟩
    rw [hW] at HW HT HP1 HB hbel ⊢
    clear hW
    go_loopw [5, 7] (fun mv jv wz => ∃ (j M : Nat), mv = .int .i64 (M : Int) ∧ jv = .int .i64 (j : Int) ∧ j ≤ Xl ∧ M ≤ 100 ∧ Hid (M = mxN n' (subs (t.es.take i) ++ x.2.take j)) ∧ Below w.heap.size w wz ∧ Below W.heap.size W wz) (fun _ jv _ => Xl - (intOf jv).toNat)
    case atStart => exact ⟨0, M, rfl, rfl, by omega, hM, (by rw [HM.out]; simp : M = mxN n' (subs (t.es.take i) ++ x.2.take 0)), hbel, Below.refl _ _⟩
    case round =>
     clear hM HM hbel
     obtain ⟨j, M, rfl, rfl, hj, hM, HM, hbel, hbW⟩ := hrel
     have B1 := HB.out.below hbW
     have a3 := (B1.cell 3).trans rfl
     have p1 : wr.cell? ⟨ge, off + i * 2 + 1, none⟩ = some (.slice pt Xl ct) := (hbW.cell (World.block_lt_of_cell? _ _ HP1.out)).trans HP1.out
     by_cases hlt2 : j < Xl
     ·obtain ⟨y, hy⟩ : ∃ r, x.2[j]? = some r := ⟨_, List.getElem?_eq_getElem (by rw [HXl.out]; exact hlt2)⟩
      obtain ⟨g3, off3, rfl, c1⟩ := (HT.out.belowT hbW).get hy
      obtain ⟨z1, n1, d1, z2, n2, d2, o0, o1, o2, o3, o4, o5⟩ := trs_get c1
      have HY : Hid (x.2[j]? = some y) := hy
      have HC : Hid (Calls Tryz.prog 131 #[.agg #[.int .i64 y.kind, .int .i64 y.n, .string y.s, .slice z1 n1 d1, .slice z2 n2 d2], .int .i64 ((d : Int) + 1)] wr fun e w' => e = .returned (.int .i64 (dpN n' y : Nat)) ∧ Below wr.heap.size wr w') := HI.out y _ (d + 1) wr o5 (by omega)
      clear c1 hy o5 B1
      go_wp2_with fail
      refine HC.out.mono ?_
      rintro e w2 ⟨rfl, hb2⟩
      have HS : Hid (mxN n' (subs (t.es.take i) ++ x.2.take (j + 1)) = max M (dpN n' y)) := (by rw [HM.out, mx_step n' HY.out] : mxN n' (subs (t.es.take i) ++ x.2.take (j + 1)) = max M (dpN n' y))
      have hyd := dpN_le n' y
      generalize dpN n' y = Y at *
      have hb3 := hbel.trans (hb2.mono hbel.size)
      have hb4 := hbW.trans (hb2.mono hbW.size)
      have hmx : max (M : Int) (Y : Int) = ((max M Y : Nat) : Int) := by omega
      clear o0 o1 o2 o3 o4 hb2 hbel hbW HC a3 p1
      go_wp2_with fail
      go_roundw
      case rel => exact ⟨j + 1, max M Y, by first | rfl | (rw [hmx]) | go_num, by go_num, by omega, by omega, HS.out.symm, hb3, hb4⟩
      case measure => simp [intOf]; omega
     ·obtain rfl : j = Xl := by omega
      have HM2 : Hid (M = mxN n' (subs (t.es.take (i + 1)))) := (by rw [HM.out, subs_step HX.out, List.take_of_length_le (l := x.2) (by rw [HXl.out]; omega)] : M = mxN n' (subs (t.es.take (i + 1))))
      have HB5 : Hid (Blk wr b0 #[.int .i64 3, .int .i64 N, .string S, .slice (some ⟨ge, off, none⟩) Ke ce, .slice pr Kr cr] 33) := B1
      clear B1 HM HB
      go_wp2_with fail
      clear a3 p1
      go_roundw
      case rel => exact ⟨i + 1, M, rfl, by go_num, by omega, hM, HM2, HB5, hbel⟩
      case measure => simp [intOf]; omega
   ·obtain rfl : i = Ke := by omega
    have hR : R = 1 + M := by rw [HR.out, HM.out, List.take_of_length_le (by rw [HKe.out]; omega)]
    subst hR
    have hmn : min ((M : Int) + 1) 101 = ((1 + M : Nat) : Int) := by omega
    clear HR HM HB
    go_wp2_with fail
    go_ret
    exact ⟨by first | rfl | (rw [hmn]) | go_num, hbel⟩
 ·have h0 : dpN (n' + 1) t = 0 := by simp [dpN, hk]
  rw [h0]
  have hd1 : (t.kind != 3) = true := by simpa using hk
  generalize t.kind = K at *
  generalize t.n = N at *
  generalize t.s = S at *
  generalize t.rest.length = Kr at *
  clear h0 HKe
  go_enter Tryz.func131, Tryz.ntmps131
  go_wp2_with fail
  go_ret
  exact ⟨rfl, (Below.refl _ _).alloc (Nat.le_refl _) _⟩
theorem rdepth_any : ∀ (n : Nat) (t : Tr) (v : Value) (d : Nat) (w : World), TrIn n w v t → d + n ≤ 100 → Calls Tryz.prog 131 #[v, .int .i64 (d : Int)] w fun e w' => e = .returned (.int .i64 (dpN n t : Nat)) ∧ Below w.heap.size w w'
 | 0, _, _, _, _, h, _ => by obtain ⟨r, _, h⟩ := h; exact h.elim
 | n + 1, t, v, d, w, h, hd => rdepth_step n (fun t v d w h hd => rdepth_any n t v d w h hd) t v d w h hd
theorem rDepth_any (n : Nat) (t : Tr) (v : Value) (w : World) (h : TrIn n w v t) (hn : n ≤ 100) : Calls Tryz.prog 92 #[v] w fun e w' => e = .returned (.int .i64 (dpN n t : Nat)) ∧ Below w.heap.size w w' := by
 have hal : ∀ o, Below w.heap.size w (w.alloc o) := fun o => (Below.refl _ _).alloc (Nat.le_refl _) _
 have HC : Hid (∀ W, Below w.heap.size w W → Calls Tryz.prog 131 #[v, .int .i64 0] W fun e w' => e = .returned (.int .i64 (dpN n t : Nat)) ∧ Below W.heap.size W w') := fun W hW => rdepth_any n t v 0 W (h.below hW) (by omega)
 obtain ⟨n', ve, vr, e0, rfl, -, -, -, -, ra, ea⟩ := h.open
 obtain ⟨pe, ce, rfl, -⟩ := ea.open
 obtain ⟨pr, cr, rfl, -⟩ := rest_holds ra
 generalize t.es.length = Ke at *
 generalize t.rest.length = Kr at *
 generalize dpN n t = R at *
 generalize t.kind = K at *
 generalize t.n = N at *
 generalize t.s = S at *
 clear h ra ea e0
 go_enter Tryz.func92, Tryz.ntmps92
 go_wp2_with fail
 refine (HC.out _ (hal _)).mono ?_
 rintro e w1 ⟨rfl, hb⟩
 have hbw : Below w.heap.size w w1 := (hal _).trans (hb.mono (by simp))
 clear hb HC
 go_wp2_with fail
 go_ret
 exact ⟨rfl, hbw⟩
end Go.Proofs.YtiajaocckkghgaaGreat

/- Lists in order by exchanges of neighbours from behind: plain mathematics; rows in which two neighbours are exchanged. -/
import Derived.Test.YtkfhlgajeejgeaaGreatDoorPkF
import Derived.Test.YtkfhlgajeejgeaaGreatDoorPkE
namespace Go.Proofs.YtkfhlgajeejgeaaGreatDoor
open Go.ChangeShapes Go.WideShapes Go.ChangeAt Go.RowKit
set_option linter.unusedVariables false
set_option linter.unusedSimpArgs false
set_option maxRecDepth 20000

/-- x put in at a place. -/
def insL {α : Type} (L : List α) (x : α) (i : Nat) : List α := L.take i ++ x :: L.drop i
theorem insL_end {α : Type} (L : List α) (x : α) (i : Nat) (h : L.length = i) : insL L x i = L ++ [x] := by
  unfold insL
  rw [List.take_of_length_le (by omega), List.drop_of_length_le (by omega)]
theorem insL_len {α : Type} (L : List α) (x : α) (i : Nat) (h : i ≤ L.length) : (insL L x i).length = L.length + 1 := by
  unfold insL
  simp; omega
theorem insL_step {α : Type} {L : List α} {x y : α} {p : Nat} (hy : L[p]? = some y) :
    (insL L x (p + 1))[p + 1]? = some x ∧ (insL L x (p + 1))[p]? = some y ∧ ((insL L x (p + 1)).set (p + 1) y).set p x = insL L x p := by
  obtain ⟨hp, rfl⟩ := List.getElem?_eq_some_iff.1 hy
  have dy : L.drop p = L[p] :: L.drop (p + 1) := List.drop_eq_getElem_cons hp
  have ty : L.take (p + 1) = L.take p ++ [L[p]] := by rw [List.take_add_one, hy]; rfl
  have e : insL L x (p + 1) = L.take p ++ L[p] :: x :: L.drop (p + 1) := by
    unfold insL; rw [ty]; simp only [List.append_assoc, List.cons_append, List.nil_append]
  have e2 : insL L x p = L.take p ++ x :: L[p] :: L.drop (p + 1) := by
    unfold insL; rw [dy]
  have l1 : (L.take p).length = p := by simp; omega
  rw [e, e2]
  generalize L.take p = U at *
  generalize L[p] = y at *
  rw [← l1]
  refine ⟨?_, ?_, ?_⟩
  · rw [List.getElem?_append_right (by omega), show U.length + 1 - U.length = 1 by omega]; rfl
  · rw [List.getElem?_append_right (Nat.le_refl _), Nat.sub_self]; rfl
  · rw [List.set_append_right _ _ (by omega), show U.length + 1 - U.length = 1 by omega, List.set_append_right _ _ (Nat.le_refl _), Nat.sub_self]
    rfl
theorem ins_at {α : Type} {key : α → Int} {x : α} : ∀ {l : List α} {i : Nat}, UpK key l → i ≤ l.length → (∀ y ∈ l.drop i, key x < key y) → (i = 0 ∨ ∃ y, l[i - 1]? = some y ∧ ¬ key x < key y) → insK key x l = insL l x i
  | [], i, _, h, _, _ => by
    have : i = 0 := by simpa using h
    subst this
    rfl
  | y :: l, 0, _, _, h, _ => by
    unfold insK insL
    rw [if_pos (h y (by simp))]
    rfl
  | y :: l, i + 1, hu, hl, h, h2 => by
    have hu' := hu
    unfold UpK at hu'
    rw [List.pairwise_cons] at hu'
    rcases h2 with h2 | ⟨z, hz, hn⟩
    · omega
    · rw [Nat.add_sub_cancel] at hz
      have hyz : key y ≤ key z := by
        rcases i with _ | i
        · simp at hz; subst hz; omega
        · rw [List.getElem?_cons_succ] at hz
          exact hu'.1 z (List.mem_of_getElem? hz)
      unfold insK
      rw [if_neg (by omega)]
      have := ins_at (key := key) (x := x) (l := l) (i := i) hu'.2 (by simpa using hl) (by simpa using h) (by
        rcases i with _ | i
        · exact .inl rfl
        · exact .inr ⟨z, by simpa using hz, hn⟩)
      rw [this]
      rfl
theorem srt_more {α : Type} {key : α → Int} {l : List α} {j i : Nat} {x : α} (hx : l[j]? = some x) (hi : i ≤ j) (hj : j ≤ l.length) (h1 : ∀ y ∈ (srtF key (l.take j)).drop i, key x < key y) (h2 : i = 0 ∨ ∃ y, (srtF key (l.take j))[i - 1]? = some y ∧ ¬ key x < key y) :
    srtF key (l.take (j + 1)) = insL (srtF key (l.take j)) x i := by
  rw [List.take_add_one, hx]
  show srtF key (l.take j ++ [x]) = _
  rw [srtF_snoc]
  exact ins_at (srtF_srt key _).1 (by rw [srtF_len, List.length_take]; omega) h1 h2
theorem more_step {α : Type} {key : α → Int} {L : List α} {x y : α} {p : Nat} (hy : L[p]? = some y) (h : ∀ z ∈ L.drop (p + 1), key x < key z) (hl : key x < key y) : ∀ z ∈ L.drop p, key x < key z := by
  obtain ⟨hp, rfl⟩ := List.getElem?_eq_some_iff.1 hy
  intro z hz
  rw [List.drop_eq_getElem_cons hp] at hz
  rcases List.mem_cons.1 hz with rfl | hz
  · exact hl
  · exact h z hz
theorem set5 {rs : List (List Value)} (hl : ∀ r ∈ rs, r.length = 5) {k : Nat} (hk : k < rs.length) (a b c d e : Value) : ((((rs.flatten.set (k * 5) a).set (k * 5 + 1) b).set (k * 5 + 2) c).set (k * 5 + 3) d).set (k * 5 + 4) e = (rs.set k [a, b, c, d, e]).flatten := by
  obtain ⟨r, hr⟩ : ∃ r, rs[k]? = some r := ⟨_, List.getElem?_eq_getElem hk⟩
  have h3 := hl r (List.mem_of_getElem? hr)
  match r, h3 with
  | [x0, x1, x2, x3, x4], _ =>
    have l1 : ∀ (t : List Value), t.length = 5 → ∀ q ∈ rs.set k t, q.length = 5 := fun t ht q hq => by
      rcases List.mem_or_eq_of_mem_set hq with h | rfl
      · exact hl q h
      · exact ht
    have e1 := flat_set rs hl k _ hr 0 a (by decide)
    rw [Nat.add_zero] at e1
    rw [e1]
    have e2 := flat_set _ (l1 [a, x1, x2, x3, x4] rfl) k _ (by rw [List.getElem?_set_self hk]) 1 b (by decide)
    have e3 := flat_set _ (l1 [a, b, x2, x3, x4] rfl) k _ (by rw [List.getElem?_set_self hk]) 2 c (by decide)
    have e4 := flat_set _ (l1 [a, b, c, x3, x4] rfl) k _ (by rw [List.getElem?_set_self hk]) 3 d (by decide)
    have e5 := flat_set _ (l1 [a, b, c, d, x4] rfl) k _ (by rw [List.getElem?_set_self hk]) 4 e (by decide)
    simp only [List.set_cons_zero, List.set_cons_succ, List.set_set] at e2 e3 e4 e5 ⊢
    rw [e2, e3, e4, e5]
/-- A row of fields, one of them changed. -/
theorem own_putF {w : World} {B q n cap : Nat} {l : List FlS} (h : w.ownsRow B 44 5 (.slice (some ⟨q, 0, none⟩) n cap) n (flRows l).flatten) {i : Nat} (hi : i < l.length) (x : FlS) :
    (((((w.setCell ⟨q, i * 5, none⟩ (.string x.name)).setCell ⟨q, i * 5 + 1, none⟩ (.int .i64 x.tag)).setCell ⟨q, i * 5 + 2, none⟩ (.int .i64 x.label)).setCell ⟨q, i * 5 + 3, none⟩ (.int .i64 x.kind)).setCell ⟨q, i * 5 + 4, none⟩ (.string x.tname)).ownsRow B 44 5 (.slice (some ⟨q, 0, none⟩) n cap) n (flRows (l.set i x)).flatten := by
  have h1 := own_set (own_set (own_set (own_set (own_set h (j := i * 5) (.string x.name)) (j := i * 5 + 1) (.int .i64 x.tag)) (j := i * 5 + 2) (.int .i64 x.label)) (j := i * 5 + 3) (.int .i64 x.kind)) (j := i * 5 + 4) (.string x.tname)
  rw [set5 (fl_len l) (by simpa [flRows] using hi)] at h1
  have e1 : (flRows l).set i [Value.string x.name, Value.int .i64 x.tag, Value.int .i64 x.label, Value.int .i64 x.kind, Value.string x.tname] = flRows (l.set i x) := by simp [flRows, List.map_set, FlS.cells]
  rw [e1] at h1
  exact h1
theorem own_putI {w : World} {B q n cap : Nat} {l : List Int} (h : w.ownsRow B 3 1 (.slice (some ⟨q, 0, none⟩) n cap) n (inRows l).flatten) {i : Nat} (hi : i < l.length) (x : Int) :
    (w.setCell ⟨q, i, none⟩ (.int .i64 x)).ownsRow B 3 1 (.slice (some ⟨q, 0, none⟩) n cap) n (inRows (l.set i x)).flatten := by
  have h1 := own_set h (j := i) (.int .i64 x)
  have e1 : ∀ k : List Int, (inRows k).flatten = k.map (fun n => Value.int .i64 n) := by
    intro k
    induction k with
    | nil => rfl
    | cons a k ih => simp only [inRows, List.map_cons, List.flatten_cons] at ih ⊢; rw [ih]; rfl
  rw [e1, ← List.map_set, ← e1] at h1
  exact h1
theorem own_putN {w : World} {B q n cap : Nat} {l : List NmS} (h : w.ownsRow B 49 2 (.slice (some ⟨q, 0, none⟩) n cap) n (nmRows l).flatten) {i : Nat} (hi : i < l.length) (x : NmS) :
    ((w.setCell ⟨q, i * 2, none⟩ (.string x.name)).setCell ⟨q, i * 2 + 1, none⟩ (.int .i64 x.n)).ownsRow B 49 2 (.slice (some ⟨q, 0, none⟩) n cap) n (nmRows (l.set i x)).flatten := by
  have h1 := own_set (own_set h (j := i * 2) (.string x.name)) (j := i * 2 + 1) (.int .i64 x.n)
  rw [set2 (nml_len l) (by simpa [nmRows] using hi)] at h1
  have e1 : (nmRows l).set i [Value.string x.name, Value.int .i64 x.n] = nmRows (l.set i x) := by simp [nmRows, List.map_set, NmS.cells]
  rw [e1] at h1
  exact h1
theorem cells_fresh (w : World) (cs : Array Value) (t : TypeId) : ∀ j u, cs.toList[j]? = some u → (w.alloc (.cells cs t)).cell? ((⟨w.heap.size, 0, none⟩ : Addr).add j) = some u := by
  intro j u hu
  rw [Addr.add_lit, Nat.zero_add, World.cell?_alloc_at _ _ _ _ rfl]
  simpa using hu
theorem inl_len (l : List Int) : ∀ x ∈ inRows l, x.length = 1 := fun x hx => by simp only [inRows, List.mem_map] at hx; obtain ⟨_, _, rfl⟩ := hx; rfl
theorem in_get {fs : List Int} {i : Nat} {f : Int} (h : fs[i]? = some f) : (inRows fs)[i]? = some [.int .i64 f] := by simp [inRows, h]
theorem nm_get {fs : List NmS} {i : Nat} {f : NmS} (h : fs[i]? = some f) : (nmRows fs)[i]? = some f.cells := by simp [nmRows, h]
end Go.Proofs.YtkfhlgajeejgeaaGreatDoor

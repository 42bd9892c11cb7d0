/- Part 1 of what the proof stands on. -/
import Derived.Test.YtcjfeandnmochaaGreatDoorRows
import Derived.Test.YtcjfeandnmochaaGreatDoorTie
import Derived.Test.YtcjfeandnmochaaGreatDoorCards
import Derived.Sort.LotA
import Derived.WalkKit
import Derived.ProofKit
import Derived.Below
import Derived.Laws.OwnMore
import Derived.BigQuiet
import Derived.Shelf.Strings.OnBuilder
import Derived.Shelf.LaysM
import Derived.Shelf.Strconv.Itoa3
import Derived.Shelf.Sort.Plain
import Derived.Shelf.Slices.In.SortNone
import Derived.Shelf.SlGeneric
import Derived.Shelf.SlSortCmp.InsertionK
import Derived.Ground.SlsfProg
import Derived.Laws.AppendOwnNone
import Derived.OwnWalk
import Derived.Shelf.RegionOpenPlain
import Derived.Lib.ItoaNum
import Derived.Lib.Join
import Derived.OrdersHeld
import Derived.Deep.RegionHeld3
namespace Go.Proofs.YtcjfeandnmochaaGreatDoor
set_option linter.unusedVariables false
set_option linter.unusedSimpArgs false
set_option maxRecDepth 20000
section
variable {α : Type} (key : α → Int)
def UpK (l : List α) : Prop := l.Pairwise fun x y => key x ≤ key y
def SrtK (l m : List α) : Prop := UpK key m ∧ ∀ t : Int, m.filter (fun x => key x == t) = l.filter (fun x => key x == t)
def insK (x : α) : List α → List α
 | [] => [x]
 | y :: l => if key x < key y then x :: y :: l else y :: insK x l
def srtF (l : List α) : List α := l.foldl (fun m x => insK key x m) []
theorem insK_len (x : α) : ∀ l : List α, (insK key x l).length = l.length + 1
 | [] => rfl
 | y :: l => by unfold insK; split <;> simp [insK_len x l]
theorem insK_mem (x : α) : ∀ (l : List α) (z : α), z ∈ insK key x l ↔ z = x ∨ z ∈ l
 | [], z => by simp [insK]
 | y :: l, z => by
  unfold insK
  split
  ·simp
  ·simp only [List.mem_cons, insK_mem x l z]
   constructor
   ·rintro (h | h | h)
    ·exact .inr (.inl h)
    ·exact .inl h
    ·exact .inr (.inr h)
   ·rintro (h | h | h)
    ·exact .inr (.inl h)
    ·exact .inl h
    ·exact .inr (.inr h)
theorem insK_up (x : α) : ∀ l : List α, UpK key l → UpK key (insK key x l)
 | [], _ => by simp [insK, UpK]
 | y :: l, h => by
  unfold UpK at h
  rw [List.pairwise_cons] at h
  unfold insK
  split
  ·rename_i hlt
   unfold UpK
   rw [List.pairwise_cons]
   refine ⟨?_, by rw [List.pairwise_cons]; exact h⟩
   intro z hz
   rcases List.mem_cons.1 hz with rfl | hz
   ·omega
   ·have := h.1 z hz; omega
  ·rename_i hge
   unfold UpK
   rw [List.pairwise_cons]
   refine ⟨?_, insK_up x l h.2⟩
   intro z hz
   rcases (insK_mem key x l z).1 hz with rfl | hz
   ·omega
   ·exact h.1 z hz
theorem insK_filter (x : α) (t : Int) : ∀ l : List α, UpK key l → (insK key x l).filter (fun z => key z == t) = l.filter (fun z => key z == t) ++ [x].filter (fun z => key z == t)
 | [], _ => by simp [insK]
 | y :: l, h => by
  unfold UpK at h
  rw [List.pairwise_cons] at h
  unfold insK
  split
  ·rename_i hlt
   by_cases hx : key x = t
   ·have h0 : (y :: l).filter (fun z => key z == t) = [] := by
     rw [List.filter_eq_nil_iff]
     intro z hz
     have : key y ≤ key z := by
      rcases List.mem_cons.1 hz with rfl | hz
      ·omega
      ·exact h.1 z hz
     simp; omega
    rw [List.filter_cons, h0]
    simp [hx]
   ·have hb : (key x == t) = false := by simpa using hx
    rw [List.filter_cons, hb]
    simp [hx]
  ·rw [List.filter_cons, insK_filter x t l h.2, List.filter_cons (xs := l)]
   split <;> simp
theorem srt_fold : ∀ (l m : List α), UpK key m → UpK key (l.foldl (fun m x => insK key x m) m) ∧ (l.foldl (fun m x => insK key x m) m).length = m.length + l.length ∧ (∀ t : Int, (l.foldl (fun m x => insK key x m) m).filter (fun z => key z == t) = m.filter (fun z => key z == t) ++ l.filter (fun z => key z == t)) ∧ ∀ z, z ∈ l.foldl (fun m x => insK key x m) m ↔ z ∈ m ∨ z ∈ l
 | [], m, h => ⟨h, by simp, by simp, by simp⟩
 | x :: l, m, h => by
  obtain ⟨h1, h2, h3, h4⟩ := srt_fold l (insK key x m) (insK_up key x m h)
  refine ⟨h1, ?_, ?_, ?_⟩
  ·rw [List.foldl_cons, h2, insK_len, List.length_cons]; omega
  ·intro t
   rw [List.foldl_cons, h3 t, insK_filter key x t m h, List.append_assoc, ← List.filter_append]; rfl
  ·intro z
   rw [List.foldl_cons, h4 z, insK_mem, List.mem_cons]
   constructor
   ·rintro ((h | h) | h)
    ·exact .inr (.inl h)
    ·exact .inl h
    ·exact .inr (.inr h)
   ·rintro (h | h | h)
    ·exact .inl (.inr h)
    ·exact .inl (.inl h)
    ·exact .inr h
theorem srtF_srt (l : List α) : SrtK key l (srtF key l) := by
 obtain ⟨h1, _, h3, _⟩ := srt_fold key l [] (by simp [UpK])
 exact ⟨h1, fun t => by rw [srtF, h3 t]; simp⟩
theorem srtF_len (l : List α) : (srtF key l).length = l.length := by
 obtain ⟨_, h2, _, _⟩ := srt_fold key l [] (by simp [UpK])
 rw [srtF, h2]; simp
theorem srtF_mem (l : List α) (z : α) : z ∈ srtF key l ↔ z ∈ l := by
 obtain ⟨_, _, _, h4⟩ := srt_fold key l [] (by simp [UpK])
 rw [srtF, h4 z]; simp
theorem srtF_snoc (l : List α) (x : α) : srtF key (l ++ [x]) = insK key x (srtF key l) := by simp [srtF]
theorem srt_uniq : ∀ (l m : List α), UpK key l → UpK key m → (∀ t : Int, l.filter (fun x => key x == t) = m.filter (fun x => key x == t)) → l = m
 | [], [], _, _, _ => rfl
 | [], y :: m, _, _, h => by have := h (key y); simp at this
 | x :: l, [], _, _, h => by have := h (key x); simp at this
 | x :: l, y :: m, hl, hm, h => by
  unfold UpK at hl hm
  rw [List.pairwise_cons] at hl hm
  have hxy : key x = key y := by
   have h1 : key x ≤ key y := by
    have := h (key y)
    have hy : y ∈ (y :: m).filter (fun z => key z == key y) := by simp
    rw [← this, List.mem_filter] at hy
    rcases List.mem_cons.1 hy.1 with rfl | hz
    ·omega
    ·exact hl.1 _ hz
   have h2 : key y ≤ key x := by
    have := h (key x)
    have hx : x ∈ (x :: l).filter (fun z => key z == key x) := by simp
    rw [this, List.mem_filter] at hx
    rcases List.mem_cons.1 hx.1 with rfl | hz
    ·omega
    ·exact hm.1 _ hz
   omega
  have hh := h (key x)
  rw [List.filter_cons, List.filter_cons] at hh
  simp only [beq_self_eq_true, if_true, hxy] at hh
  injection hh with h1 h2
  subst h1
  congr 1
  refine srt_uniq l m hl.2 hm.2 (fun t => ?_)
  have := h t
  rw [List.filter_cons, List.filter_cons] at this
  split at this
  ·injection this
  ·exact this
theorem srtK_eq {l m : List α} (h : SrtK key l m) : m = srtF key l :=
 srt_uniq key m (srtF key l) h.1 (srtF_srt key l).1 (fun t => (h.2 t).trans ((srtF_srt key l).2 t).symm)
theorem srtF_id {l : List α} (h : UpK key l) : srtF key l = l := (srtK_eq key ⟨h, fun _ => rfl⟩).symm
theorem srtF_twice (l : List α) : srtF key (srtF key l) = srtF key l := srtF_id key (srtF_srt key l).1
end
theorem merge_srt (l : List Int) : l.mergeSort (fun x y => decide (x ≤ y)) = srtF (fun x => x) l := by
 refine srtK_eq (fun x => x) ⟨?_, fun t => ?_⟩
 ·have := List.pairwise_mergeSort (le := fun x y : Int => decide (x ≤ y)) (by intro a b c h1 h2; simp at *; omega) (by intro a b; simp; omega) l
  exact this.imp (fun h => by simpa using h)
 ·have hp := List.mergeSort_perm l (fun x y : Int => decide (x ≤ y))
  have h1 : ∀ k : List Int, k.filter (fun x => x == t) = List.replicate (k.count t) t := fun k => List.filter_beq t
  rw [h1, h1, hp.count_eq]
/-! ### Arrays, by adjacent exchanges -/
open Go.Sort in
theorem swp_list {α : Type} [Inhabited α] (d : Array α) (j : Nat) (h : j + 1 < d.size) : ∃ p x y q, d.toList = p ++ x :: y :: q ∧ (swp d (j + 1) j).toList = p ++ y :: x :: q ∧ p.length = j ∧ d[j]! = x ∧ d[j + 1]! = y := by
 have hj : j < d.size := by omega
 refine ⟨d.toList.take j, d[j], d[j + 1], d.toList.drop (j + 2), ?_, ?_, by simp; omega, getElem!_pos d j hj, getElem!_pos d (j + 1) h⟩
 ·have e1 : d.toList.drop j = d.toList[j] :: d.toList.drop (j + 1) := List.drop_eq_getElem_cons (by simpa using hj)
  have e2 : d.toList.drop (j + 1) = d.toList[j + 1] :: d.toList.drop (j + 2) := List.drop_eq_getElem_cons (by simpa using h)
  have := (List.take_append_drop j d.toList).symm
  rw [e1, e2] at this
  simpa using this
 ·unfold swp
  rw [getElem!_pos d j hj, getElem!_pos d (j + 1) h]
  apply List.ext_getElem?
  intro i
  simp only [Array.toList_setIfInBounds, List.getElem?_set, Array.length_toList, List.length_set]
  rcases Nat.lt_trichotomy i j with hi | hi | hi
  ·rw [if_neg (by omega), if_neg (by omega), List.getElem?_append_left (by simp; omega), List.getElem?_take_of_lt hi]
  ·subst hi
   rw [if_pos rfl, if_pos hj, List.getElem?_append_right (by simp; omega)]
   simp [Nat.min_eq_left (Nat.le_of_lt hj)]
  ·rw [if_neg (by omega), List.getElem?_append_right (by simp; omega)]
   rw [show (List.take j d.toList).length = j by simp; omega]
   rcases Nat.eq_or_lt_of_le (show j + 1 ≤ i from hi) with e | e
   ·subst e
    rw [if_pos rfl, if_pos h, show j + 1 - j = 1 by omega]; rfl
   ·rw [if_neg (by omega), show i - j = (i - j - 2) + 2 by omega, List.getElem?_cons_succ, List.getElem?_cons_succ, List.getElem?_drop]
    congr 1; omega
theorem swp_filter {α : Type} [Inhabited α] (key : α → Int) (d : Array α) (j : Nat) (h : j + 1 < d.size) (hne : key d[j]! ≠ key d[j + 1]!) (t : Int) : (Go.Sort.swp d (j + 1) j).toList.filter (fun x => key x == t) = d.toList.filter (fun x => key x == t) := by
 obtain ⟨p, x, y, q, e1, e2, _, e3, e4⟩ := swp_list d j h
 rw [e3, e4] at hne
 rw [e1, e2, List.filter_append, List.filter_append]
 congr 1
 rw [List.filter_cons, List.filter_cons, List.filter_cons, List.filter_cons]
 by_cases h1 : key x = t <;> by_cases h2 : key y = t <;> simp [h1, h2]
 exact absurd (h1.trans h2.symm) hne
theorem swp_size {α : Type} [Inhabited α] (d : Array α) (i j : Nat) : (Go.Sort.swp d i j).size = d.size := by simp [Go.Sort.swp]
def ltK {α : Type} (key : α → Int) (x y : α) : Bool := decide (key x < key y)
theorem swo_ltK {α : Type} (key : α → Int) : Go.Sort.SWO (ltK key) :=
 ⟨fun x => by simp [ltK], fun x y z h1 h2 => by simp [ltK] at *; omega, fun x y z h1 h2 => by simp [ltK] at *; omega⟩
theorem insInner_filter {α : Type} [Inhabited α] (key : α → Int) (a : Nat) (t : Int) : ∀ (j : Nat) (d : Array α), j < d.size → (Go.Sort.insInner (ltK key) a j d).toList.filter (fun x => key x == t) = d.toList.filter (fun x => key x == t) ∧ (Go.Sort.insInner (ltK key) a j d).size = d.size
 | 0, d, _ => ⟨rfl, rfl⟩
 | j + 1, d, h => by
  unfold Go.Sort.insInner
  split
  ·rename_i hc
   simp only [Bool.and_eq_true, decide_eq_true_eq, ltK] at hc
   obtain ⟨h1, h2⟩ := insInner_filter key a t j (Go.Sort.swp d (j + 1) j) (by rw [swp_size]; omega)
   rw [h1, h2, swp_filter key d j h (by omega), swp_size]
   exact ⟨rfl, rfl⟩
  ·exact ⟨rfl, rfl⟩
theorem insOuter_filter {α : Type} [Inhabited α] (key : α → Int) (a b : Nat) (t : Int) : ∀ (n i : Nat) (d : Array α), b - i ≤ n → b ≤ d.size → (Go.Sort.insOuter (ltK key) a b i d).toList.filter (fun x => key x == t) = d.toList.filter (fun x => key x == t) ∧ (Go.Sort.insOuter (ltK key) a b i d).size = d.size
 | 0, i, d, hn, hb => by
  unfold Go.Sort.insOuter
  rw [if_neg (by omega)]
  exact ⟨rfl, rfl⟩
 | n + 1, i, d, hn, hb => by
  unfold Go.Sort.insOuter
  split
  ·rename_i hi
   obtain ⟨h1, h2⟩ := insInner_filter key a t i d (by omega)
   obtain ⟨h3, h4⟩ := insOuter_filter key a b t n (i + 1) (Go.Sort.insInner (ltK key) a i d) (by omega) (by omega)
   rw [h3, h4, h1, h2]
   exact ⟨rfl, rfl⟩
  ·exact ⟨rfl, rfl⟩
theorem insSort_filter {α : Type} [Inhabited α] (key : α → Int) (a b : Nat) (t : Int) (d : Array α) (hb : b ≤ d.size) : (Go.Sort.insertionSort (ltK key) d a b).toList.filter (fun x => key x == t) = d.toList.filter (fun x => key x == t) :=
 (insOuter_filter key a b t (b - (a + 1)) (a + 1) d (Nat.le_refl _) hb).1
theorem sorted_up {α : Type} [Inhabited α] (key : α → Int) (d : Array α) (h : Go.Sort.SortedIn (ltK key) 0 d.size d) : UpK key d.toList := by
 unfold UpK
 rw [List.pairwise_iff_getElem]
 intro i j hi hj hij
 have := h i j (Nat.zero_le _) hij (by simpa using hj)
 rw [getElem!_pos d i (by simpa using hi), getElem!_pos d j (by simpa using hj)] at this
 simp only [ltK, decide_eq_false_iff_not] at this
 simp only [Array.getElem_toList]
 omega
theorem insSort_srt {α : Type} [Inhabited α] (key : α → Int) (l : List α) : (Go.Sort.insertionSort (ltK key) l.toArray 0 l.toArray.size).toList = srtF key l := by
 refine srtK_eq key ⟨?_, fun t => ?_⟩
 ·obtain ⟨hp, hs⟩ := Go.Sort.insertionSort_holds (lt := ltK key) (swo_ltK key) l.toArray 0 l.toArray.size (Nat.zero_le _) (Nat.le_refl _)
  refine sorted_up key _ ?_
  rw [hp.1]
  exact hs
 ·rw [insSort_filter key 0 _ t _ (Nat.le_refl _)]
end Go.Proofs.YtcjfeandnmochaaGreatDoor
namespace Go.Proofs.YtcjfeandnmochaaGreatDoor
set_option linter.unusedVariables false
set_option linter.unusedSimpArgs false
def kx {α : Type} (key : α → Int) (l : List α) (i : Nat) : Int := ((l[i]?).map key).getD 0
structure Cut {α : Type} (key : α → Int) (L : List α) (a m b start : Nat) : Prop where
 lo : (if (a + b) / 2 < m then (a + b) / 2 + m - b else a) ≤ start
 hi : start ≤ (if (a + b) / 2 < m then (a + b) / 2 else m)
 e1 : start = (if (a + b) / 2 < m then (a + b) / 2 + m - b else a) ∨ kx key L (start - 1) ≤ kx key L ((a + b) / 2 + m - start)
 e2 : start = (if (a + b) / 2 < m then (a + b) / 2 else m) ∨ kx key L ((a + b) / 2 + m - 1 - start) < kx key L start
theorem Cut.bd {α : Type} {key : α → Int} {L : List α} {a m b start : Nat} (h : Cut key L a m b start) (h1 : a ≤ m) (h2 : m ≤ b) : a ≤ start ∧ start ≤ m ∧ m ≤ (a + b) / 2 + m - start ∧ (a + b) / 2 + m - start ≤ b := by
 have := h.lo
 have := h.hi
 split at this <;> split at * <;> omega
end Go.Proofs.YtcjfeandnmochaaGreatDoor
namespace Go.Proofs.YtcjfeandnmochaaGreatDoor
open Go.ChangeShapes Go.WideShapes Go.ChangeAt Go.RowKit
set_option linter.unusedVariables false
theorem own_below {w w1 : World} {base : Nat} {e : TypeId} {s : Nat} {v : Value} {n : Nat} {xs : List Value} (h : w.ownsRow base e s v n xs) (hb : Below w.heap.size w w1) : w1.ownsRow base e s v n xs := by
 refine ⟨h.1, ?_⟩
 rcases h.2 with h | ⟨g, cap, cur, h1, h2, h3, h4⟩
 ·exact .inl h
 ·exact .inr ⟨g, cap, cur, h1, h2, (hb.block g (Array.getElem?_eq_some_iff.1 h3).1).trans h3, h4⟩
theorem own_belowH {w w1 : World} {base : Nat} {e : TypeId} {s : Nat} {v : Value} {n : Nat} {xs : List Value} (h : Hid (w.ownsRow base e s v n xs)) (hb : Below w.heap.size w w1) : Hid (w1.ownsRow base e s v n xs) := own_below h.out hb
theorem below_drewN {B : Nat} {w wr : World} (n : Nat) (h : Below B w wr) : Below B w (wr.drewN n) := h.trans ⟨rfl, rfl, rfl, Nat.le_refl _, fun _ _ => rfl⟩
end Go.Proofs.YtcjfeandnmochaaGreatDoor
namespace Go.Proofs.YtcjfeandnmochaaGreatDoor
open Go.ChangeShapes Go.WideShapes Go.ChangeAt Go.RowKit
set_option linter.unusedVariables false
set_option linter.unusedSimpArgs false
set_option maxRecDepth 20000
structure RowG (w : World) (v : Value) (size : Nat) (rs : List (List Value)) : Prop where
 form : ∃ a cap, v = .slice a rs.length cap ∧ rs.length ≤ cap ∧ cap ≤ maxLen ∧ (a = none → cap = 0) ∧ (rs ≠ [] → ∃ g off, a = some ⟨g, off, none⟩ ∧ ∀ i c u j, rs[i]? = some c → c[j]? = some u → w.cell? ⟨g, off + i * size + j, none⟩ = some u)
theorem RowG.below {w w1 : World} {v : Value} {size : Nat} {rs : List (List Value)} (h : RowG w v size rs) (hb : Below w.heap.size w w1) : RowG w1 v size rs := by
 obtain ⟨a, cap, h1, h2, h3, h0, h4⟩ := h.form
 refine ⟨a, cap, h1, h2, h3, h0, fun hne => ?_⟩
 obtain ⟨g, off, h5, h6⟩ := h4 hne
 refine ⟨g, off, h5, fun i c u j hc hu => ?_⟩
 have := h6 i c u j hc hu
 rw [hb.cell (World.block_lt_of_cell? _ _ this)]
 exact this
theorem RowG.nil (w : World) (size : Nat) : RowG w (.slice none 0 0) size [] := ⟨none, 0, rfl, Nat.le_refl _, by decide, fun _ => rfl, fun h => absurd rfl h⟩
theorem RowG.open {w : World} {v : Value} {size : Nat} {rs : List (List Value)} (h : RowG w v size rs) : ∃ a cap, v = .slice a rs.length cap ∧ rs.length ≤ cap ∧ cap ≤ maxLen ∧ (rs ≠ [] → ∃ g off, a = some ⟨g, off, none⟩) ∧ ∀ g off, a = some ⟨g, off, none⟩ → ∀ i c, rs[i]? = some c → ∀ j u, c[j]? = some u → w.cell? ⟨g, off + i * size + j, none⟩ = some u := by
 obtain ⟨a, cap, h1, h2, h3, _, h4⟩ := h.form
 refine ⟨a, cap, h1, h2, h3, fun hne => ?_, ?_⟩
 ·obtain ⟨g, off, h5, _⟩ := h4 hne
  exact ⟨g, off, h5⟩
 ·intro g off ha i c hc j u hu
  have hne : rs ≠ [] := by intro e; rw [e] at hc; simp at hc
  obtain ⟨g', off', h5, h6⟩ := h4 hne
  rw [ha] at h5
  simp at h5
  obtain ⟨rfl, rfl⟩ := h5
  exact h6 i c u j hc hu
theorem flat_get {size : Nat} : ∀ (rs : List (List Value)), (∀ r ∈ rs, r.length = size) → ∀ (i : Nat) (c : List Value), rs[i]? = some c → ∀ j u, c[j]? = some u → rs.flatten[i * size + j]? = some u
 | [], _, i, c, h, _, _, _ => by simp at h
 | x :: l, hl, 0, c, h, j, u, hu => by
  obtain rfl : x = c := by simpa using h
  rw [List.flatten_cons, Nat.zero_mul, Nat.zero_add, List.getElem?_append_left (List.getElem?_eq_some_iff.1 hu).1]
  exact hu
 | x :: l, hl, i + 1, c, h, j, u, hu => by
  have := flat_get l (fun r hr => hl r (List.mem_cons_of_mem _ hr)) i c (by simpa using h) j u hu
  have hx := hl x (List.mem_cons_self ..)
  rw [List.flatten_cons, List.getElem?_append_right (by rw [hx, Nat.add_mul]; omega)]
  have e : (i + 1) * size + j - x.length = i * size + j := by rw [hx, Nat.add_mul]; omega
  rw [e]
  exact this
theorem flat_len {size : Nat} : ∀ (rs : List (List Value)), (∀ r ∈ rs, r.length = size) → rs.flatten.length = rs.length * size
 | [], _ => by simp
 | x :: l, hl => by
  rw [List.flatten_cons, List.length_append, flat_len l (fun r hr => hl r (List.mem_cons_of_mem _ hr)), hl x (List.mem_cons_self ..), List.length_cons, Nat.add_mul]; omega
theorem RowG.own {w : World} {B e size : Nat} {v : Value} {n : Nat} {rs : List (List Value)} (hl : ∀ r ∈ rs, r.length = size) (hs : 0 < size) (h : w.ownsRow B e size v n rs.flatten) : RowG w v size rs ∧ n = rs.length := by
 have hn : n = rs.length := by
  have := h.1
  rw [flat_len rs hl] at this
  exact (Nat.eq_of_mul_eq_mul_right hs this).symm
 have h0 := h
 subst hn
 refine ⟨?_, rfl⟩
 rcases h.2 with ⟨rfl, h2⟩ | ⟨g, cap, cur, rfl, hb, hg, hc, hm, _⟩
 ·have : rs = [] := List.eq_nil_of_length_eq_zero h2
  subst this
  exact RowG.nil w size
 ·refine ⟨_, cap, rfl, hc, hm, (fun e => by cases e), fun _ => ⟨g, 0, rfl, fun i c u j hc hu => ?_⟩⟩
  have := h0.cells (g := g) rfl (i * size + j) u (flat_get rs hl i c hc j u hu)
  rw [Addr.add_lit, Nat.zero_add] at this
  rw [Nat.zero_add]
  exact this
theorem RowG.get {w : World} {a : Option Addr} {N cap size : Nat} {rs : List (List Value)} (h : RowG w (.slice a N cap) size rs) {i : Nat} {c : List Value} (hi : rs[i]? = some c) : ∃ g off, a = some ⟨g, off, none⟩ ∧ ∀ j u, c[j]? = some u → w.cell? ⟨g, off + i * size + j, none⟩ = some u := by
 obtain ⟨a', cap', e1, e2, e3, e4, e5⟩ := h.open
 simp only [Value.slice.injEq] at e1
 obtain ⟨rfl, _, _⟩ := e1
 obtain ⟨g, off, rfl⟩ := e4 (by intro e; rw [e] at hi; simp at hi)
 exact ⟨g, off, rfl, fun j u hu => e5 g off rfl i c hi j u hu⟩
theorem RowG.form2 {w : World} {v : Value} {size : Nat} {rs : List (List Value)} (h : RowG w v size rs) : ∃ a cap, v = .slice a rs.length cap ∧ rs.length ≤ cap ∧ cap ≤ 9223372036854775807 := by
 obtain ⟨a', cap', e1, e2, e3, _⟩ := h.open
 exact ⟨a', cap', e1, e2, by unfold maxLen at e3; omega⟩
end Go.Proofs.YtcjfeandnmochaaGreatDoor
namespace Go.Proofs.YtcjfeandnmochaaGreatDoor
structure FlS where
 name : ByteArray
 tag : Int
 label : Int
 kind : Int
 tname : ByteArray
structure MsS where
 name : ByteArray
 fields : List FlS
 reserved : List Int
structure NmS where
 name : ByteArray
 n : Int
structure EnS where
 name : ByteArray
 values : List NmS
structure MtS where
 name : ByteArray
 inn : ByteArray
 out : ByteArray
structure ScS where
 name : ByteArray
 msgs : List MsS
 enums : List EnS
 methods : List MtS
def FlS.cells (f : FlS) : List Value := [.string f.name, .int .i64 f.tag, .int .i64 f.label, .int .i64 f.kind, .string f.tname]
def NmS.cells (f : NmS) : List Value := [.string f.name, .int .i64 f.n]
def MtS.cells (f : MtS) : List Value := [.string f.name, .string f.inn, .string f.out]
def zeroS : ScS := ⟨⟨#[]⟩, [], [], []⟩
end Go.Proofs.YtcjfeandnmochaaGreatDoor
namespace Go.Proofs.YtcjfeandnmochaaGreatDoor
open Go.ChangeShapes Go.WideShapes Go.ChangeAt Go.RowKit
set_option linter.unusedVariables false
set_option linter.unusedSimpArgs false
set_option maxRecDepth 20000
def flRows (fs : List FlS) : List (List Value) := fs.map FlS.cells
def inRows (ns : List Int) : List (List Value) := ns.map fun n => [.int .i64 n]
def nmRows (vs : List NmS) : List (List Value) := vs.map NmS.cells
def mtRows (ms : List MtS) : List (List Value) := ms.map MtS.cells
def MsIn (w : World) (v : Value) (ms : List MsS) : Prop := ∃ rows : List (List Value), RowG w v 3 rows ∧ rows.length = ms.length ∧
 ∀ (i : Nat) (m : MsS), ms[i]? = some m → ∃ vf vr, rows[i]? = some [.string m.name, vf, vr] ∧ RowG w vf 5 (flRows m.fields) ∧ RowG w vr 1 (inRows m.reserved)
def EnIn (w : World) (v : Value) (es : List EnS) : Prop := ∃ rows : List (List Value), RowG w v 2 rows ∧ rows.length = es.length ∧
 ∀ (i : Nat) (e : EnS), es[i]? = some e → ∃ vv, rows[i]? = some [.string e.name, vv] ∧ RowG w vv 2 (nmRows e.values)
def ScIn (w : World) (v : Value) (s : ScS) : Prop := ∃ vm ve vt, v = .agg #[.string s.name, vm, ve, vt] ∧ MsIn w vm s.msgs ∧ EnIn w ve s.enums ∧ RowG w vt 3 (mtRows s.methods)
theorem MsIn.below {w w1 : World} {v : Value} {ms : List MsS} (h : MsIn w v ms) (hb : Below w.heap.size w w1) : MsIn w1 v ms := by
 obtain ⟨rows, h1, h2, h3⟩ := h
 refine ⟨rows, h1.below hb, h2, fun i m hm => ?_⟩
 obtain ⟨vf, vr, g1, g2, g3⟩ := h3 i m hm
 exact ⟨vf, vr, g1, g2.below hb, g3.below hb⟩
theorem EnIn.below {w w1 : World} {v : Value} {es : List EnS} (h : EnIn w v es) (hb : Below w.heap.size w w1) : EnIn w1 v es := by
 obtain ⟨rows, h1, h2, h3⟩ := h
 refine ⟨rows, h1.below hb, h2, fun i m hm => ?_⟩
 obtain ⟨vv, g1, g2⟩ := h3 i m hm
 exact ⟨vv, g1, g2.below hb⟩
theorem ScIn.below {w w1 : World} {v : Value} {s : ScS} (h : ScIn w v s) (hb : Below w.heap.size w w1) : ScIn w1 v s := by
 obtain ⟨vm, ve, vt, h1, h2, h3, h4⟩ := h
 exact ⟨vm, ve, vt, h1, h2.below hb, h3.below hb, h4.below hb⟩
theorem ScIn.zero (w : World) : ScIn w (.agg #[.string ⟨#[]⟩, .slice none 0 0, .slice none 0 0, .slice none 0 0]) zeroS :=
 ⟨_, _, _, rfl, ⟨[], RowG.nil w 3, rfl, fun i m hm => by simp [zeroS] at hm⟩, ⟨[], RowG.nil w 2, rfl, fun i m hm => by simp [zeroS] at hm⟩, RowG.nil w 3⟩
theorem MsIn.open {w : World} {v : Value} {ms : List MsS} (h : MsIn w v ms) : ∃ a cap, v = .slice a ms.length cap ∧ ms.length ≤ cap ∧ cap ≤ maxLen ∧ (ms ≠ [] → ∃ g off, a = some ⟨g, off, none⟩) ∧
  ∀ g off, a = some ⟨g, off, none⟩ → ∀ (i : Nat) (m : MsS), ms[i]? = some m → ∃ vf vr, w.cell? ⟨g, off + i * 3, none⟩ = some (.string m.name) ∧ w.cell? ⟨g, off + i * 3 + 1, none⟩ = some vf ∧ w.cell? ⟨g, off + i * 3 + 2, none⟩ = some vr ∧ RowG w vf 5 (flRows m.fields) ∧ RowG w vr 1 (inRows m.reserved) := by
 obtain ⟨rows, h1, h2, h3⟩ := h
 obtain ⟨a, cap, e1, e2, e3, e4, e5⟩ := h1.open
 rw [h2] at e1 e2
 refine ⟨a, cap, e1, e2, e3, fun hne => e4 (fun e => ?_), fun g off ha i m hm => ?_⟩
 ·rw [e] at h2; exact hne (List.eq_nil_of_length_eq_zero h2.symm)
 ·obtain ⟨vf, vr, g1, g2, g3⟩ := h3 i m hm
  exact ⟨vf, vr, e5 g off ha i _ g1 0 _ rfl, e5 g off ha i _ g1 1 _ rfl, e5 g off ha i _ g1 2 _ rfl, g2, g3⟩
theorem EnIn.open {w : World} {v : Value} {es : List EnS} (h : EnIn w v es) : ∃ a cap, v = .slice a es.length cap ∧ es.length ≤ cap ∧ cap ≤ maxLen ∧ (es ≠ [] → ∃ g off, a = some ⟨g, off, none⟩) ∧
  ∀ g off, a = some ⟨g, off, none⟩ → ∀ (i : Nat) (e : EnS), es[i]? = some e → ∃ vv, w.cell? ⟨g, off + i * 2, none⟩ = some (.string e.name) ∧ w.cell? ⟨g, off + i * 2 + 1, none⟩ = some vv ∧ RowG w vv 2 (nmRows e.values) := by
 obtain ⟨rows, h1, h2, h3⟩ := h
 obtain ⟨a, cap, e1, e2, e3, e4, e5⟩ := h1.open
 rw [h2] at e1 e2
 refine ⟨a, cap, e1, e2, e3, fun hne => e4 (fun e => ?_), fun g off ha i m hm => ?_⟩
 ·rw [e] at h2; exact hne (List.eq_nil_of_length_eq_zero h2.symm)
 ·obtain ⟨vv, g1, g2⟩ := h3 i m hm
  exact ⟨vv, e5 g off ha i _ g1 0 _ rfl, e5 g off ha i _ g1 1 _ rfl, g2⟩
theorem row_ints {w : World} {v : Value} {ns : List Int} (h : RowG w v 1 (inRows ns)) : ∃ a cap, v = .slice a ns.length cap ∧ ns.length ≤ cap ∧ cap ≤ maxLen ∧ (ns ≠ [] → ∃ g off, a = some ⟨g, off, none⟩) ∧
  ∀ g off, a = some ⟨g, off, none⟩ → ∀ (i : Nat) (n : Int), ns[i]? = some n → w.cell? ⟨g, off + i, none⟩ = some (.int .i64 n) := by
 obtain ⟨a, cap, e1, e2, e3, e4, e5⟩ := h.open
 have hl : (inRows ns).length = ns.length := by simp [inRows]
 rw [hl] at e1 e2
 refine ⟨a, cap, e1, e2, e3, fun hne => e4 (fun e => hne (by simpa [inRows] using e)), fun g off ha i n hn => ?_⟩
 have hr : (inRows ns)[i]? = some [.int .i64 n] := by simp [inRows, hn]
 have := e5 g off ha i _ hr 0 _ rfl
 rwa [Nat.mul_one, Nat.add_zero] at this
theorem MsIn.get {w : World} {a : Option Addr} {N cap : Nat} {ms : List MsS} (h : MsIn w (.slice a N cap) ms) {i : Nat} {m : MsS} (hi : ms[i]? = some m) : ∃ g off vf vr, a = some ⟨g, off, none⟩ ∧ w.cell? ⟨g, off + i * 3, none⟩ = some (.string m.name) ∧ w.cell? ⟨g, off + i * 3 + 1, none⟩ = some vf ∧ w.cell? ⟨g, off + i * 3 + 2, none⟩ = some vr ∧ RowG w vf 5 (flRows m.fields) ∧ RowG w vr 1 (inRows m.reserved) := by
 obtain ⟨a', cap', e1, e2, e3, e4, e5⟩ := h.open
 simp only [Value.slice.injEq] at e1
 obtain ⟨rfl, _, _⟩ := e1
 obtain ⟨g, off, rfl⟩ := e4 (by intro e; rw [e] at hi; simp at hi)
 obtain ⟨vf, vr, h1, h2, h3, h4, h5⟩ := e5 g off rfl i m hi
 exact ⟨g, off, vf, vr, rfl, h1, h2, h3, h4, h5⟩
theorem EnIn.get {w : World} {a : Option Addr} {N cap : Nat} {ms : List EnS} (h : EnIn w (.slice a N cap) ms) {i : Nat} {m : EnS} (hi : ms[i]? = some m) : ∃ g off vv, a = some ⟨g, off, none⟩ ∧ w.cell? ⟨g, off + i * 2, none⟩ = some (.string m.name) ∧ w.cell? ⟨g, off + i * 2 + 1, none⟩ = some vv ∧ RowG w vv 2 (nmRows m.values) := by
 obtain ⟨a', cap', e1, e2, e3, e4, e5⟩ := h.open
 simp only [Value.slice.injEq] at e1
 obtain ⟨rfl, _, _⟩ := e1
 obtain ⟨g, off, rfl⟩ := e4 (by intro e; rw [e] at hi; simp at hi)
 obtain ⟨vv, h1, h2, h3⟩ := e5 g off rfl i m hi
 exact ⟨g, off, vv, rfl, h1, h2, h3⟩
theorem MsIn.form2 {w : World} {v : Value} {ms : List MsS} (h : MsIn w v ms) : ∃ a cap, v = .slice a ms.length cap ∧ ms.length ≤ cap ∧ cap ≤ 9223372036854775807 := by
 obtain ⟨a', cap', e1, e2, e3, _⟩ := h.open
 exact ⟨a', cap', e1, e2, by unfold maxLen at e3; omega⟩
theorem EnIn.form2 {w : World} {v : Value} {ms : List EnS} (h : EnIn w v ms) : ∃ a cap, v = .slice a ms.length cap ∧ ms.length ≤ cap ∧ cap ≤ 9223372036854775807 := by
 obtain ⟨a', cap', e1, e2, e3, _⟩ := h.open
 exact ⟨a', cap', e1, e2, by unfold maxLen at e3; omega⟩
structure Kp (S : Nat → Prop) (w w' : World) : Prop where
 os : w'.os = w.os
 tape : w'.tape = w.tape
 output : w'.output = w.output
 size : w.heap.size ≤ w'.heap.size
 block : ∀ k, k < w.heap.size → ¬ S k → w'.heap[k]? = w.heap[k]?
theorem Kp.refl (S : Nat → Prop) (w : World) : Kp S w w := ⟨rfl, rfl, rfl, Nat.le_refl _, fun _ _ _ => rfl⟩
theorem Kp.trans {S : Nat → Prop} {a b c : World} (h : Kp S a b) (k : Kp S b c) : Kp S a c :=
 ⟨k.os.trans h.os, k.tape.trans h.tape, k.output.trans h.output, Nat.le_trans h.size k.size, fun i hi hs => (k.block i (Nat.lt_of_lt_of_le hi h.size) hs).trans (h.block i hi hs)⟩
theorem Kp.trans2 {S S' : Nat → Prop} {a b c : World} (h : Kp S a b) (k : Kp S' b c) (hs : ∀ i, i < a.heap.size → S' i → S i) : Kp S a c :=
 ⟨k.os.trans h.os, k.tape.trans h.tape, k.output.trans h.output, Nat.le_trans h.size k.size, fun i hi hn => (k.block i (Nat.lt_of_lt_of_le hi h.size) (fun e => hn (hs i hi e))).trans (h.block i hi hn)⟩
theorem Kp.weak {S S' : Nat → Prop} {a b : World} (h : Kp S a b) (hs : ∀ i, i < a.heap.size → S i → S' i) : Kp S' a b :=
 ⟨h.os, h.tape, h.output, h.size, fun i hi hn => h.block i hi (fun e => hn (hs i hi e))⟩
theorem Kp.ofBelow {S : Nat → Prop} {w w' : World} (h : Below w.heap.size w w') : Kp S w w' := ⟨h.os, h.tape, h.output, h.size, fun k hk _ => h.block k hk⟩
theorem Kp.toBelow {S : Nat → Prop} {w w' : World} {B : Nat} (h : Kp S w w') (hB : B ≤ w.heap.size) (hs : ∀ k, S k → B ≤ k) : Below B w w' :=
 ⟨h.os, h.tape, h.output, h.size, fun k hk => h.block k (by omega) (fun e => by have := hs k e; omega)⟩
theorem Kp.alloc {S : Nat → Prop} {a w : World} (h : Kp S a w) (o : Obj) : Kp S a (w.alloc o) :=
 h.trans ⟨rfl, rfl, rfl, by simp, fun k hk _ => Below.heap_alloc _ _ _ hk⟩
theorem Kp.setCell {S : Nat → Prop} {a w : World} (h : Kp S a w) {p : Addr} (hp : p.block < a.heap.size → S p.block) (u : Value) : Kp S a (w.setCell p u) :=
 ⟨h.os, h.tape, h.output, by simp [World.setCell]; exact h.size, fun k hk hs => (Below.heap_setCell _ _ _ _ (fun e => hs (by subst e; exact hp hk))).trans (h.block k hk hs)⟩
theorem Kp.grown {S : Nat → Prop} {a w w' : World} {row : Option Nat} (h : Kp S a w) (hg : w.grownBy w' row) (hr : ∀ k, row = some k → k < a.heap.size → S k) : Kp S a w' :=
 ⟨hg.os.trans h.os, hg.tape.trans h.tape, hg.output.trans h.output, Nat.le_trans h.size hg.size, fun k hk hs => (hg.block k (Nat.lt_of_lt_of_le hk h.size) (fun e => hs (hr k e.symm hk))).trans (h.block k hk hs)⟩
theorem Kp.drewN {S : Nat → Prop} {a w : World} (n : Nat) (h : Kp S a w) : Kp S a (w.drewN n) := ⟨h.os, h.tape, h.output, h.size, h.block⟩
theorem Kp.below {S : Nat → Prop} {a w w' : World} (h : Kp S a w) (hb : Below w.heap.size w w') : Kp S a w' := h.trans (Kp.ofBelow hb)
theorem Kp.cell {S : Nat → Prop} {w w' : World} (h : Kp S w w') {p : Addr} {u : Value} (hc : w.cell? p = some u) (hs : ¬ S p.block) : w'.cell? p = some u :=
 (World.cell?_of_block (w := w) (h.block p.block (World.block_lt_of_cell? _ _ hc) hs)).trans hc
theorem own_kp {S : Nat → Prop} {w w1 : World} {base : Nat} {e : TypeId} {s : Nat} {v : Value} {n : Nat} {xs : List Value} (h : w.ownsRow base e s v n xs) (hb : Kp S w w1) (hs : ∀ k, base ≤ k → ¬ S k) : w1.ownsRow base e s v n xs := by
 refine ⟨h.1, ?_⟩
 rcases h.2 with h | ⟨g, cap, cur, h1, h2, h3, h4⟩
 ·exact .inl h
 ·exact .inr ⟨g, cap, cur, h1, h2, (hb.block g (Array.getElem?_eq_some_iff.1 h3).1 (hs g h2)).trans h3, h4⟩
theorem own_kpH {S : Nat → Prop} {w w1 : World} {base : Nat} {e : TypeId} {s : Nat} {v : Value} {n : Nat} {xs : List Value} (h : Hid (w.ownsRow base e s v n xs)) (hb : Kp S w w1) (hs : ∀ k, base ≤ k → ¬ S k) : Hid (w1.ownsRow base e s v n xs) := own_kp h.out hb hs
theorem own_base {w : World} {base base' : Nat} {e : TypeId} {s : Nat} {v : Value} {n : Nat} {xs : List Value} (h : w.ownsRow base e s v n xs) (hb : base' ≤ base) : w.ownsRow base' e s v n xs := by
 refine ⟨h.1, ?_⟩
 rcases h.2 with h | ⟨g, cap, cur, h1, h2, h3⟩
 ·exact .inl h
 ·exact .inr ⟨g, cap, cur, h1, by omega, h3⟩
theorem own_kpV {S : Nat → Prop} {w w1 : World} {base : Nat} {e : TypeId} {s : Nat} {v : Value} {n : Nat} {xs : List Value} (h : w.ownsRow base e s v n xs) (hb : Kp S w w1) (hs : ∀ k, v.ownBlock = some k → ¬ S k) : w1.ownsRow base e s v n xs := by
 refine ⟨h.1, ?_⟩
 rcases h.2 with h | ⟨g, cap, cur, h1, h2, h3, h4⟩
 ·exact .inl h
 ·refine .inr ⟨g, cap, cur, h1, h2, (hb.block g (Array.getElem?_eq_some_iff.1 h3).1 (hs g ?_)).trans h3, h4⟩
  rw [h1]; rfl
theorem block_set {w : World} {g : Nat} {cur : Array Value} {e : TypeId} {fz : Nat × Nat} (h : w.heap[g]? = some (.cells cur e fz)) (i : Nat) (u : Value) : (w.setCell ⟨g, i, none⟩ u).heap[g]? = some (.cells (cur.setIfInBounds i u) e fz) := by
 simp [World.setCell, Array.getElem?_modify, h]
theorem block_cell {w : World} {g : Nat} {cur : Array Value} {e : TypeId} {fz : Nat × Nat} (h : w.heap[g]? = some (.cells cur e fz)) (i : Nat) : w.cell? ⟨g, i, none⟩ = cur[i]? := by
 simp [World.cell?, h]
theorem block_froz {w : World} {g : Nat} {cur : Array Value} {e : TypeId} (h : w.heap[g]? = some (.cells cur e (0, 0))) (i : Nat) : w.frozen? ⟨g, i, none⟩ = false := by
 simp [World.frozen?, h]
theorem own_form {w : World} {B : Nat} {e : TypeId} {s : Nat} {v : Value} {n : Nat} {xs : List Value} (h : w.ownsRow B e s v n xs) : ∃ a c, v = .slice a n c := by
 rcases h.2 with ⟨rfl, rfl⟩ | ⟨q, cap, cur, rfl, _⟩
 ·exact ⟨none, 0, rfl⟩
 ·exact ⟨_, _, rfl⟩
def Blk (w : World) (b : Nat) (cs : Array Value) (t : TypeId) : Prop := w.heap[b]? = some (.cells cs t (0, 0))
theorem Blk.new (w : World) (cs : Array Value) (t : TypeId) : Blk (w.alloc (.cells cs t)) w.heap.size cs t := heap_alloc_new w _
theorem Blk.kp {S : Nat → Prop} {w w' : World} {b : Nat} {cs : Array Value} {t : TypeId} (h : Blk w b cs t) (hk : Kp S w w') (hs : ¬ S b) : Blk w' b cs t := (hk.block b (Array.getElem?_eq_some_iff.1 h).1 hs).trans h
theorem Blk.lt {w : World} {b : Nat} {cs : Array Value} {t : TypeId} (h : Blk w b cs t) : b < w.heap.size := (Array.getElem?_eq_some_iff.1 h).1
theorem Blk.below {w w' : World} {b : Nat} {cs : Array Value} {t : TypeId} (h : Blk w b cs t) (hb : Below w.heap.size w w') : Blk w' b cs t := (hb.block b h.lt).trans h
theorem Blk.set {w : World} {b : Nat} {cs cs' : Array Value} {t : TypeId} (h : Blk w b cs t) (i : Nat) (u : Value) (hc : cs.setIfInBounds i u = cs') : Blk (w.setCell ⟨b, i, none⟩ u) b cs' t := by subst hc; exact block_set h i u
theorem Blk.other {w : World} {b : Nat} {cs : Array Value} {t : TypeId} (h : Blk w b cs t) {a : Addr} (hne : b ≠ a.block) (u : Value) : Blk (w.setCell a u) b cs t := by
 show _ = _
 rw [Below.heap_setCell _ _ _ _ hne]; exact h
theorem Blk.cell {w : World} {b : Nat} {cs : Array Value} {t : TypeId} (h : Blk w b cs t) (i : Nat) : w.cell? ⟨b, i, none⟩ = cs[i]? := block_cell h i
theorem Blk.froz {w : World} {b : Nat} {cs : Array Value} {t : TypeId} (h : Blk w b cs t) (i : Nat) : w.frozen? ⟨b, i, none⟩ = false := block_froz h i
theorem results_cell {fn : Func} {p : Tmp} {ty : TypeId} (h : fn.results = #[.cell p ty]) (tmps : Array Value) (P : Program) (w : World) (a : Addr) (x : Value) (ha : (asAddr (tmps.getD p undef)).run P w = .ok a w) (hl : (loadVar ty a).run P w = .ok x w) :
  (results fn tmps).run P w = .ok x w := by
 simp only [results, h]
 simp only [Array.getD_eq_getD_getElem?] at ha
 simp [Sem.run_bind, Result.andThen, ha, hl]
theorem own_apart {w : World} {B B' : Nat} {e e' : TypeId} {s s' : Nat} {v v' : Value} {n n' : Nat} {xs xs' : List Value} (h : w.ownsRow B e s v n xs) (h' : w.ownsRow B' e' s' v' n' xs') (hne : e ≠ e') : ∀ k, v.ownBlock = some k → ¬ v'.ownBlock = some k := by
 intro k hk hk'
 rcases h.2 with ⟨rfl, _⟩ | ⟨q, cap, cur, rfl, _, hb, _⟩
 ·cases hk
 ·rcases h'.2 with ⟨rfl, _⟩ | ⟨q', cap', cur', rfl, _, hb', _⟩
  ·cases hk'
  ·simp only [Value.ownBlock, Option.some.injEq] at hk hk'
   subst hk
   subst hk'
   rw [hb] at hb'
   simp only [Option.some.injEq, Obj.cells.injEq] at hb'
   exact hne hb'.2.1
def msRows (ms : List MsS) (ps : List (Value × Value)) : List (List Value) := List.zipWith (fun m p => [.string m.name, p.1, p.2]) ms ps
def enRows (es : List EnS) (ps : List Value) : List (List Value) := List.zipWith (fun m p => [.string m.name, p]) es ps
structure MsO (w : World) (B : Nat) (v : Value) (ms : List MsS) (ps : List (Value × Value)) : Prop where
 len : ps.length = ms.length
 own : w.ownsRow B 40 3 v ms.length (msRows ms ps).flatten
 each : ∀ (i : Nat) (m : MsS) (p : Value × Value), ms[i]? = some m → ps[i]? = some p → w.ownsRow B 90 5 p.1 m.fields.length (flRows m.fields).flatten ∧ w.ownsRow B 3 1 p.2 m.reserved.length (inRows m.reserved).flatten
 apart : ∀ (i j : Nat) (p q : Value × Value) (k : Nat), ps[i]? = some p → ps[j]? = some q → p.1.ownBlock = some k → q.1.ownBlock = some k → i = j
structure EnO (w : World) (B : Nat) (v : Value) (es : List EnS) (ps : List Value) : Prop where
 len : ps.length = es.length
 own : w.ownsRow B 44 2 v es.length (enRows es ps).flatten
 each : ∀ (i : Nat) (e : EnS) (p : Value), es[i]? = some e → ps[i]? = some p → w.ownsRow B 96 2 p e.values.length (nmRows e.values).flatten
theorem MsO.nil (w : World) (B : Nat) : MsO w B (.slice none 0 0) [] [] := ⟨rfl, World.ownsRow_nil _ _ _ _, fun i m p h => by simp at h, fun i j p q k h => by simp at h⟩
theorem EnO.nil (w : World) (B : Nat) : EnO w B (.slice none 0 0) [] [] := ⟨rfl, World.ownsRow_nil _ _ _ _, fun i m p h => by simp at h⟩
theorem MsO.kp {S : Nat → Prop} {w w1 : World} {B : Nat} {v : Value} {ms : List MsS} {ps : List (Value × Value)} (h : MsO w B v ms ps) (hk : Kp S w w1) (hs : ∀ k, B ≤ k → ¬ S k) : MsO w1 B v ms ps :=
 ⟨h.len, own_kp h.own hk hs, fun i m p hm hp => ⟨own_kp (h.each i m p hm hp).1 hk hs, own_kp (h.each i m p hm hp).2 hk hs⟩, h.apart⟩
theorem EnO.kp {S : Nat → Prop} {w w1 : World} {B : Nat} {v : Value} {ms : List EnS} {ps : List Value} (h : EnO w B v ms ps) (hk : Kp S w w1) (hs : ∀ k, B ≤ k → ¬ S k) : EnO w1 B v ms ps :=
 ⟨h.len, own_kp h.own hk hs, fun i m p hm hp => own_kp (h.each i m p hm hp) hk hs⟩
theorem MsO.beside {w w1 : World} {B B' : Nat} {v u : Value} {ms : List MsS} {ps : List (Value × Value)} {e : TypeId} {s n : Nat} {xs : List Value} (h : MsO w B v ms ps) (hu : w.ownsRow B' e s u n xs) (h1 : e ≠ 40) (h2 : e ≠ 90) (h3 : e ≠ 3) (hk : Kp (fun k => u.ownBlock = some k) w w1) : MsO w1 B v ms ps :=
 ⟨h.len, own_kpV h.own hk (fun k hk hu' => own_apart hu h.own h1 k hu' hk), fun i m p hm hp => ⟨own_kpV (h.each i m p hm hp).1 hk (fun k hk hu' => own_apart hu (h.each i m p hm hp).1 h2 k hu' hk), own_kpV (h.each i m p hm hp).2 hk (fun k hk hu' => own_apart hu (h.each i m p hm hp).2 h3 k hu' hk)⟩, h.apart⟩
theorem EnO.beside {w w1 : World} {B B' : Nat} {v u : Value} {ms : List EnS} {ps : List Value} {e : TypeId} {s n : Nat} {xs : List Value} (h : EnO w B v ms ps) (hu : w.ownsRow B' e s u n xs) (h1 : e ≠ 44) (h2 : e ≠ 96) (hk : Kp (fun k => u.ownBlock = some k) w w1) : EnO w1 B v ms ps :=
 ⟨h.len, own_kpV h.own hk (fun k hk hu' => own_apart hu h.own h1 k hu' hk), fun i m p hm hp => own_kpV (h.each i m p hm hp) hk (fun k hk hu' => own_apart hu (h.each i m p hm hp) h2 k hu' hk)⟩
theorem get_snoc {α : Type} {l : List α} {x y : α} {i : Nat} (h : (l ++ [x])[i]? = some y) : (i < l.length ∧ l[i]? = some y) ∨ (i = l.length ∧ y = x) := by
 rcases Nat.lt_or_ge i l.length with hi | hi
 ·rw [List.getElem?_append_left hi] at h; exact .inl ⟨hi, h⟩
 ·rw [List.getElem?_append_right hi] at h
  have : i - l.length = 0 := by
   rcases Nat.eq_zero_or_pos (i - l.length) with e | e
   ·exact e
   ·have : [x].length ≤ i - l.length := by simp; omega
    rw [List.getElem?_eq_none this] at h; cases h
  rw [this] at h
  simp at h
  exact .inr ⟨by omega, h.symm⟩
theorem ms_snoc {ms : List MsS} {ps : List (Value × Value)} (hl : ps.length = ms.length) (m : MsS) (p : Value × Value) : (msRows (ms ++ [m]) (ps ++ [p])).flatten = (msRows ms ps).flatten ++ [.string m.name, p.1, p.2] := by
 unfold msRows
 rw [List.zipWith_append hl.symm]
 simp
theorem en_snoc {ms : List EnS} {ps : List Value} (hl : ps.length = ms.length) (m : EnS) (p : Value) : (enRows (ms ++ [m]) (ps ++ [p])).flatten = (enRows ms ps).flatten ++ [.string m.name, p] := by
 unfold enRows
 rw [List.zipWith_append hl.symm]
 simp
theorem MsO.snoc {w w1 : World} {B H : Nat} {v v' vf vr : Value} {ms : List MsS} {ps : List (Value × Value)} {m : MsS} (h : MsO w B v ms ps) (hH : ∀ (i : Nat) (p : Value × Value) (k : Nat), ps[i]? = some p → p.1.ownBlock = some k → k < H) (hBH : B ≤ H) (hf : w.ownsRow H 90 5 vf m.fields.length (flRows m.fields).flatten) (hr : w.ownsRow H 3 1 vr m.reserved.length (inRows m.reserved).flatten)
  (ho : w1.ownsRow B 40 3 v' (ms.length + 1) ((msRows ms ps).flatten ++ [.string m.name, vf, vr])) (hk : Kp (fun k => v.ownBlock = some k) w w1) : MsO w1 B v' (ms ++ [m]) (ps ++ [(vf, vr)]) := by
 have kf : ∀ {B' : Nat} {u : Value} {n : Nat} {xs : List Value}, w.ownsRow B' 90 5 u n xs → w1.ownsRow B' 90 5 u n xs := fun hu => own_kpV hu hk (fun k hk hv => own_apart h.own hu (by decide) k hv hk)
 have kr : ∀ {B' : Nat} {u : Value} {n : Nat} {xs : List Value}, w.ownsRow B' 3 1 u n xs → w1.ownsRow B' 3 1 u n xs := fun hu => own_kpV hu hk (fun k hk hv => own_apart h.own hu (by decide) k hv hk)
 refine ⟨by simp [h.len], ?_, ?_, ?_⟩
 ·rw [ms_snoc h.len, List.length_append]; exact ho
 ·intro i m' p hm hp
  rcases get_snoc hm with ⟨hi, hm⟩ | ⟨hi, rfl⟩
  ·rcases get_snoc hp with ⟨_, hp⟩ | ⟨hi', _⟩
   ·exact ⟨kf (h.each i m' p hm hp).1, kr (h.each i m' p hm hp).2⟩
   ·have := h.len; omega
  ·rcases get_snoc hp with ⟨hi', _⟩ | ⟨_, rfl⟩
   ·have := h.len; omega
   ·exact ⟨own_base (kf hf) hBH, own_base (kr hr) hBH⟩
 ·intro i j p q k hp hq hpk hqk
  rcases get_snoc hp with ⟨hi, hp⟩ | ⟨hi, rfl⟩
  ·rcases get_snoc hq with ⟨hj, hq⟩ | ⟨hj, rfl⟩
   ·exact h.apart i j p q k hp hq hpk hqk
   ·have a1 := hH i p k hp hpk
    have a2 := (hf.lt k hqk).1
    omega
  ·rcases get_snoc hq with ⟨hj, hq⟩ | ⟨hj, rfl⟩
   ·have a1 := hH j q k hq hqk
    have a2 := (hf.lt k hpk).1
    omega
   ·omega
theorem EnO.snoc {w w1 : World} {B H : Nat} {v v' vv : Value} {ms : List EnS} {ps : List Value} {m : EnS} (h : EnO w B v ms ps) (hBH : B ≤ H) (hf : w.ownsRow H 96 2 vv m.values.length (nmRows m.values).flatten)
  (ho : w1.ownsRow B 44 2 v' (ms.length + 1) ((enRows ms ps).flatten ++ [.string m.name, vv])) (hk : Kp (fun k => v.ownBlock = some k) w w1) : EnO w1 B v' (ms ++ [m]) (ps ++ [vv]) := by
 have kf : ∀ {B' : Nat} {u : Value} {n : Nat} {xs : List Value}, w.ownsRow B' 96 2 u n xs → w1.ownsRow B' 96 2 u n xs := fun hu => own_kpV hu hk (fun k hk hv => own_apart h.own hu (by decide) k hv hk)
 refine ⟨by simp [h.len], ?_, ?_⟩
 ·rw [en_snoc h.len, List.length_append]; exact ho
 ·intro i m' p hm hp
  rcases get_snoc hm with ⟨hi, hm⟩ | ⟨hi, rfl⟩
  ·rcases get_snoc hp with ⟨_, hp⟩ | ⟨hi', _⟩
   ·exact kf (h.each i m' p hm hp)
   ·have := h.len; omega
  ·rcases get_snoc hp with ⟨hi', _⟩ | ⟨_, rfl⟩
   ·have := h.len; omega
   ·exact own_base (kf hf) hBH
theorem MsO.high {w : World} {B : Nat} {v : Value} {ms : List MsS} {ps : List (Value × Value)} (h : MsO w B v ms ps) : ∀ (i : Nat) (p : Value × Value) (k : Nat), ps[i]? = some p → p.1.ownBlock = some k → k < w.heap.size := by
 intro i p k hp hk
 have hi : i < ms.length := by rw [← h.len]; exact (List.getElem?_eq_some_iff.1 hp).1
 exact ((h.each i _ p (List.getElem?_eq_getElem hi) hp).1.lt k hk).2
theorem infoM : (Tryz.prog.info? 40).map (fun i => (i.zero, i.size, i.bytes)) = some (some (.agg #[.string ⟨#[]⟩, .slice none 0 0, .slice none 0 0]), 3, 64) := by kernel_rfl
theorem infoE : (Tryz.prog.info? 44).map (fun i => (i.zero, i.size, i.bytes)) = some (some (.agg #[.string ⟨#[]⟩, .slice none 0 0]), 2, 40) := by kernel_rfl
theorem infoT : (Tryz.prog.info? 46).map (fun i => (i.zero, i.size, i.bytes)) = some (some (.agg #[.string ⟨#[]⟩, .string ⟨#[]⟩, .string ⟨#[]⟩]), 3, 48) := by kernel_rfl
theorem mt_snoc (acc : List MtS) (f : MtS) : (mtRows (acc ++ [f])).flatten = (mtRows acc).flatten ++ [.string f.name, .string f.inn, .string f.out] := by simp [mtRows, MtS.cells]
theorem own_at {w : World} {B e size q n cap : Nat} {rs : List (List Value)} (hl : ∀ r ∈ rs, r.length = size) (h : w.ownsRow B e size (.slice (some ⟨q, 0, none⟩) n cap) n rs.flatten) {i : Nat} {c : List Value} (hc : rs[i]? = some c) {j : Nat} {u : Value} (hu : c[j]? = some u) : w.cell? ⟨q, i * size + j, none⟩ = some u := by
 have := h.cells (g := q) rfl (i * size + j) u (flat_get rs hl i c hc j u hu)
 rw [Addr.add_lit, Nat.zero_add] at this
 exact this
theorem own_froz {w : World} {B e size q n cap : Nat} {xs : List Value} (h : w.ownsRow B e size (.slice (some ⟨q, 0, none⟩) n cap) n xs) (i : Nat) : w.frozen? ⟨q, i, none⟩ = false := by
 rcases h.2 with ⟨h, _⟩ | ⟨q', cap', cur, h1, h2, h3, _⟩
 ·cases h
 ·simp only [Value.slice.injEq, Option.some.injEq, Addr.mk.injEq] at h1
  obtain ⟨⟨rfl, _⟩, _⟩ := h1
  exact block_froz h3 i
theorem own_addr {w : World} {B e size n : Nat} {v : Value} {xs : List Value} (h : w.ownsRow B e size v n xs) (hn : 0 < n) : ∃ q cap, v = .slice (some ⟨q, 0, none⟩) n cap ∧ n ≤ cap ∧ cap ≤ maxLen ∧ B ≤ q ∧ q < w.heap.size := by
 rcases h.2 with ⟨_, h⟩ | ⟨q', cap', cur, h1, h2, h3, h4, h5, _⟩
 ·omega
 ·exact ⟨q', cap', h1, h4, h5, h2, (Array.getElem?_eq_some_iff.1 h3).1⟩
theorem own_set {w : World} {B e size q n cap : Nat} {xs : List Value} (h : w.ownsRow B e size (.slice (some ⟨q, 0, none⟩) n cap) n xs) {j : Nat} (u : Value) : (w.setCell ⟨q, j, none⟩ u).ownsRow B e size (.slice (some ⟨q, 0, none⟩) n cap) n (xs.set j u) := by
 refine ⟨by rw [List.length_set]; exact h.1, ?_⟩
 rcases h.2 with ⟨h, _⟩ | ⟨q', cap', cur, h1, h2, h3, h4, h5, h6, h7⟩
 ·cases h
 ·simp only [Value.slice.injEq, Option.some.injEq, Addr.mk.injEq] at h1
  obtain ⟨⟨rfl, _⟩, _, rfl⟩ := h1
  refine .inr ⟨q, cap, cur.setIfInBounds j u, rfl, h2, block_set h3 j u, h4, h5, by simpa using h6, ?_⟩
  rw [Array.toList_setIfInBounds, List.take_set, h7]
theorem fl_len (fs : List FlS) : ∀ r ∈ flRows fs, r.length = 5 := by intro r hr; simp only [flRows, List.mem_map] at hr; obtain ⟨f, _, rfl⟩ := hr; rfl
theorem en_len (es : List EnS) (ps : List Value) : ∀ r ∈ enRows es ps, r.length = 2 := by
 intro r hr
 unfold enRows at hr
 rw [List.mem_iff_getElem?] at hr
 obtain ⟨i, hi⟩ := hr
 rw [List.getElem?_zipWith] at hi
 split at hi <;> simp at hi
 rw [← hi]; rfl
theorem ms_len (es : List MsS) (ps : List (Value × Value)) : ∀ r ∈ msRows es ps, r.length = 3 := by
 intro r hr
 unfold msRows at hr
 rw [List.mem_iff_getElem?] at hr
 obtain ⟨i, hi⟩ := hr
 rw [List.getElem?_zipWith] at hi
 split at hi <;> simp at hi
 rw [← hi]; rfl
theorem en_get {es : List EnS} {ps : List Value} {i : Nat} {e : EnS} {p : Value} (he : es[i]? = some e) (hp : ps[i]? = some p) : (enRows es ps)[i]? = some [.string e.name, p] := by
 unfold enRows
 rw [List.getElem?_zipWith, he, hp]
theorem ms_get {es : List MsS} {ps : List (Value × Value)} {i : Nat} {e : MsS} {p : Value × Value} (he : es[i]? = some e) (hp : ps[i]? = some p) : (msRows es ps)[i]? = some [.string e.name, p.1, p.2] := by
 unfold msRows
 rw [List.getElem?_zipWith, he, hp]
theorem fl_get {fs : List FlS} {i : Nat} {f : FlS} (h : fs[i]? = some f) : (flRows fs)[i]? = some f.cells := by simp [flRows, h]
theorem MsO.below {w w1 : World} {B : Nat} {v : Value} {ms : List MsS} {ps : List (Value × Value)} (h : MsO w B v ms ps) (hk : Below w.heap.size w w1) : MsO w1 B v ms ps :=
 ⟨h.len, own_below h.own hk, fun i m p hm hp => ⟨own_below (h.each i m p hm hp).1 hk, own_below (h.each i m p hm hp).2 hk⟩, h.apart⟩
theorem EnO.below {w w1 : World} {B : Nat} {v : Value} {ms : List EnS} {ps : List Value} (h : EnO w B v ms ps) (hk : Below w.heap.size w w1) : EnO w1 B v ms ps :=
 ⟨h.len, own_below h.own hk, fun i m p hm hp => own_below (h.each i m p hm hp) hk⟩
theorem own_le {w : World} {B : Nat} {e : TypeId} {s : Nat} {v : Value} {n : Nat} {xs : List Value} (h : w.ownsRow B e s v n xs) : n ≤ 9223372036854775807 := by
 rcases h.2 with ⟨rfl, rfl⟩ | ⟨q, cap, cur, rfl, _, _, h4, h5, _⟩
 ·omega
 ·unfold maxLen at h5; omega
theorem MsO.to_in {w : World} {B : Nat} {v : Value} {ms : List MsS} {ps : List (Value × Value)} (h : MsO w B v ms ps) : MsIn w v ms := by
 obtain ⟨h1, h2⟩ := RowG.own (ms_len ms ps) (by decide) h.own
 refine ⟨msRows ms ps, h1, h2.symm, fun i m hm => ?_⟩
 have hi := (List.getElem?_eq_some_iff.1 hm).1
 obtain ⟨p, hp⟩ : ∃ p, ps[i]? = some p := ⟨_, List.getElem?_eq_getElem (by rw [h.len]; exact hi)⟩
 exact ⟨p.1, p.2, ms_get hm hp, (RowG.own (fl_len m.fields) (by decide) (h.each i m p hm hp).1).1, (RowG.own (fun r hr => by simp only [inRows, List.mem_map] at hr; obtain ⟨_, _, rfl⟩ := hr; rfl) (by decide) (h.each i m p hm hp).2).1⟩
theorem EnO.to_in {w : World} {B : Nat} {v : Value} {ms : List EnS} {ps : List Value} (h : EnO w B v ms ps) : EnIn w v ms := by
 obtain ⟨h1, h2⟩ := RowG.own (en_len ms ps) (by decide) h.own
 refine ⟨enRows ms ps, h1, h2.symm, fun i m hm => ?_⟩
 have hi := (List.getElem?_eq_some_iff.1 hm).1
 obtain ⟨p, hp⟩ : ∃ p, ps[i]? = some p := ⟨_, List.getElem?_eq_getElem (by rw [h.len]; exact hi)⟩
 exact ⟨p, en_get hm hp, (RowG.own (fun r hr => by simp only [nmRows, List.mem_map] at hr; obtain ⟨_, _, rfl⟩ := hr; rfl) (by decide) (h.each i m p hm hp)).1⟩
theorem mt_in {w : World} {B : Nat} {v : Value} {ms : List MtS} (h : w.ownsRow B 46 3 v ms.length (mtRows ms).flatten) : RowG w v 3 (mtRows ms) :=
 (RowG.own (fun r hr => by simp only [mtRows, List.mem_map] at hr; obtain ⟨_, _, rfl⟩ := hr; rfl) (by decide) h).1
theorem own_type {w : World} {B : Nat} {e : TypeId} {sz : Nat} {v : Value} {n : Nat} {xs : List Value} {k : Nat} {cs : Array Value} {t : TypeId} (h : w.ownsRow B e sz v n xs) (hk : v.ownBlock = some k) (hb : Blk w k cs t) : e = t := by
 rcases h.2 with ⟨rfl, _⟩ | ⟨q, cap, cur, rfl, _, hq, _⟩
 ·cases hk
 ·simp only [Value.ownBlock, Option.some.injEq] at hk
  subst hk
  unfold Blk at hb
  rw [hq] at hb
  simp only [Option.some.injEq, Obj.cells.injEq] at hb
  exact hb.2.1
theorem own_blk {w w1 : World} {B : Nat} {e : TypeId} {sz n b : Nat} {v : Value} {xs : List Value} {cs : Array Value} {t : TypeId} (h : w.ownsRow B e sz v n xs) (hb : Blk w b cs t) (ht : e ≠ t) (hk : Kp (fun k => k = b) w w1) : w1.ownsRow B e sz v n xs :=
 own_kpV h hk (fun k hv e' => by subst e'; exact ht (own_type h hv hb))
theorem MsO.base {w : World} {B B' : Nat} {v : Value} {ms : List MsS} {ps : List (Value × Value)} (h : MsO w B v ms ps) (hb : B' ≤ B) : MsO w B' v ms ps :=
 ⟨h.len, own_base h.own hb, fun i m p hm hp => ⟨own_base (h.each i m p hm hp).1 hb, own_base (h.each i m p hm hp).2 hb⟩, h.apart⟩
theorem EnO.base {w : World} {B B' : Nat} {v : Value} {ms : List EnS} {ps : List Value} (h : EnO w B v ms ps) (hb : B' ≤ B) : EnO w B' v ms ps :=
 ⟨h.len, own_base h.own hb, fun i m p hm hp => own_base (h.each i m p hm hp) hb⟩
theorem flat_set {size : Nat} : ∀ (rs : List (List Value)), (∀ r ∈ rs, r.length = size) → ∀ (j : Nat) (r : List Value), rs[j]? = some r → ∀ (c : Nat) (u : Value), c < size → rs.flatten.set (j * size + c) u = (rs.set j (r.set c u)).flatten
 | [], _, j, r, h, _, _, _ => by simp at h
 | x :: l, hl, 0, r, h, c, u, hc => by
  obtain rfl : x = r := by simpa using h
  have hx := hl x (List.mem_cons_self ..)
  rw [List.flatten_cons, Nat.zero_mul, Nat.zero_add, List.set_append_left _ _ (by omega), List.set_cons_zero, List.flatten_cons]
 | x :: l, hl, j + 1, r, h, c, u, hc => by
  have hx := hl x (List.mem_cons_self ..)
  have ih := flat_set l (fun r hr => hl r (List.mem_cons_of_mem _ hr)) j r (by simpa using h) c u hc
  rw [List.flatten_cons, List.set_append_right _ _ (by rw [hx, Nat.add_mul]; omega), List.set_cons_succ, List.flatten_cons, ← ih]
  congr 2
  rw [hx, Nat.add_mul]; omega
theorem set3 {rs : List (List Value)} (hl : ∀ r ∈ rs, r.length = 3) {k : Nat} (hk : k < rs.length) (a b c : Value) : ((rs.flatten.set (k * 3) a).set (k * 3 + 1) b).set (k * 3 + 2) c = (rs.set k [a, b, c]).flatten := by
 obtain ⟨r, hr⟩ : ∃ r, rs[k]? = some r := ⟨_, List.getElem?_eq_getElem hk⟩
 have h3 := hl r (List.mem_of_getElem? hr)
 match r, h3 with
 | [x, y, z], _ =>
  have l1 : ∀ q ∈ rs.set k [a, y, z], q.length = 3 := fun q hq => by
   rcases List.mem_or_eq_of_mem_set hq with h | rfl
   ·exact hl q h
   ·rfl
  have l2 : ∀ q ∈ rs.set k [a, b, z], q.length = 3 := fun q hq => by
   rcases List.mem_or_eq_of_mem_set hq with h | rfl
   ·exact hl q h
   ·rfl
  have e1 := flat_set rs hl k _ hr 0 a (by decide)
  rw [Nat.add_zero] at e1
  rw [e1]
  have e2 := flat_set _ l1 k [a, y, z] (by rw [List.getElem?_set_self hk]) 1 b (by decide)
  have e3 := flat_set _ l2 k [a, b, z] (by rw [List.getElem?_set_self hk]) 2 c (by decide)
  simp only [List.set_cons_zero, List.set_cons_succ, List.set_set] at e2 e3 ⊢
  rw [e2, e3]
theorem set2 {rs : List (List Value)} (hl : ∀ r ∈ rs, r.length = 2) {k : Nat} (hk : k < rs.length) (a b : Value) : (rs.flatten.set (k * 2) a).set (k * 2 + 1) b = (rs.set k [a, b]).flatten := by
 obtain ⟨r, hr⟩ : ∃ r, rs[k]? = some r := ⟨_, List.getElem?_eq_getElem hk⟩
 have h3 := hl r (List.mem_of_getElem? hr)
 match r, h3 with
 | [x, y], _ =>
  have l1 : ∀ q ∈ rs.set k [a, y], q.length = 2 := fun q hq => by
   rcases List.mem_or_eq_of_mem_set hq with h | rfl
   ·exact hl q h
   ·rfl
  have e1 := flat_set rs hl k _ hr 0 a (by decide)
  rw [Nat.add_zero] at e1
  rw [e1]
  have e2 := flat_set _ l1 k [a, y] (by rw [List.getElem?_set_self hk]) 1 b (by decide)
  simp only [List.set_cons_zero, List.set_cons_succ, List.set_set] at e2 ⊢
  rw [e2]
end Go.Proofs.YtcjfeandnmochaaGreatDoor
namespace Go.Proofs.YtcjfeandnmochaaGreatDoor
open Go.Shelf
def lays156_ren : Go.Shelf.Ren := ⟨fun | 156 => 92 | 165 => 127 | 166 => 45 | 169 => 21 | 240 => 90 | 241 => 157 | 276 => 125 | 277 => 172 | n => n, fun | 31 => 91 | 9 => 9 | 3 => 3 | 4 => 4 | 0 => 0 | 20 => 20 | 72 => 50 | 76 => 101 | 70 => 47 | 37 => 48 | 75 => 100 | 127 => 107 | 164 => 172 | 5 => 5 | 80 => 56 | n => n, fun | n => n⟩
theorem lays156 : Go.Proofs.Lays.n156 Tryz.prog lays156_ren := {
 mixed := by kernel_rfl
 f156 := Tryz.func92.trans (congrArg some (by kernel_rfl))
 f165 := Tryz.func127.trans (congrArg some (by kernel_rfl))
 f166 := Tryz.func45.trans (congrArg some (by kernel_rfl))
 f169 := Tryz.func21.trans (congrArg some (by kernel_rfl))
 f240 := Tryz.func90.trans (congrArg some (by kernel_rfl))
 f241 := Tryz.func157.trans (congrArg some (by kernel_rfl))
 f276 := Tryz.func125.trans (congrArg some (by kernel_rfl))
 f277 := Tryz.func172.trans (congrArg some (by kernel_rfl))
 t0 := Tryz.underlying0
 a0 := Tryz.isAgg0
 z0 := Tryz.sizeOf0
 v0 := Tryz.zeroValue0
 t3 := Tryz.underlying3
 a3 := Tryz.isAgg3
 z3 := Tryz.sizeOf3
 v3 := Tryz.zeroValue3
 t4 := Tryz.underlying4
 a4 := Tryz.isAgg4
 z4 := Tryz.sizeOf4
 v4 := Tryz.zeroValue4
 t9 := Tryz.underlying9
 a9 := Tryz.isAgg9
 z9 := Tryz.sizeOf9
 v9 := Tryz.zeroValue9
 t20 := Tryz.underlying20
 a20 := Tryz.isAgg20
 z20 := Tryz.sizeOf20
 v20 := Tryz.zeroValue20
 t31 := Tryz.underlying91
 a31 := Tryz.isAgg91
 z31 := Tryz.sizeOf91
 v31 := Tryz.zeroValue91
 t37 := Tryz.underlying48
 a37 := Tryz.isAgg48
 z37 := Tryz.sizeOf48
 v37 := Tryz.zeroValue48
 t70 := Tryz.underlying47
 a70 := Tryz.isAgg47
 z70 := Tryz.sizeOf47
 v70 := Tryz.zeroValue47
 t72 := Tryz.underlying50
 a72 := Tryz.isAgg50
 z72 := Tryz.sizeOf50
 v72 := Tryz.zeroValue50
 t75 := Tryz.underlying100
 a75 := Tryz.isAgg100
 z75 := Tryz.sizeOf100
 v75 := Tryz.zeroValue100
 t76 := Tryz.underlying101
 a76 := Tryz.isAgg101
 z76 := Tryz.sizeOf101
 v76 := Tryz.zeroValue101
 t127 := Tryz.underlying107
 a127 := Tryz.isAgg107
 z127 := Tryz.sizeOf107
 v127 := Tryz.zeroValue107
 t164 := Tryz.underlying172
 a164 := Tryz.isAgg172
 z164 := Tryz.sizeOf172
 v164 := Tryz.zeroValue172 }
def laysM171_ren : Go.Shelf.Ren := ⟨fun | 171 => 49 | 243 => 91 | 246 => 126 | 283 => 153 | 284 => 154 | 285 => 155 | 286 => 156 | 129 => 149 | 317 => 168 | 318 => 169 | 319 => 170 | 320 => 171 | 337 => 177 | 338 => 178 | n => n, fun | 3 => 3 | 9 => 9 | 2 => 2 | 4 => 4 | 171 => 197 | 0 => 0 | 53 => 192 | 37 => 48 | 5 => 5 | 173 => 199 | 212 => 212 | 51 => 190 | 20 => 20 | 213 => 213 | 46 => 164 | 232 => 218 | 233 => 219 | n => n, fun | 17 => 1 | 18 => 3 | 19 => 4 | n => n⟩
theorem laysM171 : Go.Proofs.LaysM.n171 Tryz.prog laysM171_ren := {
 mixed := by kernel_rfl
 f129 := Tryz.func149.trans (congrArg some (by kernel_rfl))
 f171 := Tryz.func49.trans (congrArg some (by kernel_rfl))
 f243 := Tryz.func91.trans (congrArg some (by kernel_rfl))
 f246 := Tryz.func126.trans (congrArg some (by kernel_rfl))
 f283 := Tryz.func153.trans (congrArg some (by kernel_rfl))
 f284 := Tryz.func154.trans (congrArg some (by kernel_rfl))
 f285 := Tryz.func155.trans (congrArg some (by kernel_rfl))
 f286 := Tryz.func156.trans (congrArg some (by kernel_rfl))
 f317 := Tryz.func168.trans (congrArg some (by kernel_rfl))
 f318 := Tryz.func169.trans (congrArg some (by kernel_rfl))
 f319 := Tryz.func170.trans (congrArg some (by kernel_rfl))
 f320 := Tryz.func171.trans (congrArg some (by kernel_rfl))
 f337 := Tryz.func177.trans (congrArg some (by kernel_rfl))
 f338 := Tryz.func178.trans (congrArg some (by kernel_rfl))
 t0 := Tryz.underlying0
 a0 := Tryz.isAgg0
 z0 := Tryz.sizeOf0
 v0 := Tryz.zeroValue0
 t2 := Tryz.underlying2
 a2 := Tryz.isAgg2
 z2 := Tryz.sizeOf2
 v2 := Tryz.zeroValue2
 t3 := Tryz.underlying3
 a3 := Tryz.isAgg3
 z3 := Tryz.sizeOf3
 v3 := Tryz.zeroValue3
 t4 := Tryz.underlying4
 a4 := Tryz.isAgg4
 z4 := Tryz.sizeOf4
 v4 := Tryz.zeroValue4
 t5 := Tryz.underlying5
 a5 := Tryz.isAgg5
 z5 := Tryz.sizeOf5
 v5 := Tryz.zeroValue5
 t9 := Tryz.underlying9
 a9 := Tryz.isAgg9
 z9 := Tryz.sizeOf9
 v9 := Tryz.zeroValue9
 t20 := Tryz.underlying20
 a20 := Tryz.isAgg20
 z20 := Tryz.sizeOf20
 v20 := Tryz.zeroValue20
 t37 := Tryz.underlying48
 a37 := Tryz.isAgg48
 z37 := Tryz.sizeOf48
 v37 := Tryz.zeroValue48
 t46 := Tryz.underlying164
 a46 := Tryz.isAgg164
 z46 := Tryz.sizeOf164
 v46 := Tryz.zeroValue164
 t51 := Tryz.underlying190
 a51 := Tryz.isAgg190
 z51 := Tryz.sizeOf190
 v51 := Tryz.zeroValue190
 t53 := Tryz.underlying192
 a53 := Tryz.isAgg192
 z53 := Tryz.sizeOf192
 v53 := Tryz.zeroValue192
 t171 := Tryz.underlying197
 a171 := Tryz.isAgg197
 z171 := Tryz.sizeOf197
 v171 := Tryz.zeroValue197
 t173 := Tryz.underlying199
 a173 := Tryz.isAgg199
 z173 := Tryz.sizeOf199
 v173 := Tryz.zeroValue199
 t212 := Tryz.underlying212
 a212 := Tryz.isAgg212
 z212 := Tryz.sizeOf212
 v212 := Tryz.zeroValue212
 t213 := Tryz.underlying213
 a213 := Tryz.isAgg213
 z213 := Tryz.sizeOf213
 t232 := Tryz.underlying218
 a232 := Tryz.isAgg218
 z232 := Tryz.sizeOf218
 v232 := Tryz.zeroValue218
 t233 := Tryz.underlying219
 a233 := Tryz.isAgg219
 z233 := Tryz.sizeOf219
 v233 := Tryz.zeroValue219
 g17 := by kernel_rfl
 g18 := by kernel_rfl
 g19 := by kernel_rfl
 i0 := by kernel_rfl
 i2 := by kernel_rfl
 i3 := by kernel_rfl
 i4 := by kernel_rfl
 i5 := by kernel_rfl
 i9 := by kernel_rfl
 i20 := by kernel_rfl
 i37 := by kernel_rfl
 i46 := by kernel_rfl
 i51 := by kernel_rfl
 i53 := by kernel_rfl
 i171 := by kernel_rfl
 i173 := by kernel_rfl
 i212 := by kernel_rfl
 i232 := by kernel_rfl
 i233 := by kernel_rfl
 m17 := by kernel_rfl
 m18 := by kernel_rfl
 m19 := by kernel_rfl }
def lays189_ren : Go.Shelf.Ren := ⟨fun | 189 => 74 | 125 => 117 | 257 => 116 | 128 => 148 | 129 => 149 | 294 => 139 | 295 => 140 | 296 => 141 | 297 => 142 | 298 => 143 | 299 => 144 | 216 => 145 | 300 => 146 | 301 => 147 | 328 => 162 | 329 => 163 | 330 => 164 | 331 => 165 | 332 => 166 | 215 => 138 | 343 => 175 | n => n, fun | 28 => 38 | 3 => 3 | 46 => 164 | 0 => 0 | 51 => 190 | 53 => 192 | 4 => 4 | 183 => 183 | 182 => 182 | 131 => 166 | 5 => 5 | 9 => 9 | 218 => 204 | 222 => 208 | 228 => 215 | 229 => 216 | n => n, fun | n => n⟩
theorem lays189 : Go.Proofs.Lays.n189 Tryz.prog lays189_ren := {
 mixed := by kernel_rfl
 f125 := Tryz.func117.trans (congrArg some (by kernel_rfl))
 f128 := Tryz.func148.trans (congrArg some (by kernel_rfl))
 f129 := Tryz.func149.trans (congrArg some (by kernel_rfl))
 f189 := Tryz.func74.trans (congrArg some (by kernel_rfl))
 f215 := Tryz.func138.trans (congrArg some (by kernel_rfl))
 f216 := Tryz.func145.trans (congrArg some (by kernel_rfl))
 f257 := Tryz.func116.trans (congrArg some (by kernel_rfl))
 f294 := Tryz.func139.trans (congrArg some (by kernel_rfl))
 f295 := Tryz.func140.trans (congrArg some (by kernel_rfl))
 f296 := Tryz.func141.trans (congrArg some (by kernel_rfl))
 f297 := Tryz.func142.trans (congrArg some (by kernel_rfl))
 f298 := Tryz.func143.trans (congrArg some (by kernel_rfl))
 f299 := Tryz.func144.trans (congrArg some (by kernel_rfl))
 f300 := Tryz.func146.trans (congrArg some (by kernel_rfl))
 f301 := Tryz.func147.trans (congrArg some (by kernel_rfl))
 f328 := Tryz.func162.trans (congrArg some (by kernel_rfl))
 f329 := Tryz.func163.trans (congrArg some (by kernel_rfl))
 f330 := Tryz.func164.trans (congrArg some (by kernel_rfl))
 f331 := Tryz.func165.trans (congrArg some (by kernel_rfl))
 f332 := Tryz.func166.trans (congrArg some (by kernel_rfl))
 f343 := Tryz.func175.trans (congrArg some (by kernel_rfl))
 t0 := Tryz.underlying0
 a0 := Tryz.isAgg0
 z0 := Tryz.sizeOf0
 v0 := Tryz.zeroValue0
 t3 := Tryz.underlying3
 a3 := Tryz.isAgg3
 z3 := Tryz.sizeOf3
 v3 := Tryz.zeroValue3
 t4 := Tryz.underlying4
 a4 := Tryz.isAgg4
 z4 := Tryz.sizeOf4
 v4 := Tryz.zeroValue4
 t5 := Tryz.underlying5
 a5 := Tryz.isAgg5
 z5 := Tryz.sizeOf5
 v5 := Tryz.zeroValue5
 t9 := Tryz.underlying9
 a9 := Tryz.isAgg9
 z9 := Tryz.sizeOf9
 v9 := Tryz.zeroValue9
 t28 := Tryz.underlying38
 a28 := Tryz.isAgg38
 z28 := Tryz.sizeOf38
 v28 := Tryz.zeroValue38
 t46 := Tryz.underlying164
 a46 := Tryz.isAgg164
 z46 := Tryz.sizeOf164
 v46 := Tryz.zeroValue164
 t51 := Tryz.underlying190
 a51 := Tryz.isAgg190
 z51 := Tryz.sizeOf190
 v51 := Tryz.zeroValue190
 t53 := Tryz.underlying192
 a53 := Tryz.isAgg192
 z53 := Tryz.sizeOf192
 v53 := Tryz.zeroValue192
 t131 := Tryz.underlying166
 a131 := Tryz.isAgg166
 z131 := Tryz.sizeOf166
 v131 := Tryz.zeroValue166
 t182 := Tryz.underlying182
 a182 := Tryz.isAgg182
 z182 := Tryz.sizeOf182
 v182 := Tryz.zeroValue182
 t183 := Tryz.underlying183
 a183 := Tryz.isAgg183
 z183 := Tryz.sizeOf183
 v183 := Tryz.zeroValue183
 t218 := Tryz.underlying204
 a218 := Tryz.isAgg204
 z218 := Tryz.sizeOf204
 v218 := Tryz.zeroValue204
 t222 := Tryz.underlying208
 a222 := Tryz.isAgg208
 z222 := Tryz.sizeOf208
 v222 := Tryz.zeroValue208
 t228 := Tryz.underlying215
 a228 := Tryz.isAgg215
 z228 := Tryz.sizeOf215
 v228 := Tryz.zeroValue215
 t229 := Tryz.underlying216
 a229 := Tryz.isAgg216
 z229 := Tryz.sizeOf216
 v229 := Tryz.zeroValue216 }
def laysF_ren : Go.Shelf.Ren := ⟨fun | 20 => 136 | n => n, fun | 24 => 90 | 22 => 37 | 3 => 3 | 25 => 134 | 4 => 4 | 0 => 0 | n => n, fun | n => n⟩
theorem laysF : Go.Proofs.SlLaysF0.n20 Tryz.prog laysF_ren := {
 mixed := by kernel_rfl
 f20 := ⟨Tryz.f136.name, by decide, Tryz.func136.trans (congrArg some (by kernel_rfl))⟩
 t0 := Tryz.underlying0
 a0 := Tryz.isAgg0
 z0 := Tryz.sizeOf0
 v0 := Tryz.zeroValue0
 t3 := Tryz.underlying3
 a3 := Tryz.isAgg3
 z3 := Tryz.sizeOf3
 v3 := Tryz.zeroValue3
 t4 := Tryz.underlying4
 a4 := Tryz.isAgg4
 z4 := Tryz.sizeOf4
 v4 := Tryz.zeroValue4
 t22 := Tryz.underlying37
 a22 := Tryz.isAgg37
 z22 := Tryz.sizeOf37
 v22 := Tryz.zeroValue37
 t25 := Tryz.underlying134
 a25 := Tryz.isAgg134
 z25 := Tryz.sizeOf134
 v25 := Tryz.zeroValue134 }
def laysN_ren : Go.Shelf.Ren := ⟨fun | 20 => 150 | n => n, fun | 24 => 96 | 22 => 42 | 3 => 3 | 25 => 138 | 4 => 4 | 0 => 0 | n => n, fun | n => n⟩
theorem laysN : Go.Proofs.SlLaysF0.n20 Tryz.prog laysN_ren := {
 mixed := by kernel_rfl
 f20 := ⟨Tryz.f150.name, by decide, Tryz.func150.trans (congrArg some (by kernel_rfl))⟩
 t0 := Tryz.underlying0
 a0 := Tryz.isAgg0
 z0 := Tryz.sizeOf0
 v0 := Tryz.zeroValue0
 t3 := Tryz.underlying3
 a3 := Tryz.isAgg3
 z3 := Tryz.sizeOf3
 v3 := Tryz.zeroValue3
 t4 := Tryz.underlying4
 a4 := Tryz.isAgg4
 z4 := Tryz.sizeOf4
 v4 := Tryz.zeroValue4
 t22 := Tryz.underlying42
 a22 := Tryz.isAgg42
 z22 := Tryz.sizeOf42
 v22 := Tryz.zeroValue42
 t25 := Tryz.underlying138
 a25 := Tryz.isAgg138
 z25 := Tryz.sizeOf138
 v25 := Tryz.zeroValue138 }
end Go.Proofs.YtcjfeandnmochaaGreatDoor
namespace Go.Proofs.YtcjfeandnmochaaGreatDoor
open Go.ChangeShapes Go.WideShapes Go.ChangeAt Go.RowKit
set_option linter.unusedVariables false
set_option linter.unusedSimpArgs false
set_option maxRecDepth 20000
theorem flat_inv {size : Nat} : ∀ (rs : List (List Value)), (∀ r ∈ rs, r.length = size) → ∀ (j : Nat) (u : Value), rs.flatten[j]? = some u → ∃ i c k, rs[i]? = some c ∧ c[k]? = some u ∧ j = i * size + k
 | [], _, j, u, h => by simp at h
 | x :: l, hl, j, u, h => by
  have hx := hl x (List.mem_cons_self ..)
  by_cases hj : j < x.length
  ·rw [List.flatten_cons, List.getElem?_append_left hj] at h
   exact ⟨0, x, j, rfl, h, by simp⟩
  ·rw [List.flatten_cons, List.getElem?_append_right (by omega)] at h
   obtain ⟨i, c, k, h1, h2, h3⟩ := flat_inv l (fun r hr => hl r (List.mem_cons_of_mem _ hr)) _ u h
   exact ⟨i + 1, c, k, by simpa using h1, h2, by rw [Nat.add_mul]; omega⟩
theorem run_joinG {w : World} (t ty e : TypeId) (size bytes : Nat) (z : Value) (ht : Tryz.prog.underlying t = some (.slice e)) (hinfo : (Tryz.prog.info? e).map (fun i => (i.zero, i.size, i.bytes)) = some (some z, size, bytes)) (hzs : z.cells.size = size) (hsz : 0 < size)
  (base : Nat) (v : Value) (n : Nat) (xs : List Value) (hown : w.ownsRow base e size v n xs)
  (xv : Value) (rs : List (List Value)) (hr : RowG w xv size rs) (hl : ∀ r ∈ rs, r.length = size) (h1 : ∀ u ∈ rs.flatten, u.oneCell' = true) (hb : n + rs.length ≤ 1000000) (hby : bytes ≤ 1000) (hbase : base ≤ w.heap.size) :
  ∃ v' w', (Builtin.append_ #[t, t] ty #[v, xv]).run Tryz.prog w = .ok v' w' ∧ w'.ownsRow base e size v' (n + rs.length) (xs ++ rs.flatten) ∧ w.grownBy w' v.ownBlock := by
 obtain ⟨i0, hi, hz0, hz1, hz2⟩ := info_parts hinfo
 obtain ⟨ao, cap, rfl, q1, q2, q0, q3⟩ := hr.form
 cases ao with
 | none =>
  have hrs : rs = [] := by
   cases rs with
   | nil => rfl
   | cons r l => obtain ⟨g, off, e, _⟩ := q3 (by simp); cases e
  subst hrs
  have := q0 rfl
  subst this
  have hrun := run_append_owned_none (P := Tryz.prog) (w := w) base t ty e i0 size ht hi v n xs hown
  refine ⟨v, w, hrun, ?_, ⟨rfl, rfl, rfl, Nat.le_refl _, fun _ _ _ => rfl⟩⟩
  rw [List.flatten_nil, List.append_nil]
  exact hown
 | some ad =>
  obtain ⟨v', w', g0, g1, g2, _⟩ := run_append_own w base t ty e i0 z size bytes ht hi hz0 hz1 hz2 hzs hsz v _ _ hown ad rs.length cap rs.flatten (by rw [flat_len rs hl]) (fun j u hu => by
   obtain ⟨i, c, k, e1, e2, rfl⟩ := flat_inv rs hl j u hu
   obtain ⟨g, off, e3, e4⟩ := q3 (by intro e; rw [e] at e1; simp at e1)
   cases e3
   have := e4 i c u k e1 e2
   rw [Nat.add_assoc] at this
   rw [Addr.add_lit]
   exact this) h1 (by unfold maxLen; omega) (Nat.le_trans (Nat.mul_le_mul hb hby) (by decide)) hbase
  exact ⟨v', w', g0, g1, g2⟩
theorem wpList_joinG {w : World} {ops : Array Oper} {rest : List Oper} {o : Oper} {a : Act} {Q : Exit → Act → World → Prop} (hgd : o.guard = none) (s x : Operand) (t e : TypeId) (size bytes : Nat) (z : Value)
  (ho : o.op = .call { callee := .builtin .append, args := #[s, x], argTypes := #[t, t] }) (ht : Tryz.prog.underlying t = some (.slice e)) (hinfo : (Tryz.prog.info? e).map (fun i => (i.zero, i.size, i.bytes)) = some (some z, size, bytes)) (hzs : z.cells.size = size) (hsz : 0 < size)
  (base : Nat) (v : Value) (n : Nat) (xs : List Value) (hs : a.eval s = v) (hown : w.ownsRow base e size v n xs)
  (xv : Value) (rs : List (List Value)) (hx : a.eval x = xv) (hr : RowG w xv size rs) (hl : ∀ r ∈ rs, r.length = size) (h1 : ∀ u ∈ rs.flatten, u.oneCell' = true) (hb : n + rs.length ≤ 1000000) (hby : bytes ≤ 1000) (hbase : base ≤ w.heap.size)
  (h : ∀ v' w', w'.ownsRow base e size v' (n + rs.length) (xs ++ rs.flatten) → w.grownBy w' v.ownBlock → wpList Tryz.prog ops Q rest (a.put o.dst v') w') : wpList Tryz.prog ops Q (o :: rest) a w := by
 obtain ⟨i0, hi, hz0, hz1, hz2⟩ := info_parts hinfo
 obtain ⟨ao, cap, rfl, q1, q2, q0, q3⟩ := hr.form
 cases ao with
 | none =>
  have hrs : rs = [] := by
   cases rs with
   | nil => rfl
   | cons r l => obtain ⟨g, off, e, _⟩ := q3 (by simp); cases e
  subst hrs
  have := q0 rfl
  subst this
  refine wpList_append_own_none hgd s x t ho base e i0 size ht hi v _ _ hs hown hx ?_
  refine h v w ?_ ⟨rfl, rfl, rfl, Nat.le_refl _, fun _ _ _ => rfl⟩
  rw [List.flatten_nil, List.append_nil]
  exact hown
 | some ad =>
  refine wpList_append_own w hgd s x t ho base e i0 z size bytes ht hi hz0 hz1 hz2 hzs hsz v _ _ hs hown ad rs.length cap rs.flatten hx (by rw [flat_len rs hl]) ?_ h1 (by unfold maxLen; omega) ?_ hbase ?_
  ·intro j u hu
   obtain ⟨i, c, k, e1, e2, rfl⟩ := flat_inv rs hl j u hu
   obtain ⟨g, off, e3, e4⟩ := q3 (by intro e; rw [e] at e1; simp at e1)
   cases e3
   have := e4 i c u k e1 e2
   rw [Nat.add_assoc] at this
   rw [Addr.add_lit]
   exact this
  ·exact Nat.le_trans (Nat.mul_le_mul hb hby) (by decide)
  ·intro v' w' g1 g2 _
   exact h v' w' g1 g2
theorem infoFl : (Tryz.prog.info? 90).map (fun i => (i.zero, i.size, i.bytes)) = some (some (.agg #[.string ⟨#[]⟩, .int .i64 0, .int .i64 0, .int .i64 0, .string ⟨#[]⟩]), 5, 56) := by kernel_rfl
theorem infoIn : (Tryz.prog.info? 3).map (fun i => (i.zero, i.size, i.bytes)) = some (some (.int .i64 0), 1, 8) := by kernel_rfl
theorem infoNm : (Tryz.prog.info? 96).map (fun i => (i.zero, i.size, i.bytes)) = some (some (.agg #[.string ⟨#[]⟩, .int .i64 0]), 2, 24) := by kernel_rfl
theorem infoMs : (Tryz.prog.info? 40).map (fun i => (i.zero, i.size, i.bytes)) = some (some (.agg #[.string ⟨#[]⟩, .slice none 0 0, .slice none 0 0]), 3, 64) := by kernel_rfl
theorem infoEn : (Tryz.prog.info? 44).map (fun i => (i.zero, i.size, i.bytes)) = some (some (.agg #[.string ⟨#[]⟩, .slice none 0 0]), 2, 40) := by kernel_rfl
theorem infoMt : (Tryz.prog.info? 46).map (fun i => (i.zero, i.size, i.bytes)) = some (some (.agg #[.string ⟨#[]⟩, .string ⟨#[]⟩, .string ⟨#[]⟩]), 3, 48) := by kernel_rfl
theorem flr_len (fs : List FlS) : ∀ r ∈ flRows fs, r.length = 5 := fun r hr => by simp only [flRows, List.mem_map] at hr; obtain ⟨_, _, rfl⟩ := hr; rfl
theorem inr_len (fs : List Int) : ∀ r ∈ inRows fs, r.length = 1 := fun r hr => by simp only [inRows, List.mem_map] at hr; obtain ⟨_, _, rfl⟩ := hr; rfl
theorem nmr_len (fs : List NmS) : ∀ r ∈ nmRows fs, r.length = 2 := fun r hr => by simp only [nmRows, List.mem_map] at hr; obtain ⟨_, _, rfl⟩ := hr; rfl
theorem mtr_len (fs : List MtS) : ∀ r ∈ mtRows fs, r.length = 3 := fun r hr => by simp only [mtRows, List.mem_map] at hr; obtain ⟨_, _, rfl⟩ := hr; rfl
theorem flr_one (fs : List FlS) : ∀ u ∈ (flRows fs).flatten, u.oneCell' = true := by
 intro u hu
 simp only [List.mem_flatten, flRows, List.mem_map] at hu
 obtain ⟨l, ⟨f, _, rfl⟩, hu⟩ := hu
 simp only [FlS.cells, List.mem_cons, List.not_mem_nil, or_false] at hu
 rcases hu with rfl | rfl | rfl | rfl | rfl <;> rfl
theorem inr_one (fs : List Int) : ∀ u ∈ (inRows fs).flatten, u.oneCell' = true := by
 intro u hu
 simp only [List.mem_flatten, inRows, List.mem_map] at hu
 obtain ⟨l, ⟨f, _, rfl⟩, hu⟩ := hu
 simp only [List.mem_cons, List.not_mem_nil, or_false] at hu
 subst hu; rfl
theorem nmr_one (fs : List NmS) : ∀ u ∈ (nmRows fs).flatten, u.oneCell' = true := by
 intro u hu
 simp only [List.mem_flatten, nmRows, List.mem_map] at hu
 obtain ⟨l, ⟨f, _, rfl⟩, hu⟩ := hu
 simp only [NmS.cells, List.mem_cons, List.not_mem_nil, or_false] at hu
 rcases hu with rfl | rfl <;> rfl
theorem mtr_one (fs : List MtS) : ∀ u ∈ (mtRows fs).flatten, u.oneCell' = true := by
 intro u hu
 simp only [List.mem_flatten, mtRows, List.mem_map] at hu
 obtain ⟨l, ⟨f, _, rfl⟩, hu⟩ := hu
 simp only [MtS.cells, List.mem_cons, List.not_mem_nil, or_false] at hu
 rcases hu with rfl | rfl | rfl <;> rfl
end Go.Proofs.YtcjfeandnmochaaGreatDoor
namespace Go.Proofs.YtcjfeandnmochaaGreatDoor
open Go.ChangeShapes Go.WideShapes Go.ChangeAt Go.RowKit Go.Sort Go.Lib
set_option linter.unusedVariables false
set_option linter.unusedSimpArgs false
set_option maxRecDepth 20000
theorem below_grow (w : World) (q : Nat) (os : Array Obj) : RowKit.Below w.heap.size w (grow (w.drewN q) os) :=
 ⟨rfl, rfl, rfl, by simp [grow, World.drewN], fun k hk => by simp [grow, World.drewN, Array.getElem?_append_left hk]⟩
theorem flatK_list {α : Type} [Inhabited α] (enc : α → List Value) (k : Nat) (hk0 : 0 < k) (hk : ∀ x, (enc x).length = k) (l : List α) : (flatK enc k l.toArray).toList = (l.map enc).flatten := by
 have hlen : ((l.map enc).flatten).length = l.length * k := by
  rw [flat_len (l.map enc) (fun r hr => by obtain ⟨x, _, rfl⟩ := List.mem_map.1 hr; exact hk x), List.length_map]
 apply List.ext_getElem?
 intro t
 by_cases ht : t < l.length * k
 ·have hi : t / k < l.length := (Nat.div_lt_iff_lt_mul hk0).2 ht
  have hj : t % k < k := Nat.mod_lt _ hk0
  have e1 : (l.map enc)[t / k]? = some (enc l[t / k]) := by simp [hi]
  have e2 : (enc l[t / k])[t % k]? = some ((enc l[t / k])[t % k]'(by rw [hk]; exact hj)) := List.getElem?_eq_getElem _
  have := flat_get (l.map enc) (fun r hr => by obtain ⟨x, _, rfl⟩ := List.mem_map.1 hr; exact hk x) (t / k) _ e1 (t % k) _ e2
  rw [Nat.div_add_mod' t k] at this
  rw [this]
  unfold flatK
  simp [ht]
  have hg : l[t / k]?.getD default = l[t / k] := by simp [hi]
  rw [hg, List.getElem?_eq_getElem (by rw [hk]; exact hj)]
  rfl
 ·rw [List.getElem?_eq_none (by simp [size_flatK]; omega), List.getElem?_eq_none (by omega)]
theorem take_put (cur F : Array Value) (h : F.size ≤ cur.size) : (putCells id 0 F cur).toList.take F.size = F.toList := by
 apply List.ext_getElem?
 intro i
 by_cases hi : i < F.size
 ·rw [List.getElem?_take_of_lt hi]
  have hc : i < cur.size := by omega
  simp [putCells, hi, hc]
 ·rw [List.getElem?_eq_none (by simp; omega), List.getElem?_eq_none (by simp; omega)]
theorem own_put {w : World} {B e k g n cap m : Nat} {xs : List Value} {F : Array Value} {os : Array Obj} (h : w.ownsRow B e k (.slice (some ⟨g, 0, none⟩) n cap) n xs) (hF : F.size = n * k) :
  (grow (putRow id (Sort.ahead w m) g 0 F) os).ownsRow B e k (.slice (some ⟨g, 0, none⟩) n cap) n F.toList ∧ Kp (fun b => b = g) w (grow (putRow id (Sort.ahead w m) g 0 F) os) := by
 rcases h.2 with ⟨h0, _⟩ | ⟨q, cap', cur, h1, h2, h3, h4, h5, h6, h7⟩
 ·cases h0
 ·simp only [Value.slice.injEq, Option.some.injEq, Addr.mk.injEq] at h1
  obtain ⟨⟨rfl, _⟩, _, rfl⟩ := h1
  have hg : g < w.heap.size := (Array.getElem?_eq_some_iff.1 h3).1
  have hb : ∀ b, b < w.heap.size → b ≠ g → (grow (putRow id (Sort.ahead w m) g 0 F) os).heap[b]? = w.heap[b]? := by
   intro b hb hne
   show ((putRow id (Sort.ahead w m) g 0 F).heap ++ os)[b]? = _
   rw [Array.getElem?_append_left (by rw [size_putRow]; exact hb)]
   show ((Sort.ahead w m).heap.modify g _)[b]? = _
   rw [Array.getElem?_modify, if_neg (Ne.symm hne)]
   rfl
  have hbg : (grow (putRow id (Sort.ahead w m) g 0 F) os).heap[g]? = some (.cells (putCells id 0 F cur) e (0, 0)) := by
   show ((putRow id (Sort.ahead w m) g 0 F).heap ++ os)[g]? = _
   rw [Array.getElem?_append_left (by rw [size_putRow]; exact hg)]
   show ((Sort.ahead w m).heap.modify g _)[g]? = _
   rw [Array.getElem?_modify, if_pos rfl]
   show Option.map _ w.heap[g]? = _
   rw [h3]; rfl
  refine ⟨⟨by simpa using hF, .inr ⟨g, cap, putCells id 0 F cur, rfl, h2, hbg, h4, h5, by simpa [putCells] using h6, ?_⟩⟩, ⟨rfl, rfl, rfl, ?_, fun b hb' hs => hb b hb' hs⟩⟩
  ·rw [← hF]
   exact take_put cur F (by rw [hF, h6]; exact Nat.mul_le_mul_right _ h4)
  ·show w.heap.size ≤ ((putRow id (Sort.ahead w m) g 0 F).heap ++ os).size
   rw [Array.size_append, size_putRow]; exact Nat.le_add_right _ _
theorem own_holds {w : World} {B e k g n cap : Nat} {F : Array Value} (h : w.ownsRow B e k (.slice (some ⟨g, 0, none⟩) n cap) n F.toList) : Holds id w g 0 F := by
 intro j hj
 have h2 : F.toList[j]? = some (F[j]!) := by
  rw [getElem!_pos F j hj]; simp [hj]
 have := h.cells (g := g) rfl j _ h2
 rw [Addr.add_lit] at this
 exact ⟨this, own_froz h (0 + j)⟩
theorem own_holdsK {α : Type} [Inhabited α] {enc : α → List Value} {k : Nat} (hk0 : 0 < k) (hk : ∀ x, (enc x).length = k) {w : World} {B e g n cap : Nat} {l : List α} (h : w.ownsRow B e k (.slice (some ⟨g, 0, none⟩) n cap) n (l.map enc).flatten) : HoldsK enc k w g 0 l.toArray := by
 refine own_holds (B := B) (e := e) (k := k) (n := n) (cap := cap) (F := flatK enc k l.toArray) ?_
 rw [flatK_list enc k hk0 hk l]
 exact h
theorem own_sortedK {α : Type} [Inhabited α] {enc : α → List Value} {k : Nat} (hk0 : 0 < k) (hk : ∀ x, (enc x).length = k) {w : World} {B e g n cap m : Nat} {xs : List Value} {d : Array α} {os : Array Obj} (h : w.ownsRow B e k (.slice (some ⟨g, 0, none⟩) n cap) n xs) (hd : d.size = n) :
  (sortWorldK enc k w g 0 m d os).ownsRow B e k (.slice (some ⟨g, 0, none⟩) n cap) n (d.toList.map enc).flatten ∧ Kp (fun b => b = g) w (sortWorldK enc k w g 0 m d os) := by
 have := own_put (m := m) (os := os) h (F := flatK enc k d) (by rw [size_flatK, hd])
 have e1 : (flatK enc k d).toList = (d.toList.map enc).flatten := flatK_list enc k hk0 hk d.toList
 rw [e1] at this
 exact this
theorem own_sortedI {w : World} {B g n cap m : Nat} {xs : List Value} {ns : List Int} {os : Array Obj} (h : w.ownsRow B 3 1 (.slice (some ⟨g, 0, none⟩) n cap) n xs) (hd : ns.length = n) :
  (grow (putRow (Value.int .i64) (Sort.ahead w m) g 0 ns.toArray) os).ownsRow B 3 1 (.slice (some ⟨g, 0, none⟩) n cap) n (inRows ns).flatten ∧ Kp (fun b => b = g) w (grow (putRow (Value.int .i64) (Sort.ahead w m) g 0 ns.toArray) os) := by
 have e1 : putRow (Value.int .i64) (Sort.ahead w m) g 0 ns.toArray = putRow id (Sort.ahead w m) g 0 (ns.map (Value.int .i64)).toArray := by
  unfold putRow
  apply mapBlock_congr
  intro c e fr _
  unfold putCells
  simp only [List.size_toArray, List.length_map]
  apply Array.ext_getElem?
  intro i
  simp only [Array.getElem?_mapIdx]
  cases c[i]? with
  | none => rfl
  | some x =>
   simp only [Option.map_some]
   congr 1
   split
   ·rename_i hi
    have : i < ns.length := by omega
    simp [this]
   ·rfl
 rw [e1]
 have := own_put (m := m) (os := os) h (F := (ns.map (Value.int .i64)).toArray) (by simp [hd])
 have e2 : (ns.map (Value.int .i64)) = (inRows ns).flatten := by
  clear this e1 hd
  induction ns with
  | nil => rfl
  | cons a l ih => rw [List.map_cons, ih]; rfl
 simpa [e2] using this
theorem own_holdsI {w : World} {B g n cap : Nat} {ns : List Int} (h : w.ownsRow B 3 1 (.slice (some ⟨g, 0, none⟩) n cap) n (inRows ns).flatten) : Holds (Value.int .i64) w g 0 ns.toArray := by
 intro j hj
 have hj' : j < ns.length := by simpa using hj
 have h2 : (inRows ns)[j]? = some [.int .i64 ns[j]] := by simp [inRows, hj']
 have := own_at (inr_len ns) h h2 (j := 0) rfl
 rw [Nat.mul_one, Nat.add_zero] at this
 refine ⟨?_, own_froz h (0 + j)⟩
 rw [Nat.zero_add, this, getElem!_pos ns.toArray j hj]
 simp
end Go.Proofs.YtcjfeandnmochaaGreatDoor
namespace Go.Proofs.YtcjfeandnmochaaGreatDoor
open Go.ChangeShapes Go.WideShapes Go.ChangeAt Go.RowKit
set_option linter.unusedVariables false
set_option linter.unusedSimpArgs false
set_option maxRecDepth 20000
theorem nml_len (l : List NmS) : ∀ x ∈ nmRows l, x.length = 2 := fun x hx => by simp only [nmRows, List.mem_map] at hx; obtain ⟨_, _, rfl⟩ := hx; rfl
end Go.Proofs.YtcjfeandnmochaaGreatDoor
namespace Go.Proofs.YtcjfeandnmochaaGreatDoor
set_option linter.unusedVariables false
set_option linter.unusedSimpArgs false
def canonM (m : MsS) : MsS := ⟨m.name, srtF FlS.tag m.fields, srtF (fun x => x) m.reserved⟩
def canonE (e : EnS) : EnS := ⟨e.name, srtF NmS.n e.values⟩
def canonS (s : ScS) : ScS := ⟨s.name, s.msgs.map canonM, s.enums.map canonE, s.methods⟩
def plabL (n : Int) : List UInt8 := if n = 2 then [111, 112, 116, 105, 111, 110, 97, 108, 32] else if n = 3 then [114, 101, 112, 101, 97, 116, 101, 100, 32] else []
def wordL (k : Int) (t : ByteArray) : List UInt8 :=
 if k = 1 then [105, 110, 116, 51, 50] else if k = 2 then [105, 110, 116, 54, 52] else if k = 3 then [98, 111, 111, 108] else if k = 4 then [116, 101, 120, 116] else if k = 5 then [98, 121, 116, 101, 115] else t.data.toList
def fieldL (f : FlS) : List UInt8 := [32, 32] ++ plabL f.label ++ wordL f.kind f.tname ++ [32] ++ f.name.data.toList ++ [32, 61, 32] ++ Lib.itoa f.tag ++ [59, 10]
def numsL (ns : List Int) : List UInt8 := Lib.join (ns.map Lib.itoa) [44, 32]
def resL (ns : List Int) : List UInt8 := if ns = [] then [] else [32, 32, 114, 101, 115, 101, 114, 118, 101, 100, 32] ++ numsL ns ++ [59, 10]
def msgL (m : MsS) : List UInt8 := [109, 101, 115, 115, 97, 103, 101, 32] ++ m.name.data.toList ++ [32, 123, 10] ++ (m.fields.map fieldL).flatten ++ resL m.reserved ++ [125, 10]
def valL (v : NmS) : List UInt8 := [32, 32] ++ v.name.data.toList ++ [32, 61, 32] ++ Lib.itoa v.n ++ [59, 10]
def enumL (e : EnS) : List UInt8 := [101, 110, 117, 109, 32] ++ e.name.data.toList ++ [32, 123, 10] ++ (e.values.map valL).flatten ++ [125, 10]
def methL (m : MtS) : List UInt8 := [99, 97, 108, 108, 32] ++ m.name.data.toList ++ [40] ++ m.inn.data.toList ++ [41, 32, 114, 101, 116, 117, 114, 110, 115, 32, 40] ++ m.out.data.toList ++ [41, 59, 10]
def textL (s : ScS) : List UInt8 := [115, 99, 104, 101, 109, 97, 32] ++ s.name.data.toList ++ [59, 10] ++ (s.msgs.map msgL).flatten ++ (s.enums.map enumL).flatten ++ (s.methods.map methL).flatten
def printL (s : ScS) : List UInt8 := textL (canonS s)
def printB (s : ScS) : ByteArray := ⟨(printL s).toArray⟩
end Go.Proofs.YtcjfeandnmochaaGreatDoor
namespace Go.Proofs.YtcjfeandnmochaaGreatDoor
open Go.ChangeShapes Go.WideShapes Go.ChangeAt Go.RowKit
set_option linter.unusedVariables false
set_option linter.unusedSimpArgs false
set_option maxRecDepth 20000
def insL {α : Type} (L : List α) (x : α) (i : Nat) : List α := L.take i ++ x :: L.drop i
theorem insL_end {α : Type} (L : List α) (x : α) (i : Nat) (h : L.length = i) : insL L x i = L ++ [x] := by
 unfold insL
 rw [List.take_of_length_le (by omega), List.drop_of_length_le (by omega)]
theorem insL_len {α : Type} (L : List α) (x : α) (i : Nat) (h : i ≤ L.length) : (insL L x i).length = L.length + 1 := by
 unfold insL
 simp; omega
theorem insL_step {α : Type} {L : List α} {x y : α} {p : Nat} (hy : L[p]? = some y) :
  (insL L x (p + 1))[p + 1]? = some x ∧ (insL L x (p + 1))[p]? = some y ∧ ((insL L x (p + 1)).set (p + 1) y).set p x = insL L x p := by
 obtain ⟨hp, rfl⟩ := List.getElem?_eq_some_iff.1 hy
 have dy : L.drop p = L[p] :: L.drop (p + 1) := List.drop_eq_getElem_cons hp
 have ty : L.take (p + 1) = L.take p ++ [L[p]] := by rw [List.take_add_one, hy]; rfl
 have e : insL L x (p + 1) = L.take p ++ L[p] :: x :: L.drop (p + 1) := by
  unfold insL; rw [ty]; simp only [List.append_assoc, List.cons_append, List.nil_append]
 have e2 : insL L x p = L.take p ++ x :: L[p] :: L.drop (p + 1) := by
  unfold insL; rw [dy]
 have l1 : (L.take p).length = p := by simp; omega
 rw [e, e2]
 generalize L.take p = U at *
 generalize L[p] = y at *
 rw [← l1]
 refine ⟨?_, ?_, ?_⟩
 ·rw [List.getElem?_append_right (by omega), show U.length + 1 - U.length = 1 by omega]; rfl
 ·rw [List.getElem?_append_right (Nat.le_refl _), Nat.sub_self]; rfl
 ·rw [List.set_append_right _ _ (by omega), show U.length + 1 - U.length = 1 by omega, List.set_append_right _ _ (Nat.le_refl _), Nat.sub_self]
  rfl
theorem ins_at {α : Type} {key : α → Int} {x : α} : ∀ {l : List α} {i : Nat}, UpK key l → i ≤ l.length → (∀ y ∈ l.drop i, key x < key y) → (i = 0 ∨ ∃ y, l[i - 1]? = some y ∧ ¬ key x < key y) → insK key x l = insL l x i
 | [], i, _, h, _, _ => by
  have : i = 0 := by simpa using h
  subst this
  rfl
 | y :: l, 0, _, _, h, _ => by
  unfold insK insL
  rw [if_pos (h y (by simp))]
  rfl
 | y :: l, i + 1, hu, hl, h, h2 => by
  have hu' := hu
  unfold UpK at hu'
  rw [List.pairwise_cons] at hu'
  rcases h2 with h2 | ⟨z, hz, hn⟩
  ·omega
  ·rw [Nat.add_sub_cancel] at hz
   have hyz : key y ≤ key z := by
    rcases i with _ | i
    ·simp at hz; subst hz; omega
    ·rw [List.getElem?_cons_succ] at hz
     exact hu'.1 z (List.mem_of_getElem? hz)
   unfold insK
   rw [if_neg (by omega)]
   have := ins_at (key := key) (x := x) (l := l) (i := i) hu'.2 (by simpa using hl) (by simpa using h) (by
    rcases i with _ | i
    ·exact .inl rfl
    ·exact .inr ⟨z, by simpa using hz, hn⟩)
   rw [this]
   rfl
theorem srt_more {α : Type} {key : α → Int} {l : List α} {j i : Nat} {x : α} (hx : l[j]? = some x) (hi : i ≤ j) (hj : j ≤ l.length) (h1 : ∀ y ∈ (srtF key (l.take j)).drop i, key x < key y) (h2 : i = 0 ∨ ∃ y, (srtF key (l.take j))[i - 1]? = some y ∧ ¬ key x < key y) :
  srtF key (l.take (j + 1)) = insL (srtF key (l.take j)) x i := by
 rw [List.take_add_one, hx]
 show srtF key (l.take j ++ [x]) = _
 rw [srtF_snoc]
 exact ins_at (srtF_srt key _).1 (by rw [srtF_len, List.length_take]; omega) h1 h2
theorem more_step {α : Type} {key : α → Int} {L : List α} {x y : α} {p : Nat} (hy : L[p]? = some y) (h : ∀ z ∈ L.drop (p + 1), key x < key z) (hl : key x < key y) : ∀ z ∈ L.drop p, key x < key z := by
 obtain ⟨hp, rfl⟩ := List.getElem?_eq_some_iff.1 hy
 intro z hz
 rw [List.drop_eq_getElem_cons hp] at hz
 rcases List.mem_cons.1 hz with rfl | hz
 ·exact hl
 ·exact h z hz
theorem set5 {rs : List (List Value)} (hl : ∀ r ∈ rs, r.length = 5) {k : Nat} (hk : k < rs.length) (a b c d e : Value) : ((((rs.flatten.set (k * 5) a).set (k * 5 + 1) b).set (k * 5 + 2) c).set (k * 5 + 3) d).set (k * 5 + 4) e = (rs.set k [a, b, c, d, e]).flatten := by
 obtain ⟨r, hr⟩ : ∃ r, rs[k]? = some r := ⟨_, List.getElem?_eq_getElem hk⟩
 have h3 := hl r (List.mem_of_getElem? hr)
 match r, h3 with
 | [x0, x1, x2, x3, x4], _ =>
  have l1 : ∀ (t : List Value), t.length = 5 → ∀ q ∈ rs.set k t, q.length = 5 := fun t ht q hq => by
   rcases List.mem_or_eq_of_mem_set hq with h | rfl
   ·exact hl q h
   ·exact ht
  have e1 := flat_set rs hl k _ hr 0 a (by decide)
  rw [Nat.add_zero] at e1
  rw [e1]
  have e2 := flat_set _ (l1 [a, x1, x2, x3, x4] rfl) k _ (by rw [List.getElem?_set_self hk]) 1 b (by decide)
  have e3 := flat_set _ (l1 [a, b, x2, x3, x4] rfl) k _ (by rw [List.getElem?_set_self hk]) 2 c (by decide)
  have e4 := flat_set _ (l1 [a, b, c, x3, x4] rfl) k _ (by rw [List.getElem?_set_self hk]) 3 d (by decide)
  have e5 := flat_set _ (l1 [a, b, c, d, x4] rfl) k _ (by rw [List.getElem?_set_self hk]) 4 e (by decide)
  simp only [List.set_cons_zero, List.set_cons_succ, List.set_set] at e2 e3 e4 e5 ⊢
  rw [e2, e3, e4, e5]
theorem own_putF {w : World} {B q n cap : Nat} {l : List FlS} (h : w.ownsRow B 90 5 (.slice (some ⟨q, 0, none⟩) n cap) n (flRows l).flatten) {i : Nat} (hi : i < l.length) (x : FlS) :
  (((((w.setCell ⟨q, i * 5, none⟩ (.string x.name)).setCell ⟨q, i * 5 + 1, none⟩ (.int .i64 x.tag)).setCell ⟨q, i * 5 + 2, none⟩ (.int .i64 x.label)).setCell ⟨q, i * 5 + 3, none⟩ (.int .i64 x.kind)).setCell ⟨q, i * 5 + 4, none⟩ (.string x.tname)).ownsRow B 90 5 (.slice (some ⟨q, 0, none⟩) n cap) n (flRows (l.set i x)).flatten := by
 have h1 := own_set (own_set (own_set (own_set (own_set h (j := i * 5) (.string x.name)) (j := i * 5 + 1) (.int .i64 x.tag)) (j := i * 5 + 2) (.int .i64 x.label)) (j := i * 5 + 3) (.int .i64 x.kind)) (j := i * 5 + 4) (.string x.tname)
 rw [set5 (fl_len l) (by simpa [flRows] using hi)] at h1
 have e1 : (flRows l).set i [Value.string x.name, Value.int .i64 x.tag, Value.int .i64 x.label, Value.int .i64 x.kind, Value.string x.tname] = flRows (l.set i x) := by simp [flRows, List.map_set, FlS.cells]
 rw [e1] at h1
 exact h1
theorem own_putI {w : World} {B q n cap : Nat} {l : List Int} (h : w.ownsRow B 3 1 (.slice (some ⟨q, 0, none⟩) n cap) n (inRows l).flatten) {i : Nat} (hi : i < l.length) (x : Int) :
  (w.setCell ⟨q, i, none⟩ (.int .i64 x)).ownsRow B 3 1 (.slice (some ⟨q, 0, none⟩) n cap) n (inRows (l.set i x)).flatten := by
 have h1 := own_set h (j := i) (.int .i64 x)
 have e1 : ∀ k : List Int, (inRows k).flatten = k.map (fun n => Value.int .i64 n) := by
  intro k
  induction k with
  | nil => rfl
  | cons a k ih => simp only [inRows, List.map_cons, List.flatten_cons] at ih ⊢; rw [ih]; rfl
 rw [e1, ← List.map_set, ← e1] at h1
 exact h1
theorem own_putN {w : World} {B q n cap : Nat} {l : List NmS} (h : w.ownsRow B 96 2 (.slice (some ⟨q, 0, none⟩) n cap) n (nmRows l).flatten) {i : Nat} (hi : i < l.length) (x : NmS) :
  ((w.setCell ⟨q, i * 2, none⟩ (.string x.name)).setCell ⟨q, i * 2 + 1, none⟩ (.int .i64 x.n)).ownsRow B 96 2 (.slice (some ⟨q, 0, none⟩) n cap) n (nmRows (l.set i x)).flatten := by
 have h1 := own_set (own_set h (j := i * 2) (.string x.name)) (j := i * 2 + 1) (.int .i64 x.n)
 rw [set2 (nml_len l) (by simpa [nmRows] using hi)] at h1
 have e1 : (nmRows l).set i [Value.string x.name, Value.int .i64 x.n] = nmRows (l.set i x) := by simp [nmRows, List.map_set, NmS.cells]
 rw [e1] at h1
 exact h1
theorem cells_fresh (w : World) (cs : Array Value) (t : TypeId) : ∀ j u, cs.toList[j]? = some u → (w.alloc (.cells cs t)).cell? ((⟨w.heap.size, 0, none⟩ : Addr).add j) = some u := by
 intro j u hu
 rw [Addr.add_lit, Nat.zero_add, World.cell?_alloc_at _ _ _ _ rfl]
 simpa using hu
theorem inl_len (l : List Int) : ∀ x ∈ inRows l, x.length = 1 := fun x hx => by simp only [inRows, List.mem_map] at hx; obtain ⟨_, _, rfl⟩ := hx; rfl
theorem in_get {fs : List Int} {i : Nat} {f : Int} (h : fs[i]? = some f) : (inRows fs)[i]? = some [.int .i64 f] := by simp [inRows, h]
theorem nm_get {fs : List NmS} {i : Nat} {f : NmS} (h : fs[i]? = some f) : (nmRows fs)[i]? = some f.cells := by simp [nmRows, h]
structure RotAt (R L : List NmS) (m i j : Nat) (A X Y B : List NmS) : Prop where
 row : L = A ++ X ++ Y ++ B
 goal : A ++ Y ++ X ++ B = R
 hi : X.length = i
 hj : Y.length = j
 hm : A.length + i = m
theorem RotAt.left {R L : List NmS} {m i j : Nat} {A X Y B : List NmS} (h : RotAt R L m i j A X Y B) (hij : j < i) : RotAt R (A ++ Y ++ X.drop j ++ X.take j ++ B) m (i - j) j (A ++ Y) (X.drop j) (X.take j) B := by
 have h1 := h.hi
 have h2 := h.hj
 have h3 := h.hm
 refine ⟨rfl, ?_, by rw [List.length_drop]; omega, by rw [List.length_take]; omega, by rw [List.length_append]; omega⟩
 rw [← h.goal, List.append_assoc (A ++ Y), List.take_append_drop]
theorem RotAt.right {R L : List NmS} {m i j : Nat} {A X Y B : List NmS} (h : RotAt R L m i j A X Y B) (hij : i < j) : RotAt R (A ++ Y.drop (j - i) ++ Y.take (j - i) ++ (X ++ B)) m i (j - i) A (Y.drop (j - i)) (Y.take (j - i)) (X ++ B) := by
 have h1 := h.hi
 have h2 := h.hj
 have h3 := h.hm
 refine ⟨rfl, ?_, by rw [List.length_drop]; omega, by rw [List.length_take]; omega, by omega⟩
 rw [← h.goal, List.append_assoc A, List.take_append_drop, List.append_assoc (A ++ Y)]
theorem wrapN (x : Int) (h1 : -9223372036854775808 ≤ x) (h2 : x ≤ 9223372036854775807) : IntKind.i64.wrap x = x := by rw [IntKind.wrap_i64]; omega
end Go.Proofs.YtcjfeandnmochaaGreatDoor
namespace Go.Proofs.YtcjfeandnmochaaGreatDoor
open Go.ChangeShapes Go.WideShapes Go.ChangeAt Go.RowKit
set_option linter.unusedVariables false
set_option linter.unusedSimpArgs false
def ApR (ps : List (Value × Value)) : Prop := ∀ (i j : Nat) (p q : Value × Value) (k : Nat), ps[i]? = some p → ps[j]? = some q → p.2.ownBlock = some k → q.2.ownBlock = some k → i = j
def ApE (ps : List Value) : Prop := ∀ (i j : Nat) (p q : Value) (k : Nat), ps[i]? = some p → ps[j]? = some q → p.ownBlock = some k → q.ownBlock = some k → i = j
theorem ApR.nil : ApR [] := fun i j p q k hp => by simp at hp
theorem ApE.nil : ApE [] := fun i j p q k hp => by simp at hp
theorem ApR.snoc {ps : List (Value × Value)} {vf vr : Value} {H : Nat} (h : ApR ps) (hH : ∀ (i : Nat) (p : Value × Value) (k : Nat), ps[i]? = some p → p.2.ownBlock = some k → k < H) (hr : ∀ k, vr.ownBlock = some k → H ≤ k) : ApR (ps ++ [(vf, vr)]) := by
 intro i j p q k hp hq hpk hqk
 rcases get_snoc hp with ⟨hi, hp⟩ | ⟨hi, rfl⟩
 ·rcases get_snoc hq with ⟨hj, hq⟩ | ⟨hj, rfl⟩
  ·exact h i j p q k hp hq hpk hqk
  ·have a1 := hH i p k hp hpk
   have a2 := hr k hqk
   omega
 ·rcases get_snoc hq with ⟨hj, hq⟩ | ⟨hj, rfl⟩
  ·have a1 := hH j q k hq hqk
   have a2 := hr k hpk
   omega
  ·omega
theorem ApE.snoc {ps : List Value} {vr : Value} {H : Nat} (h : ApE ps) (hH : ∀ (i : Nat) (p : Value) (k : Nat), ps[i]? = some p → p.ownBlock = some k → k < H) (hr : ∀ k, vr.ownBlock = some k → H ≤ k) : ApE (ps ++ [vr]) := by
 intro i j p q k hp hq hpk hqk
 rcases get_snoc hp with ⟨hi, hp1⟩ | ⟨hi, ep⟩
 ·rcases get_snoc hq with ⟨hj, hq1⟩ | ⟨hj, eq⟩
  ·exact h i j p q k hp1 hq1 hpk hqk
  ·have a1 := hH i p k hp1 hpk
   rw [eq] at hqk
   have a2 := hr k hqk
   omega
 ·rcases get_snoc hq with ⟨hj, hq1⟩ | ⟨hj, eq⟩
  ·have a1 := hH j q k hq1 hqk
   rw [ep] at hpk
   have a2 := hr k hpk
   omega
  ·omega
end Go.Proofs.YtcjfeandnmochaaGreatDoor
namespace Go.Proofs.YtcjfeandnmochaaGreatDoor
set_option linter.unusedVariables false
set_option linter.unusedSimpArgs false
theorem rg_take {P : Program} {md : Region.Mode} {ops : Array Oper} {Q : Exit → Act → World → Prop} {S : World → Prop} {oi : Oper} {fuel : Nat} {listed listed' : Array Bool} {a : Act} {w : World} (i d : Nat) (v : Value) (tmps' : Array Value) (hi : ops[i]? = some oi) (hd : oi.dst = some d)
  (hs : Region.noSelect ops = true) (hf : Region.free md ops listed i = true) (hr : (Region.ready md ops listed).contains i = true)
  (hQ : ∀ c a w, Q (.panic c) (a.put oi.dst v) w → Q (.panic c) a w) (hwt : Region.wanted oi (yielded ops a.tmps) = true) (hy : ∀ w, S w → (execOp a.eval oi).run P w = .ok (.value v) w) (hS : S w)
  (hl : listed.setIfInBounds i true = listed') (ht : a.tmps.setIfInBounds d v = tmps')
  (h : wpAnyH P md ops Q S fuel listed' { a with tmps := tmps' } w) : wpAnyH P md ops Q S (fuel + 1) listed a w := by
 subst hl ht
 refine wpAnyH_take hi hs hf hr hQ (.inl ⟨hwt, hy⟩) hS ?_
 rw [hd]
 exact h
theorem rg_call {P : Program} {md : Region.Mode} {ops : Array Oper} {Q : Exit → Act → World → Prop} {S : World → Prop} {oi : Oper} {fuel : Nat} {listed listed' : Array Bool} {a : Act} {w : World} (i d f : Nat) (vals : Array Value) (hi : ops[i]? = some oi) (hd : oi.dst = some d)
  (hr : Region.ready md ops listed = [i]) (hwt : Region.wanted oi (yielded ops a.tmps) = true) (hl : listed.setIfInBounds i true = listed') (hx : ∀ w, (execOp a.eval oi).run P w = .ok (.enter f vals) w)
  (h : Calls P f vals w fun e w' => ∃ v, e = .returned v ∧ S w' ∧ wpAnyH P md ops Q S fuel listed' { a with tmps := a.tmps.setIfInBounds d v } w') : wpAnyH P md ops Q S (fuel + 1) listed a w := by
 subst hl
 refine wpAnyH_ready (rs := [i]) hr (by simp) (AllReadyH.cons hi (fun K hK => ?_) AllReadyH.nil)
 rw [if_pos hwt]
 unfold Oper.wp
 rw [hx]
 refine Calls.mono h ?_
 rintro e w' ⟨v, rfl, hS, h'⟩
 refine hK.out _ _ hS (fun _ => ?_)
 rw [hd]
 exact h'
theorem rg_run {P : Program} {md : Region.Mode} {ops : Array Oper} {Q : Exit → Act → World → Prop} {S : World → Prop} {oi : Oper} {fuel : Nat} {listed listed' : Array Bool} {a : Act} {w : World} (i d : Nat) (v : Value) (w' : World) (hi : ops[i]? = some oi) (hd : oi.dst = some d)
  (hr : Region.ready md ops listed = [i]) (hwt : Region.wanted oi (yielded ops a.tmps) = true) (hl : listed.setIfInBounds i true = listed') (hx : (execOp a.eval oi).run P w = .ok (.value v) w') (hS : S w')
  (h : wpAnyH P md ops Q S fuel listed' { a with tmps := a.tmps.setIfInBounds d v } w') : wpAnyH P md ops Q S (fuel + 1) listed a w := by
 subst hl
 refine wpAnyH_ready (rs := [i]) hr (by simp) (AllReadyH.cons hi (fun K hK => ?_) AllReadyH.nil)
 rw [if_pos hwt]
 unfold Oper.wp
 rw [hx]
 refine hK.out _ _ hS (fun _ => ?_)
 rw [hd]
 exact h
theorem append_run {P : Program} {a : Act} {w w' : World} {o : Oper} {s x : Operand} {t u : TypeId} {v y v' : Value} (ho : o.op = .call { callee := .builtin .append, args := #[s, x], argTypes := #[t, u] }) (hs : a.eval s = v) (hx : a.eval x = y)
  (hr : (Builtin.append_ #[t, u] o.type #[v, y]).run P w = .ok v' w') : (execOp a.eval o).run P w = .ok (.value v') w' := by
 unfold execOp
 simp only [ho, resolve, invoke, builtin, Sem.run_bind, Sem.run_pure, Result.andThen_ok, List.map_toArray, List.map_cons, List.map_nil, hs, hx, hr]
theorem set_comm2 {α : Type} (a : Array α) {i j : Nat} (h : i ≠ j) (x y : α) : (a.setIfInBounds i x).setIfInBounds j y = (a.setIfInBounds j y).setIfInBounds i x := by
 apply Array.ext_getElem?
 intro k
 simp only [Array.getElem?_setIfInBounds, Array.size_setIfInBounds]
 by_cases h1 : i = k
 ·subst h1
  by_cases h2 : j = i
  ·exact absurd h2.symm h
  ·simp [h2]
 ·by_cases h2 : j = k <;> simp [h1, h2]
theorem rg_lcb {P : Program} {md : Region.Mode} {ops : Array Oper} {Q : Exit → Act → World → Prop} {fuel : Nat} {listed : Array Bool} {a : Act} {w : World} (i j k di dj dk : Nat) {oi oj ok : Oper} (vi : Value) (f : Nat) (vals : Array Value) (LD : World → Prop)
  (hi : ops[i]? = some oi) (hj : ops[j]? = some oj) (hk : ops[k]? = some ok) (hdi : oi.dst = some di) (hdj : oj.dst = some dj) (hdk : ok.dst = some dk)
  (hr0 : Region.ready md ops listed = [i, j]) (hri : Region.ready md ops (listed.setIfInBounds i true) = [j]) (hrj : Region.ready md ops (listed.setIfInBounds j true) = [i, k])
  (hrij : Region.ready md ops ((listed.setIfInBounds i true).setIfInBounds j true) = [k]) (hrjk : Region.ready md ops ((listed.setIfInBounds j true).setIfInBounds k true) = [i])
  (hwi : ∀ t, Region.wanted oi t = true) (hwj : ∀ t, Region.wanted oj t = true) (hwk : ∀ t, Region.wanted ok t = true) (hij : i ≠ j) (hik : i ≠ k) (dij : di ≠ dj) (dik : di ≠ dk)
  (hx0 : (execOp a.eval oi).run P w = .ok (.value vi) w) (hx1 : ∀ v W, LD W → (execOp ({ a with tmps := a.tmps.setIfInBounds dj v } : Act).eval oi).run P W = .ok (.value vi) W)
  (hx2 : ∀ v s W, LD W → (execOp ({ a with tmps := (a.tmps.setIfInBounds dj v).setIfInBounds dk s } : Act).eval oi).run P W = .ok (.value vi) W)
  (hxj0 : (execOp a.eval oj).run P w = .ok (.enter f vals) w) (hxj1 : ∀ W, (execOp ({ a with tmps := a.tmps.setIfInBounds di vi } : Act).eval oj).run P W = .ok (.enter f vals) W)
  (h : Calls P f vals w fun e w' => ∃ v, e = .returned v ∧ LD w' ∧ ∃ s w'', LD w'' ∧ (execOp ({ a with tmps := a.tmps.setIfInBounds dj v } : Act).eval ok).run P w' = .ok (.value s) w'' ∧
   (execOp ({ a with tmps := (a.tmps.setIfInBounds di vi).setIfInBounds dj v } : Act).eval ok).run P w' = .ok (.value s) w'' ∧
   wpAnyH P md ops Q (fun _ => True) fuel (((listed.setIfInBounds i true).setIfInBounds j true).setIfInBounds k true) { a with tmps := ((a.tmps.setIfInBounds di vi).setIfInBounds dj v).setIfInBounds dk s } w'') :
  wpAnyH P md ops Q (fun _ => True) (fuel + 3) listed a w := by
 refine wpAnyH_ready (rs := [i, j]) hr0 (by simp) (AllReadyH.cons hi (fun K hK => ?_) (AllReadyH.cons hj (fun K hK => ?_) AllReadyH.nil))
 ·rw [if_pos (hwi _)]
  unfold Oper.wp
  rw [hx0]
  refine hK.out _ _ trivial (fun _ => ?_)
  rw [hdi]
  refine rg_call j dj f vals hj hdj hri (hwj _) rfl (fun W => ?_) ?_
  ·exact hxj1 W
  ·refine h.mono ?_
   rintro e w' ⟨v, rfl, l1, s, w'', l2, b1, b2, h3⟩
   refine ⟨v, rfl, trivial, ?_⟩
   exact rg_run k dk s w'' hk hdk hrij (hwk _) rfl b2 trivial h3
 ·rw [if_pos (hwj _)]
  unfold Oper.wp
  rw [hxj0]
  refine Calls.mono h ?_
  rintro e w' ⟨v, rfl, l1, s, w'', l2, b1, b2, h3⟩
  refine hK.out _ _ trivial (fun _ => ?_)
  rw [hdj]
  refine wpAnyH_ready (rs := [i, k]) hrj (by simp) (AllReadyH.cons hi (fun K hK => ?_) (AllReadyH.cons hk (fun K hK => ?_) AllReadyH.nil))
  ·rw [if_pos (hwi _)]
   unfold Oper.wp
   have hh : (execOp (Act.put a (some dj) v).eval oi).run P w' = .ok (.value vi) w' := hx1 v w' l1
   rw [hh]
   refine hK.out _ _ trivial (fun _ => ?_)
   rw [hdi, set_comm2 listed (Ne.symm hij)]
   show wpAnyH P md ops Q _ _ _ ({ a with tmps := (a.tmps.setIfInBounds dj v).setIfInBounds di vi } : Act) w'
   rw [set_comm2 a.tmps (Ne.symm dij)]
   exact rg_run k dk s w'' hk hdk hrij (hwk _) rfl b2 trivial h3
  ·rw [if_pos (hwk _)]
   unfold Oper.wp
   have hh : (execOp (Act.put a (some dj) v).eval ok).run P w' = .ok (.value s) w'' := b1
   rw [hh]
   refine hK.out _ _ trivial (fun _ => ?_)
   rw [hdk]
   refine rg_run i di vi w'' hi hdi hrjk (hwi _) rfl (hx2 v s w'' l2) trivial ?_
   rw [set_comm2 _ (Ne.symm hik), set_comm2 listed (Ne.symm hij)]
   show wpAnyH P md ops Q _ _ _ ({ a with tmps := ((a.tmps.setIfInBounds dj v).setIfInBounds dk s).setIfInBounds di vi } : Act) w''
   rw [set_comm2 _ (Ne.symm dik), set_comm2 a.tmps (Ne.symm dij)]
   exact h3
theorem rg_store {P : Program} {md : Region.Mode} {ops : Array Oper} {Q : Exit → Act → World → Prop} {S : World → Prop} {oi : Oper} {fuel : Nat} {listed listed' : Array Bool} {a : Act} {w : World} (i : Nat) (w' : World) (hi : ops[i]? = some oi) (hd : oi.dst = none)
  (hr : Region.ready md ops listed = [i]) (hwt : Region.wanted oi (yielded ops a.tmps) = true) (hl : listed.setIfInBounds i true = listed') (hx : (execOp a.eval oi).run P w = .ok .skip w') (hS : S w')
  (h : wpAnyH P md ops Q S fuel listed' a w') : wpAnyH P md ops Q S (fuel + 1) listed a w := by
 subst hl
 refine wpAnyH_ready (rs := [i]) hr (by simp) (AllReadyH.cons hi (fun K hK => ?_) AllReadyH.nil)
 rw [if_pos hwt]
 unfold Oper.wp
 rw [hx]
 refine hK.out _ _ hS (fun _ => ?_)
 rw [hd]
 exact h
def wpAnyM (P : Program) (md : Region.Mode) (ops : Array Oper) (Q : Exit → Act → World → Prop) (T : World → Prop) (m : Nat) : Nat → Array Bool → Act → World → Prop
 | 0, listed, a, w => Region.ready md ops listed = [] ∧ Q .normal a w
 | fuel + 1, listed, a, w => (Region.ready md ops listed = [] → Q .normal a w) ∧
  ∀ i ∈ Region.ready md ops listed, wpOp P ops Q i (fun a' w' => ((listed.setIfInBounds i true).getD m true = false → T w') ∧ wpAnyM P md ops Q T m fuel (listed.setIfInBounds i true) a' w') a w
section
variable {P : Program} {md : Region.Mode} {ops : Array Oper} {Q : Exit → Act → World → Prop} {T : World → Prop} {m : Nat}
theorem M_any : ∀ (fuel : Nat) (listed : Array Bool) (a : Act) (w : World), wpAnyM P md ops Q T m fuel listed a w → wpAny P md ops Q fuel listed a w
 | 0, _, _, _, h => h
 | fuel + 1, _, _, _, h => ⟨h.1, fun i hi => wpOp_mono (fun a' w' h' => M_any fuel _ a' w' h'.2) (h.2 i hi)⟩
theorem M_done {listed : Array Bool} {a : Act} {w : World} (hr : Region.ready md ops listed = []) (h : Q .normal a w) : ∀ fuel, wpAnyM P md ops Q T m fuel listed a w
 | 0 => ⟨hr, h⟩
 | _ + 1 => ⟨fun _ => h, by rw [hr]; simp⟩
theorem M_region {id : Nat} {a : Act} {w : World} (hm : P.follows .mixedOrders = true) (h : wpAnyM P .any ops Q T m ops.size (Array.replicate ops.size false) a w.drew) : (Code.region id ops true).wp P Q a w :=
 wp_region_any hm (M_any _ _ _ _ h)
theorem M_first {i : Nat} {oi : Oper} {v : Value} (hi : ops[i]? = some oi) (hsel : ∀ (j : Nat) (o : Oper) cs b, ops[j]? = some o → o.op ≠ .select cs b)
  (hQ : ∀ c a w, Q (.panic c) (a.put oi.dst v) w → Q (.panic c) a w) (hmi : ∀ om, ops[m]? = some om → ∃ e ∈ om.after, Region.binds md e = true ∧ e.on = i) :
  ∀ (fuel : Nat) (listed : Array Bool) (a : Act) (w : World), listed.getD m true = false →
   (∀ j oj, ops[j]? = some oj → j ≠ i → listed.getD j true = false → (∀ e ∈ oj.after, Region.binds md e = true → e.on ≠ i) → oi.apart ops oj = true) →
   i ∈ Region.ready md ops listed → YieldsIf P ops T oi v a → T w →
   wpAnyM P md ops Q T m fuel (listed.setIfInBounds i true) (a.put oi.dst v) w → wpAnyM P md ops Q T m (fuel + 1) listed a w := by
 intro fuel
 induction fuel with
 | zero =>
  intro listed a w hlm _ hr hy hT H
  refine ⟨fun h => (by rw [h] at hr; cases hr), fun j hj => ?_⟩
  by_cases hji : j = i
  ·subst hji; exact hy.wpOp hi hT ⟨fun _ => hT, H⟩
  ·have h0 := ready_mono hj hji
   rw [H.1] at h0
   cases h0
 | succ fuel ih =>
  intro listed a w hlm hfree hr hy hT H
  refine ⟨fun h => (by rw [h] at hr; cases hr), fun j hj => ?_⟩
  by_cases hji : j = i
  ·subst hji; exact hy.wpOp hi hT ⟨fun _ => hT, H⟩
  ·have hH := H.2 j (ready_mono hj hji)
   obtain ⟨hjun, oj, hoj, hall⟩ := mem_ready.1 hj
   have hjm : j ≠ m := by
    intro e
    subst e
    obtain ⟨e, he, hb, hon⟩ := hmi oj hoj
    have hx := hall e he hb
    have h0 := (mem_ready.1 hr).1
    rw [hon] at hx
    rcases Nat.lt_or_ge i listed.size with h' | h'
    ·simp [h'] at h0 hx; rw [h0] at hx; cases hx
    ·simp [Array.getElem?_eq_none h'] at hx
   have hnot : ∀ e ∈ oj.after, Region.binds md e = true → e.on ≠ i := fun e he hb heq => by
    have hx := hall e he hb
    have h0 := (mem_ready.1 hr).1
    rw [heq] at hx
    rcases Nat.lt_or_ge i listed.size with h' | h'
    ·simp [h'] at h0 hx; rw [h0] at hx; cases hx
    ·simp [Array.getElem?_eq_none h'] at hx
   have h2 := wpOp_putIf hoj (hfree j oj hoj hji hjun hnot) (fun cs b => hsel i oi cs b hi) (fun cs b => hsel j oj cs b hoj) hQ hy hH
   have hlj : (listed.setIfInBounds j true).getD m true = false := by rw [getD_set_ne true hjm]; exact hlm
   have him : i ≠ m := by
    intro e
    subst e
    obtain ⟨e, he, hb, hon⟩ := hmi oi hi
    obtain ⟨h0, oi', hoi', hall'⟩ := mem_ready.1 hr
    rw [hi] at hoi'
    cases hoi'
    have hx := hall' e he hb
    rw [hon] at hx
    rcases Nat.lt_or_ge i listed.size with h' | h'
    ·simp [h'] at h0 hx; rw [h0] at hx; cases hx
    ·simp [Array.getElem?_eq_none h'] at hx
   have hlij : ((listed.setIfInBounds i true).setIfInBounds j true).getD m true = false := by rw [getD_set_ne true hjm, getD_set_ne true him]; exact hlm
   have hfree' : ∀ k ok, ops[k]? = some ok → k ≠ i → (listed.setIfInBounds j true).getD k true = false → (∀ e ∈ ok.after, Region.binds md e = true → e.on ≠ i) → oi.apart ops ok = true := fun k ok hk hki hun hno => by
    refine hfree k ok hk hki ?_ hno
    by_cases hjk : j = k
    ·subst hjk; exact hjun
    ·rw [getD_set_ne true hjk] at hun; exact hun
   refine wpOp_mono (fun a' w' h3 => ⟨fun _ => h3.2.1 hlij, ih (listed.setIfInBounds j true) a' w' hlj hfree' (ready_mono hr (Ne.symm hji)) h3.1 (h3.2.1 hlij) ?_⟩) h2
   rw [Array.setIfInBounds_comm _ _ hji]
   exact h3.2.2
theorem M_take {oi : Oper} {fuel : Nat} {listed listed' : Array Bool} {a : Act} {w : World} (i d : Nat) (v : Value) (tmps' : Array Value) (hi : ops[i]? = some oi) (hd : oi.dst = some d)
  (hs : Region.noSelect ops = true) (hf : Region.free md ops listed i = true) (hr : (Region.ready md ops listed).contains i = true) (hmi : ((ops[m]?).any fun om => om.after.any fun e => Region.binds md e && e.on == i) = true) (hlm : listed.getD m true = false)
  (hQ : ∀ c a w, Q (.panic c) (a.put oi.dst v) w → Q (.panic c) a w) (hwt : Region.wanted oi (yielded ops a.tmps) = true) (hy : ∀ w, T w → (execOp a.eval oi).run P w = .ok (.value v) w) (hT : T w)
  (hl : listed.setIfInBounds i true = listed') (ht : a.tmps.setIfInBounds d v = tmps')
  (h : wpAnyM P md ops Q T m fuel listed' { a with tmps := tmps' } w) : wpAnyM P md ops Q T m (fuel + 1) listed a w := by
 subst hl ht
 refine M_first hi (Region.noSelect_spec hs) hQ ?_ fuel listed a w hlm (Region.free_spec hi hf) (by simpa using hr) (.inl ⟨hwt, hy⟩) hT ?_
 ·intro om hom
  rw [hom] at hmi
  simp only [Option.any_some, Array.any_eq_true] at hmi
  obtain ⟨k, hk, hb⟩ := hmi
  simp only [Bool.and_eq_true, beq_iff_eq] at hb
  exact ⟨_, Array.getElem_mem hk, hb.1, hb.2⟩
 ·rw [hd]
  exact h
theorem M_run {oi : Oper} {fuel : Nat} {listed listed' : Array Bool} {a : Act} {w : World} (i d : Nat) (v : Value) (w' : World) (hi : ops[i]? = some oi) (hd : oi.dst = some d)
  (hr : Region.ready md ops listed = [i]) (hwt : Region.wanted oi (yielded ops a.tmps) = true) (hl : listed.setIfInBounds i true = listed') (hx : (execOp a.eval oi).run P w = .ok (.value v) w') (hT : T w')
  (h : wpAnyM P md ops Q T m fuel listed' { a with tmps := a.tmps.setIfInBounds d v } w') : wpAnyM P md ops Q T m (fuel + 1) listed a w := by
 subst hl
 refine ⟨fun h0 => (by rw [hr] at h0; cases h0), fun j hj => ?_⟩
 rw [hr, List.mem_singleton] at hj
 subst hj
 unfold wpOp
 simp only [hi]
 rw [if_pos hwt]
 refine .inl ?_
 unfold Oper.wp
 rw [hx, Oper.upon_value, hd]
 exact ⟨fun _ => hT, h⟩
theorem M_store {oi : Oper} {fuel : Nat} {listed listed' : Array Bool} {a : Act} {w : World} (i : Nat) (w' : World) (hi : ops[i]? = some oi) (hd : oi.dst = none)
  (hr : Region.ready md ops listed = [i]) (hwt : Region.wanted oi (yielded ops a.tmps) = true) (hl : listed.setIfInBounds i true = listed') (hx : (execOp a.eval oi).run P w = .ok .skip w') (hm : listed'.getD m true = true)
  (h : wpAnyM P md ops Q T m fuel listed' a w') : wpAnyM P md ops Q T m (fuel + 1) listed a w := by
 subst hl
 refine ⟨fun h0 => (by rw [hr] at h0; cases h0), fun j hj => ?_⟩
 rw [hr, List.mem_singleton] at hj
 subst hj
 unfold wpOp
 simp only [hi]
 rw [if_pos hwt]
 refine .inl ?_
 unfold Oper.wp
 rw [hx, Oper.upon_skip, hd]
 exact ⟨fun h0 => (by rw [hm] at h0; cases h0), h⟩
theorem M_call {oi : Oper} {fuel : Nat} {listed listed' : Array Bool} {a : Act} {w : World} (i d f : Nat) (vals : Array Value) (hi : ops[i]? = some oi) (hd : oi.dst = some d)
  (hr : Region.ready md ops listed = [i]) (hwt : Region.wanted oi (yielded ops a.tmps) = true) (hl : listed.setIfInBounds i true = listed') (hx : ∀ w, (execOp a.eval oi).run P w = .ok (.enter f vals) w)
  (h : Calls P f vals w fun e w' => ∃ v, e = .returned v ∧ T w' ∧ wpAnyM P md ops Q T m fuel listed' { a with tmps := a.tmps.setIfInBounds d v } w') : wpAnyM P md ops Q T m (fuel + 1) listed a w := by
 subst hl
 refine ⟨fun h0 => (by rw [hr] at h0; cases h0), fun j hj => ?_⟩
 rw [hr, List.mem_singleton] at hj
 subst hj
 unfold wpOp
 simp only [hi]
 rw [if_pos hwt]
 refine .inl ?_
 unfold Oper.wp
 rw [hx]
 refine Calls.mono h ?_
 rintro e w' ⟨v, rfl, hT, h'⟩
 rw [hd]
 exact ⟨fun _ => hT, h'⟩
theorem M_aa {o1 o2 ok : Oper} {fuel : Nat} {listed : Array Bool} {a : Act} {w : World} (i j k d1 d2 dk : Nat) (z : World → Value) (N : World → World) (f : Value → Value) (U : Value → Prop) (C : Value → Value → World → Prop)
  (h1 : ops[i]? = some o1) (h2 : ops[j]? = some o2) (hk : ops[k]? = some ok) (hd1 : o1.dst = some d1) (hd2 : o2.dst = some d2) (hdk : ok.dst = some dk) (hij : i ≠ j) (hjk : j ≠ k) (d12 : d1 ≠ d2) (d2k : d2 ≠ dk)
  (hr : Region.ready md ops listed = [i, j]) (hri : (Region.ready md ops (listed.setIfInBounds i true)).contains k = true) (hrik : Region.ready md ops ((listed.setIfInBounds i true).setIfInBounds k true) = [j])
  (hrj : Region.ready md ops (listed.setIfInBounds j true) = [i]) (hrji : Region.ready md ops ((listed.setIfInBounds j true).setIfInBounds i true) = [k])
  (hw1 : ∀ t, Region.wanted o1 t = true) (hw2 : ∀ t, Region.wanted o2 t = true) (hwk : ∀ t, Region.wanted ok t = true)
  (hs : Region.noSelect ops = true) (hfk : Region.free md ops (listed.setIfInBounds i true) k = true) (hmk : ((ops[m]?).any fun om => om.after.any fun e => Region.binds md e && e.on == k) = true) (hlm : (listed.setIfInBounds i true).getD m true = false)
  (hQ : ∀ v c a w, Q (.panic c) (a.put ok.dst v) w → Q (.panic c) a w)
  (hx2 : ∀ (a' : Act) w', (execOp a'.eval o2).run P w' = .ok (.value (z w')) (N w'))
  (hA : ∃ u w1, (execOp a.eval o1).run P w = .ok (.value u) w1 ∧ U u ∧ T w1 ∧ T (N w1) ∧ C u (z w1) (N w1))
  (hB : T (N w) ∧ ∃ u w1, (execOp (a.put (some d2) (z w)).eval o1).run P (N w) = .ok (.value u) w1 ∧ U u ∧ T w1 ∧ C u (z w) w1)
  (hxk : ∀ u w', U u → (execOp (a.put (some d1) u).eval ok).run P w' = .ok (.value (f u)) w') (hxk' : ∀ u v w', U u → (execOp ((a.put (some d2) v).put (some d1) u).eval ok).run P w' = .ok (.value (f u)) w')
  (h : ∀ u v w', U u → T w' → C u v w' → wpAnyM P md ops Q T m fuel (((listed.setIfInBounds i true).setIfInBounds k true).setIfInBounds j true) { a with tmps := ((a.tmps.setIfInBounds d1 u).setIfInBounds dk (f u)).setIfInBounds d2 v } w') : wpAnyM P md ops Q T m (fuel + 3) listed a w := by
 refine ⟨fun h0 => (by rw [hr] at h0; cases h0), fun q hq => ?_⟩
 rw [hr] at hq
 simp only [List.mem_cons, List.not_mem_nil, or_false] at hq
 rcases hq with rfl | rfl
 ·obtain ⟨u, w1, e1, uu, t1, t2, c1⟩ := hA
  unfold wpOp
  simp only [h1]
  rw [if_pos (hw1 _)]
  refine .inl ?_
  unfold Oper.wp
  rw [e1, Oper.upon_value, hd1]
  refine ⟨fun _ => t1, ?_⟩
  refine M_take k dk (f u) _ hk hdk hs hfk hri hmk hlm (fun c a w => hQ _ c a w) (hwk _) (fun w' _ => hxk u w' uu) t1 rfl rfl ?_
  exact M_run j d2 (z w1) (N w1) h2 hd2 hrik (hw2 _) rfl (hx2 _ w1) t2 (h u (z w1) (N w1) uu t2 c1)
 ·obtain ⟨t0, u, w1, e1, uu, t1, c1⟩ := hB
  unfold wpOp
  simp only [h2]
  rw [if_pos (hw2 _)]
  refine .inl ?_
  unfold Oper.wp
  rw [hx2, Oper.upon_value, hd2]
  refine ⟨fun _ => t0, ?_⟩
  refine M_run i d1 u w1 h1 hd1 hrj (hw1 _) rfl e1 t1 ?_
  refine M_run k dk (f u) w1 hk hdk hrji (hwk _) rfl (hxk' u (z w) w1 uu) t1 ?_
  have hh := h u (z w) w1 uu t1 c1
  rw [Array.setIfInBounds_comm (xs := listed.setIfInBounds i true) _ _ (Ne.symm hjk), Array.setIfInBounds_comm (xs := listed) _ _ hij, set_comm2 (a.tmps.setIfInBounds d1 u) (Ne.symm d2k), set_comm2 a.tmps d12] at hh
  exact hh
end
end Go.Proofs.YtcjfeandnmochaaGreatDoor

/- Fields by their tags, in plain mathematics: merging by halves. -/
import Derived.Test.YtmgbhicogmclgaaFdMath
namespace Go.Proofs.Ytmgbhicogmclgaa
set_option linter.unusedVariables false
set_option linter.unusedSimpArgs false
set_option maxRecDepth 20000

/-- Do the tags rise? -/
def risesB : List Fd → Bool
  | [] => true
  | [_] => true
  | x :: y :: l => decide (x.tag ≤ y.tag) && risesB (y :: l)
def Rises (l : List Fd) : Prop := l.Pairwise fun x y => x.tag ≤ y.tag
theorem rises_iff : ∀ l : List Fd, risesB l = true ↔ Rises l
  | [] => by simp [risesB, Rises]
  | [x] => by simp [risesB, Rises]
  | x :: y :: l => by
    have ih := rises_iff (y :: l)
    simp only [risesB, Bool.and_eq_true, decide_eq_true_eq, Rises] at ih ⊢
    rw [List.pairwise_cons, ih]
    constructor
    · rintro ⟨h1, h2⟩
      refine ⟨?_, h2⟩
      intro z hz
      rcases List.mem_cons.1 hz with rfl | hz
      · exact h1
      · exact Int.le_trans h1 ((List.pairwise_cons.1 h2).1 z hz)
    · rintro ⟨h1, h2⟩
      exact ⟨h1 y (by simp), h2⟩
/-- How many of a list have at most that tag, from its beginning on. -/
def upN (l : List Fd) (t : Int) : Nat := (l.takeWhile fun x => decide (x.tag ≤ t)).length
theorem upN_le (l : List Fd) (t : Int) : upN l t ≤ l.length := by
  unfold upN
  exact (List.takeWhile_prefix _).length_le
theorem upN_nil (t : Int) : upN [] t = 0 := rfl
theorem upN_cons_le {x : Fd} {l : List Fd} {t : Int} (h : x.tag ≤ t) : upN (x :: l) t = upN l t + 1 := by simp [upN, h]
theorem upN_cons_gt {x : Fd} {l : List Fd} {t : Int} (h : ¬ x.tag ≤ t) : upN (x :: l) t = 0 := by simp [upN, h]
/-- What upTo's loop finds. -/
theorem upN_step {l : List Fd} {t : Int} {i : Nat} (hi : ∀ j x, j < i → l[j]? = some x → x.tag ≤ t) (he : i = l.length ∨ ∃ x, l[i]? = some x ∧ ¬ x.tag ≤ t) : upN l t = i := by
  induction l generalizing i with
  | nil => rcases he with rfl | ⟨x, hx, _⟩
           · rfl
           · simp at hx
  | cons a l ih =>
    cases i with
    | zero =>
      rcases he with h | ⟨x, hx, h⟩
      · simp at h
      · obtain rfl : a = x := by simpa using hx
        exact upN_cons_gt h
    | succ i =>
      rw [upN_cons_le (hi 0 a (by omega) rfl), ih (i := i) (fun j x hj hx => hi (j + 1) x (by omega) (by simpa using hx))]
      rcases he with h | ⟨x, hx, h⟩
      · exact .inl (by simpa using h)
      · exact .inr ⟨x, by simpa using hx, h⟩
/-- Two rising lists as one. -/
def mergeF (low : List Fd) : List Fd → List Fd
  | [] => low
  | h :: hs => low.take (upN low h.tag) ++ h :: mergeF (low.drop (upN low h.tag)) hs
theorem mergeF_len : ∀ (high low : List Fd), (mergeF low high).length = low.length + high.length
  | [], low => by simp [mergeF]
  | h :: hs, low => by
    have := upN_le low h.tag
    rw [mergeF, List.length_append, List.length_cons, mergeF_len hs, List.length_take, List.length_drop, List.length_cons]
    omega
theorem take_upN {l : List Fd} {t : Int} : ∀ x ∈ l.take (upN l t), x.tag ≤ t := by
  induction l with
  | nil => intro x hx; simp at hx
  | cons a l ih =>
    by_cases ha : a.tag ≤ t
    · rw [upN_cons_le ha, List.take_succ_cons]
      intro x hx
      rcases List.mem_cons.1 hx with rfl | hx
      · exact ha
      · exact ih x hx
    · rw [upN_cons_gt ha]
      intro x hx
      simp at hx
theorem drop_upN {l : List Fd} {t : Int} (h : Rises l) : ∀ x ∈ l.drop (upN l t), t < x.tag := by
  induction l with
  | nil => intro x hx; simp at hx
  | cons a l ih =>
    have hp := List.pairwise_cons.1 h
    by_cases ha : a.tag ≤ t
    · rw [upN_cons_le ha]
      intro x hx
      exact ih hp.2 x (by simpa using hx)
    · rw [upN_cons_gt ha]
      intro x hx
      rcases List.mem_cons.1 (by simpa using hx) with rfl | hx
      · omega
      · have := hp.1 x hx; omega
theorem mergeF_mem : ∀ (high low : List Fd) (x : Fd), x ∈ mergeF low high → x ∈ low ∨ x ∈ high
  | [], low, x, h => .inl (by simpa [mergeF] using h)
  | y :: hs, low, x, h => by
    rw [mergeF, List.mem_append, List.mem_cons] at h
    rcases h with h | rfl | h
    · exact .inl (List.mem_of_mem_take h)
    · exact .inr (by simp)
    · rcases mergeF_mem hs _ x h with h | h
      · exact .inl (List.mem_of_mem_drop h)
      · exact .inr (by simp [h])
theorem mergeF_rises : ∀ (high low : List Fd), Rises low → Rises high → Rises (mergeF low high)
  | [], low, h1, _ => by simpa [mergeF] using h1
  | y :: hs, low, h1, h2 => by
    have hp := List.pairwise_cons.1 h2
    have hd : Rises (low.drop (upN low y.tag)) := h1.sublist (List.drop_sublist _ _)
    have ht : Rises (low.take (upN low y.tag)) := h1.sublist (List.take_sublist _ _)
    have hm := mergeF_rises hs _ hd hp.2
    have hy : ∀ x ∈ mergeF (low.drop (upN low y.tag)) hs, y.tag ≤ x.tag := fun x hx => by
      rcases mergeF_mem _ _ x hx with h | h
      · exact Int.le_of_lt (drop_upN h1 x h)
      · exact hp.1 x h
    rw [mergeF]
    unfold Rises at *
    rw [List.pairwise_append, List.pairwise_cons]
    refine ⟨ht, ⟨hy, hm⟩, ?_⟩
    intro a ha b hb
    have h1 := take_upN a ha
    rcases List.mem_cons.1 hb with rfl | hb
    · exact h1
    · exact Int.le_trans h1 (hy b hb)
theorem mergeF_filter (t : Int) : ∀ (high low : List Fd), Rises low → (mergeF low high).filter (fun x => x.tag == t) = low.filter (fun x => x.tag == t) ++ high.filter (fun x => x.tag == t)
  | [], low, h1 => by simp [mergeF]
  | y :: hs, low, h1 => by
    have hd : Rises (low.drop (upN low y.tag)) := h1.sublist (List.drop_sublist _ _)
    have ih := mergeF_filter t hs _ hd
    rw [mergeF, List.filter_append, List.filter_cons, ih]
    have hl : low.filter (fun x => x.tag == t) = (low.take (upN low y.tag)).filter (fun x => x.tag == t) ++ (low.drop (upN low y.tag)).filter (fun x => x.tag == t) := by rw [← List.filter_append, List.take_append_drop]
    rw [hl, List.filter_cons]
    by_cases hy : y.tag = t
    · have he : (low.drop (upN low y.tag)).filter (fun x => x.tag == t) = [] := by
        rw [List.filter_eq_nil_iff]
        intro x hx
        have := drop_upN h1 x hx
        simp; omega
      rw [he]
      simp [hy]
    · simp [hy]
theorem rises_short : ∀ {l : List Fd}, risesB l = false → 2 ≤ l.length
  | [], h => by simp [risesB] at h
  | [_], h => by simp [risesB] at h
  | _ :: _ :: _, _ => by simp
/-- In order, by so many steps. -/
def sortFF : Nat → List Fd → List Fd
  | 0, l => l
  | f + 1, l => if risesB l = true then l else mergeF (sortFF f (l.take (l.length / 2))) (sortFF f (l.drop (l.length / 2)))
/-- In order. -/
def sortF (l : List Fd) : List Fd := sortFF l.length l
theorem sortFF_fuel (f : Nat) : ∀ (g : Nat) (l : List Fd), l.length ≤ f → l.length ≤ g → sortFF f l = sortFF g l := by
  induction f with
  | zero =>
    intro g l h1 _
    obtain rfl : l = [] := List.eq_nil_of_length_eq_zero (by omega)
    cases g <;> rfl
  | succ f ih =>
    intro g l h1 h2
    cases g with
    | zero =>
      obtain rfl : l = [] := List.eq_nil_of_length_eq_zero (by omega)
      rfl
    | succ g =>
      simp only [sortFF]
      cases hr : risesB l with
      | true => rfl
      | false =>
        have h3 := rises_short hr
        rw [if_neg (by simp), if_neg (by simp), ih g (l.take (l.length / 2)) (by rw [List.length_take]; omega) (by rw [List.length_take]; omega), ih g (l.drop (l.length / 2)) (by rw [List.length_drop]; omega) (by rw [List.length_drop]; omega)]
theorem sortF_id {l : List Fd} (h : risesB l = true) : sortF l = l := by
  unfold sortF
  cases e : l.length with
  | zero => rfl
  | succ f => simp only [sortFF]; rw [if_pos h]
theorem sortF_on {l : List Fd} (h : risesB l = false) : sortF l = mergeF (sortF (l.take (l.length / 2))) (sortF (l.drop (l.length / 2))) := by
  have h3 := rises_short h
  unfold sortF
  cases e : l.length with
  | zero => omega
  | succ f =>
    simp only [sortFF]
    rw [if_neg (by simp [h]), e, sortFF_fuel f (l.take ((f + 1) / 2)).length _ (by rw [List.length_take]; omega) (Nat.le_refl _), sortFF_fuel f (l.drop ((f + 1) / 2)).length _ (by rw [List.length_drop]; omega) (Nat.le_refl _)]
theorem sortF_all : ∀ (k : Nat) (l : List Fd), l.length ≤ k → Rises (sortF l) ∧ (sortF l).length = l.length ∧ (∀ x ∈ sortF l, x ∈ l) ∧ ∀ t : Int, (sortF l).filter (fun x => x.tag == t) = l.filter (fun x => x.tag == t)
  | 0, l, h => by
    obtain rfl : l = [] := List.eq_nil_of_length_eq_zero (by omega)
    rw [sortF_id rfl]
    exact ⟨by simp [Rises], rfl, fun _ h => h, fun _ => rfl⟩
  | k + 1, l, h => by
    cases hr : risesB l with
    | true => rw [sortF_id hr]; exact ⟨(rises_iff l).1 hr, rfl, fun _ h => h, fun _ => rfl⟩
    | false =>
      have h2 := rises_short hr
      obtain ⟨a1, a2, a3, a4⟩ := sortF_all k (l.take (l.length / 2)) (by rw [List.length_take]; omega)
      obtain ⟨b1, b2, b3, b4⟩ := sortF_all k (l.drop (l.length / 2)) (by rw [List.length_drop]; omega)
      rw [sortF_on hr]
      refine ⟨mergeF_rises _ _ a1 b1, ?_, ?_, ?_⟩
      · rw [mergeF_len, a2, b2, List.length_take, List.length_drop]; omega
      · intro x hx
        rcases mergeF_mem _ _ x hx with h | h
        · exact List.mem_of_mem_take (a3 x h)
        · exact List.mem_of_mem_drop (b3 x h)
      · intro t
        rw [mergeF_filter t _ _ a1, a4, b4, ← List.filter_append, List.take_append_drop]
theorem rises_steps : ∀ {l : List Fd}, (∀ j x y, l[j]? = some x → l[j + 1]? = some y → x.tag ≤ y.tag) → risesB l = true
  | [], _ => rfl
  | [_], _ => rfl
  | x :: y :: l, h => by
    rw [risesB, Bool.and_eq_true, decide_eq_true_eq]
    exact ⟨h 0 x y rfl rfl, rises_steps fun j a b ha hb => h (j + 1) a b (by simpa using ha) (by simpa using hb)⟩
theorem rises_break : ∀ {l : List Fd} (j : Nat) (x y : Fd), l[j]? = some x → l[j + 1]? = some y → y.tag < x.tag → risesB l = false
  | [], j, x, y, hx, _, _ => by simp at hx
  | [a], j, x, y, hx, hy, _ => by simp at hy
  | a :: b :: l, 0, x, y, hx, hy, h => by
    obtain rfl : a = x := by simpa using hx
    obtain rfl : b = y := by simpa using hy
    rw [risesB, Bool.and_eq_false_iff]
    left; simp; omega
  | a :: b :: l, j + 1, x, y, hx, hy, h => by
    rw [risesB, Bool.and_eq_false_iff]
    right
    exact rises_break j x y (by simpa using hx) (by simpa using hy) h
end Go.Proofs.Ytmgbhicogmclgaa

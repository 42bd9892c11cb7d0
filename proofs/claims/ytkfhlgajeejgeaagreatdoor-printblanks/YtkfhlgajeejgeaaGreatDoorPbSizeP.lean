/- How long a printed text is when each line's end is made more. -/
import Derived.Test.YtkfhlgajeejgeaaGreatDoorPbParseP
namespace Go.Proofs.YtkfhlgajeejgeaaGreatDoor
open Go.RowKit
set_option linter.unusedVariables false
set_option linter.unusedSimpArgs false
set_option maxRecDepth 20000

/-- At most each second byte is a line's end. -/
abbrev Rare (l : List UInt8) : Prop := 2 * l.count 10 ≤ l.length
theorem Rare.app {a b : List UInt8} (ha : Rare a) (hb : Rare b) : Rare (a ++ b) := by
  unfold Rare at *
  rw [List.count_append, List.length_append]; omega
theorem Rare.free {l : List UInt8} (h : ∀ a ∈ l, a ≠ 10) : Rare l := by
  unfold Rare
  rw [List.count_eq_zero.2 (fun hm => h 10 hm rfl)]; omega
theorem Rare.flat {α : Type} (f : α → List UInt8) : ∀ (q : List α), (∀ a ∈ q, Rare (f a)) → Rare (q.map f).flatten
  | [], _ => Nat.le_refl 0
  | a :: r, h => by
    rw [List.map_cons, List.flatten_cons]
    exact (h a (List.mem_cons_self ..)).app (Rare.flat f r fun x hx => h x (List.mem_cons_of_mem _ hx))
theorem rare_num {n : Int} (h : numOk n) : Rare (Lib.itoa n) := Rare.free (dig_ten (num_itoa h.1 h.2).2.1)
theorem rare_name {n : ByteArray} (h : nameK n.data.toList = true) : Rare n.data.toList := Rare.free (name_ten h)
theorem rare_lab (n : Int) : Rare (plabL n) := by
  unfold plabL
  split
  · decide
  · split
    · decide
    · decide
theorem rare_field {en : List ByteArray} {f : FlS} (h : fldOk en f) : Rare (fieldL f) := by
  obtain ⟨h1, h2, h3, h4⟩ := h
  unfold fieldL
  exact (((((((show Rare [32, 32] by decide).app (rare_lab _)).app (Rare.free (word_piece h4).2)).app (by decide)).app (rare_name h1)).app (by decide)).app (rare_num h2)).app (by decide)
theorem rare_tail : ∀ (ns : List Int), (∀ n ∈ ns, numOk n) → Rare (Lib.joinTail [44, 32] (ns.map Lib.itoa))
  | [], _ => by decide
  | n :: r, h => by
    have h1 := rare_tail r fun x hx => h x (List.mem_cons_of_mem _ hx)
    unfold Lib.joinTail at *
    rw [List.map_cons, List.map_cons, List.flatten_cons]
    exact ((show Rare [44, 32] by decide).app (rare_num (h n (List.mem_cons_self ..)))).app h1
theorem rare_res {ns : List Int} (h : ∀ n ∈ ns, numOk n) : Rare (resL ns) := by
  match ns, h with
  | [], _ => decide
  | n :: r, h =>
    unfold resL numsL
    rw [if_neg (by simp), List.map_cons, Lib.join_cons]
    exact ((show Rare _ by decide).app ((rare_num (h n (List.mem_cons_self ..))).app (rare_tail r fun x hx => h x (List.mem_cons_of_mem _ hx)))).app (by decide)
theorem rare_text {s : ScS} (h : Prt s) : Rare (textL s) := by
  unfold textL
  refine ((((((show Rare _ by decide).app (rare_name h.name)).app (by decide)).app (Rare.flat _ _ fun m hm => ?_)).app (Rare.flat _ _ fun e he => ?_)).app (Rare.flat _ _ fun t ht => ?_))
  · obtain ⟨h1, h2, h3⟩ := h.msgs m hm
    unfold msgL
    exact (((((show Rare _ by decide).app (rare_name h1)).app (by decide)).app (Rare.flat _ _ fun f hf => rare_field (h2 f hf))).app (rare_res h3)).app (by decide)
  · obtain ⟨h1, h2⟩ := h.enums e he
    unfold enumL
    refine ((((show Rare _ by decide).app (rare_name h1)).app (by decide)).app (Rare.flat _ _ fun f hf => ?_)).app (by decide)
    unfold valL
    exact ((((show Rare _ by decide).app (rare_name (h2 f hf).1)).app (by decide)).app (rare_num (h2 f hf).2)).app (by decide)
  · obtain ⟨h1, h2, h3⟩ := h.meths t ht
    unfold methL
    exact ((((((show Rare _ by decide).app (rare_name h1)).app (by decide)).app (rare_name h2)).app (by decide)).app (rare_name h3)).app (by decide)
theorem expL_len {sep : List UInt8} (hs : sep.length ≤ 8) : ∀ l : List UInt8, (expL sep l).length ≤ l.length + 7 * l.count 10
  | [] => by simp [expL]
  | a :: r => by
    have ih := expL_len hs r
    by_cases h : a = 10
    · subst h
      rw [expL_ten, List.length_append, List.length_cons, List.count_cons_self]; omega
    · rw [expL_cons _ _ h, List.length_cons, List.length_cons, List.count_cons_of_ne h]; omega
theorem exp_small {s : ScS} (h : OkS s) {sep : List UInt8} (hs : sep.length ≤ 8) (hl : (printL s).length ≤ 3000) : (expL sep (printL s)).length ≤ 13500 := by
  have h1 := rare_text (prt_ok ((ok_canon s).2 h))
  have h2 := expL_len hs (printL s)
  unfold printL at h2 hl ⊢
  unfold Rare at h1
  omega
end Go.Proofs.YtkfhlgajeejgeaaGreatDoor

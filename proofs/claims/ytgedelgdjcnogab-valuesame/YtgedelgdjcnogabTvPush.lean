/- An element appended to a row of one's own. -/
import Derived.Test.YtgedelgdjcnogabTvOwn
import Derived.Maps.AppendAt
namespace Go.Proofs.Ytgedelgdjcnogab
open Go.ChangeShapes Go.WideShapes Go.ChangeAt Go.RowKit
set_option linter.unusedVariables false
set_option linter.unusedSimpArgs false
set_option maxRecDepth 20000

theorem Apt.of_count {B : Nat} {w : World} {bs cs : List Nat} (h : Apt B w bs) (hc : ∀ k, cs.count k ≤ bs.count k) : Apt B w cs := by
  refine ⟨List.nodup_iff_count.2 fun a => Nat.le_trans (hc a) (List.nodup_iff_count.1 h.1 a), fun k hk => h.2 k ?_⟩
  have := List.count_pos_iff.2 hk
  exact List.count_pos_iff.1 (Nat.lt_of_lt_of_le this (hc k))
theorem Apt.new {B : Nat} {w w' : World} {bs : List Nat} (h : Apt B w bs) (hB : B ≤ w.heap.size) (hs : w.heap.size < w'.heap.size) : Apt B w' (bs ++ [w.heap.size]) := by
  refine Apt.append h (B' := w.heap.size) (cs := [w.heap.size]) ⟨by simp, by simp; exact hs⟩ hB (Nat.le_refl _) (Nat.le_of_lt hs)
theorem blkOf_count {v v' : Value} {G : Nat} (hat : v'.ownBlock = v.ownBlock ∨ v'.ownBlock = some G) (k : Nat) : (blkOf v').count k ≤ (blkOf v).count k + [G].count k := by
  rcases hat with e | e
  · simp [blkOf, e]
  · simp [blkOf, e]
theorem own_lt {w : World} {B : Nat} {e : TypeId} {s : Nat} {v : Value} {n : Nat} {xs : List Value} (h : w.ownsRow B e s v n xs) {k : Nat} (hk : v.ownBlock = some k) : B ≤ k ∧ k < w.heap.size := by
  rcases h.2 with ⟨rfl, _⟩ | ⟨g, cap, cur, rfl, h2, h3, _⟩
  · simp [Value.ownBlock] at hk
  · obtain rfl : g = k := by simpa [Value.ownBlock] using hk
    exact ⟨h2, (Array.getElem?_eq_some_iff.1 h3).1⟩
/-- All blocks but one are as they were. -/
theorem grown_sm {w w' : World} {v : Value} {bs : List Nat} (hg : w.grownBy w' v.ownBlock) (hb : ∀ k ∈ bs, k < w.heap.size) (hv : ∀ k ∈ bs, k ∉ blkOf v) : Sm w w' bs := fun k hk => hg.block k (hb k hk) (fun e => hv k hk (mem_blkOf.2 e.symm))
theorem RowO.push {α : Type} {P : World → List Value → α → List Nat → Prop} {B e size : Nat} {w w' : World} {v v' : Value} {xs : List α} {rows : List (List Value)} {bss : List (List Nat)} (h : RowO P B e size w v xs rows bss) {r : List Value} {x : α} {b : List Nat}
    (ap : Apt B w (allB v bss ++ b)) (hown : w'.ownsRow B e size v' (xs.length + 1) (rows.flatten ++ r)) (hg : w.grownBy w' v.ownBlock) (hP : P w r x b) (hr : r.length = size) (loc : ∀ r x b, P w r x b → Sm w w' b → P w' r x b) :
    RowO P B e size w' v' (xs ++ [x]) (rows ++ [r]) (bss ++ [b]) := by
  have hcl : ∀ c, c ∈ bss ∨ c = b → Sm w w' c := fun c hc => by
    have hsub : ∀ k ∈ c, k ∈ bss.flatten ++ b := fun k hk => by
      rcases hc with hc | rfl
      · exact List.mem_append.2 (.inl (List.mem_flatten.2 ⟨c, hc, hk⟩))
      · exact List.mem_append.2 (.inr hk)
    have hn := ap.1
    rw [allB, List.append_assoc] at hn
    refine grown_sm hg (fun k hk => (ap.2 k (by rw [allB, List.append_assoc]; exact List.mem_append.2 (.inr (hsub k hk)))).2) fun k hk hv => ?_
    exact (List.nodup_append.1 hn).2.2 k hv k (hsub k hk) rfl
  refine ⟨by simpa using hown, by simp [h.len], by simp [h.blen], ?_, fun i y hy => ?_⟩
  · intro r' hr'
    rcases List.mem_append.1 hr' with h' | h'
    · exact h.wide r' h'
    · obtain rfl : r' = r := by simpa using h'
      exact hr
  · by_cases hi : i < xs.length
    · rw [List.getElem?_append_left hi] at hy
      obtain ⟨r1, b1, e1, e2, e3⟩ := h.each i y hy
      exact ⟨r1, b1, by rw [List.getElem?_append_left (by rw [h.len]; exact hi)]; exact e1, by rw [List.getElem?_append_left (by rw [h.blen]; exact hi)]; exact e2, loc _ _ _ e3 (hcl _ (.inl (List.mem_of_getElem? e2)))⟩
    · rw [List.getElem?_append_right (by omega)] at hy
      obtain ⟨hi0, rfl⟩ : i - xs.length = 0 ∧ x = y := by
        cases hq : i - xs.length with
        | zero => rw [hq] at hy; simpa using hy
        | succ q => rw [hq] at hy; simp at hy
      refine ⟨r, b, ?_, ?_, loc _ _ _ hP (hcl _ (.inr rfl))⟩
      · rw [List.getElem?_append_right (by rw [h.len]; omega), h.len, hi0]; rfl
      · rw [List.getElem?_append_right (by rw [h.blen]; omega), h.blen, hi0]; rfl
/-- The blocks behind it. -/
theorem Apt.push {B : Nat} {w w' : World} {v v' : Value} {bss : List (List Nat)} {b more : List Nat} (ap : Apt B w (more ++ (allB v bss ++ b))) (hat : v'.ownBlock = v.ownBlock ∨ v'.ownBlock = some w.heap.size) {e : TypeId} {s n : Nat} {xs : List Value} (hown : w'.ownsRow B e s v' n xs) (hs : w.heap.size ≤ w'.heap.size) (hB : B ≤ w.heap.size) :
    Apt B w' (more ++ allB v' (bss ++ [b])) := by
  rcases hat with hat | hat
  · refine (ap.mono hs).of_count fun k => ?_
    simp [allB, blkOf, hat, List.count_append]
  · refine (ap.new hB (own_lt hown hat).2).of_count fun k => ?_
    simp only [allB, blkOf, hat, List.count_append, List.flatten_append, List.flatten_cons, List.flatten_nil, List.append_nil]
    omega
theorem RowO.nil {α : Type} (P : World → List Value → α → List Nat → Prop) (B e size : Nat) (w : World) : RowO P B e size w (.slice none 0 0) ([] : List α) [] [] :=
  ⟨World.ownsRow_nil w B e size, rfl, rfl, by simp, by simp⟩
theorem RowO.base {α : Type} {P Q : World → List Value → α → List Nat → Prop} {B B' e size : Nat} {w : World} {v : Value} {xs : List α} {rows : List (List Value)} {bss : List (List Nat)} (h : RowO P B e size w v xs rows bss) (hB : B' ≤ B) (hp : ∀ r x b, P w r x b → Q w r x b) : RowO Q B' e size w v xs rows bss :=
  ⟨own_base h.own hB, h.len, h.blen, h.wide, fun i x hx => by obtain ⟨r, b, h1, h2, h3⟩ := h.each i x hx; exact ⟨r, b, h1, h2, hp _ _ _ h3⟩⟩
theorem TrO.base : ∀ {n B B' : Nat} {w : World} {r : List Value} {t : Tr} {bs : List Nat}, TrO n B w r t bs → B' ≤ B → TrO n B' w r t bs
  | 0, _, _, _, _, _, _, h, _ => h
  | n + 1, B, B', w, r, t, bs, h, hb => by
    obtain ⟨ve, vr, rows, bss, h1, h2, h3, h4, h5, h6, h7, rfl⟩ := h
    refine ⟨ve, vr, rows, bss, h1, h2, h3, h4, h5, own_base h6 hb, h7.base hb fun r x b hp => ?_, rfl⟩
    obtain ⟨vt, rows', bss', g1, g2, g3, rfl⟩ := hp
    exact ⟨vt, rows', bss', g1, g2, g3.base hb fun r x b hp => hp.base hb, rfl⟩
/-- An operation whose run is known. -/
theorem wpList_ran {ops : Array Oper} {rest : List Oper} {o : Oper} {a : Act} {w w' : World} {v : Value} {Q : Exit → Act → World → Prop} (hgd : o.guard = none) (hr : (execOp a.eval o).run Try.prog w = .ok (.value v) w') (h : wpList Try.prog ops Q rest (a.put o.dst v) w') : wpList Try.prog ops Q (o :: rest) a w :=
  wpList_plain hgd fun _ hK => by
    unfold Oper.wp
    rw [hr, Oper.upon_value]
    exact hK _ _ h
theorem Apt.apart {B : Nat} {w : World} {a b : List Nat} (h : Apt B w (a ++ b)) : ∀ k ∈ a, k ∉ b := fun k ha hb => (List.nodup_append.1 h.1).2.2 k ha k hb rfl
theorem Sm.below {w w' : World} {bs : List Nat} (h : Below w.heap.size w w') (hb : ∀ k ∈ bs, k < w.heap.size) : Sm w w' bs := fun k hk => h.block k (hb k hk)
end Go.Proofs.Ytgedelgdjcnogab

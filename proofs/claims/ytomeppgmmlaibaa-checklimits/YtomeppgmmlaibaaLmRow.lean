/- A schema that is being made: its rows, thing by thing. -/
import Derived.Test.YtomeppgmmlaibaaLmMath
import Derived.Test.YtomeppgmmlaibaaMsOwn
import Derived.Test.YtomeppgmmlaibaaJoinG
import Derived.Test.YtomeppgmmlaibaaMsSetF
namespace Go.Proofs.Ytomeppgmmlaibaa
open Go.ChangeShapes Go.WideShapes Go.ChangeAt Go.RowKit
set_option linter.unusedVariables false
set_option linter.unusedSimpArgs false
set_option maxRecDepth 20000

def nilV : Value := .slice none 0 0
/-- The pairs of rows of a messages: the first one's, and nothing. -/
def lmP (a : Nat) (vf vr : Value) : List (Value × Value) := (List.range a).map fun i => if i = 0 then (vf, vr) else (nilV, nilV)
structure LmM (w : World) (B : Nat) (vm vf vr : Value) (a b c : Nat) : Prop where
  own : w.ownsRow B 35 3 vm a (msRows (msL a b c) (lmP a vf vr)).flatten
  fl : w.ownsRow B 52 5 vf b (flRows (flL b)).flatten
  rs : w.ownsRow B 3 1 vr c (inRows (inL c)).flatten
structure LmE (w : World) (B : Nat) (ve vv : Value) (pe : List Value) (d e : Nat) : Prop where
  own : w.ownsRow B 40 2 ve d (enRows (enL d e) pe).flatten
  len : pe.length = d
  vl : 0 < d → pe[0]? = some vv ∧ w.ownsRow B 65 2 vv (e + 1) (nmRows (vlL e)).flatten
  each : ∀ (i : Nat) (p : Value), 0 < i → pe[i]? = some p → ∃ g, p = .slice (some ⟨g, 0, none⟩) 1 1 ∧ B ≤ g ∧ Blk w g #[.string zB, .int .i64 0] 65 ∧ vv.ownBlock ≠ some g
/-- The whole: the block of the variable and its rows. -/
structure LmO (w : World) (bt : Nat) (vm vf vr ve vv vt : Value) (pe : List Value) (a b c d e f : Nat) : Prop where
  blk : Blk w bt #[.string aB, vm, ve, vt] 26
  ms : LmM w (bt + 1) vm vf vr a b c
  en : LmE w (bt + 1) ve vv pe d e
  mt : w.ownsRow (bt + 1) 44 3 vt f (mtRows (mtL f)).flatten
section
variable {w w1 : World} {B bt : Nat} {vm vf vr ve vv vt : Value} {pe : List Value} {a b c d e f : Nat}
theorem LmM.nil : LmM w B nilV nilV nilV 0 0 0 := ⟨World.ownsRow_nil _ _ _ _, World.ownsRow_nil _ _ _ _, World.ownsRow_nil _ _ _ _⟩
theorem LmE.nil : LmE w B nilV nilV [] 0 0 := ⟨World.ownsRow_nil _ _ _ _, rfl, fun h => absurd h (by omega), fun i p _ h => by simp at h⟩
theorem LmM.below (h : LmM w B vm vf vr a b c) (hb : Below w.heap.size w w1) : LmM w1 B vm vf vr a b c := ⟨own_below h.own hb, own_below h.fl hb, own_below h.rs hb⟩
theorem LmE.below (h : LmE w B ve vv pe d e) (hb : Below w.heap.size w w1) : LmE w1 B ve vv pe d e :=
  ⟨own_below h.own hb, h.len, fun hd => ⟨(h.vl hd).1, own_below (h.vl hd).2 hb⟩, fun i p hi hp => by
    obtain ⟨g, h1, h2, h3, h4⟩ := h.each i p hi hp
    exact ⟨g, h1, h2, h3.below hb, h4⟩⟩
theorem LmO.below (h : LmO w bt vm vf vr ve vv vt pe a b c d e f) (hb : Below w.heap.size w w1) : LmO w1 bt vm vf vr ve vv vt pe a b c d e f :=
  ⟨h.blk.below hb, h.ms.below hb, h.en.below hb, own_below h.mt hb⟩
/-- Kept while a block of another type is written. -/
theorem LmM.beside (h : LmM w B vm vf vr a b c) {S : Nat → Prop} (hk : Kp S w w1) (hs : ∀ k o t, w.heap[k]? = some (.cells o t (0, 0)) → S k → t ≠ 35 ∧ t ≠ 52 ∧ t ≠ 3) : LmM w1 B vm vf vr a b c := by
  have kv : ∀ {t : TypeId} {sz n : Nat} {v : Value} {xs : List Value}, w.ownsRow B t sz v n xs → (t = 35 ∨ t = 52 ∨ t = 3) → w1.ownsRow B t sz v n xs := by
    intro t sz n v xs h ht
    refine own_kpV h hk fun k hv hS => ?_
    rcases h.2 with ⟨rfl, _⟩ | ⟨q, cap, cur, rfl, _, hq, _⟩
    · cases hv
    · simp only [Value.ownBlock, Option.some.injEq] at hv
      subst hv
      obtain ⟨h1, h2, h3⟩ := hs _ _ _ hq hS
      rcases ht with h | h | h
      · exact h1 h
      · exact h2 h
      · exact h3 h
  exact ⟨kv h.own (.inl rfl), kv h.fl (.inr (.inl rfl)), kv h.rs (.inr (.inr rfl))⟩
theorem LmE.beside (h : LmE w B ve vv pe d e) {S : Nat → Prop} (hk : Kp S w w1) (hs : ∀ k o t, w.heap[k]? = some (.cells o t (0, 0)) → S k → t ≠ 40 ∧ t ≠ 65) : LmE w1 B ve vv pe d e := by
  have kv : ∀ {t : TypeId} {sz n : Nat} {v : Value} {xs : List Value}, w.ownsRow B t sz v n xs → (t = 40 ∨ t = 65) → w1.ownsRow B t sz v n xs := by
    intro t sz n v xs h ht
    refine own_kpV h hk fun k hv hS => ?_
    rcases h.2 with ⟨rfl, _⟩ | ⟨q, cap, cur, rfl, _, hq, _⟩
    · cases hv
    · simp only [Value.ownBlock, Option.some.injEq] at hv
      subst hv
      obtain ⟨h1, h2⟩ := hs _ _ _ hq hS
      rcases ht with h | h
      · exact h1 h
      · exact h2 h
  refine ⟨kv h.own (.inl rfl), h.len, fun hd => ⟨(h.vl hd).1, kv (h.vl hd).2 (.inr rfl)⟩, fun i p hi hp => ?_⟩
  obtain ⟨g, h1, h2, h3, h4⟩ := h.each i p hi hp
  exact ⟨g, h1, h2, h3.kp hk (fun hS => (hs _ _ _ h3 hS).2 rfl), h4⟩
theorem mt_beside (h : w.ownsRow B 44 3 vt f (mtRows (mtL f)).flatten) {S : Nat → Prop} (hk : Kp S w w1) (hs : ∀ k o t, w.heap[k]? = some (.cells o t (0, 0)) → S k → t ≠ 44) : w1.ownsRow B 44 3 vt f (mtRows (mtL f)).flatten := by
  refine own_kpV h hk fun k hv hS => ?_
  rcases h.2 with ⟨rfl, _⟩ | ⟨q, cap, cur, rfl, _, hq, _⟩
  · cases hv
  · simp only [Value.ownBlock, Option.some.injEq] at hv
    subst hv
    exact hs _ _ _ hq hS rfl
/-- The type of a row's block. -/
theorem own_ty {t t' : TypeId} {sz n k : Nat} {v : Value} {xs : List Value} {o : Array Value} (h : w.ownsRow B t sz v n xs) (hk : v.ownBlock = some k) (hb : w.heap[k]? = some (.cells o t' (0, 0))) : t' = t := by
  rcases h.2 with ⟨rfl, _⟩ | ⟨q, cap, cur, rfl, _, hq, _⟩
  · cases hk
  · simp only [Value.ownBlock, Option.some.injEq] at hk
    subst hk
    rw [hq] at hb
    simp only [Option.some.injEq, Obj.cells.injEq] at hb
    exact hb.2.1.symm
theorem blk_ty {t t' : TypeId} {k : Nat} {cs o : Array Value} (h : Blk w k cs t) (hb : w.heap[k]? = some (.cells o t' (0, 0))) : t' = t := by
  unfold Blk at h
  rw [h] at hb
  simp only [Option.some.injEq, Obj.cells.injEq] at hb
  exact hb.2.1.symm
theorem lmP_succ {a : Nat} : lmP (a + 1) nilV nilV = lmP a nilV nilV ++ [(nilV, nilV)] := by
  unfold lmP
  rw [List.range_succ, List.map_append, List.map_singleton]
  by_cases h : a = 0
  · subst h; rfl
  · rw [if_neg h]
theorem lmP_len : (lmP a vf vr).length = a := by simp [lmP]
theorem Kp.cell1 {w w1 : World} {S : Nat → Prop} (h : Kp S w w1) {b i : Nat} (u : Value) : Kp (fun k => S k ∨ k = b) w (w1.setCell ⟨b, i, none⟩ u) :=
  (h.weak (fun _ _ h => .inl h)).setCell (fun _ => .inr rfl) u
end
end Go.Proofs.Ytomeppgmmlaibaa

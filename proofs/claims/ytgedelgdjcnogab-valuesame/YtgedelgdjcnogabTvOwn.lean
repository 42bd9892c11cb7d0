/- Trees of one's own: which blocks they lie in. -/
import Derived.Test.YtgedelgdjcnogabTvRow
import Derived.Test.YtgedelgdjcnogabBlkT
import Derived.Test.YtgedelgdjcnogabRwRow
namespace Go.Proofs.Ytgedelgdjcnogab
open Go.ChangeShapes Go.WideShapes Go.ChangeAt Go.RowKit
set_option linter.unusedVariables false
set_option linter.unusedSimpArgs false
set_option maxRecDepth 20000

/-- The block that a row of one's own lies in. -/
def blkOf (v : Value) : List Nat := match v.ownBlock with
  | some g => [g]
  | none => []
theorem mem_blkOf {v : Value} {k : Nat} : k ∈ blkOf v ↔ v.ownBlock = some k := by
  unfold blkOf
  cases v.ownBlock <;> simp [eq_comm]
/-- These blocks are as they were. -/
def Sm (w w' : World) (bs : List Nat) : Prop := ∀ k ∈ bs, w'.heap[k]? = w.heap[k]?
theorem Sm.mono {w w' : World} {bs cs : List Nat} (h : Sm w w' bs) (hs : ∀ k ∈ cs, k ∈ bs) : Sm w w' cs := fun k hk => h k (hs k hk)
theorem own_sm {w w1 : World} {base : Nat} {e : TypeId} {s : Nat} {v : Value} {n : Nat} {xs : List Value} (h : w.ownsRow base e s v n xs) (hb : Sm w w1 (blkOf v)) : w1.ownsRow base e s v n xs := by
  refine ⟨h.1, ?_⟩
  rcases h.2 with h | ⟨g, cap, cur, h1, h2, h3, h4⟩
  · exact .inl h
  · refine .inr ⟨g, cap, cur, h1, h2, (hb g ?_).trans h3, h4⟩
    rw [mem_blkOf, h1]; rfl
/-- A row of one's own whose elements meet P, each with its blocks. -/
structure RowO {α : Type} (P : World → List Value → α → List Nat → Prop) (B e size : Nat) (w : World) (v : Value) (xs : List α) (rows : List (List Value)) (bss : List (List Nat)) : Prop where
  own : w.ownsRow B e size v xs.length rows.flatten
  len : rows.length = xs.length
  blen : bss.length = xs.length
  wide : ∀ r ∈ rows, r.length = size
  each : ∀ (i : Nat) (x : α), xs[i]? = some x → ∃ r b, rows[i]? = some r ∧ bss[i]? = some b ∧ P w r x b
/-- All its blocks. -/
def allB (v : Value) (bss : List (List Nat)) : List Nat := blkOf v ++ bss.flatten
/-- Blocks from B on that are there, each once. -/
def Apt (B : Nat) (w : World) (bs : List Nat) : Prop := bs.Nodup ∧ ∀ k ∈ bs, B ≤ k ∧ k < w.heap.size
def EtO (P : World → List Value → Tr → List Nat → Prop) (B : Nat) (w : World) (r : List Value) (e : Int × List Tr) (bs : List Nat) : Prop :=
  ∃ vt rows bss, r = [.int .i64 e.1, vt] ∧ Is64 e.1 ∧ RowO P B 25 5 w vt e.2 rows bss ∧ bs = allB vt bss
def Fd64 (l : List Fd) : Prop := ∀ f ∈ l, Is64 f.tag ∧ Is64 f.wire ∧ Is64 f.n ∧ f.b.size ≤ 140737488351232
def TrO : Nat → Nat → World → List Value → Tr → List Nat → Prop
  | 0, _, _, _, _, _ => False
  | n + 1, B, w, r, t, bs => ∃ ve vr rows bss, r = [.int .i64 t.kind, .int .i64 t.n, .string t.s, ve, vr] ∧ Is64 t.kind ∧ Is64 t.n ∧ t.s.size ≤ 140737488351232 ∧ Fd64 t.rest ∧
      w.ownsRow B 36 4 vr t.rest.length (rawCells t.rest) ∧ RowO (EtO (TrO n B) B) B 33 2 w ve t.es rows bss ∧ bs = blkOf vr ++ allB ve bss
theorem RowO.sm {α : Type} {P : World → List Value → α → List Nat → Prop} {B e size : Nat} {w w' : World} {v : Value} {xs : List α} {rows : List (List Value)} {bss : List (List Nat)} (h : RowO P B e size w v xs rows bss) (hb : Sm w w' (allB v bss))
    (hp : ∀ r x b, P w r x b → Sm w w' b → P w' r x b) : RowO P B e size w' v xs rows bss := by
  refine ⟨own_sm h.own (hb.mono fun k hk => List.mem_append.2 (.inl hk)), h.len, h.blen, h.wide, fun i x hx => ?_⟩
  obtain ⟨r, b, h1, h2, h3⟩ := h.each i x hx
  exact ⟨r, b, h1, h2, hp r x b h3 (hb.mono fun k hk => List.mem_append.2 (.inr (List.mem_flatten.2 ⟨b, List.mem_of_getElem? h2, hk⟩)))⟩
theorem TrO.sm : ∀ {n B : Nat} {w w' : World} {r : List Value} {t : Tr} {bs : List Nat}, TrO n B w r t bs → Sm w w' bs → TrO n B w' r t bs
  | 0, _, _, _, _, _, _, h, _ => h
  | n + 1, B, w, w', r, t, bs, h, hb => by
    obtain ⟨ve, vr, rows, bss, h1, h2, h3, h4, h5, h6, h7, rfl⟩ := h
    refine ⟨ve, vr, rows, bss, h1, h2, h3, h4, h5, own_sm h6 (hb.mono fun k hk => List.mem_append.2 (.inl hk)), h7.sm (hb.mono fun k hk => List.mem_append.2 (.inr hk)) fun r x b hp hs => ?_, rfl⟩
    obtain ⟨vt, rows', bss', g1, g2, g3, rfl⟩ := hp
    exact ⟨vt, rows', bss', g1, g2, g3.sm hs fun r x b hp hs => hp.sm hs, rfl⟩
theorem EtO.sm {n B : Nat} {w w' : World} {r : List Value} {e : Int × List Tr} {bs : List Nat} (h : EtO (TrO n B) B w r e bs) (hb : Sm w w' bs) : EtO (TrO n B) B w' r e bs := by
  obtain ⟨vt, rows', bss', g1, g2, g3, rfl⟩ := h
  exact ⟨vt, rows', bss', g1, g2, g3.sm hb fun r x b hp hs => hp.sm hs, rfl⟩
theorem rawCells_flat (l : List Fd) : rawCells l = (fdRows l).flatten := by simp [rawCells, fdRows, List.flatMap]
theorem own_rest {w : World} {B : Nat} {v : Value} {l : List Fd} (h : w.ownsRow B 36 4 v l.length (rawCells l)) : RowG w v 4 (fdRows l) := by
  rw [rawCells_flat] at h
  exact (RowG.own (fdr_len l) (by decide) h).1
theorem RowO.rowP {α : Type} {P : World → List Value → α → List Nat → Prop} {Q : List Value → α → Prop} {B e size : Nat} {w : World} {v : Value} {xs : List α} {rows : List (List Value)} {bss : List (List Nat)} (h : RowO P B e size w v xs rows bss) (hs : 0 < size)
    (hp : ∀ r x b, x ∈ xs → P w r x b → Q r x) : RowP Q w size v xs := by
  refine ⟨rows, (RowG.own h.wide hs h.own).1, h.len, fun i x hx => ?_⟩
  obtain ⟨r, b, h1, h2, h3⟩ := h.each i x hx
  exact ⟨r, h1, hp r x b (List.mem_of_getElem? hx) h3⟩
theorem TrO.trC : ∀ {n B : Nat} {w : World} {r : List Value} {t : Tr} {bs : List Nat}, TrO n B w r t bs → TrC n w r t
  | 0, _, _, _, _, _, h => h
  | n + 1, B, w, r, t, bs, h => by
    obtain ⟨ve, vr, rows, bss, h1, h2, h3, h4, h5, h6, h7, rfl⟩ := h
    refine ⟨ve, vr, h1, h2, h3, h4, h5, own_rest h6, h7.rowP (by decide) fun r x b hx hp => ?_⟩
    obtain ⟨vt, rows', bss', g1, g2, g3, rfl⟩ := hp
    exact ⟨vt, g1, g2, g3.rowP (by decide) fun r x b hx hp => hp.trC⟩
/-- A tree's value of one's own. -/
def TrV (n B : Nat) (w : World) (v : Value) (t : Tr) (bs : List Nat) : Prop := ∃ r, v = .agg r.toArray ∧ TrO n B w r t bs ∧ Apt B w bs
theorem TrV.tr {n B : Nat} {w : World} {v : Value} {t : Tr} {bs : List Nat} (h : TrV n B w v t bs) : TrIn n w v t := by
  obtain ⟨r, h1, h2, _⟩ := h
  exact ⟨r, h1, h2.trC⟩
theorem Apt.nil (B : Nat) (w : World) : Apt B w [] := ⟨List.nodup_nil, by simp⟩
theorem Apt.mono {B : Nat} {w w' : World} {bs : List Nat} (h : Apt B w bs) (hs : w.heap.size ≤ w'.heap.size) : Apt B w' bs := ⟨h.1, fun k hk => ⟨(h.2 k hk).1, Nat.lt_of_lt_of_le (h.2 k hk).2 hs⟩⟩
theorem Apt.base {B B' : Nat} {w : World} {bs : List Nat} (h : Apt B w bs) (hs : B' ≤ B) : Apt B' w bs := ⟨h.1, fun k hk => ⟨Nat.le_trans hs (h.2 k hk).1, (h.2 k hk).2⟩⟩
/-- Old blocks, and new ones. -/
theorem Apt.append {B B' : Nat} {w w' : World} {bs cs : List Nat} (h : Apt B w bs) (k : Apt B' w' cs) (hB : B ≤ B') (h1 : w.heap.size ≤ B') (h2 : w.heap.size ≤ w'.heap.size) : Apt B w' (bs ++ cs) := by
  refine ⟨List.nodup_append.2 ⟨h.1, k.1, fun a ha b hb e => ?_⟩, fun x hx => ?_⟩
  · subst e
    have := (h.2 a ha).2
    have := (k.2 a hb).1
    omega
  · rcases List.mem_append.1 hx with hx | hx
    · exact ⟨(h.2 x hx).1, Nat.lt_of_lt_of_le (h.2 x hx).2 h2⟩
    · exact ⟨Nat.le_trans hB (k.2 x hx).1, (k.2 x hx).2⟩
end Go.Proofs.Ytgedelgdjcnogab

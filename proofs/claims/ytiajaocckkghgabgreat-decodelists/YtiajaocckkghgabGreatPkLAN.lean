/- Part 14 of what the proof stands on. -/
import Derived.Test.YtiajaocckkghgabGreatPkLAM
namespace Go.Proofs.YtiajaocckkghgabGreat
set_option linter.unusedVariables false
set_option linter.unusedSimpArgs false
open Go.ChangeShapes Go.WideShapes Go.ChangeAt Go.RowKit
set_option maxRecDepth 20000
theorem TrO.trIn {n B : Nat} {w : World} {r : List Value} {t : Tr} {bs : List Nat} (h : TrO n B w r t bs) : TrIn n w (.agg r.toArray) t := ⟨r, rfl, h.trC⟩
def s1A (tag label kind : Int) (tn : ByteArray) : ScS := ⟨⟨#[97]⟩, [⟨⟨#[109]⟩, [⟨⟨#[120]⟩, tag, label, kind, tn⟩], []⟩], [], []⟩
theorem s1_few (tag label kind : Int) (tn : ByteArray) : FewL (s1A tag label kind tn) := ⟨by simp [s1A], by simp [s1A], by simp [s1A], fun m hm => by simp [s1A] at hm; subst hm; simp, fun m hm => by simp [s1A] at hm⟩
theorem s1_w (tag label kind : Int) (tn : ByteArray) (h1 : I64 tag) (h2 : I64 label) (h3 : I64 kind) (h4 : tn.size ≤ 140737488351232) : ScW (s1A tag label kind tn) := ⟨(by decide : (ByteArray.mk #[97]).size ≤ 140737488351232), fun m hm => by simp [s1A] at hm; subst hm; exact ⟨(by decide : (ByteArray.mk #[109]).size ≤ 140737488351232), (fun f hf => by simp at hf; subst hf; exact ⟨(by decide : (ByteArray.mk #[120]).size ≤ 140737488351232), h4, h1, h2, h3⟩), by simp⟩, fun m hm => by simp [s1A] at hm, fun m hm => by simp [s1A] at hm⟩
theorem s1_msg (tag label kind : Int) (tn : ByteArray) : msgOf (s1A tag label kind tn) ⟨#[109]⟩ = some ⟨⟨#[109]⟩, [⟨⟨#[120]⟩, tag, label, kind, tn⟩], []⟩ := by simp [msgOf, s1A]
theorem s1_in {w : World} {b0 b1 : Nat} {tag label kind : Int} {tn : ByteArray} (BF : Blk w b0 #[.string ⟨#[120]⟩, .int .i64 tag, .int .i64 label, .int .i64 kind, .string tn] 56) (BM : Blk w b1 #[.string ⟨#[109]⟩, .slice (some ⟨b0, 0, none⟩) 1 1, .slice none 0 0] 34) :
  ScIn w (.agg #[.string ⟨#[97]⟩, .slice (some ⟨b1, 0, none⟩) 1 1, .slice none 0 0, .slice none 0 0]) (s1A tag label kind tn) :=
 sc_one BM (RowG.blk BF rfl (fun r hr => by simp [flRows] at hr; subst hr; rfl) rfl (by decide))
theorem pushRaw {w : World} {B : Nat} {v : Value} {xs : List Fd} {bz : Nat} (h : w.ownsRow B 44 4 v xs.length (rawCells xs)) (hB : B ≤ w.heap.size) (r : Fd) (hl : xs.length ≤ 5000) (BZ : Blk w bz r.cells.toArray 44) :
  ∃ a c' W', (Builtin.append_ #[37, 37] 37 #[v, .slice (some ⟨bz, 0, none⟩) 1 1]).run Tryz.prog w = .ok (.slice a (xs.length + 1) c') W' ∧ W'.ownsRow B 44 4 (.slice a (xs.length + 1) c') (xs ++ [r]).length (rawCells (xs ++ [r])) ∧ Below B w W' := by
 obtain ⟨i0, hi0, hz0, hz1, hz2⟩ := info_parts infoRaw
 obtain ⟨v', W', r1, r2, r3, _, r5⟩ := run_append_own_at w B 37 37 44 i0 _ 4 40 Tryz.underlying37 hi0 hz0 hz1 hz2 rfl (by decide) v xs.length _ h ⟨bz, 0, none⟩ 1 1 r.cells rfl (fun j u hu => by
  have := BZ.cell j
  rw [Addr.add_lit, Nat.zero_add, this]
  simpa using hu) (fun u hu => by
   simp only [Fd.cells, List.mem_cons, List.not_mem_nil, or_false] at hu
   rcases hu with rfl | rfl | rfl | rfl <;> rfl) (by unfold maxLen; omega) (by omega) hB
 obtain ⟨a, c', rfl⟩ := own_form r2
 obtain ⟨e1, e2⟩ := rawCells_snoc xs r
 refine ⟨a, c', W', r1, by rw [e1, e2]; exact r2, ?_⟩
 exact (Below.refl _ _).grown r3 hB fun k hk => (own_lt h hk).1
theorem IsRow.rowG {w : World} {a : Option Addr} {len cap : Nat} {zs : List Int} (h : IsRow .i64 w a len cap zs) : RowG w (.slice a len cap) 1 (inRows (zs.take len)) ∧ (zs.take len).length = len := by
 rcases h with ⟨rfl, rfl, rfl, rfl⟩ | ⟨x, rfl, hl, hm, hz, hc, hw⟩
 ·exact ⟨RowG.nil _ _, rfl⟩
 ·have hlen : (zs.take len).length = len := by rw [List.length_take]; omega
  refine ⟨⟨some x, cap, by rw [show (inRows (zs.take len)).length = len by rw [inRows, List.length_map, hlen]], by rw [show (inRows (zs.take len)).length = len by rw [inRows, List.length_map, hlen]]; exact hl, hm, (fun e => by cases e), fun hne => ?_⟩, hlen⟩
  have hp : 0 < len := by
   cases len with
   | zero => exact absurd (by simp [inRows]) hne
   | succ n => omega
  obtain ⟨b, off, rfl, hcell⟩ := ints_at hc (by omega)
  refine ⟨b, off, rfl, fun i c u j hi hu => ?_⟩
  simp only [inRows, List.getElem?_map, Option.map_eq_some_iff] at hi
  obtain ⟨n, hn, rfl⟩ := hi
  obtain ⟨hj, rfl⟩ : j = 0 ∧ Value.int .i64 n = u := by
   cases j with
   | zero => simpa using hu
   | succ j => simp at hu
  subst hj
  have hi' : i < len := by
   have := (List.getElem?_eq_some_iff.1 hn).1
   omega
  rw [Nat.mul_one, Nat.add_zero, hcell i (by omega)]
  rw [List.getElem?_take_of_lt hi'] at hn
  simp [List.getD_eq_getElem?_getD, hn]
theorem IsRow.i64 {w : World} {a : Option Addr} {len cap : Nat} {zs : List Int} (h : IsRow .i64 w a len cap zs) : ∀ n ∈ zs.take len, Is64 n := fun n hn => by
 rcases h with ⟨rfl, rfl, rfl, rfl⟩ | ⟨x, rfl, hl, hm, hz, hc, hw⟩
 ·simp at hn
 ·have h1 := bounds_i64 (hw n (List.mem_of_mem_take hn))
  unfold Is64; omega
theorem IsRow.len {w : World} {a : Option Addr} {len cap : Nat} {zs : List Int} (h : IsRow .i64 w a len cap zs) : len ≤ cap ∧ cap ≤ maxLen := by
 rcases h with ⟨rfl, rfl, rfl, rfl⟩ | ⟨x, rfl, hl, hm, hz, hc, hw⟩
 ·exact ⟨Nat.le_refl _, by decide⟩
 ·exact ⟨hl, hm⟩
end Go.Proofs.YtiajaocckkghgabGreat

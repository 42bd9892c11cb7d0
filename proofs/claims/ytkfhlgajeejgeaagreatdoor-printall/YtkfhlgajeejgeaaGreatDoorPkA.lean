/- A row of one's own, in a later world; a world that drew. -/
import Derived.WalkKit
import Derived.ProofKit
import Derived.Below
import Derived.Laws.OwnMore
import Derived.BigQuiet
import GoSem.Core.Utf8
import Derived.OpenShut
import Derived.ShutString
import Derived.ChangeOld
import Derived.Maps.OwnSet
import Derived.DeepKeys4
import Derived.Test.YtkfhlgajeejgeaaGreatDoorRows
namespace Go.Proofs.YtkfhlgajeejgeaaGreatDoor
open Go.ChangeShapes Go.WideShapes Go.ChangeAt Go.RowKit
set_option linter.unusedVariables false

theorem own_below {w w1 : World} {base : Nat} {e : TypeId} {s : Nat} {v : Value} {n : Nat} {xs : List Value} (h : w.ownsRow base e s v n xs) (hb : Below w.heap.size w w1) : w1.ownsRow base e s v n xs := by
  refine ⟨h.1, ?_⟩
  rcases h.2 with h | ⟨g, cap, cur, h1, h2, h3, h4⟩
  · exact .inl h
  · exact .inr ⟨g, cap, cur, h1, h2, (hb.block g (Array.getElem?_eq_some_iff.1 h3).1).trans h3, h4⟩
theorem own_belowH {w w1 : World} {base : Nat} {e : TypeId} {s : Nat} {v : Value} {n : Nat} {xs : List Value} (h : Hid (w.ownsRow base e s v n xs)) (hb : Below w.heap.size w w1) : Hid (w1.ownsRow base e s v n xs) := own_below h.out hb
theorem below_drewN {B : Nat} {w wr : World} (n : Nat) (h : Below B w wr) : Below B w (wr.drewN n) := h.trans ⟨rfl, rfl, rfl, Nat.le_refl _, fun _ _ => rfl⟩
end Go.Proofs.YtkfhlgajeejgeaaGreatDoor

/- A frame with holes: all blocks that were there are as they were, but for some. -/
namespace Go.Proofs.YtkfhlgajeejgeaaGreatDoor
open Go.ChangeShapes Go.WideShapes Go.ChangeAt Go.RowKit
set_option linter.unusedVariables false
set_option linter.unusedSimpArgs false
set_option maxRecDepth 20000

/-- All that was there is as it was, but for the blocks of S. -/
structure Kp (S : Nat → Prop) (w w' : World) : Prop where
  os : w'.os = w.os
  tape : w'.tape = w.tape
  output : w'.output = w.output
  size : w.heap.size ≤ w'.heap.size
  block : ∀ k, k < w.heap.size → ¬ S k → w'.heap[k]? = w.heap[k]?
theorem Kp.refl (S : Nat → Prop) (w : World) : Kp S w w := ⟨rfl, rfl, rfl, Nat.le_refl _, fun _ _ _ => rfl⟩
theorem Kp.trans {S : Nat → Prop} {a b c : World} (h : Kp S a b) (k : Kp S b c) : Kp S a c :=
  ⟨k.os.trans h.os, k.tape.trans h.tape, k.output.trans h.output, Nat.le_trans h.size k.size, fun i hi hs => (k.block i (Nat.lt_of_lt_of_le hi h.size) hs).trans (h.block i hi hs)⟩
/-- Two steps, the second with holes that the first world does not have. -/
theorem Kp.trans2 {S S' : Nat → Prop} {a b c : World} (h : Kp S a b) (k : Kp S' b c) (hs : ∀ i, i < a.heap.size → S' i → S i) : Kp S a c :=
  ⟨k.os.trans h.os, k.tape.trans h.tape, k.output.trans h.output, Nat.le_trans h.size k.size, fun i hi hn => (k.block i (Nat.lt_of_lt_of_le hi h.size) (fun e => hn (hs i hi e))).trans (h.block i hi hn)⟩
theorem Kp.weak {S S' : Nat → Prop} {a b : World} (h : Kp S a b) (hs : ∀ i, i < a.heap.size → S i → S' i) : Kp S' a b :=
  ⟨h.os, h.tape, h.output, h.size, fun i hi hn => h.block i hi (fun e => hn (hs i hi e))⟩
theorem Kp.ofBelow {S : Nat → Prop} {w w' : World} (h : Below w.heap.size w w') : Kp S w w' := ⟨h.os, h.tape, h.output, h.size, fun k hk _ => h.block k hk⟩
theorem Kp.toBelow {S : Nat → Prop} {w w' : World} {B : Nat} (h : Kp S w w') (hB : B ≤ w.heap.size) (hs : ∀ k, S k → B ≤ k) : Below B w w' :=
  ⟨h.os, h.tape, h.output, h.size, fun k hk => h.block k (by omega) (fun e => by have := hs k e; omega)⟩
theorem Kp.alloc {S : Nat → Prop} {a w : World} (h : Kp S a w) (o : Obj) : Kp S a (w.alloc o) :=
  h.trans ⟨rfl, rfl, rfl, by simp, fun k hk _ => Below.heap_alloc _ _ _ hk⟩
theorem Kp.setCell {S : Nat → Prop} {a w : World} (h : Kp S a w) {p : Addr} (hp : p.block < a.heap.size → S p.block) (u : Value) : Kp S a (w.setCell p u) :=
  ⟨h.os, h.tape, h.output, by simp [World.setCell]; exact h.size, fun k hk hs => (Below.heap_setCell _ _ _ _ (fun e => hs (by subst e; exact hp hk))).trans (h.block k hk hs)⟩
theorem Kp.grown {S : Nat → Prop} {a w w' : World} {row : Option Nat} (h : Kp S a w) (hg : w.grownBy w' row) (hr : ∀ k, row = some k → k < a.heap.size → S k) : Kp S a w' :=
  ⟨hg.os.trans h.os, hg.tape.trans h.tape, hg.output.trans h.output, Nat.le_trans h.size hg.size, fun k hk hs => (hg.block k (Nat.lt_of_lt_of_le hk h.size) (fun e => hs (hr k e.symm hk))).trans (h.block k hk hs)⟩
theorem Kp.drewN {S : Nat → Prop} {a w : World} (n : Nat) (h : Kp S a w) : Kp S a (w.drewN n) := ⟨h.os, h.tape, h.output, h.size, h.block⟩
theorem Kp.below {S : Nat → Prop} {a w w' : World} (h : Kp S a w) (hb : Below w.heap.size w w') : Kp S a w' := h.trans (Kp.ofBelow hb)
theorem Kp.cell {S : Nat → Prop} {w w' : World} (h : Kp S w w') {p : Addr} {u : Value} (hc : w.cell? p = some u) (hs : ¬ S p.block) : w'.cell? p = some u :=
  (World.cell?_of_block (w := w) (h.block p.block (World.block_lt_of_cell? _ _ hc) hs)).trans hc
theorem own_kp {S : Nat → Prop} {w w1 : World} {base : Nat} {e : TypeId} {s : Nat} {v : Value} {n : Nat} {xs : List Value} (h : w.ownsRow base e s v n xs) (hb : Kp S w w1) (hs : ∀ k, base ≤ k → ¬ S k) : w1.ownsRow base e s v n xs := by
  refine ⟨h.1, ?_⟩
  rcases h.2 with h | ⟨g, cap, cur, h1, h2, h3, h4⟩
  · exact .inl h
  · exact .inr ⟨g, cap, cur, h1, h2, (hb.block g (Array.getElem?_eq_some_iff.1 h3).1 (hs g h2)).trans h3, h4⟩
theorem own_kpH {S : Nat → Prop} {w w1 : World} {base : Nat} {e : TypeId} {s : Nat} {v : Value} {n : Nat} {xs : List Value} (h : Hid (w.ownsRow base e s v n xs)) (hb : Kp S w w1) (hs : ∀ k, base ≤ k → ¬ S k) : Hid (w1.ownsRow base e s v n xs) := own_kp h.out hb hs
/-- From a higher base on. -/
theorem own_base {w : World} {base base' : Nat} {e : TypeId} {s : Nat} {v : Value} {n : Nat} {xs : List Value} (h : w.ownsRow base e s v n xs) (hb : base' ≤ base) : w.ownsRow base' e s v n xs := by
  refine ⟨h.1, ?_⟩
  rcases h.2 with h | ⟨g, cap, cur, h1, h2, h3⟩
  · exact .inl h
  · exact .inr ⟨g, cap, cur, h1, by omega, h3⟩
/-- Kept, by the block itself. -/
theorem own_kpV {S : Nat → Prop} {w w1 : World} {base : Nat} {e : TypeId} {s : Nat} {v : Value} {n : Nat} {xs : List Value} (h : w.ownsRow base e s v n xs) (hb : Kp S w w1) (hs : ∀ k, v.ownBlock = some k → ¬ S k) : w1.ownsRow base e s v n xs := by
  refine ⟨h.1, ?_⟩
  rcases h.2 with h | ⟨g, cap, cur, h1, h2, h3, h4⟩
  · exact .inl h
  · refine .inr ⟨g, cap, cur, h1, h2, (hb.block g (Array.getElem?_eq_some_iff.1 h3).1 (hs g ?_)).trans h3, h4⟩
    rw [h1]; rfl
/-- A block of one's own with given cells, and a cell of it written. -/
theorem block_set {w : World} {g : Nat} {cur : Array Value} {e : TypeId} {fz : Nat × Nat} (h : w.heap[g]? = some (.cells cur e fz)) (i : Nat) (u : Value) : (w.setCell ⟨g, i, none⟩ u).heap[g]? = some (.cells (cur.setIfInBounds i u) e fz) := by
  simp [World.setCell, Array.getElem?_modify, h]
theorem block_cell {w : World} {g : Nat} {cur : Array Value} {e : TypeId} {fz : Nat × Nat} (h : w.heap[g]? = some (.cells cur e fz)) (i : Nat) : w.cell? ⟨g, i, none⟩ = cur[i]? := by
  simp [World.cell?, h]
theorem block_froz {w : World} {g : Nat} {cur : Array Value} {e : TypeId} (h : w.heap[g]? = some (.cells cur e (0, 0))) (i : Nat) : w.frozen? ⟨g, i, none⟩ = false := by
  simp [World.frozen?, h]
theorem own_form {w : World} {B : Nat} {e : TypeId} {s : Nat} {v : Value} {n : Nat} {xs : List Value} (h : w.ownsRow B e s v n xs) : ∃ a c, v = .slice a n c := by
  rcases h.2 with ⟨rfl, rfl⟩ | ⟨q, cap, cur, rfl, _⟩
  · exact ⟨none, 0, rfl⟩
  · exact ⟨_, _, rfl⟩
end Go.Proofs.YtkfhlgajeejgeaaGreatDoor

/- Plain facts on runes: which rune the bytes of a list begin with, and that the model's own decoder and encoder agree with it. No condition. -/
set_option linter.unusedSimpArgs false
set_option maxRecDepth 20000
namespace Go.Proofs.YtkfhlgajeejgeaaGreatDoor

def ctU (a : UInt8) : Bool := decide (128 ≤ a.toNat) && decide (a.toNat ≤ 191)

def two (a b : UInt8) : Nat := (a.toNat - 192) * 64 + (b.toNat - 128)
def three (a b c : UInt8) : Nat := ((a.toNat - 224) * 64 + (b.toNat - 128)) * 64 + (c.toNat - 128)
def four (a b c d : UInt8) : Nat := (((a.toNat - 240) * 64 + (b.toNat - 128)) * 64 + (c.toNat - 128)) * 64 + (d.toNat - 128)

/-- The rune at a list's head, and its width. -/
def nxL : List UInt8 → Option (Nat × Nat)
  | [] => none
  | a :: r =>
    if a.toNat < 128 then some (a.toNat, 1)
    else if 192 ≤ a.toNat ∧ a.toNat < 224 then
      match r with
      | b :: _ => if ctU b = true ∧ 128 ≤ two a b then some (two a b, 2) else none
      | _ => none
    else if 224 ≤ a.toNat ∧ a.toNat < 240 then
      match r with
      | b :: c :: _ => if ctU b = true ∧ ctU c = true ∧ 2048 ≤ three a b c ∧ ¬ (55296 ≤ three a b c ∧ three a b c ≤ 57343) then some (three a b c, 3) else none
      | _ => none
    else if 240 ≤ a.toNat ∧ a.toNat < 248 then
      match r with
      | b :: c :: d :: _ => if ctU b = true ∧ ctU c = true ∧ ctU d = true ∧ 65536 ≤ four a b c d ∧ four a b c d ≤ 1114111 then some (four a b c d, 4) else none
      | _ => none
    else none

theorem get_list (l : List UInt8) (k : Nat) : (ByteArray.mk l.toArray).get! k = l.getD k default := by
  simp [ByteArray.get!, List.getD_eq_getElem?_getD, getElem!_def]
  cases h : l[k]? <;> simp

theorem decode_drop (s : ByteArray) (i : Nat) (h : i ≤ s.size) :
    Utf8.decode s i = Utf8.decode ⟨(s.data.toList.drop i).toArray⟩ 0 := by
  obtain ⟨⟨l⟩⟩ := s
  have e : ∀ k, (ByteArray.mk l.toArray).get! (i + k) = (ByteArray.mk (l.drop i).toArray).get! (0 + k) := by
    intro k
    rw [get_list, get_list]
    simp [List.getD_eq_getElem?_getD]
  have e2 : ∀ k, (i + k < (ByteArray.mk l.toArray).size) ↔ (0 + k < (ByteArray.mk (l.drop i).toArray).size) := by
    intro k
    simp only [ByteArray.size, List.size_toArray, List.length_drop]
    omega
  simp only [Utf8.decode, e, e2]

def hasErr (l : List UInt8) : Bool := [239, 191, 189].isPrefixOf l

theorem size_list (l : List UInt8) : (ByteArray.mk l.toArray).size = l.length := by simp [ByteArray.size]

theorem dec_1 (a : UInt8) (r : List UInt8) (h : a.toNat < 128) : Utf8.decode ⟨(a :: r).toArray⟩ 0 = (a.toNat, 1) := by
  simp only [Utf8.decode, get_list, size_list]
  simp [h]

theorem cont_of {b : UInt8} (h : ctU b = true) : b.toNat / 64 = 2 := by simp [ctU] at h; omega
theorem cont_not {b : UInt8} (h : ctU b = false) : ¬ b.toNat / 64 = 2 := by simp [ctU] at h; omega

theorem two_eq {a b : UInt8} (h1 : 192 ≤ a.toNat) (h2 : a.toNat < 224) (h : ctU b = true) : a.toNat % 32 * 64 + b.toNat % 64 = two a b := by
  simp [ctU] at h; simp only [two]; omega
theorem three_eq {a b c : UInt8} (h1 : 224 ≤ a.toNat) (h2 : a.toNat < 240) (h : ctU b = true) (hc : ctU c = true) : a.toNat % 16 * 4096 + b.toNat % 64 * 64 + c.toNat % 64 = three a b c := by
  simp [ctU] at h hc; simp only [three]; omega
theorem four_eq {a b c d : UInt8} (h1 : 240 ≤ a.toNat) (h2 : a.toNat < 248) (h : ctU b = true) (hc : ctU c = true) (hd : ctU d = true) : a.toNat % 8 * 262144 + b.toNat % 64 * 4096 + c.toNat % 64 * 64 + d.toNat % 64 = four a b c d := by
  simp [ctU] at h hc hd; simp only [four]; omega

theorem two_lt {a b : UInt8} (h2 : a.toNat < 224) (h : ctU b = true) : two a b < 2048 := by
  simp [ctU] at h; simp only [two]; omega
theorem three_lt {a b c : UInt8} (h2 : a.toNat < 240) (h : ctU b = true) (hc : ctU c = true) : three a b c < 65536 := by
  simp [ctU] at h hc; simp only [three]; omega

theorem dec_2 (a b : UInt8) (r : List UInt8) (h1 : 192 ≤ a.toNat) (h2 : a.toNat < 224) (h : ctU b = true) :
    Utf8.decode ⟨(a :: b :: r).toArray⟩ 0 = if 128 ≤ two a b then (two a b, 2) else (65533, 1) := by
  have e1 : ¬ a.toNat < 128 := by omega
  have e2 : a.toNat / 32 = 6 := by omega
  have e3 := cont_of h
  have e4 := two_eq h1 h2 h
  simp only [Utf8.decode, get_list, size_list]
  simp [e1, e2, e3, e4, Utf8.runeError]
theorem dec_2n (a : UInt8) (r : List UInt8) (h1 : 192 ≤ a.toNat) (h2 : a.toNat < 224) (h : ∀ b r', r = b :: r' → ctU b = false) :
    Utf8.decode ⟨(a :: r).toArray⟩ 0 = (65533, 1) := by
  have e1 : ¬ a.toNat < 128 := by omega
  have e2 : a.toNat / 32 = 6 := by omega
  have e5 : ¬ a.toNat / 16 = 14 := by omega
  have e6 : ¬ a.toNat / 8 = 30 := by omega
  simp only [Utf8.decode, get_list, size_list]
  match r with
  | [] => simp [e1, e2, Utf8.runeError]
  | b :: r' =>
    have e3 := cont_not (h b r' rfl)
    simp [e1, e2, e3, e5, e6, Utf8.runeError]
theorem dec_3 (a b c : UInt8) (r : List UInt8) (h1 : 224 ≤ a.toNat) (h2 : a.toNat < 240) (h : ctU b = true) (hc : ctU c = true) :
    Utf8.decode ⟨(a :: b :: c :: r).toArray⟩ 0 = if 2048 ≤ three a b c ∧ ¬ (55296 ≤ three a b c ∧ three a b c ≤ 57343) then (three a b c, 3) else (65533, 1) := by
  have e1 : ¬ a.toNat < 128 := by omega
  have e2 : ¬ a.toNat / 32 = 6 := by omega
  have e3 : a.toNat / 16 = 14 := by omega
  have e4 := cont_of h
  have e5 := cont_of hc
  have e6 := three_eq h1 h2 h hc
  have e7 := three_lt h2 h hc
  simp only [Utf8.decode, get_list, size_list]
  simp [e1, e2, e3, e4, e5, e6, Utf8.runeError, Utf8.valid]
  generalize three a b c = v at *
  by_cases g1 : 2048 ≤ v
  · by_cases g2 : v < 55296
    · have : ((v : Int) < 55296) := by omega
      simp [g1, g2, this]; omega
    · by_cases g3 : 57344 ≤ v
      · have i1 : ((57344 : Int) ≤ v) := by omega
        have i2 : ((v : Int) ≤ 1114111) := by omega
        simp [g1, i1, i2]; omega
      · have i1 : ¬ ((57344 : Int) ≤ v) := by omega
        have i2 : ¬ ((v : Int) < 55296) := by omega
        have i3 : ¬ (55296 ≤ v → 57343 < v) := by omega
        simp [i1, i2, i3]
  · simp [g1]
theorem dec_3n (a : UInt8) (r : List UInt8) (h1 : 224 ≤ a.toNat) (h2 : a.toNat < 240) (h : ∀ b c r', r = b :: c :: r' → ctU b = false ∨ ctU c = false) :
    Utf8.decode ⟨(a :: r).toArray⟩ 0 = (65533, 1) := by
  have e1 : ¬ a.toNat < 128 := by omega
  have e2 : ¬ a.toNat / 32 = 6 := by omega
  have e3 : a.toNat / 16 = 14 := by omega
  have e6 : ¬ a.toNat / 8 = 30 := by omega
  simp only [Utf8.decode, get_list, size_list]
  match r with
  | [] => simp [e1, e2, e6, Utf8.runeError]
  | [b] => simp [e1, e2, e6, Utf8.runeError]
  | b :: c :: r' =>
    rcases h b c r' rfl with g | g
    · simp [e1, e2, e6, cont_not g, Utf8.runeError]
    · simp [e1, e2, e6, cont_not g, Utf8.runeError]
theorem dec_4 (a b c d : UInt8) (r : List UInt8) (h1 : 240 ≤ a.toNat) (h2 : a.toNat < 248) (h : ctU b = true) (hc : ctU c = true) (hd : ctU d = true) :
    Utf8.decode ⟨(a :: b :: c :: d :: r).toArray⟩ 0 = if 65536 ≤ four a b c d ∧ four a b c d ≤ 1114111 then (four a b c d, 4) else (65533, 1) := by
  have e1 : ¬ a.toNat < 128 := by omega
  have e2 : ¬ a.toNat / 32 = 6 := by omega
  have e3 : ¬ a.toNat / 16 = 14 := by omega
  have e8 : a.toNat / 8 = 30 := by omega
  have e4 := cont_of h
  have e5 := cont_of hc
  have e9 := cont_of hd
  have e6 := four_eq h1 h2 h hc hd
  simp only [Utf8.decode, get_list, size_list]
  simp [e1, e2, e3, e4, e5, e6, e8, e9, Utf8.runeError, Utf8.valid]
  generalize four a b c d = v at *
  by_cases g1 : 65536 ≤ v
  · have i1 : ((57344 : Int) ≤ v) := by omega
    have i4 : ¬ ((v : Int) < 55296) := by omega
    by_cases g3 : v ≤ 1114111
    · have i2 : ((v : Int) ≤ 1114111) := by omega
      simp [g1, i1, i2, i4, g3]
    · have i2 : ¬ ((v : Int) ≤ 1114111) := by omega
      simp [i2, i4, g3]
  · simp [g1]
theorem dec_4n (a : UInt8) (r : List UInt8) (h1 : 240 ≤ a.toNat) (h2 : a.toNat < 248) (h : ∀ b c d r', r = b :: c :: d :: r' → ctU b = false ∨ ctU c = false ∨ ctU d = false) :
    Utf8.decode ⟨(a :: r).toArray⟩ 0 = (65533, 1) := by
  have e1 : ¬ a.toNat < 128 := by omega
  have e2 : ¬ a.toNat / 32 = 6 := by omega
  have e3 : ¬ a.toNat / 16 = 14 := by omega
  simp only [Utf8.decode, get_list, size_list]
  match r with
  | [] => simp [e1, e2, e3, Utf8.runeError]
  | [b] => simp [e1, e2, e3, Utf8.runeError]
  | [b, c] => simp [e1, e2, e3, Utf8.runeError]
  | b :: c :: d :: r' =>
    rcases h b c d r' rfl with g | g | g
    · simp [e1, e2, e3, cont_not g, Utf8.runeError]
    · simp [e1, e2, e3, cont_not g, Utf8.runeError]
    · simp [e1, e2, e3, cont_not g, Utf8.runeError]
theorem dec_0 (a : UInt8) (r : List UInt8) (h : 128 ≤ a.toNat) (h1 : ¬ (192 ≤ a.toNat ∧ a.toNat < 224)) (h2 : ¬ (224 ≤ a.toNat ∧ a.toNat < 240)) (h3 : ¬ (240 ≤ a.toNat ∧ a.toNat < 248)) :
    Utf8.decode ⟨(a :: r).toArray⟩ 0 = (65533, 1) := by
  have e1 : ¬ a.toNat < 128 := by omega
  have e2 : ¬ a.toNat / 32 = 6 := by omega
  have e3 : ¬ a.toNat / 16 = 14 := by omega
  have e4 : ¬ a.toNat / 8 = 30 := by omega
  simp only [Utf8.decode, get_list, size_list]
  simp [e1, e2, e3, e4, Utf8.runeError]

theorem hasErr_three {a b c : UInt8} {r : List UInt8} (h : three a b c = 65533) (h1 : 224 ≤ a.toNat) (h2 : a.toNat < 240) (hb : ctU b = true) (hc : ctU c = true) : hasErr (a :: b :: c :: r) = true := by
  simp [ctU] at hb hc
  simp only [three] at h
  have ea : a = 239 := UInt8.toNat_inj.1 (by show a.toNat = 239; omega)
  have eb : b = 191 := UInt8.toNat_inj.1 (by show b.toNat = 191; omega)
  have ec : c = 189 := UInt8.toNat_inj.1 (by show c.toNat = 189; omega)
  subst ea eb ec
  simp [hasErr, List.isPrefixOf]
theorem hasErr_iff {l : List UInt8} (h : hasErr l = true) : nxL l = some (65533, 3) := by
  match l with
  | [] => simp [hasErr, List.isPrefixOf] at h
  | [a] => simp [hasErr, List.isPrefixOf] at h
  | [a, b] => simp [hasErr, List.isPrefixOf] at h
  | a :: b :: c :: r =>
    simp [hasErr, List.isPrefixOf] at h
    obtain ⟨rfl, rfl, rfl⟩ := h
    rfl

/-- What the model's decoder reads at a list's head, told without it. -/
theorem decode_nx (a : UInt8) (r : List UInt8) :
    nxL (a :: r) = if (Utf8.decode ⟨(a :: r).toArray⟩ 0).1 = 65533 ∧ hasErr (a :: r) = false then none else some (Utf8.decode ⟨(a :: r).toArray⟩ 0) := by
  have ha := a.toNat_lt
  cases he : hasErr (a :: r) with
  | true =>
    rw [hasErr_iff he]
    match r with
    | [] => simp [hasErr, List.isPrefixOf] at he
    | [b] => simp [hasErr, List.isPrefixOf] at he
    | b :: c :: r' =>
      simp [hasErr, List.isPrefixOf] at he
      obtain ⟨rfl, rfl, rfl⟩ := he
      rw [dec_3 _ _ _ _ (by decide) (by decide) (by decide) (by decide)]
      rfl
  | false =>
    by_cases h0 : a.toNat < 128
    · rw [dec_1 a r h0, if_neg (by simp; omega)]
      simp [nxL, h0]
    · by_cases h2 : 192 ≤ a.toNat ∧ a.toNat < 224
      · by_cases hc : ∀ b r', r = b :: r' → ctU b = false
        · rw [dec_2n a r h2.1 h2.2 hc, if_pos ⟨rfl, rfl⟩]
          match r with
          | [] => simp only [nxL]; rw [if_neg h0, if_pos h2]
          | b :: r' => simp only [nxL]; rw [if_neg h0, if_pos h2, if_neg (by rw [hc b r' rfl]; simp)]
        · simp only [Classical.not_forall] at hc
          obtain ⟨b, r', rfl, hb⟩ := hc
          have hb' : ctU b = true := by simpa using hb
          have hl := two_lt h2.2 hb'
          rw [dec_2 a b r' h2.1 h2.2 hb']
          simp only [nxL]
          rw [if_neg h0, if_pos h2]
          by_cases g : 128 ≤ two a b
          · rw [if_pos ⟨hb', g⟩, if_pos g, if_neg (by simp; omega)]
          · rw [if_neg (fun x => g x.2), if_neg g, if_pos (by simp)]
      · by_cases h3 : 224 ≤ a.toNat ∧ a.toNat < 240
        · by_cases hc : ∀ b c r', r = b :: c :: r' → ctU b = false ∨ ctU c = false
          · rw [dec_3n a r h3.1 h3.2 hc, if_pos ⟨rfl, rfl⟩]
            match r with
            | [] => simp only [nxL]; rw [if_neg h0, if_neg h2, if_pos h3]
            | [b] => simp only [nxL]; rw [if_neg h0, if_neg h2, if_pos h3]
            | b :: c :: r' => simp only [nxL]; rw [if_neg h0, if_neg h2, if_pos h3, if_neg (by rcases hc b c r' rfl with g | g <;> rw [g] <;> simp)]
          · simp only [Classical.not_forall, not_or] at hc
            obtain ⟨b, c, r', rfl, hb, hc⟩ := hc
            have hb' : ctU b = true := by simpa using hb
            have hc' : ctU c = true := by simpa using hc
            rw [dec_3 a b c r' h3.1 h3.2 hb' hc']
            simp only [nxL]
            rw [if_neg h0, if_neg h2, if_pos h3]
            by_cases g : 2048 ≤ three a b c ∧ ¬ (55296 ≤ three a b c ∧ three a b c ≤ 57343)
            · rw [if_pos ⟨hb', hc', g⟩, if_pos g, if_neg]
              rintro ⟨g1, _⟩
              rw [hasErr_three g1 h3.1 h3.2 hb' hc'] at he
              cases he
            · rw [if_neg (fun x => g x.2.2), if_neg g, if_pos (by simp)]
        · by_cases h4 : 240 ≤ a.toNat ∧ a.toNat < 248
          · by_cases hc : ∀ b c d r', r = b :: c :: d :: r' → ctU b = false ∨ ctU c = false ∨ ctU d = false
            · rw [dec_4n a r h4.1 h4.2 hc, if_pos ⟨rfl, rfl⟩]
              match r with
              | [] => simp only [nxL]; rw [if_neg h0, if_neg h2, if_neg h3, if_pos h4]
              | [b] => simp only [nxL]; rw [if_neg h0, if_neg h2, if_neg h3, if_pos h4]
              | [b, c] => simp only [nxL]; rw [if_neg h0, if_neg h2, if_neg h3, if_pos h4]
              | b :: c :: d :: r' => simp only [nxL]; rw [if_neg h0, if_neg h2, if_neg h3, if_pos h4, if_neg (by rcases hc b c d r' rfl with g | g | g <;> rw [g] <;> simp)]
            · simp only [Classical.not_forall, not_or] at hc
              obtain ⟨b, c, d, r', rfl, hb, hc, hd⟩ := hc
              have hb' : ctU b = true := by simpa using hb
              have hc' : ctU c = true := by simpa using hc
              have hd' : ctU d = true := by simpa using hd
              rw [dec_4 a b c d r' h4.1 h4.2 hb' hc' hd']
              simp only [nxL]
              rw [if_neg h0, if_neg h2, if_neg h3, if_pos h4]
              by_cases g : 65536 ≤ four a b c d ∧ four a b c d ≤ 1114111
              · rw [if_pos ⟨hb', hc', hd', g⟩, if_pos g, if_neg (by simp; omega)]
              · rw [if_neg (fun x => g x.2.2.2), if_neg g, if_pos (by simp)]
          · rw [dec_0 a r (by omega) h2 h3 h4, if_pos ⟨rfl, rfl⟩]
            simp only [nxL]
            rw [if_neg h0, if_neg h2, if_neg h3, if_neg h4]

theorem decode_nx' (l : List UInt8) (hl : l ≠ []) :
    nxL l = if (Utf8.decode ⟨l.toArray⟩ 0).1 = 65533 ∧ hasErr l = false then none else some (Utf8.decode ⟨l.toArray⟩ 0) := by
  match l with
  | [] => exact absurd rfl hl
  | a :: r => exact decode_nx a r

theorem u8_of {n : Nat} (a : UInt8) (h : n = a.toNat) : UInt8.ofNat n = a := by
  subst h; simp

/-- A rune that was read is one: its bytes are those that were read. -/
theorem nxL_some (l : List UInt8) (c k : Nat) (h : nxL l = some (c, k)) :
    Utf8.valid c = true ∧ (Utf8.encode c).data.toList = l.take k ∧ (Utf8.encode c).size = k ∧ 1 ≤ k ∧ k ≤ l.length ∧ k ≤ 4 ∧ c ≤ 1114111 := by
  match l with
  | [] => simp [nxL] at h
  | a :: r =>
    simp only [nxL] at h
    by_cases h0 : a.toNat < 128
    · rw [if_pos h0] at h
      simp only [Option.some.injEq, Prod.mk.injEq] at h
      obtain ⟨rfl, rfl⟩ := h
      have hv : Utf8.valid (a.toNat : Int) = true := by simp [Utf8.valid]; omega
      have he : Utf8.encode (a.toNat : Int) = ⟨#[a]⟩ := by
        simp [Utf8.encode, hv, h0]
      rw [he]
      exact ⟨hv, by simp, by simp [ByteArray.size], by omega, by simp, by omega, by omega⟩
    · rw [if_neg h0] at h
      by_cases h2 : 192 ≤ a.toNat ∧ a.toNat < 224
      · rw [if_pos h2] at h
        match r with
        | [] => simp at h
        | b :: r' =>
          simp only at h
          by_cases g : ctU b = true ∧ 128 ≤ two a b
          · rw [if_pos g] at h
            simp only [Option.some.injEq, Prod.mk.injEq] at h
            obtain ⟨rfl, rfl⟩ := h
            have hl := two_lt h2.2 g.1
            have hb := g.1
            simp only [ctU, Bool.and_eq_true, decide_eq_true_eq] at hb
            have hv : Utf8.valid (two a b : Int) = true := by simp [Utf8.valid]; omega
            have n1 : ¬ two a b < 128 := by omega
            have he : Utf8.encode (two a b : Int) = ⟨#[a, b]⟩ := by
              simp only [Utf8.encode, hv, if_true, Int.toNat_natCast, if_neg n1, if_pos hl]
              rw [u8_of a (by simp only [two]; omega), u8_of b (by simp only [two]; omega)]
            rw [he]
            exact ⟨hv, by simp, by simp [ByteArray.size], by omega, by simp, by omega, by omega⟩
          · rw [if_neg g] at h; simp at h
      · rw [if_neg h2] at h
        by_cases h3 : 224 ≤ a.toNat ∧ a.toNat < 240
        · rw [if_pos h3] at h
          match r with
          | [] => simp at h
          | [b] => simp at h
          | b :: c' :: r' =>
            simp only at h
            by_cases g : ctU b = true ∧ ctU c' = true ∧ 2048 ≤ three a b c' ∧ ¬ (55296 ≤ three a b c' ∧ three a b c' ≤ 57343)
            · rw [if_pos g] at h
              simp only [Option.some.injEq, Prod.mk.injEq] at h
              obtain ⟨rfl, rfl⟩ := h
              obtain ⟨g1, g2, g3, g4⟩ := g
              have hl := three_lt h3.2 g1 g2
              simp only [ctU, Bool.and_eq_true, decide_eq_true_eq] at g1 g2
              have hv : Utf8.valid (three a b c' : Int) = true := by simp [Utf8.valid]; omega
              have n1 : ¬ three a b c' < 128 := by omega
              have n2 : ¬ three a b c' < 2048 := by omega
              have he : Utf8.encode (three a b c' : Int) = ⟨#[a, b, c']⟩ := by
                simp only [Utf8.encode, hv, if_true, Int.toNat_natCast, if_neg n1, if_neg n2, if_pos hl]
                rw [u8_of a (by simp only [three]; omega), u8_of b (by simp only [three]; omega), u8_of c' (by simp only [three]; omega)]
              rw [he]
              exact ⟨hv, by simp, by simp [ByteArray.size], by omega, by simp, by omega, by omega⟩
            · rw [if_neg g] at h; simp at h
        · rw [if_neg h3] at h
          by_cases h4 : 240 ≤ a.toNat ∧ a.toNat < 248
          · rw [if_pos h4] at h
            match r with
            | [] => simp at h
            | [b] => simp at h
            | [b, c'] => simp at h
            | b :: c' :: d :: r' =>
              simp only at h
              by_cases g : ctU b = true ∧ ctU c' = true ∧ ctU d = true ∧ 65536 ≤ four a b c' d ∧ four a b c' d ≤ 1114111
              · rw [if_pos g] at h
                simp only [Option.some.injEq, Prod.mk.injEq] at h
                obtain ⟨rfl, rfl⟩ := h
                obtain ⟨g1, g2, g3, g4, g5⟩ := g
                simp only [ctU, Bool.and_eq_true, decide_eq_true_eq] at g1 g2 g3
                have hv : Utf8.valid (four a b c' d : Int) = true := by simp [Utf8.valid]; omega
                have n1 : ¬ four a b c' d < 128 := by omega
                have n2 : ¬ four a b c' d < 2048 := by omega
                have n3 : ¬ four a b c' d < 65536 := by omega
                have he : Utf8.encode (four a b c' d : Int) = ⟨#[a, b, c', d]⟩ := by
                  simp only [Utf8.encode, hv, if_true, Int.toNat_natCast, if_neg n1, if_neg n2, if_neg n3]
                  rw [u8_of a (by simp only [four]; omega), u8_of b (by simp only [four]; omega), u8_of c' (by simp only [four]; omega), u8_of d (by simp only [four]; omega)]
                rw [he]
                exact ⟨hv, by simp, by simp [ByteArray.size], by omega, by simp, by omega, by omega⟩
              · rw [if_neg g] at h; simp at h
          · rw [if_neg h4] at h; simp at h

/-- A rune's bytes, whatever stands behind them, are read as that rune. -/
theorem nxL_encode (c : Nat) (h : Utf8.valid c = true) (t : List UInt8) :
    nxL ((Utf8.encode c).data.toList ++ t) = some (c, (Utf8.encode c).size) := by
  have hc : c ≤ 1114111 ∧ ¬ (55296 ≤ c ∧ c ≤ 57343) := by simp [Utf8.valid] at h; omega
  by_cases h1 : c < 128
  · have e : Utf8.encode (c : Int) = ⟨#[UInt8.ofNat c]⟩ := by simp [Utf8.encode, h, h1]
    have n : (UInt8.ofNat c).toNat = c := by simp; omega
    rw [e]
    simp only [List.cons_append, List.nil_append, nxL, n, if_pos h1]
    rfl
  · by_cases h2 : c < 2048
    · have e : Utf8.encode (c : Int) = ⟨#[UInt8.ofNat (192 + c / 64), UInt8.ofNat (128 + c % 64)]⟩ := by simp [Utf8.encode, h, h1, h2]
      have n1 : (UInt8.ofNat (192 + c / 64)).toNat = 192 + c / 64 := by simp; omega
      have n2 : (UInt8.ofNat (128 + c % 64)).toNat = 128 + c % 64 := by simp; omega
      rw [e]
      simp only [List.cons_append, List.nil_append, nxL, n1, n2, ctU, two]
      rw [if_neg (by omega), if_pos (by omega), if_pos (by simp; omega)]
      simp [ByteArray.size]; omega
    · by_cases h3 : c < 65536
      · have e : Utf8.encode (c : Int) = ⟨#[UInt8.ofNat (224 + c / 4096), UInt8.ofNat (128 + c / 64 % 64), UInt8.ofNat (128 + c % 64)]⟩ := by simp [Utf8.encode, h, h1, h2, h3]
        have n1 : (UInt8.ofNat (224 + c / 4096)).toNat = 224 + c / 4096 := by simp; omega
        have n2 : (UInt8.ofNat (128 + c / 64 % 64)).toNat = 128 + c / 64 % 64 := by simp; omega
        have n3 : (UInt8.ofNat (128 + c % 64)).toNat = 128 + c % 64 := by simp; omega
        have hv : ((224 + c / 4096 - 224) * 64 + (128 + c / 64 % 64 - 128)) * 64 + (128 + c % 64 - 128) = c := by omega
        rw [e]
        simp only [List.cons_append, List.nil_append, nxL, n1, n2, n3, ctU, three, hv]
        rw [if_neg (by omega), if_neg (by omega), if_pos (by omega), if_pos (by simp; omega)]
        simp [ByteArray.size]
      · have e : Utf8.encode (c : Int) = ⟨#[UInt8.ofNat (240 + c / 262144), UInt8.ofNat (128 + c / 4096 % 64), UInt8.ofNat (128 + c / 64 % 64), UInt8.ofNat (128 + c % 64)]⟩ := by simp [Utf8.encode, h, h1, h2, h3]
        have n1 : (UInt8.ofNat (240 + c / 262144)).toNat = 240 + c / 262144 := by simp; omega
        have n2 : (UInt8.ofNat (128 + c / 4096 % 64)).toNat = 128 + c / 4096 % 64 := by simp; omega
        have n3 : (UInt8.ofNat (128 + c / 64 % 64)).toNat = 128 + c / 64 % 64 := by simp; omega
        have n4 : (UInt8.ofNat (128 + c % 64)).toNat = 128 + c % 64 := by simp; omega
        have hv : (((240 + c / 262144 - 240) * 64 + (128 + c / 4096 % 64 - 128)) * 64 + (128 + c / 64 % 64 - 128)) * 64 + (128 + c % 64 - 128) = c := by omega
        rw [e]
        simp only [List.cons_append, List.nil_append, nxL, n1, n2, n3, n4, ctU, four, hv]
        rw [if_neg (by omega), if_neg (by omega), if_neg (by omega), if_pos (by omega), if_pos (by simp; omega)]
        simp [ByteArray.size]
end Go.Proofs.YtkfhlgajeejgeaaGreatDoor

/- What the leaf functions of package runes answer (Digit, Letter, Put, Key), at every input. -/
namespace Go.Proofs.YtkfhlgajeejgeaaGreatDoor
open Go.ChangeShapes Go.WideShapes Go.ChangeAt Go.RowKit
set_option linter.unusedVariables false
set_option maxRecDepth 20000

theorem ret_bool {a b : Bool} (h : a = b) : Ending.returned (.bool a) = .returned (.bool b) := by rw [h]
theorem ret_int {k : IntKind} {a b : Int} (h : a = b) : Ending.returned (.int k a) = .returned (.int k b) := by rw [h]
theorem ret_str {a b : ByteArray} (h : a = b) : Ending.returned (.string a) = .returned (.string b) := by rw [h]

def digB (r : Int) : Bool := decide (48 ≤ r ∧ r ≤ 57)
def letB (r : Int) : Bool := decide (97 ≤ r ∧ r ≤ 122 ∨ 65 ≤ r ∧ r ≤ 90 ∨ r = 95 ∨ (192 ≤ r ∧ r ≤ 591 ∧ r ≠ 215 ∧ r ≠ 247) ∨ (913 ≤ r ∧ r ≤ 969 ∧ r ≠ 930))
def putS (r : Int) : ByteArray := if Utf8.valid r then Utf8.encode r else ⟨#[]⟩

set_option maxHeartbeats 400000 in
theorem digit_any (r : Int) (w : World) :
    Calls Tryz.prog 115 #[.int .i32 r] w fun e w' => e = .returned (.bool (digB r)) ∧ w' = w := by
  go_enter Tryz.func115, Tryz.ntmps115
  go_wp2
  all_goals
    go_ret
    exact ⟨ret_bool (by simp [digB]; try omega), rfl⟩

set_option maxHeartbeats 1000000 in
theorem letter_any (r : Int) (w : World) :
    Calls Tryz.prog 114 #[.int .i32 r] w fun e w' => e = .returned (.bool (letB r)) ∧ w' = w := by
  go_enter Tryz.func114, Tryz.ntmps114
  go_wp2
  all_goals
    go_ret
    refine ⟨ret_bool ?_, rfl⟩
    try simp only [beq_eq_false_iff_ne, beq_iff_eq, ne_eq] at *
    rw [Bool.eq_iff_iff]
    simp [letB]
    try omega

theorem valid_iff (r : Int) : Utf8.valid r = true ↔ (0 ≤ r ∧ r ≤ 1114111 ∧ ¬ (55296 ≤ r ∧ r ≤ 57343)) := by
  simp [Utf8.valid]; omega
theorem valid_not (r : Int) : Utf8.valid r = false ↔ ¬ (0 ≤ r ∧ r ≤ 1114111 ∧ ¬ (55296 ≤ r ∧ r ≤ 57343)) := by
  rw [← valid_iff]; simp
theorem putS_yes {r : Int} (h : Utf8.valid r = true) : Utf8.encode r = putS r := by simp [putS, h]
theorem putS_no {r : Int} (h : Utf8.valid r = false) : ⟨#[]⟩ = putS r := by simp [putS, h]


/-- The thirteen words. -/
def keyB (s : ByteArray) : Bool := [[115, 99, 104, 101, 109, 97], [109, 101, 115, 115, 97, 103, 101], [101, 110, 117, 109], [99, 97, 108, 108], [114, 101, 116, 117, 114, 110, 115], [114, 101, 115, 101, 114, 118, 101, 100],
  [111, 112, 116, 105, 111, 110, 97, 108], [114, 101, 112, 101, 97, 116, 101, 100], [105, 110, 116, 51, 50], [105, 110, 116, 54, 52], [98, 111, 111, 108], [116, 101, 120, 116], [98, 121, 116, 101, 115]].any fun (k : List UInt8) => s.toList == k

end Go.Proofs.YtkfhlgajeejgeaaGreatDoor

/- What HasPrefix and stands answer, at every input. -/
namespace Go.Proofs.YtkfhlgajeejgeaaGreatDoor
open Go.ChangeShapes Go.WideShapes Go.ChangeAt Go.RowKit
set_option linter.unusedVariables false
set_option maxRecDepth 20000

theorem prefix_eq (s p : ByteArray) (h : p.size ≤ s.size) : ((s.extract 0 p.size).toList == p.toList) = p.toList.isPrefixOf s.toList := by
  obtain ⟨⟨l⟩⟩ := s
  obtain ⟨⟨q⟩⟩ := p
  simp only [ByteArray.toList_eq, ByteArray.data_extract, ByteArray.size, List.size_toArray, List.extract_toArray, List.extract_eq_take_drop, List.drop_zero, Nat.sub_zero] at *
  rw [Bool.eq_iff_iff, List.isPrefixOf_iff_prefix, List.prefix_iff_eq_take, beq_iff_eq]
  exact eq_comm
theorem prefix_short (s p : ByteArray) (h : ¬ p.size ≤ s.size) : false = p.toList.isPrefixOf s.toList := by
  obtain ⟨⟨l⟩⟩ := s
  obtain ⟨⟨q⟩⟩ := p
  simp only [ByteArray.toList_eq, ByteArray.size, List.size_toArray] at *
  cases e : q.isPrefixOf l with
  | false => rfl
  | true =>
    rw [List.isPrefixOf_iff_prefix] at e
    exact absurd e.length_le h

set_option maxHeartbeats 1000000 in
theorem hasPrefix_any (s p : ByteArray) (w : World) (hs : s.size ≤ 140737488351232) (hp : p.size ≤ 140737488351232) :
    Calls Tryz.prog 140 #[.string s, .string p] w fun e w' => e = .returned (.bool (p.toList.isPrefixOf s.toList)) ∧ w' = w := by
  go_enter Tryz.func140, Tryz.ntmps140
  go_wp2
  · go_ret
    exact ⟨ret_bool (prefix_eq s p ‹_›), rfl⟩
  · go_ret
    exact ⟨ret_bool (prefix_short s p ‹_›), rfl⟩

def standsB (l : List UInt8) (r : Int) : Bool := decide (r ≠ 65533) || hasErr l

theorem extract_drop (s : ByteArray) (i : Nat) : (s.extract i s.size).data.toList = s.data.toList.drop i := by
  obtain ⟨⟨l⟩⟩ := s
  simp [ByteArray.data_extract, ByteArray.size]
  exact List.take_of_length_le (by simp)

theorem hasErr_extract (s : ByteArray) (i : Nat) : [239, 191, 189].isPrefixOf (s.extract i s.size).toList = hasErr (s.data.toList.drop i) := by
  rw [ByteArray.toList_eq, extract_drop]; rfl
theorem extract_size_le (s : ByteArray) (i : Nat) (h : s.size ≤ 140737488351232) : (s.extract i s.size).size ≤ 140737488351232 := by
  simp [ByteArray.size_extract]; omega

set_option maxHeartbeats 1000000 in
theorem stands_any (s : ByteArray) (i : Int) (r : Int) (w : World) (hs : s.size ≤ 140737488351232) (hi : 0 ≤ i) (hj : i ≤ s.size) :
    Calls Tryz.prog 142 #[.string s, .int .i64 i, .int .i32 r] w fun e w' => e = .returned (.bool (standsB (s.data.toList.drop i.toNat) r)) ∧ w' = w := by
  by_cases h : r = 65533
  · subst h
    go_enter Tryz.func142, Tryz.ntmps142
    go_wp2_with (go_at_call 140; refine (hasPrefix_any _ _ _ (extract_size_le s _ hs) (by decide)).mono ?_; rintro e w' ⟨rfl, rfl⟩)
    go_ret
    refine ⟨ret_bool ?_, rfl⟩
    simp [standsB, ← hasErr_extract]
  · have hne : (r != 65533) = true := by simp [h]
    go_enter Tryz.func142, Tryz.ntmps142
    go_wp2_with fail
    go_ret
    refine ⟨ret_bool ?_, rfl⟩
    simp [standsB, h]

theorem drop_cons (s : ByteArray) (i : Nat) (h : i < s.size) : s.data.toList.drop i = s[i] :: s.data.toList.drop (i + 1) := by
  rw [List.drop_eq_getElem_cons (by simpa using h)]; rfl
theorem drop_none (s : ByteArray) (i : Nat) (h : s.size ≤ i) : s.data.toList.drop i = [] := by
  apply List.drop_eq_nil_of_le; simpa using h

def nxV : Option (Nat × Nat) → Value
  | none => .tuple #[.int .i32 0, .int .i64 0, .bool false]
  | some x => .tuple #[.int .i32 (x.1 : Int), .int .i64 (x.2 : Int), .bool true]
def atL (s : ByteArray) (i : Int) : List UInt8 := if i < 0 then [] else s.data.toList.drop i.toNat

theorem ret_none {x : Option (Nat × Nat)} (h : x = none) : Ending.returned (.tuple #[.int .i32 0, .int .i64 0, .bool false]) = .returned (nxV x) := by rw [h]; rfl
theorem ret_some {x : Option (Nat × Nat)} {c k : Int} (c' k' : Nat) (h : x = some (c', k')) (hc : c = c') (hk : k = k') : Ending.returned (.tuple #[.int .i32 c, .int .i64 k, .bool true]) = .returned (nxV x) := by rw [h, hc, hk]; rfl

theorem atL_out (s : ByteArray) (i : Int) (h : i < 0 ∨ (s.size : Int) ≤ i) : nxL (atL s i) = none := by
  unfold atL
  by_cases g : i < 0
  · rw [if_pos g]; rfl
  · rw [if_neg g, drop_none s _ (by omega)]; rfl
theorem atL_in (s : ByteArray) (i : Int) (h : 0 ≤ i) : atL s i = s.data.toList.drop i.toNat := by
  unfold atL; rw [if_neg (by omega)]

theorem below_iter (w : World) (s : ByteArray) (p : Nat) : Below w.heap.size w (w.iter s p) := (Below.refl _ _).alloc (Nat.le_refl _) _

theorem nx_stands {l : List UInt8} {c k : Nat} (hl : l ≠ []) (hd : Utf8.decode ⟨l.toArray⟩ 0 = (c, k)) :
    (standsB l c = true → nxL l = some (c, k)) ∧ (standsB l c = false → nxL l = none) := by
  have h := decode_nx' l hl
  rw [hd] at h
  unfold standsB
  constructor
  · intro g
    rw [h, if_neg]
    rintro ⟨g1, g2⟩
    simp only at g1
    rw [g2, g1] at g
    simp at g
  · intro g
    rw [h, if_pos]
    simp only [Bool.or_eq_false_iff, decide_eq_false_iff_not, ne_eq, Decidable.not_not] at g
    exact ⟨by show c = 65533; omega, g.2⟩

end Go.Proofs.YtkfhlgajeejgeaaGreatDoor

/- Plain facts on texts: the runes that a list of bytes is made of; what a name is. -/
namespace Go.Proofs.YtkfhlgajeejgeaaGreatDoor
open Go.RowKit
set_option linter.unusedVariables false
set_option linter.unusedSimpArgs false
set_option maxRecDepth 20000

/-- The runes of a list of bytes, at most so many; none, if it is not runes alone. -/
def allL : Nat → List UInt8 → Option (List Nat)
  | 0, l => if l.isEmpty then some [] else none
  | f + 1, l => if l.isEmpty then some [] else
    match nxL l with
    | none => none
    | some x => (allL f (l.drop x.2)).map (x.1 :: ·)
def runesOf (l : List UInt8) : Option (List Nat) := allL l.length l

theorem allL_fuel (f : Nat) : ∀ (g : Nat) (l : List UInt8), l.length ≤ f → l.length ≤ g → allL f l = allL g l := by
  induction f with
  | zero =>
    intro g l h _
    have : l = [] := List.length_eq_zero_iff.1 (by omega)
    subst this
    cases g <;> simp [allL]
  | succ f ih =>
    intro g l hf hg
    match l, g with
    | [], 0 => simp [allL]
    | [], g + 1 => simp [allL]
    | a :: r, 0 => simp at hg
    | a :: r, g + 1 =>
      simp only [allL]
      cases e : nxL (a :: r) with
      | none => simp
      | some x =>
        obtain ⟨c, k⟩ := x
        obtain ⟨_, _, _, h4, h5, _⟩ := nxL_some _ _ _ e
        have hd : ((a :: r).drop k).length ≤ f := by simp at hf h5 ⊢; omega
        have hd2 : ((a :: r).drop k).length ≤ g := by simp at hg h5 ⊢; omega
        simp [ih g ((a :: r).drop k) hd hd2]

theorem runesOf_nil : runesOf [] = some [] := rfl
theorem runesOf_bad {l : List UInt8} (hl : l ≠ []) (h : nxL l = none) : runesOf l = none := by
  match l with
  | [] => exact absurd rfl hl
  | a :: r => simp [runesOf, allL, h]
theorem runesOf_step {l : List UInt8} {c k : Nat} (h : nxL l = some (c, k)) : runesOf l = (runesOf (l.drop k)).map (c :: ·) := by
  match l with
  | [] => simp [nxL] at h
  | a :: r =>
    obtain ⟨_, _, _, h4, h5, _⟩ := nxL_some _ _ _ h
    simp only [runesOf, List.length_cons, allL, h]
    have e := allL_fuel r.length ((a :: r).drop k).length ((a :: r).drop k) (by simp; omega) (Nat.le_refl _)
    rw [if_neg (by simp)]
    simp only [e]

theorem runesOf_le (f : Nat) : ∀ l : List UInt8, l.length ≤ f → ∀ rs, runesOf l = some rs → rs.length ≤ l.length := by
  induction f with
  | zero =>
    intro l hl rs h
    have : l = [] := List.length_eq_zero_iff.1 (by omega)
    subst this
    rw [runesOf_nil] at h
    simp at h; subst h; simp
  | succ f ih =>
    intro l hl rs h
    match l with
    | [] => rw [runesOf_nil] at h; simp at h; subst h; simp
    | a :: r =>
      cases e : nxL (a :: r) with
      | none => rw [runesOf_bad (by simp) e] at h; cases h
      | some x =>
        obtain ⟨c, k⟩ := x
        obtain ⟨_, _, _, h4, h5, _⟩ := nxL_some _ _ _ e
        rw [runesOf_step e] at h
        cases e2 : runesOf ((a :: r).drop k) with
        | none => rw [e2] at h; cases h
        | some rs' =>
          rw [e2] at h
          simp at h; subst h
          have := ih _ (by simp at hl h5 ⊢; omega) _ e2
          simp at this h5 ⊢; omega

def validB (l : List UInt8) : Bool := (runesOf l).isSome
def countN (l : List UInt8) : Nat := ((runesOf l).getD []).length
theorem countN_le (l : List UInt8) : countN l ≤ l.length := by
  unfold countN
  cases e : runesOf l with
  | none => simp
  | some rs => simpa using runesOf_le l.length l (Nat.le_refl _) rs e

/-- Signs that may be in a name: the first a letter, others a letter or a digit. -/
def okFrom : Bool → List Nat → Bool
  | _, [] => true
  | b, c :: r => (letB c || (!b && digB c)) && okFrom false r
theorem okFrom_append (acc rest : List Nat) : ∀ b, okFrom b (acc ++ rest) = (okFrom b acc && okFrom (b && acc.isEmpty) rest) := by
  induction acc with
  | nil => intro b; simp [okFrom]
  | cons a r ih => intro b; simp [okFrom, ih, Bool.and_assoc]

def nameB (s : ByteArray) : Bool := decide (1 ≤ countN s.data.toList ∧ countN s.data.toList ≤ 20) && !keyB s && okFrom true ((runesOf s.data.toList).getD [])

/-- What has been gone through, and what is left. -/
def Gone (l : List UInt8) (pos : Nat) (acc : List Nat) : Prop := runesOf l = (runesOf (l.drop pos)).map (acc ++ ·)
theorem Gone.start (l : List UInt8) : Gone l 0 [] := by
  unfold Gone; simp
theorem Gone.step {l : List UInt8} {pos c k : Nat} {acc : List Nat} (h : Gone l pos acc) (hn : nxL (l.drop pos) = some (c, k)) : Gone l (pos + k) (acc ++ [c]) := by
  unfold Gone at h ⊢
  rw [h, runesOf_step hn, List.drop_drop]
  cases runesOf (l.drop (pos + k)) <;> simp
theorem Gone.bad {l : List UInt8} {pos : Nat} {acc : List Nat} (h : Gone l pos acc) (hp : pos < l.length) (hn : nxL (l.drop pos) = none) : runesOf l = none := by
  unfold Gone at h
  rw [h, runesOf_bad _ hn]; rfl
  intro e
  have : (l.drop pos).length = 0 := by rw [e]; rfl
  simp at this; omega
theorem Gone.done {l : List UInt8} {pos : Nat} {acc : List Nat} (h : Gone l pos acc) (hp : l.length ≤ pos) : runesOf l = some acc := by
  unfold Gone at h
  rw [h, List.drop_eq_nil_of_le hp, runesOf_nil]; simp
theorem Gone.len {l : List UInt8} {pos : Nat} {acc rs : List Nat} (h : Gone l pos acc) (hr : runesOf l = some rs) : ∃ rest, rs = acc ++ rest := by
  unfold Gone at h
  rw [hr] at h
  cases e : runesOf (l.drop pos) with
  | none => rw [e] at h; cases h
  | some r => rw [e] at h; simp at h; exact ⟨r, h⟩

/-- The model's decoder at a place of a text, and whether a rune stands there. -/
theorem dec_at (s : ByteArray) (pos : Nat) (h : pos < s.size) : ∃ c k, Utf8.decode s pos = (c, k) ∧
    (standsB (s.data.toList.drop pos) c = true → nxL (s.data.toList.drop pos) = some (c, k)) ∧ (standsB (s.data.toList.drop pos) c = false → nxL (s.data.toList.drop pos) = none) := by
  have hl : s.data.toList.drop pos ≠ [] := by rw [drop_cons s pos h]; exact List.cons_ne_nil _ _
  have hd := decode_drop s pos (by omega)
  rw [hd]
  generalize e : Utf8.decode ⟨(s.data.toList.drop pos).toArray⟩ 0 = d
  obtain ⟨c, k⟩ := d
  exact ⟨c, k, rfl, nx_stands hl e⟩

theorem len_data (s : ByteArray) : s.data.toList.length = s.size := by rw [Array.length_toList]; rfl
theorem nx_of_gone {l : List UInt8} {pos : Nat} {acc rs : List Nat} (h : Gone l pos acc) (hp : pos < l.length) (hr : runesOf l = some rs) : ∃ x, nxL (l.drop pos) = some x := by
  cases e : nxL (l.drop pos) with
  | none => rw [h.bad hp e] at hr; cases hr
  | some x => exact ⟨x, rfl⟩

theorem dec_of_nx {l : List UInt8} {c k : Nat} {x : Nat × Nat} (h1 : standsB l c = true → nxL l = some (c, k)) (h2 : standsB l c = false → nxL l = none) (h : nxL l = some x) : nxL l = some (c, k) := by
  cases e : standsB l c with
  | true => exact h1 e
  | false => rw [h2 e] at h; cases h

end Go.Proofs.YtkfhlgajeejgeaaGreatDoor

/- Schemas in plain mathematics: fields, messages, enumerations, methods; their cells. -/
namespace Go.Proofs.YtkfhlgajeejgeaaGreatDoor

structure FlS where
  name : ByteArray
  tag : Int
  label : Int
  kind : Int
  tname : ByteArray
structure MsS where
  name : ByteArray
  fields : List FlS
  reserved : List Int
structure NmS where
  name : ByteArray
  n : Int
structure EnS where
  name : ByteArray
  values : List NmS
structure MtS where
  name : ByteArray
  inn : ByteArray
  out : ByteArray
structure ScS where
  name : ByteArray
  msgs : List MsS
  enums : List EnS
  methods : List MtS
def FlS.cells (f : FlS) : List Value := [.string f.name, .int .i64 f.tag, .int .i64 f.label, .int .i64 f.kind, .string f.tname]
def NmS.cells (f : NmS) : List Value := [.string f.name, .int .i64 f.n]
def MtS.cells (f : MtS) : List Value := [.string f.name, .string f.inn, .string f.out]
def zeroS : ScS := ⟨⟨#[]⟩, [], [], []⟩
end Go.Proofs.YtkfhlgajeejgeaaGreatDoor

/- What Check answers, as a plain function of a schema; what is found in one. -/
namespace Go.Proofs.YtkfhlgajeejgeaaGreatDoor
open Go.RowKit
set_option linter.unusedVariables false
set_option linter.unusedSimpArgs false
set_option maxRecDepth 20000

def memB (x : ByteArray) (l : List ByteArray) : Bool := l.any fun y => decide (x = y)
theorem memB_iff {x : ByteArray} {l : List ByteArray} : memB x l = true ↔ x ∈ l := by simp [memB]
theorem memB_no {x : ByteArray} {l : List ByteArray} : memB x l = false ↔ x ∉ l := by rw [← memB_iff]; simp
def memI (x : Int) (l : List Int) : Bool := decide (x ∈ l)
def freshB (x : ByteArray) (l : List ByteArray) : Bool := nameB x && !memB x l
def tagR (n : Int) : Bool := decide (1 ≤ n ∧ n ≤ 500)
def tagB (n : Int) (l : List Int) : Bool := tagR n && !memI n l
def numR (n : Int) : Bool := decide (0 ≤ n ∧ n ≤ 2147483647)
def numB (n : Int) (l : List Int) : Bool := numR n && !memI n l
def labB (n : Int) : Bool := decide (1 ≤ n ∧ n ≤ 3)
def typeB (mn en : List ByteArray) (k : Int) (t : ByteArray) : Bool :=
  (decide (1 ≤ k ∧ k ≤ 5) && decide (t = ⟨#[]⟩)) || (decide (k = 6) && memB t en) || (decide (k = 7) && memB t mn)
/-- The first of two answers that is an error. -/
def orE (a b : Int) : Int := if a = 0 then b else a
def chkRes : List Int → List Int → Int
  | _, [] => 0
  | a, n :: l => if tagB n a = true then chkRes (a ++ [n]) l else 7
def chkFs (mn en : List ByteArray) : List ByteArray → List Int → List FlS → Int
  | _, _, [] => 0
  | a, t, f :: l => if freshB f.name a = false then 6 else if tagB f.tag t = false then 7 else if (labB f.label && typeB mn en f.kind f.tname) = false then 8 else chkFs mn en (a ++ [f.name]) (t ++ [f.tag]) l
def bigM (m : MsS) : Bool := decide (16 < m.fields.length ∨ 32 < m.reserved.length)
def chkMb (mn en : List ByteArray) (m : MsS) : Int := if bigM m = true then 4 else orE (chkRes [] m.reserved) (chkFs mn en [] m.reserved m.fields)
def chkMs (mn en : List ByteArray) : List ByteArray → List MsS → Int
  | _, [] => 0
  | a, m :: l => if freshB m.name a = false then 6 else orE (chkMb mn en m) (chkMs mn en (a ++ [m.name]) l)
def chkVs : List ByteArray → List Int → List NmS → Int
  | _, _, [] => 0
  | a, t, v :: l => if freshB v.name a = false then 6 else if numB v.n t = false then 11 else chkVs (a ++ [v.name]) (t ++ [v.n]) l
def zeroE (e : EnS) : Bool := e.values.any fun v => decide (v.n = 0)
def chkEb (e : EnS) : Int := if 16 < e.values.length then 4 else if zeroE e = false then 12 else chkVs [] [] e.values
def chkEs : List ByteArray → List EnS → Int
  | _, [] => 0
  | a, e :: l => if freshB e.name a = false then 6 else orE (chkEb e) (chkEs (a ++ [e.name]) l)
def chkTs (mn : List ByteArray) : List ByteArray → List MtS → Int
  | _, [] => 0
  | a, m :: l => if freshB m.name a = false then 6 else if (memB m.inn mn && memB m.out mn) = false then 8 else chkTs mn (a ++ [m.name]) l
def ScS.mn (s : ScS) : List ByteArray := s.msgs.map MsS.name
def ScS.en (s : ScS) : List ByteArray := s.enums.map EnS.name
def ScS.tn (s : ScS) : List ByteArray := s.methods.map MtS.name
def bigS (s : ScS) : Bool := decide (10 < s.msgs.length ∨ 6 < s.enums.length ∨ 6 < s.methods.length)
def wholeA (s : ScS) : Int := if nameB s.name = false then 6 else if s.msgs.length = 0 then 12 else if bigS s = true then 4 else 0
def partsA (s : ScS) : Int := orE (chkMs s.mn s.en [] s.msgs) (chkEs s.mn s.enums)
def checkA (s : ScS) : Int := orE (wholeA s) (orE (partsA s) (chkTs s.mn [] s.methods))
/-- What is found. -/
def findM (s : ScS) (nm : ByteArray) : Option MsS := s.msgs.find? fun m => decide (m.name = nm)
def findE (s : ScS) (nm : ByteArray) : Option EnS := s.enums.find? fun m => decide (m.name = nm)
def findT (s : ScS) (nm : ByteArray) : Option MtS := s.methods.find? fun m => decide (m.name = nm)
def findF (fs : List FlS) (t : Int) : Option FlS := fs.find? fun f => decide (f.tag = t)

/-! Steps, for the loops -/
theorem drop_at {α : Type} {l : List α} {k : Nat} {x : α} (h : l[k]? = some x) : l.drop k = x :: l.drop (k + 1) := by
  obtain ⟨hk, rfl⟩ := List.getElem?_eq_some_iff.1 h
  exact List.drop_eq_getElem_cons hk
theorem drop_end {α : Type} {l : List α} {k : Nat} (h : l.length ≤ k) : l.drop k = [] := List.drop_eq_nil_of_le h
theorem orE_zero (b : Int) : orE 0 b = b := by simp [orE]
theorem orE_ne {a : Int} (h : a ≠ 0) (b : Int) : orE a b = a := by simp [orE, h]
theorem memB_nil (x : ByteArray) : memB x [] = false := by simp [memB]
theorem memI_nil (x : Int) : memI x [] = false := by simp [memI]
theorem memB_snoc (x y : ByteArray) (l : List ByteArray) : memB x (l ++ [y]) = (memB x l || decide (x = y)) := by simp [memB]
theorem memI_snoc (x y : Int) (l : List Int) : memI x (l ++ [y]) = (memI x l || decide (x = y)) := by simp [memI, Bool.decide_or]
theorem memI_append (x : Int) (l m : List Int) : memI x (l ++ m) = (memI x l || memI x m) := by simp [memI, Bool.decide_or]
theorem memB_append (x : ByteArray) (l m : List ByteArray) : memB x (l ++ m) = (memB x l || memB x m) := by simp [memB]
theorem bytes_eq_iff (a b : ByteArray) : a = b ↔ a.data.toList = b.data.toList :=
  ⟨fun h => by rw [h], fun h => by obtain ⟨⟨l⟩⟩ := a; obtain ⟨⟨m⟩⟩ := b; simp at h; subst h; rfl⟩
theorem beq_bytes (a b : ByteArray) : (a.data.toList == b.data.toList) = decide (a = b) := by
  rw [Bool.eq_iff_iff, beq_iff_eq, decide_eq_true_iff, bytes_eq_iff]

/-! When Check answers OK -/
theorem orE_ok {a b : Int} : orE a b = 0 ↔ a = 0 ∧ b = 0 := by unfold orE; split <;> omega
theorem freshB_iff {x : ByteArray} {l : List ByteArray} : freshB x l = true ↔ nameB x = true ∧ x ∉ l := by unfold freshB; rw [Bool.and_eq_true, Bool.not_eq_true', memB_no]
theorem tagB_iff {x : Int} {l : List Int} : tagB x l = true ↔ tagR x = true ∧ x ∉ l := by simp [tagB, memI]
theorem numB_iff {x : Int} {l : List Int} : numB x l = true ↔ numR x = true ∧ x ∉ l := by simp [numB, memI]
theorem chkRes_ok : ∀ (l a : List Int), chkRes a l = 0 ↔ (∀ n ∈ l, tagR n = true ∧ n ∉ a) ∧ l.Nodup
  | [], a => by simp [chkRes]
  | n :: l, a => by
    unfold chkRes
    by_cases h : tagB n a = true
    · rw [if_pos h, chkRes_ok l]
      rw [tagB_iff] at h
      simp only [List.mem_append, List.mem_singleton, not_or, List.forall_mem_cons, List.nodup_cons]
      constructor
      · rintro ⟨h1, h2⟩
        exact ⟨⟨h, fun m hm => ⟨(h1 m hm).1, (h1 m hm).2.1⟩⟩, fun hn => (h1 n hn).2.2 rfl, h2⟩
      · rintro ⟨⟨_, h1⟩, h2, h3⟩
        exact ⟨fun m hm => ⟨(h1 m hm).1, (h1 m hm).2, fun e => h2 (e ▸ hm)⟩, h3⟩
    · rw [if_neg h]
      rw [tagB_iff] at h
      simp only [List.mem_cons, forall_eq_or_imp]
      constructor
      · intro e; omega
      · rintro ⟨⟨h1, _⟩, _⟩; exact absurd h1 h
def fieldOk (mn en : List ByteArray) (f : FlS) : Prop := nameB f.name = true ∧ tagR f.tag = true ∧ labB f.label = true ∧ typeB mn en f.kind f.tname = true
theorem chkFs_ok (mn en : List ByteArray) : ∀ (l : List FlS) (a : List ByteArray) (t : List Int), chkFs mn en a t l = 0 ↔ (∀ f ∈ l, fieldOk mn en f ∧ f.name ∉ a ∧ f.tag ∉ t) ∧ (l.map FlS.name).Nodup ∧ (l.map FlS.tag).Nodup
  | [], a, t => by simp [chkFs]
  | f :: l, a, t => by
    unfold chkFs
    simp only [List.mem_cons, forall_eq_or_imp, List.map_cons, List.nodup_cons, List.mem_map, not_exists, not_and]
    by_cases h1 : freshB f.name a = true
    · rw [if_neg (by rw [h1]; decide)]
      by_cases h2 : tagB f.tag t = true
      · rw [if_neg (by rw [h2]; decide)]
        by_cases h3 : (labB f.label && typeB mn en f.kind f.tname) = true
        · rw [if_neg (by rw [h3]; decide), chkFs_ok mn en l]
          rw [freshB_iff] at h1
          rw [tagB_iff] at h2
          rw [Bool.and_eq_true] at h3
          simp only [List.mem_append, List.mem_singleton, not_or]
          constructor
          · rintro ⟨g1, g2, g3⟩
            exact ⟨⟨⟨⟨h1.1, h2.1, h3.1, h3.2⟩, h1.2, h2.2⟩, fun m hm => ⟨(g1 m hm).1, (g1 m hm).2.1.1, (g1 m hm).2.2.1⟩⟩, ⟨fun m hm => (g1 m hm).2.1.2, g2⟩, ⟨fun m hm => (g1 m hm).2.2.2, g3⟩⟩
          · rintro ⟨⟨_, g1⟩, ⟨g2, g3⟩, ⟨g4, g5⟩⟩
            exact ⟨fun m hm => ⟨(g1 m hm).1, ⟨(g1 m hm).2.1, g2 m hm⟩, ⟨(g1 m hm).2.2, g4 m hm⟩⟩, g3, g5⟩
        · rw [if_pos (by simpa using h3)]
          constructor
          · intro e; omega
          · rintro ⟨⟨⟨⟨_, _, g1, g2⟩, _⟩, _⟩, _⟩; rw [g1, g2] at h3; exact absurd rfl h3
      · rw [if_pos (by simpa using h2)]
        constructor
        · intro e; omega
        · rintro ⟨⟨⟨⟨_, g1, _⟩, _, g2⟩, _⟩, _⟩; exact absurd (tagB_iff.2 ⟨g1, g2⟩) h2
    · rw [if_pos (by simpa using h1)]
      constructor
      · intro e; omega
      · rintro ⟨⟨⟨⟨g1, _⟩, g2, _⟩, _⟩, _⟩; exact absurd (freshB_iff.2 ⟨g1, g2⟩) h1
def msgOk (mn en : List ByteArray) (m : MsS) : Prop := bigM m = false ∧ (∀ n ∈ m.reserved, tagR n = true) ∧ m.reserved.Nodup ∧ (∀ f ∈ m.fields, fieldOk mn en f ∧ f.tag ∉ m.reserved) ∧ (m.fields.map FlS.name).Nodup ∧ (m.fields.map FlS.tag).Nodup
theorem chkMb_ok (mn en : List ByteArray) (m : MsS) : chkMb mn en m = 0 ↔ msgOk mn en m := by
  unfold chkMb msgOk
  cases h : bigM m
  · rw [if_neg (by decide), orE_ok, chkRes_ok, chkFs_ok]
    simp only [List.not_mem_nil, not_false_eq_true, and_true, true_and]
    constructor
    · rintro ⟨⟨h1, h2⟩, h3, h4, h5⟩; exact ⟨h1, h2, h3, h4, h5⟩
    · rintro ⟨h1, h2, h3, h4, h5⟩; exact ⟨⟨h1, h2⟩, h3, h4, h5⟩
  · rw [if_pos rfl]; constructor
    · intro e; omega
    · rintro ⟨e, _⟩; cases e
theorem chkMs_ok (mn en : List ByteArray) : ∀ (l : List MsS) (a : List ByteArray), chkMs mn en a l = 0 ↔ (∀ m ∈ l, nameB m.name = true ∧ m.name ∉ a ∧ msgOk mn en m) ∧ (l.map MsS.name).Nodup
  | [], a => by simp [chkMs]
  | m :: l, a => by
    unfold chkMs
    simp only [List.mem_cons, forall_eq_or_imp, List.map_cons, List.nodup_cons, List.mem_map, not_exists, not_and]
    by_cases h1 : freshB m.name a = true
    · rw [if_neg (by rw [h1]; decide), orE_ok, chkMs_ok mn en l, chkMb_ok]
      rw [freshB_iff] at h1
      simp only [List.mem_append, List.mem_singleton, not_or]
      constructor
      · rintro ⟨g0, g1, g2⟩
        exact ⟨⟨⟨h1.1, h1.2, g0⟩, fun x hx => ⟨(g1 x hx).1, (g1 x hx).2.1.1, (g1 x hx).2.2⟩⟩, fun x hx => (g1 x hx).2.1.2, g2⟩
      · rintro ⟨⟨⟨_, _, g0⟩, g1⟩, g2, g3⟩
        exact ⟨g0, fun x hx => ⟨(g1 x hx).1, ⟨(g1 x hx).2.1, g2 x hx⟩, (g1 x hx).2.2⟩, g3⟩
    · rw [if_pos (by simpa using h1)]
      constructor
      · intro e; omega
      · rintro ⟨⟨⟨g1, g2, _⟩, _⟩, _⟩; exact absurd (freshB_iff.2 ⟨g1, g2⟩) h1
theorem chkVs_ok : ∀ (l : List NmS) (a : List ByteArray) (t : List Int), chkVs a t l = 0 ↔ (∀ v ∈ l, nameB v.name = true ∧ v.name ∉ a ∧ numR v.n = true ∧ v.n ∉ t) ∧ (l.map NmS.name).Nodup ∧ (l.map NmS.n).Nodup
  | [], a, t => by simp [chkVs]
  | f :: l, a, t => by
    unfold chkVs
    simp only [List.mem_cons, forall_eq_or_imp, List.map_cons, List.nodup_cons, List.mem_map, not_exists, not_and]
    by_cases h1 : freshB f.name a = true
    · rw [if_neg (by rw [h1]; decide)]
      by_cases h2 : numB f.n t = true
      · rw [if_neg (by rw [h2]; decide), chkVs_ok l]
        rw [freshB_iff] at h1
        rw [numB_iff] at h2
        simp only [List.mem_append, List.mem_singleton, not_or]
        constructor
        · rintro ⟨g1, g2, g3⟩
          exact ⟨⟨⟨h1.1, h1.2, h2.1, h2.2⟩, fun m hm => ⟨(g1 m hm).1, (g1 m hm).2.1.1, (g1 m hm).2.2.1, (g1 m hm).2.2.2.1⟩⟩, ⟨fun m hm => (g1 m hm).2.1.2, g2⟩, ⟨fun m hm => (g1 m hm).2.2.2.2, g3⟩⟩
        · rintro ⟨⟨_, g1⟩, ⟨g2, g3⟩, ⟨g4, g5⟩⟩
          exact ⟨fun m hm => ⟨(g1 m hm).1, ⟨(g1 m hm).2.1, g2 m hm⟩, (g1 m hm).2.2.1, ⟨(g1 m hm).2.2.2, g4 m hm⟩⟩, g3, g5⟩
      · rw [if_pos (by simpa using h2)]
        constructor
        · intro e; omega
        · rintro ⟨⟨⟨_, _, g1, g2⟩, _⟩, _⟩; exact absurd (numB_iff.2 ⟨g1, g2⟩) h2
    · rw [if_pos (by simpa using h1)]
      constructor
      · intro e; omega
      · rintro ⟨⟨⟨g1, g2, _⟩, _⟩, _⟩; exact absurd (freshB_iff.2 ⟨g1, g2⟩) h1
theorem chkEs_ok : ∀ (l : List EnS) (a : List ByteArray), chkEs a l = 0 ↔ (∀ e ∈ l, nameB e.name = true ∧ e.name ∉ a ∧ chkEb e = 0) ∧ (l.map EnS.name).Nodup
  | [], a => by simp [chkEs]
  | m :: l, a => by
    unfold chkEs
    simp only [List.mem_cons, forall_eq_or_imp, List.map_cons, List.nodup_cons, List.mem_map, not_exists, not_and]
    by_cases h1 : freshB m.name a = true
    · rw [if_neg (by rw [h1]; decide), orE_ok, chkEs_ok l]
      rw [freshB_iff] at h1
      simp only [List.mem_append, List.mem_singleton, not_or]
      constructor
      · rintro ⟨g0, g1, g2⟩
        exact ⟨⟨⟨h1.1, h1.2, g0⟩, fun x hx => ⟨(g1 x hx).1, (g1 x hx).2.1.1, (g1 x hx).2.2⟩⟩, fun x hx => (g1 x hx).2.1.2, g2⟩
      · rintro ⟨⟨⟨_, _, g0⟩, g1⟩, g2, g3⟩
        exact ⟨g0, fun x hx => ⟨(g1 x hx).1, ⟨(g1 x hx).2.1, g2 x hx⟩, (g1 x hx).2.2⟩, g3⟩
    · rw [if_pos (by simpa using h1)]
      constructor
      · intro e; omega
      · rintro ⟨⟨⟨g1, g2, _⟩, _⟩, _⟩; exact absurd (freshB_iff.2 ⟨g1, g2⟩) h1
theorem chkTs_ok (mn : List ByteArray) : ∀ (l : List MtS) (a : List ByteArray), chkTs mn a l = 0 ↔ (∀ e ∈ l, nameB e.name = true ∧ e.name ∉ a ∧ e.inn ∈ mn ∧ e.out ∈ mn) ∧ (l.map MtS.name).Nodup
  | [], a => by simp [chkTs]
  | m :: l, a => by
    unfold chkTs
    simp only [List.mem_cons, forall_eq_or_imp, List.map_cons, List.nodup_cons, List.mem_map, not_exists, not_and]
    by_cases h1 : freshB m.name a = true
    · rw [if_neg (by rw [h1]; decide)]
      by_cases h2 : (memB m.inn mn && memB m.out mn) = true
      · rw [if_neg (by rw [h2]; decide), chkTs_ok mn l]
        rw [freshB_iff] at h1
        have h2' : m.inn ∈ mn ∧ m.out ∈ mn := by rw [Bool.and_eq_true, memB_iff, memB_iff] at h2; exact h2
        simp only [List.mem_append, List.mem_singleton, not_or]
        constructor
        · rintro ⟨g1, g2⟩
          exact ⟨⟨⟨h1.1, h1.2, h2'⟩, fun x hx => ⟨(g1 x hx).1, (g1 x hx).2.1.1, (g1 x hx).2.2⟩⟩, fun x hx => (g1 x hx).2.1.2, g2⟩
        · rintro ⟨⟨_, g1⟩, g2, g3⟩
          exact ⟨fun x hx => ⟨(g1 x hx).1, ⟨(g1 x hx).2.1, g2 x hx⟩, (g1 x hx).2.2⟩, g3⟩
      · rw [if_pos (by simpa using h2)]
        constructor
        · intro e; omega
        · rintro ⟨⟨⟨_, _, g1, g2⟩, _⟩, _⟩
          exact absurd (by rw [Bool.and_eq_true, memB_iff, memB_iff]; exact ⟨g1, g2⟩) h2
    · rw [if_pos (by simpa using h1)]
      constructor
      · intro e; omega
      · rintro ⟨⟨⟨g1, g2, _⟩, _⟩, _⟩; exact absurd (freshB_iff.2 ⟨g1, g2⟩) h1
/-- A schema that may be. -/
structure OkS (s : ScS) : Prop where
  name : nameB s.name = true
  some : 0 < s.msgs.length
  big : bigS s = false
  msgs : ∀ m ∈ s.msgs, nameB m.name = true ∧ msgOk s.mn s.en m
  enums : ∀ e ∈ s.enums, nameB e.name = true ∧ chkEb e = 0
  meths : ∀ t ∈ s.methods, nameB t.name = true ∧ t.inn ∈ s.mn ∧ t.out ∈ s.mn
  names : s.mn.Nodup
  enms : s.en.Nodup
  apart : ∀ x ∈ s.en, x ∉ s.mn
  tns : s.tn.Nodup
theorem wholeA_ok (s : ScS) : wholeA s = 0 ↔ nameB s.name = true ∧ 0 < s.msgs.length ∧ bigS s = false := by
  unfold wholeA
  cases h1 : nameB s.name
  · simp
  · by_cases h2 : s.msgs.length = 0
    · rw [if_neg (by decide), if_pos h2]; simp [h2]
    · rw [if_neg (by decide), if_neg h2]
      cases h3 : bigS s
      · simp; omega
      · simp
theorem checkA_ok (s : ScS) : checkA s = 0 ↔ OkS s := by
  unfold checkA partsA
  rw [orE_ok, orE_ok, orE_ok, wholeA_ok, chkMs_ok, chkEs_ok, chkTs_ok]
  constructor
  · rintro ⟨⟨h1, h2, h3⟩, ⟨⟨h4, h5⟩, h6, h7⟩, h8, h9⟩
    exact ⟨h1, h2, h3, fun m hm => ⟨(h4 m hm).1, (h4 m hm).2.2⟩, fun e he => ⟨(h6 e he).1, (h6 e he).2.2⟩, fun t ht => ⟨(h8 t ht).1, (h8 t ht).2.2⟩, h5, h7,
      fun x hx => by obtain ⟨e, he, rfl⟩ := List.mem_map.1 hx; exact (h6 e he).2.1, h9⟩
  · rintro ⟨h1, h2, h3, h4, h5, h6, h7, h8, h9, h10⟩
    exact ⟨⟨h1, h2, h3⟩, ⟨⟨fun m hm => ⟨(h4 m hm).1, by simp, (h4 m hm).2⟩, h7⟩, fun e he => ⟨(h5 e he).1, h9 _ (List.mem_map_of_mem he), (h5 e he).2⟩, h8⟩, fun t ht => ⟨(h6 t ht).1, by simp, (h6 t ht).2⟩, h10⟩
end Go.Proofs.YtkfhlgajeejgeaaGreatDoor

/- What the program's Key answers, at every text. -/
namespace Go.Proofs.YtkfhlgajeejgeaaGreatDoor
open Go.ChangeShapes Go.WideShapes Go.ChangeAt Go.RowKit
set_option linter.unusedVariables false
set_option maxRecDepth 20000

set_option maxHeartbeats 1000000 in
theorem key_any (s : ByteArray) (w : World) :
    Calls Tryz.prog 113 #[.string s] w fun e w' => e = .returned (.bool (keyB s)) ∧ w' = w := by
  go_enter Tryz.func113, Tryz.ntmps113
  go_wp2
  all_goals
    go_ret
    refine ⟨ret_bool ?_, rfl⟩
    first | (simp [keyB, *]; done) | simp_all

end Go.Proofs.YtkfhlgajeejgeaaGreatDoor

/- What the program's Count and Name answer, at every text. -/
namespace Go.Proofs.YtkfhlgajeejgeaaGreatDoor
open Go.ChangeShapes Go.WideShapes Go.ChangeAt Go.RowKit
set_option linter.unusedVariables false
set_option maxRecDepth 20000

set_option maxHeartbeats 1000000 in
theorem count_any (s : ByteArray) (w : World) (hs : s.size ≤ 140737488351232) :
    Calls Tryz.prog 112 #[.string s] w fun e w' => e = .returned (.int .i64 (countN s.data.toList)) ∧ Below w.heap.size w w' := by
  go_enter Tryz.func112, Tryz.ntmps112
  go_wp2
  go_loopw [3] (fun n wr => ∃ (pos : Nat) (acc : List Nat), wr = w.iter s pos ∧ n = .int .i64 acc.length ∧ acc.length ≤ pos ∧ Hid (Gone s.data.toList pos acc)) (fun _ wr => s.size - wr.iterPos w.heap.size)
  case atStart => exact ⟨0, [], rfl, rfl, by simp, Gone.start _⟩
  case round =>
    obtain ⟨pos, acc, rfl, rfl, hle, H⟩ := hrel
    by_cases hp : pos < s.size
    · obtain ⟨c, k, hd, h1, h2⟩ := dec_at s pos hp
      have hnx : ∀ ty, (Instr.next (.pointer (some ⟨w.heap.size, 0, none⟩)) true ty).run Tryz.prog (w.iter s pos) = .ok (.tuple #[.bool true, .int .i64 (pos : Int), .int .i32 (c : Int)]) (w.iter s (pos + k)) := by
        intro ty
        have := run_next_any (P := Tryz.prog) w s pos ty hp
        rw [hd] at this
        exact this
      have H1 : Hid (standsB (s.data.toList.drop pos) c = true → nxL (s.data.toList.drop pos) = some (c, k)) := h1
      have H2 : Hid (standsB (s.data.toList.drop pos) c = false → nxL (s.data.toList.drop pos) = none) := h2
      clear hd h1 h2
      go_wp2_with fail
      refine (stands_any s _ _ _ hs (by omega) (by omega)).mono ?_
      rintro e w' ⟨rfl, rfl⟩
      rw [Int.toNat_natCast]
      cases hst : standsB (s.data.toList.drop pos) c with
      | false =>
        go_wp2
        go_ret
        exact ⟨ret_int (by unfold countN; rw [H.out.bad (by rw [len_data]; exact hp) (H2.out hst)]; rfl), below_iter _ _ _⟩
      | true =>
        have HN := H1.out hst
        have hk : 1 ≤ k := (nxL_some _ _ _ HN).2.2.2.1
        have HG : Hid (Gone s.data.toList (pos + k) (acc ++ [c])) := H.out.step HN
        clear HN
        go_wp2
        go_roundw
        case rel => exact ⟨pos + k, acc ++ [c], rfl, by simp, by simp; omega, HG⟩
        case measure => simp; omega
    · have hnx : ∀ ty, (Instr.next (.pointer (some ⟨w.heap.size, 0, none⟩)) true ty).run Tryz.prog (w.iter s pos) = _ := fun ty => run_next_end w s pos ty hp
      go_wp2
      go_ret
      exact ⟨ret_int (by unfold countN; rw [H.out.done (by rw [len_data]; omega)]; rfl), below_iter _ _ _⟩

/-- At the rune that stands at a place: may it be in a name there? -/
theorem nameB_off (s : ByteArray) {pos c k : Nat} {acc : List Nat} (h : Gone s.data.toList pos acc) (hn : nxL (s.data.toList.drop pos) = some (c, k)) (hb : (letB c || (!acc.isEmpty && digB c)) = false) : nameB s = false := by
  unfold nameB
  cases e : runesOf s.data.toList with
  | none => simp [countN, e]
  | some rs =>
    obtain ⟨rest, rfl⟩ := (h.step hn).len e
    have : okFrom true (acc ++ [c] ++ rest) = false := by
      rw [List.append_assoc, okFrom_append]
      simp only [List.singleton_append, okFrom, Bool.true_and]
      rw [hb]; simp
    simp only [Option.getD_some, this, Bool.and_false]

set_option maxHeartbeats 1000000 in
theorem name_any (s : ByteArray) (w : World) (hs : s.size ≤ 140737488351232) :
    Calls Tryz.prog 73 #[.string s] w fun e w' => e = .returned (.bool (nameB s)) ∧ Below w.heap.size w w' := by
  have hcl := countN_le s.data.toList
  rw [len_data] at hcl
  by_cases hc1 : countN s.data.toList < 1
  · have HX : Hid (false = nameB s) := by show false = _; unfold nameB; simp; omega
    go_enter Tryz.func73, Tryz.ntmps73
    go_wp2_with fail
    refine (count_any s _ hs).mono ?_
    rintro e w1 ⟨rfl, hw1⟩
    generalize countN s.data.toList = n at *
    have hn1 : decide ((n : Int) < 1) = true := by simp; omega
    go_wp2_with fail
    go_ret
    exact ⟨ret_bool HX.out, hw1⟩
  · by_cases hc2 : 20 < countN s.data.toList
    · have HX : Hid (false = nameB s) := by show false = _; unfold nameB; simp; omega
      go_enter Tryz.func73, Tryz.ntmps73
      go_wp2_with fail
      refine (count_any s _ hs).mono ?_
      rintro e w1 ⟨rfl, hw1⟩
      generalize countN s.data.toList = n at *
      have hn1 : decide ((n : Int) < 1) = false := by simp; omega
      have hn2 : decide (20 < (n : Int)) = true := by simp; omega
      go_wp2_with fail
      go_ret
      exact ⟨ret_bool HX.out, hw1⟩
    · cases hk : keyB s with
      | true =>
        have HX : Hid (false = nameB s) := by show false = _; unfold nameB; simp [hk]
        have HK : Hid (keyB s = true) := hk
        clear hk
        go_enter Tryz.func73, Tryz.ntmps73
        go_wp2_with fail
        refine (count_any s _ hs).mono ?_
        rintro e w1 ⟨rfl, hw1⟩
        generalize countN s.data.toList = n at *
        have hn1 : decide ((n : Int) < 1) = false := by simp; omega
        have hn2 : decide (20 < (n : Int)) = false := by simp; omega
        go_wp2_with fail
        refine (key_any s _).mono ?_
        rintro e w2 ⟨rfl, rfl⟩
        rw [HK.out]
        go_wp2_with fail
        go_ret
        exact ⟨ret_bool HX.out, hw1⟩
      | false =>
        obtain ⟨rs, hrs⟩ : ∃ rs, runesOf s.data.toList = some rs := by
          cases e : runesOf s.data.toList with
          | none => simp [countN, e] at hc1
          | some rs => exact ⟨rs, rfl⟩
        have HX : Hid (nameB s = okFrom true rs) := by
          show nameB s = _
          unfold nameB
          rw [hk, hrs]
          simp only [Bool.not_false, Bool.and_true, Option.getD_some]
          rw [decide_eq_true (by omega), Bool.true_and]
        have HR : Hid (runesOf s.data.toList = some rs) := hrs
        have HK : Hid (keyB s = false) := hk
        clear hk hrs
        go_enter Tryz.func73, Tryz.ntmps73
        go_wp2_with fail
        refine (count_any s _ hs).mono ?_
        rintro e w1 ⟨rfl, hw1⟩
        generalize countN s.data.toList = n at *
        have hn1 : decide ((n : Int) < 1) = false := by simp; omega
        have hn2 : decide (20 < (n : Int)) = false := by simp; omega
        go_wp2_with fail
        refine (key_any s _).mono ?_
        rintro e w2 ⟨rfl, rfl⟩
        rw [HK.out]
        go_wp2_with fail
        go_loopw [] (fun wr => ∃ (pos : Nat) (acc : List Nat), wr = w2.iter s pos ∧ Hid (Gone s.data.toList pos acc) ∧ Hid (okFrom true acc = true) ∧ Hid (acc.isEmpty = decide (pos = 0))) (fun wr => s.size - wr.iterPos w2.heap.size)
        case atStart => exact ⟨0, [], rfl, Gone.start _, rfl, rfl⟩
        case round =>
          obtain ⟨pos, acc, rfl, H, HO, HE⟩ := hrel
          by_cases hp : pos < s.size
          · obtain ⟨c, k, hd, h1, h2⟩ := dec_at s pos hp
            obtain ⟨x, hx⟩ := nx_of_gone H.out (by rw [len_data]; exact hp) HR.out
            have HN : Hid (nxL (s.data.toList.drop pos) = some (c, k)) := dec_of_nx h1 h2 hx
            have hnx : ∀ ty, (Instr.next (.pointer (some ⟨w2.heap.size, 0, none⟩)) true ty).run Tryz.prog (w2.iter s pos) = .ok (.tuple #[.bool true, .int .i64 (pos : Int), .int .i32 (c : Int)]) (w2.iter s (pos + k)) := by
              intro ty
              have := run_next_any (P := Tryz.prog) w2 s pos ty hp
              rw [hd] at this
              exact this
            have hk : 1 ≤ k := (nxL_some _ _ _ HN.out).2.2.2.1
            have HG : Hid (Gone s.data.toList (pos + k) (acc ++ [c])) := H.out.step HN.out
            have HE2 : Hid ((acc ++ [c]).isEmpty = decide (pos + k = 0)) := by show _ = _; rw [decide_eq_false (by omega)]; cases acc <;> rfl
            clear hd h1 h2 hx
            go_wp2_with fail
            refine (letter_any _ _).mono ?_
            rintro e w3 ⟨rfl, rfl⟩
            cases hl : letB c with
            | true =>
              have HO2 : Hid (okFrom true (acc ++ [c]) = true) := by show _ = _; rw [okFrom_append, HO.out]; simp [okFrom, hl]
              go_wp2_with fail
              go_roundw
              case rel => exact ⟨pos + k, acc ++ [c], rfl, HG, HO2, HE2⟩
              case measure => simp; omega
            | false =>
              by_cases hp0 : pos = 0
              · have HF : Hid (false = nameB s) := (nameB_off s H.out HN.out (by rw [hl, HE.out]; simp [hp0])).symm
                have hpd : ((pos : Int) == 0) = true := by simp [hp0]
                clear hp0
                go_wp2_with fail
                go_ret
                exact ⟨ret_bool HF.out, hw1.trans ((below_iter _ _ _).mono hw1.size)⟩
              · have hpd : ((pos : Int) == 0) = false := by simp [hp0]
                go_wp2_with fail
                refine (digit_any _ _).mono ?_
                rintro e w4 ⟨rfl, rfl⟩
                cases hdg : digB c with
                | true =>
                  have HO2 : Hid (okFrom true (acc ++ [c]) = true) := by show _ = _; rw [okFrom_append, HO.out, HE.out]; simp [okFrom, hdg, hp0]
                  go_wp2_with fail
                  go_roundw
                  case rel => exact ⟨pos + k, acc ++ [c], rfl, HG, HO2, HE2⟩
                  case measure => simp; omega
                | false =>
                  have HF : Hid (false = nameB s) := (nameB_off s H.out HN.out (by rw [hl, hdg]; simp)).symm
                  go_wp2_with fail
                  go_ret
                  exact ⟨ret_bool HF.out, hw1.trans ((below_iter _ _ _).mono hw1.size)⟩
          · have hnx : ∀ ty, (Instr.next (.pointer (some ⟨w2.heap.size, 0, none⟩)) true ty).run Tryz.prog (w2.iter s pos) = _ := fun ty => run_next_end w2 s pos ty hp
            have HF : Hid (true = nameB s) := by
              show true = _
              have := H.out.done (by rw [len_data]; omega)
              rw [HR.out] at this
              simp at this
              rw [HX.out, this, HO.out]
            go_wp2
            go_ret
            exact ⟨ret_bool HF.out, hw1.trans ((below_iter _ _ _).mono hw1.size)⟩
end Go.Proofs.YtkfhlgajeejgeaaGreatDoor

/- Sets in maps: what they hold, and what has, add, newName and newTag answer. -/
namespace Go.Proofs.YtkfhlgajeejgeaaGreatDoor
open Go.ChangeShapes Go.WideShapes Go.ChangeAt Go.RowKit Go.Maps
set_option linter.unusedVariables false
set_option linter.unusedSimpArgs false
set_option maxRecDepth 20000

/-- Block b is a set of at most n keys of type k: just those of the list. -/
def SetK (k : TypeId) (w : World) (b n : Nat) (L : List Value) : Prop :=
  ∃ D : DataW Unit, w.ownsMap Tryz.prog k (unitElem (H := Unit)) b n D ∧ ∀ v kl, keyOf Tryz.prog k v = some kl → (Maps.has D kl = true ↔ v ∈ L)
theorem SetK.lt {k : TypeId} {w : World} {b n : Nat} {L : List Value} (h : SetK k w b n L) : b < w.heap.size := by obtain ⟨D, h1, _⟩ := h; exact h1.lt
theorem SetK.made (k : TypeId) (w : World) : SetK k (w.alloc (.map #[] 0)) w.heap.size 0 [] :=
  ⟨.map [], World.ownsMap_made w Tryz.prog k unitElem, fun v kl _ => by simp [Maps.has]⟩
theorem SetK.kp {k : TypeId} {S : Nat → Prop} {w w1 : World} {b n : Nat} {L : List Value} (h : SetK k w b n L) (hk : Kp S w w1) (hs : ¬ S b) : SetK k w1 b n L := by
  have hlt := h.lt
  obtain ⟨D, ⟨es, clock, hb, r⟩, h2⟩ := h
  exact ⟨D, ⟨es, clock, (hk.block b hlt hs).trans hb, r⟩, h2⟩
theorem SetK.below {k : TypeId} {w w1 : World} {b n : Nat} {L : List Value} (h : SetK k w b n L) (hk : Below w.heap.size w w1) : SetK k w1 b n L := h.kp (S := fun _ => False) (Kp.ofBelow hk) (fun e => e)
theorem SetK.mono {k : TypeId} {w : World} {b n n' : Nat} {L : List Value} (h : SetK k w b n L) (hn : n ≤ n') : SetK k w b n' L := by
  obtain ⟨D, h1, h2⟩ := h; exact ⟨D, h1.mono hn, h2⟩
theorem SetK.put {k : TypeId} (K : Keyed Tryz.prog k) {w : World} {b n : Nat} {L : List Value} {D : DataW Unit} (hD : Maps.IsMap D) (h2 : ∀ v kl, keyOf Tryz.prog k v = some kl → (Maps.has D kl = true ↔ v ∈ L)) {v : Value} {kl : Lit} (hv : keyOf Tryz.prog k v = some kl) {u : DataW Unit}
    (h1 : w.ownsMap Tryz.prog k (unitElem (H := Unit)) b n (D.put kl u)) : SetK k w b n (L ++ [v]) := by
  refine ⟨_, h1, fun v' kl' hv' => ?_⟩
  by_cases e : kl' = kl
  · subst e
    have : v' = v := K.inj hv' hv
    subst this
    rw [Maps.has_put_same hD (K.key hv)]
    simp
  · rw [Maps.has_put_other e, h2 v' kl' hv']
    simp only [List.mem_append, List.mem_singleton]
    constructor
    · exact .inl
    · rintro (h | rfl)
      · exact h
      · rw [hv] at hv'; cases hv'; exact absurd rfl e
/-- A cell's block is no map's. -/
theorem SetK.ne {k : TypeId} {w : World} {b n : Nat} {L : List Value} (h : SetK k w b n L) {g : Nat} {p : Addr} {u : Value} (hc : w.cell? p = some u) (hg : p.block = g) : g ≠ b := by
  rintro rfl
  obtain ⟨D, ⟨es, clock, hb, _⟩, _⟩ := h
  obtain ⟨q, off, sp⟩ := p
  simp only at hg
  subst hg
  simp [World.cell?, hb] at hc
theorem zeroU (w : World) : (zeroValue 121).run Tryz.prog w = .ok (.agg #[]) w := by kernel_rfl
def SetS (w : World) (b n : Nat) (L : List ByteArray) : Prop := SetK 9 w b n (L.map Value.string)
def SetI (w : World) (b n : Nat) (L : List Int) : Prop := SetK 3 w b n (L.map (Value.int .i64))
def tyV (p : Int × ByteArray) : Value := .agg #[.int .i64 p.1, .string p.2]
def SetT (w : World) (b n : Nat) (L : List (Int × ByteArray)) : Prop := SetK 42 w b n (L.map tyV)
theorem lawS : Keyed Tryz.prog 9 := string_keyed Tryz.underlying9
theorem lawI : Keyed Tryz.prog 3 := int_keyed Tryz.underlying3
theorem laidOutP : laidOutB Tryz.prog = true := by kernel_rfl
theorem lawT : Keyed Tryz.prog 42 := Keyed.of_law (deep_law_laid laidOutP (m := 3) (by omega) (of_decide_eq_true (by kernel_rfl)) (by kernel_rfl) (by kernel_rfl))
/-- An integer of 64 bits. -/
def I64 (n : Int) : Prop := -9223372036854775808 ≤ n ∧ n ≤ 9223372036854775807
theorem wf64 {n : Int} (h : I64 n) : (Lit.int .i64 n).wf = true := WalkArith.wf_i64 (by obtain ⟨h1, h2⟩ := h; omega)
theorem key_str {s : ByteArray} (h : s.size ≤ 140737488351232) : keyOf Tryz.prog 9 (.string s) = some (.string s.data.toList) :=
  WideMaps.keyOf_string_mk (P := Tryz.prog) (k := 9) Tryz.underlying9 (s := s) (by unfold maxLen; omega)
theorem key_int {n : Int} (h : I64 n) : keyOf Tryz.prog 3 (.int .i64 n) = some (.int .i64 n) :=
  keyOf_int_mk (P := Tryz.prog) (k := 3) Tryz.underlying3 (wf64 h)
theorem keyTypeT : Tryz.prog.keyType 42 = true := by kernel_rfl
theorem cellsT : Tryz.prog.cellsOf 42 = 2 := by kernel_rfl
theorem cellsI : Tryz.prog.cellsOf 3 = 1 := by kernel_rfl
theorem cellsS : Tryz.prog.cellsOf 9 = 1 := by kernel_rfl
theorem lits_int {m : Nat} {k : Int} (hk : I64 k) : Tryz.prog.keyLits (m + 1) 3 [.int .i64 k] = some [.int .i64 k] := by
  simp [Program.keyLits, Tryz.underlying3, wf64 hk]
theorem lits_str {m : Nat} {s : ByteArray} (hs : s.size ≤ 140737488351232) : Tryz.prog.keyLits (m + 1) 9 [.string s] = some [.string s.data.toList] := by
  have : s.size ≤ maxLen := by unfold maxLen; omega
  simp [Program.keyLits, Tryz.underlying9, this]
theorem lits_ty {m : Nat} {k : Int} {s : ByteArray} (hk : I64 k) (hs : s.size ≤ 140737488351232) : Tryz.prog.keyLits (m + 2) 42 [.int .i64 k, .string s] = some [.int .i64 k, .string s.data.toList] := by
  unfold Program.keyLits
  simp only [Tryz.underlying42, cellsT]
  simp [cellsI, cellsS, lits_int hk, lits_str hs]
theorem key_ty {k : Int} {s : ByteArray} (hk : I64 k) (hs : s.size ≤ 140737488351232) : ∃ kl, keyOf Tryz.prog 42 (tyV (k, s)) = some kl := by
  obtain ⟨m, hm⟩ : ∃ m, Tryz.prog.types.size + 1 = m + 2 := ⟨Tryz.prog.types.size - 1, by have : 0 < Tryz.prog.types.size := of_decide_eq_true (by kernel_rfl); omega⟩
  have hf : (tyV (k, s)).formed Tryz.prog 42 = true := by simp [tyV, Value.formed, Tryz.underlying42, cellsT]
  unfold keyOf
  rw [hm, show (tyV (k, s)).cells.toList = [.int .i64 k, .string s] from rfl, lits_ty hk hs, keyTypeT, hf]
  simp only [Tryz.underlying42]
  exact ⟨_, rfl⟩
theorem mem_str {s : ByteArray} {L : List ByteArray} : Value.string s ∈ L.map Value.string ↔ s ∈ L := by
  simp only [List.mem_map, Value.string.injEq, exists_eq_right]
theorem mem_int {s : Int} {L : List Int} : Value.int .i64 s ∈ L.map (Value.int .i64) ↔ s ∈ L := by
  simp only [List.mem_map, Value.int.injEq, true_and, exists_eq_right]
theorem mem_ty {s : Int × ByteArray} {L : List (Int × ByteArray)} : tyV s ∈ L.map tyV ↔ s ∈ L := by
  simp only [List.mem_map, tyV, Value.agg.injEq, Array.mk.injEq, List.cons.injEq, Value.int.injEq, Value.string.injEq, true_and, and_true]
  constructor
  · rintro ⟨⟨a, b⟩, h1, h2, h3⟩; obtain ⟨c, d⟩ := s; simp only at h2 h3; subst h2 h3; exact h1
  · intro h; exact ⟨s, h, rfl, rfl⟩
theorem SetS.has {w : World} {b n : Nat} {L : List ByteArray} {D : DataW Unit} (h2 : ∀ v kl, keyOf Tryz.prog 9 v = some kl → (Maps.has D kl = true ↔ v ∈ L.map Value.string)) {s : ByteArray} (hs : s.size ≤ 140737488351232) : Maps.has D (.string s.data.toList) = memB s L := by
  rw [Bool.eq_iff_iff, h2 _ _ (key_str hs), mem_str, memB_iff]
theorem SetI.has {w : World} {b n : Nat} {L : List Int} {D : DataW Unit} (h2 : ∀ v kl, keyOf Tryz.prog 3 v = some kl → (Maps.has D kl = true ↔ v ∈ L.map (Value.int .i64))) {s : Int} (hs : I64 s) : Maps.has D (.int .i64 s) = memI s L := by
  rw [Bool.eq_iff_iff, h2 _ _ (key_int hs), mem_int]
  simp [memI]
set_option maxHeartbeats 1000000 in
theorem has_str {w : World} {b n : Nat} {L : List ByteArray} (h : SetS w b n L) {s : ByteArray} (hs : s.size ≤ 140737488351232) :
    Calls Tryz.prog 158 #[.map (some b), .string s] w fun e w' => e = .returned (.bool (memB s L)) ∧ Below w.heap.size w w' := by
  obtain ⟨D, hown, h2⟩ := h
  have HH : Hid (Maps.has D (.string s.data.toList) = memB s L) := SetS.has (w := w) (b := b) (n := n) h2 hs
  have hkey := key_str hs
  clear h2
  go_enter Tryz.func158, Tryz.ntmps158
  go_wp2_with (first
    | (at_lookup; refine wpList_lookup_own_unit _ rfl _ _ 79 rfl 9 121 lawS Tryz.underlying79 (zeroU _) b n D rfl hown _ _ rfl hkey ?_)
    | fail)
  go_ret
  exact ⟨ret_bool HH.out, ((Below.refl _ _).alloc (Nat.le_refl _) _)⟩
set_option maxHeartbeats 1000000 in
theorem has_int {w : World} {b n : Nat} {L : List Int} (h : SetI w b n L) {s : Int} (hs : I64 s) :
    Calls Tryz.prog 159 #[.map (some b), .int .i64 s] w fun e w' => e = .returned (.bool (memI s L)) ∧ Below w.heap.size w w' := by
  obtain ⟨D, hown, h2⟩ := h
  have HH : Hid (Maps.has D (.int .i64 s) = memI s L) := SetI.has (w := w) (b := b) (n := n) h2 hs
  have hkey := key_int hs
  clear h2
  go_enter Tryz.func159, Tryz.ntmps159
  go_wp2_with (first
    | (at_lookup; refine wpList_lookup_own_unit _ rfl _ _ 125 rfl 3 121 lawI Tryz.underlying125 (zeroU _) b n D rfl hown _ _ rfl hkey ?_)
    | fail)
  go_ret
  exact ⟨ret_bool HH.out, ((Below.refl _ _).alloc (Nat.le_refl _) _)⟩
def memT (p : Int × ByteArray) (L : List (Int × ByteArray)) : Bool := L.any fun q => decide (p = q)
theorem memT_iff {p : Int × ByteArray} {L : List (Int × ByteArray)} : memT p L = true ↔ p ∈ L := by simp [memT]
set_option maxHeartbeats 1000000 in
theorem has_ty {w : World} {b n : Nat} {L : List (Int × ByteArray)} (h : SetT w b n L) {k : Int} {s : ByteArray} (hk : I64 k) (hs : s.size ≤ 140737488351232) :
    Calls Tryz.prog 81 #[.map (some b), .agg #[.int .i64 k, .string s]] w fun e w' => e = .returned (.bool (memT (k, s) L)) ∧ Below w.heap.size w w' := by
  obtain ⟨D, hown, h2⟩ := h
  obtain ⟨kl, hkey⟩ := key_ty hk hs
  have HH : Hid (Maps.has D kl = memT (k, s) L) := by
    show _ = _
    rw [Bool.eq_iff_iff, h2 _ _ hkey, mem_ty, memT_iff]
  unfold tyV at hkey
  simp only at hkey
  clear h2
  go_enter Tryz.func81, Tryz.ntmps81
  go_wp2_with (first
    | (at_lookup; refine wpList_lookup_own_unit _ rfl _ _ 76 rfl 42 121 lawT Tryz.underlying76 (zeroU _) b n D rfl (hown.alloc _) _ _ rfl hkey ?_)
    | fail)
  go_ret
  exact ⟨ret_bool HH.out, ((Below.refl _ _).alloc (Nat.le_refl _) _).alloc (by simp) _⟩
set_option maxHeartbeats 1000000 in
theorem add_str {w : World} {b n : Nat} {L : List ByteArray} (h : SetS w b n L) {s : ByteArray} (hs : s.size ≤ 140737488351232) (hn : n < 1000) :
    Calls Tryz.prog 116 #[.map (some b), .string s] w fun e w' => e = .returned (.bool (!memB s L)) ∧ (memB s L = false → SetS w' b (n + 1) (L ++ [s])) ∧ Kp (fun k => k = b) w w' := by
  have HS : Hid (SetS w b n L) := h
  clear h
  have hkey := key_str hs
  cases hm : memB s L
  · go_enter Tryz.func116, Tryz.ntmps116
    go_wp2_with fail
    refine (has_str HS.out hs).mono ?_
    rintro e w1 ⟨rfl, hb1⟩
    rw [hm]
    obtain ⟨D, hown, h2⟩ := HS.out.below hb1
    have H2 : Hid _ := h2
    clear h2
    go_wp2_with (first
      | (at_mapUpdate; refine wpList_mapUpdate_own _ rfl _ _ _ 79 rfl 9 121 lawS Tryz.underlying79 (unitElem (H := Unit)) b n _ rfl hown (by unfold maxLen; omega) _ _ _ rfl rfl hkey _ [] unitElem_mk ?_; intro w2 hown1 hgrow1)
      | fail)
    go_ret
    refine ⟨rfl, fun _ => ?_, (Kp.ofBelow hb1).grown hgrow1 (fun k hk _ => by cases hk; rfl)⟩
    have := SetK.put lawS hown.isMap H2.out hkey hown1
    unfold SetS
    rw [List.map_append]
    exact this
  · go_enter Tryz.func116, Tryz.ntmps116
    go_wp2_with fail
    refine (has_str HS.out hs).mono ?_
    rintro e w1 ⟨rfl, hb1⟩
    rw [hm]
    go_wp2_with fail
    go_ret
    exact ⟨rfl, (fun e => by cases e), Kp.ofBelow hb1⟩
set_option maxHeartbeats 1000000 in
theorem add_int {w : World} {b n : Nat} {L : List Int} (h : SetI w b n L) {s : Int} (hs : I64 s) (hn : n < 1000) :
    Calls Tryz.prog 117 #[.map (some b), .int .i64 s] w fun e w' => e = .returned (.bool (!memI s L)) ∧ (memI s L = false → SetI w' b (n + 1) (L ++ [s])) ∧ Kp (fun k => k = b) w w' := by
  have HS : Hid (SetI w b n L) := h
  clear h
  have hkey := key_int hs
  cases hm : memI s L
  · go_enter Tryz.func117, Tryz.ntmps117
    go_wp2_with fail
    refine (has_int HS.out hs).mono ?_
    rintro e w1 ⟨rfl, hb1⟩
    rw [hm]
    obtain ⟨D, hown, h2⟩ := HS.out.below hb1
    have H2 : Hid _ := h2
    clear h2
    go_wp2_with (first
      | (at_mapUpdate; refine wpList_mapUpdate_own _ rfl _ _ _ 125 rfl 3 121 lawI Tryz.underlying125 (unitElem (H := Unit)) b n _ rfl hown (by unfold maxLen; omega) _ _ _ rfl rfl hkey _ [] unitElem_mk ?_; intro w2 hown1 hgrow1)
      | fail)
    go_ret
    refine ⟨rfl, fun _ => ?_, (Kp.ofBelow hb1).grown hgrow1 (fun k hk _ => by cases hk; rfl)⟩
    have := SetK.put lawI hown.isMap H2.out hkey hown1
    unfold SetI
    rw [List.map_append]
    exact this
  · go_enter Tryz.func117, Tryz.ntmps117
    go_wp2_with fail
    refine (has_int HS.out hs).mono ?_
    rintro e w1 ⟨rfl, hb1⟩
    rw [hm]
    go_wp2_with fail
    go_ret
    exact ⟨rfl, (fun e => by cases e), Kp.ofBelow hb1⟩
set_option maxHeartbeats 1000000 in
theorem newname_any {w : World} {b n : Nat} {L : List ByteArray} (h : SetS w b n L) {s : ByteArray} (hs : s.size ≤ 140737488351232) (hn : n < 1000) :
    Calls Tryz.prog 75 #[.map (some b), .string s] w fun e w' => e = .returned (.bool (freshB s L)) ∧ (freshB s L = true → SetS w' b (n + 1) (L ++ [s])) ∧ Kp (fun k => k = b) w w' := by
  have HS : Hid (SetS w b n L) := h
  clear h
  cases hm : nameB s
  · have HF : Hid (false = freshB s L) := by show _ = _; unfold freshB; rw [hm]; rfl
    go_enter Tryz.func75, Tryz.ntmps75
    go_wp2_with fail
    refine (name_any s _ hs).mono ?_
    rintro e w1 ⟨rfl, hb1⟩
    rw [hm]
    go_wp2_with fail
    go_ret
    exact ⟨ret_bool HF.out, (fun e => by rw [← HF.out] at e; cases e), Kp.ofBelow hb1⟩
  · have HF : Hid ((!memB s L) = freshB s L) := by show _ = _; unfold freshB; rw [hm]; rfl
    go_enter Tryz.func75, Tryz.ntmps75
    go_wp2_with fail
    refine (name_any s _ hs).mono ?_
    rintro e w1 ⟨rfl, hb1⟩
    rw [hm]
    go_wp2_with fail
    refine (add_str (SetK.below HS.out hb1) hs hn).mono ?_
    rintro e w2 ⟨rfl, h2, hk2⟩
    have H2 : Hid _ := h2
    clear h2
    go_wp2_with fail
    go_ret
    exact ⟨ret_bool HF.out, (fun e => H2.out (by rw [← HF.out] at e; simpa using e)), (Kp.ofBelow hb1).trans hk2⟩
set_option maxHeartbeats 1000000 in
theorem newtag_any {w : World} {b n : Nat} {L : List Int} (h : SetI w b n L) {s : Int} (hs : I64 s) (hn : n < 1000) :
    Calls Tryz.prog 76 #[.map (some b), .int .i64 s] w fun e w' => e = .returned (.bool (tagB s L)) ∧ (tagB s L = true → SetI w' b (n + 1) (L ++ [s])) ∧ Kp (fun k => k = b) w w' := by
  have HS : Hid (SetI w b n L) := h
  clear h
  by_cases h1 : 1 ≤ s
  · by_cases h5 : s ≤ 500
    · have HF : Hid ((!memI s L) = tagB s L) := by show _ = _; unfold tagB tagR; rw [decide_eq_true (And.intro h1 h5)]; rfl
      go_enter Tryz.func76, Tryz.ntmps76
      go_wp2_with fail
      refine (add_int HS.out hs hn).mono ?_
      rintro e w2 ⟨rfl, h2, hk2⟩
      have H2 : Hid _ := h2
      clear h2
      go_wp2_with fail
      go_ret
      exact ⟨ret_bool HF.out, (fun e => H2.out (by rw [← HF.out] at e; simpa using e)), hk2⟩
    · have hd : decide (s ≤ 500) = false := by simpa using h5
      have HF : Hid (false = tagB s L) := by show _ = _; unfold tagB tagR; rw [decide_eq_false (fun e => h5 e.2)]; rfl
      go_enter Tryz.func76, Tryz.ntmps76
      go_wp2_with fail
      go_ret
      exact ⟨ret_bool HF.out, (fun e => by rw [← HF.out] at e; cases e), Kp.refl _ _⟩
  · have hd : decide (1 ≤ s) = false := by simpa using h1
    have HF : Hid (false = tagB s L) := by show _ = _; unfold tagB tagR; rw [decide_eq_false (fun e => h1 e.1)]; rfl
    go_enter Tryz.func76, Tryz.ntmps76
    go_wp2_with fail
    go_ret
    exact ⟨ret_bool HF.out, (fun e => by rw [← HF.out] at e; cases e), Kp.refl _ _⟩
end Go.Proofs.YtkfhlgajeejgeaaGreatDoor

/- Part 2 of what the proof stands on. -/
import Derived.Test.YtcjfeandnmochaaGreatDoorPkAA
import GoSem.Core.Utf8
import Derived.OpenShut
import Derived.ShutString
import Derived.ChangeOld
import Derived.Maps.OwnSet
import Derived.DeepKeys4
namespace Go.Proofs.YtcjfeandnmochaaGreatDoor
set_option linter.unusedSimpArgs false
set_option maxRecDepth 20000
def ctU (a : UInt8) : Bool := decide (128 ≤ a.toNat) && decide (a.toNat ≤ 191)
def two (a b : UInt8) : Nat := (a.toNat - 192) * 64 + (b.toNat - 128)
def three (a b c : UInt8) : Nat := ((a.toNat - 224) * 64 + (b.toNat - 128)) * 64 + (c.toNat - 128)
def four (a b c d : UInt8) : Nat := (((a.toNat - 240) * 64 + (b.toNat - 128)) * 64 + (c.toNat - 128)) * 64 + (d.toNat - 128)
def nxL : List UInt8 → Option (Nat × Nat)
 | [] => none
 | a :: r =>
  if a.toNat < 128 then some (a.toNat, 1)
  else if 192 ≤ a.toNat ∧ a.toNat < 224 then
   match r with
   | b :: _ => if ctU b = true ∧ 128 ≤ two a b then some (two a b, 2) else none
   | _ => none
  else if 224 ≤ a.toNat ∧ a.toNat < 240 then
   match r with
   | b :: c :: _ => if ctU b = true ∧ ctU c = true ∧ 2048 ≤ three a b c ∧ ¬ (55296 ≤ three a b c ∧ three a b c ≤ 57343) then some (three a b c, 3) else none
   | _ => none
  else if 240 ≤ a.toNat ∧ a.toNat < 248 then
   match r with
   | b :: c :: d :: _ => if ctU b = true ∧ ctU c = true ∧ ctU d = true ∧ 65536 ≤ four a b c d ∧ four a b c d ≤ 1114111 then some (four a b c d, 4) else none
   | _ => none
  else none
theorem get_list (l : List UInt8) (k : Nat) : (ByteArray.mk l.toArray).get! k = l.getD k default := by
 simp [ByteArray.get!, List.getD_eq_getElem?_getD, getElem!_def]
 cases h : l[k]? <;> simp
theorem decode_drop (s : ByteArray) (i : Nat) (h : i ≤ s.size) :
  Utf8.decode s i = Utf8.decode ⟨(s.data.toList.drop i).toArray⟩ 0 := by
 obtain ⟨⟨l⟩⟩ := s
 have e : ∀ k, (ByteArray.mk l.toArray).get! (i + k) = (ByteArray.mk (l.drop i).toArray).get! (0 + k) := by
  intro k
  rw [get_list, get_list]
  simp [List.getD_eq_getElem?_getD]
 have e2 : ∀ k, (i + k < (ByteArray.mk l.toArray).size) ↔ (0 + k < (ByteArray.mk (l.drop i).toArray).size) := by
  intro k
  simp only [ByteArray.size, List.size_toArray, List.length_drop]
  omega
 simp only [Utf8.decode, e, e2]
def hasErr (l : List UInt8) : Bool := [239, 191, 189].isPrefixOf l
theorem size_list (l : List UInt8) : (ByteArray.mk l.toArray).size = l.length := by simp [ByteArray.size]
theorem dec_1 (a : UInt8) (r : List UInt8) (h : a.toNat < 128) : Utf8.decode ⟨(a :: r).toArray⟩ 0 = (a.toNat, 1) := by
 simp only [Utf8.decode, get_list, size_list]
 simp [h]
theorem cont_of {b : UInt8} (h : ctU b = true) : b.toNat / 64 = 2 := by simp [ctU] at h; omega
theorem cont_not {b : UInt8} (h : ctU b = false) : ¬ b.toNat / 64 = 2 := by simp [ctU] at h; omega
theorem two_eq {a b : UInt8} (h1 : 192 ≤ a.toNat) (h2 : a.toNat < 224) (h : ctU b = true) : a.toNat % 32 * 64 + b.toNat % 64 = two a b := by
 simp [ctU] at h; simp only [two]; omega
theorem three_eq {a b c : UInt8} (h1 : 224 ≤ a.toNat) (h2 : a.toNat < 240) (h : ctU b = true) (hc : ctU c = true) : a.toNat % 16 * 4096 + b.toNat % 64 * 64 + c.toNat % 64 = three a b c := by
 simp [ctU] at h hc; simp only [three]; omega
theorem four_eq {a b c d : UInt8} (h1 : 240 ≤ a.toNat) (h2 : a.toNat < 248) (h : ctU b = true) (hc : ctU c = true) (hd : ctU d = true) : a.toNat % 8 * 262144 + b.toNat % 64 * 4096 + c.toNat % 64 * 64 + d.toNat % 64 = four a b c d := by
 simp [ctU] at h hc hd; simp only [four]; omega
theorem two_lt {a b : UInt8} (h2 : a.toNat < 224) (h : ctU b = true) : two a b < 2048 := by
 simp [ctU] at h; simp only [two]; omega
theorem three_lt {a b c : UInt8} (h2 : a.toNat < 240) (h : ctU b = true) (hc : ctU c = true) : three a b c < 65536 := by
 simp [ctU] at h hc; simp only [three]; omega
theorem dec_2 (a b : UInt8) (r : List UInt8) (h1 : 192 ≤ a.toNat) (h2 : a.toNat < 224) (h : ctU b = true) :
  Utf8.decode ⟨(a :: b :: r).toArray⟩ 0 = if 128 ≤ two a b then (two a b, 2) else (65533, 1) := by
 have e1 : ¬ a.toNat < 128 := by omega
 have e2 : a.toNat / 32 = 6 := by omega
 have e3 := cont_of h
 have e4 := two_eq h1 h2 h
 simp only [Utf8.decode, get_list, size_list]
 simp [e1, e2, e3, e4, Utf8.runeError]
theorem dec_2n (a : UInt8) (r : List UInt8) (h1 : 192 ≤ a.toNat) (h2 : a.toNat < 224) (h : ∀ b r', r = b :: r' → ctU b = false) :
  Utf8.decode ⟨(a :: r).toArray⟩ 0 = (65533, 1) := by
 have e1 : ¬ a.toNat < 128 := by omega
 have e2 : a.toNat / 32 = 6 := by omega
 have e5 : ¬ a.toNat / 16 = 14 := by omega
 have e6 : ¬ a.toNat / 8 = 30 := by omega
 simp only [Utf8.decode, get_list, size_list]
 match r with
 | [] => simp [e1, e2, Utf8.runeError]
 | b :: r' =>
  have e3 := cont_not (h b r' rfl)
  simp [e1, e2, e3, e5, e6, Utf8.runeError]
theorem dec_3 (a b c : UInt8) (r : List UInt8) (h1 : 224 ≤ a.toNat) (h2 : a.toNat < 240) (h : ctU b = true) (hc : ctU c = true) :
  Utf8.decode ⟨(a :: b :: c :: r).toArray⟩ 0 = if 2048 ≤ three a b c ∧ ¬ (55296 ≤ three a b c ∧ three a b c ≤ 57343) then (three a b c, 3) else (65533, 1) := by
 have e1 : ¬ a.toNat < 128 := by omega
 have e2 : ¬ a.toNat / 32 = 6 := by omega
 have e3 : a.toNat / 16 = 14 := by omega
 have e4 := cont_of h
 have e5 := cont_of hc
 have e6 := three_eq h1 h2 h hc
 have e7 := three_lt h2 h hc
 simp only [Utf8.decode, get_list, size_list]
 simp [e1, e2, e3, e4, e5, e6, Utf8.runeError, Utf8.valid]
 generalize three a b c = v at *
 by_cases g1 : 2048 ≤ v
 ·by_cases g2 : v < 55296
  ·have : ((v : Int) < 55296) := by omega
   simp [g1, g2, this]; omega
  ·by_cases g3 : 57344 ≤ v
   ·have i1 : ((57344 : Int) ≤ v) := by omega
    have i2 : ((v : Int) ≤ 1114111) := by omega
    simp [g1, i1, i2]; omega
   ·have i1 : ¬ ((57344 : Int) ≤ v) := by omega
    have i2 : ¬ ((v : Int) < 55296) := by omega
    have i3 : ¬ (55296 ≤ v → 57343 < v) := by omega
    simp [i1, i2, i3]
 ·simp [g1]
theorem dec_3n (a : UInt8) (r : List UInt8) (h1 : 224 ≤ a.toNat) (h2 : a.toNat < 240) (h : ∀ b c r', r = b :: c :: r' → ctU b = false ∨ ctU c = false) :
  Utf8.decode ⟨(a :: r).toArray⟩ 0 = (65533, 1) := by
 have e1 : ¬ a.toNat < 128 := by omega
 have e2 : ¬ a.toNat / 32 = 6 := by omega
 have e3 : a.toNat / 16 = 14 := by omega
 have e6 : ¬ a.toNat / 8 = 30 := by omega
 simp only [Utf8.decode, get_list, size_list]
 match r with
 | [] => simp [e1, e2, e6, Utf8.runeError]
 | [b] => simp [e1, e2, e6, Utf8.runeError]
 | b :: c :: r' =>
  rcases h b c r' rfl with g | g
  ·simp [e1, e2, e6, cont_not g, Utf8.runeError]
  ·simp [e1, e2, e6, cont_not g, Utf8.runeError]
theorem dec_4 (a b c d : UInt8) (r : List UInt8) (h1 : 240 ≤ a.toNat) (h2 : a.toNat < 248) (h : ctU b = true) (hc : ctU c = true) (hd : ctU d = true) :
  Utf8.decode ⟨(a :: b :: c :: d :: r).toArray⟩ 0 = if 65536 ≤ four a b c d ∧ four a b c d ≤ 1114111 then (four a b c d, 4) else (65533, 1) := by
 have e1 : ¬ a.toNat < 128 := by omega
 have e2 : ¬ a.toNat / 32 = 6 := by omega
 have e3 : ¬ a.toNat / 16 = 14 := by omega
 have e8 : a.toNat / 8 = 30 := by omega
 have e4 := cont_of h
 have e5 := cont_of hc
 have e9 := cont_of hd
 have e6 := four_eq h1 h2 h hc hd
 simp only [Utf8.decode, get_list, size_list]
 simp [e1, e2, e3, e4, e5, e6, e8, e9, Utf8.runeError, Utf8.valid]
 generalize four a b c d = v at *
 by_cases g1 : 65536 ≤ v
 ·have i1 : ((57344 : Int) ≤ v) := by omega
  have i4 : ¬ ((v : Int) < 55296) := by omega
  by_cases g3 : v ≤ 1114111
  ·have i2 : ((v : Int) ≤ 1114111) := by omega
   simp [g1, i1, i2, i4, g3]
  ·have i2 : ¬ ((v : Int) ≤ 1114111) := by omega
   simp [i2, i4, g3]
 ·simp [g1]
theorem dec_4n (a : UInt8) (r : List UInt8) (h1 : 240 ≤ a.toNat) (h2 : a.toNat < 248) (h : ∀ b c d r', r = b :: c :: d :: r' → ctU b = false ∨ ctU c = false ∨ ctU d = false) :
  Utf8.decode ⟨(a :: r).toArray⟩ 0 = (65533, 1) := by
 have e1 : ¬ a.toNat < 128 := by omega
 have e2 : ¬ a.toNat / 32 = 6 := by omega
 have e3 : ¬ a.toNat / 16 = 14 := by omega
 simp only [Utf8.decode, get_list, size_list]
 match r with
 | [] => simp [e1, e2, e3, Utf8.runeError]
 | [b] => simp [e1, e2, e3, Utf8.runeError]
 | [b, c] => simp [e1, e2, e3, Utf8.runeError]
 | b :: c :: d :: r' =>
  rcases h b c d r' rfl with g | g | g
  ·simp [e1, e2, e3, cont_not g, Utf8.runeError]
  ·simp [e1, e2, e3, cont_not g, Utf8.runeError]
  ·simp [e1, e2, e3, cont_not g, Utf8.runeError]
theorem dec_0 (a : UInt8) (r : List UInt8) (h : 128 ≤ a.toNat) (h1 : ¬ (192 ≤ a.toNat ∧ a.toNat < 224)) (h2 : ¬ (224 ≤ a.toNat ∧ a.toNat < 240)) (h3 : ¬ (240 ≤ a.toNat ∧ a.toNat < 248)) :
  Utf8.decode ⟨(a :: r).toArray⟩ 0 = (65533, 1) := by
 have e1 : ¬ a.toNat < 128 := by omega
 have e2 : ¬ a.toNat / 32 = 6 := by omega
 have e3 : ¬ a.toNat / 16 = 14 := by omega
 have e4 : ¬ a.toNat / 8 = 30 := by omega
 simp only [Utf8.decode, get_list, size_list]
 simp [e1, e2, e3, e4, Utf8.runeError]
theorem hasErr_three {a b c : UInt8} {r : List UInt8} (h : three a b c = 65533) (h1 : 224 ≤ a.toNat) (h2 : a.toNat < 240) (hb : ctU b = true) (hc : ctU c = true) : hasErr (a :: b :: c :: r) = true := by
 simp [ctU] at hb hc
 simp only [three] at h
 have ea : a = 239 := UInt8.toNat_inj.1 (by show a.toNat = 239; omega)
 have eb : b = 191 := UInt8.toNat_inj.1 (by show b.toNat = 191; omega)
 have ec : c = 189 := UInt8.toNat_inj.1 (by show c.toNat = 189; omega)
 subst ea eb ec
 simp [hasErr, List.isPrefixOf]
theorem hasErr_iff {l : List UInt8} (h : hasErr l = true) : nxL l = some (65533, 3) := by
 match l with
 | [] => simp [hasErr, List.isPrefixOf] at h
 | [a] => simp [hasErr, List.isPrefixOf] at h
 | [a, b] => simp [hasErr, List.isPrefixOf] at h
 | a :: b :: c :: r =>
  simp [hasErr, List.isPrefixOf] at h
  obtain ⟨rfl, rfl, rfl⟩ := h
  rfl
theorem decode_nx (a : UInt8) (r : List UInt8) :
  nxL (a :: r) = if (Utf8.decode ⟨(a :: r).toArray⟩ 0).1 = 65533 ∧ hasErr (a :: r) = false then none else some (Utf8.decode ⟨(a :: r).toArray⟩ 0) := by
 have ha := a.toNat_lt
 cases he : hasErr (a :: r) with
 | true =>
  rw [hasErr_iff he]
  match r with
  | [] => simp [hasErr, List.isPrefixOf] at he
  | [b] => simp [hasErr, List.isPrefixOf] at he
  | b :: c :: r' =>
   simp [hasErr, List.isPrefixOf] at he
   obtain ⟨rfl, rfl, rfl⟩ := he
   rw [dec_3 _ _ _ _ (by decide) (by decide) (by decide) (by decide)]
   rfl
 | false =>
  by_cases h0 : a.toNat < 128
  ·rw [dec_1 a r h0, if_neg (by simp; omega)]
   simp [nxL, h0]
  ·by_cases h2 : 192 ≤ a.toNat ∧ a.toNat < 224
   ·by_cases hc : ∀ b r', r = b :: r' → ctU b = false
    ·rw [dec_2n a r h2.1 h2.2 hc, if_pos ⟨rfl, rfl⟩]
     match r with
     | [] => simp only [nxL]; rw [if_neg h0, if_pos h2]
     | b :: r' => simp only [nxL]; rw [if_neg h0, if_pos h2, if_neg (by rw [hc b r' rfl]; simp)]
    ·simp only [Classical.not_forall] at hc
     obtain ⟨b, r', rfl, hb⟩ := hc
     have hb' : ctU b = true := by simpa using hb
     have hl := two_lt h2.2 hb'
     rw [dec_2 a b r' h2.1 h2.2 hb']
     simp only [nxL]
     rw [if_neg h0, if_pos h2]
     by_cases g : 128 ≤ two a b
     ·rw [if_pos ⟨hb', g⟩, if_pos g, if_neg (by simp; omega)]
     ·rw [if_neg (fun x => g x.2), if_neg g, if_pos (by simp)]
   ·by_cases h3 : 224 ≤ a.toNat ∧ a.toNat < 240
    ·by_cases hc : ∀ b c r', r = b :: c :: r' → ctU b = false ∨ ctU c = false
     ·rw [dec_3n a r h3.1 h3.2 hc, if_pos ⟨rfl, rfl⟩]
      match r with
      | [] => simp only [nxL]; rw [if_neg h0, if_neg h2, if_pos h3]
      | [b] => simp only [nxL]; rw [if_neg h0, if_neg h2, if_pos h3]
      | b :: c :: r' => simp only [nxL]; rw [if_neg h0, if_neg h2, if_pos h3, if_neg (by rcases hc b c r' rfl with g | g <;> rw [g] <;> simp)]
     ·simp only [Classical.not_forall, not_or] at hc
      obtain ⟨b, c, r', rfl, hb, hc⟩ := hc
      have hb' : ctU b = true := by simpa using hb
      have hc' : ctU c = true := by simpa using hc
      rw [dec_3 a b c r' h3.1 h3.2 hb' hc']
      simp only [nxL]
      rw [if_neg h0, if_neg h2, if_pos h3]
      by_cases g : 2048 ≤ three a b c ∧ ¬ (55296 ≤ three a b c ∧ three a b c ≤ 57343)
      ·rw [if_pos ⟨hb', hc', g⟩, if_pos g, if_neg]
       rintro ⟨g1, _⟩
       rw [hasErr_three g1 h3.1 h3.2 hb' hc'] at he
       cases he
      ·rw [if_neg (fun x => g x.2.2), if_neg g, if_pos (by simp)]
    ·by_cases h4 : 240 ≤ a.toNat ∧ a.toNat < 248
     ·by_cases hc : ∀ b c d r', r = b :: c :: d :: r' → ctU b = false ∨ ctU c = false ∨ ctU d = false
      ·rw [dec_4n a r h4.1 h4.2 hc, if_pos ⟨rfl, rfl⟩]
       match r with
       | [] => simp only [nxL]; rw [if_neg h0, if_neg h2, if_neg h3, if_pos h4]
       | [b] => simp only [nxL]; rw [if_neg h0, if_neg h2, if_neg h3, if_pos h4]
       | [b, c] => simp only [nxL]; rw [if_neg h0, if_neg h2, if_neg h3, if_pos h4]
       | b :: c :: d :: r' => simp only [nxL]; rw [if_neg h0, if_neg h2, if_neg h3, if_pos h4, if_neg (by rcases hc b c d r' rfl with g | g | g <;> rw [g] <;> simp)]
      ·simp only [Classical.not_forall, not_or] at hc
       obtain ⟨b, c, d, r', rfl, hb, hc, hd⟩ := hc
       have hb' : ctU b = true := by simpa using hb
       have hc' : ctU c = true := by simpa using hc
       have hd' : ctU d = true := by simpa using hd
       rw [dec_4 a b c d r' h4.1 h4.2 hb' hc' hd']
       simp only [nxL]
       rw [if_neg h0, if_neg h2, if_neg h3, if_pos h4]
       by_cases g : 65536 ≤ four a b c d ∧ four a b c d ≤ 1114111
       ·rw [if_pos ⟨hb', hc', hd', g⟩, if_pos g, if_neg (by simp; omega)]
       ·rw [if_neg (fun x => g x.2.2.2), if_neg g, if_pos (by simp)]
     ·rw [dec_0 a r (by omega) h2 h3 h4, if_pos ⟨rfl, rfl⟩]
      simp only [nxL]
      rw [if_neg h0, if_neg h2, if_neg h3, if_neg h4]
theorem decode_nx' (l : List UInt8) (hl : l ≠ []) :
  nxL l = if (Utf8.decode ⟨l.toArray⟩ 0).1 = 65533 ∧ hasErr l = false then none else some (Utf8.decode ⟨l.toArray⟩ 0) := by
 match l with
 | [] => exact absurd rfl hl
 | a :: r => exact decode_nx a r
theorem u8_of {n : Nat} (a : UInt8) (h : n = a.toNat) : UInt8.ofNat n = a := by
 subst h; simp
theorem nxL_some (l : List UInt8) (c k : Nat) (h : nxL l = some (c, k)) :
  Utf8.valid c = true ∧ (Utf8.encode c).data.toList = l.take k ∧ (Utf8.encode c).size = k ∧ 1 ≤ k ∧ k ≤ l.length ∧ k ≤ 4 ∧ c ≤ 1114111 := by
 match l with
 | [] => simp [nxL] at h
 | a :: r =>
  simp only [nxL] at h
  by_cases h0 : a.toNat < 128
  ·rw [if_pos h0] at h
   simp only [Option.some.injEq, Prod.mk.injEq] at h
   obtain ⟨rfl, rfl⟩ := h
   have hv : Utf8.valid (a.toNat : Int) = true := by simp [Utf8.valid]; omega
   have he : Utf8.encode (a.toNat : Int) = ⟨#[a]⟩ := by
    simp [Utf8.encode, hv, h0]
   rw [he]
   exact ⟨hv, by simp, by simp [ByteArray.size], by omega, by simp, by omega, by omega⟩
  ·rw [if_neg h0] at h
   by_cases h2 : 192 ≤ a.toNat ∧ a.toNat < 224
   ·rw [if_pos h2] at h
    match r with
    | [] => simp at h
    | b :: r' =>
     simp only at h
     by_cases g : ctU b = true ∧ 128 ≤ two a b
     ·rw [if_pos g] at h
      simp only [Option.some.injEq, Prod.mk.injEq] at h
      obtain ⟨rfl, rfl⟩ := h
      have hl := two_lt h2.2 g.1
      have hb := g.1
      simp only [ctU, Bool.and_eq_true, decide_eq_true_eq] at hb
      have hv : Utf8.valid (two a b : Int) = true := by simp [Utf8.valid]; omega
      have n1 : ¬ two a b < 128 := by omega
      have he : Utf8.encode (two a b : Int) = ⟨#[a, b]⟩ := by
       simp only [Utf8.encode, hv, if_true, Int.toNat_natCast, if_neg n1, if_pos hl]
       rw [u8_of a (by simp only [two]; omega), u8_of b (by simp only [two]; omega)]
      rw [he]
      exact ⟨hv, by simp, by simp [ByteArray.size], by omega, by simp, by omega, by omega⟩
     ·rw [if_neg g] at h; simp at h
   ·rw [if_neg h2] at h
    by_cases h3 : 224 ≤ a.toNat ∧ a.toNat < 240
    ·rw [if_pos h3] at h
     match r with
     | [] => simp at h
     | [b] => simp at h
     | b :: c' :: r' =>
      simp only at h
      by_cases g : ctU b = true ∧ ctU c' = true ∧ 2048 ≤ three a b c' ∧ ¬ (55296 ≤ three a b c' ∧ three a b c' ≤ 57343)
      ·rw [if_pos g] at h
       simp only [Option.some.injEq, Prod.mk.injEq] at h
       obtain ⟨rfl, rfl⟩ := h
       obtain ⟨g1, g2, g3, g4⟩ := g
       have hl := three_lt h3.2 g1 g2
       simp only [ctU, Bool.and_eq_true, decide_eq_true_eq] at g1 g2
       have hv : Utf8.valid (three a b c' : Int) = true := by simp [Utf8.valid]; omega
       have n1 : ¬ three a b c' < 128 := by omega
       have n2 : ¬ three a b c' < 2048 := by omega
       have he : Utf8.encode (three a b c' : Int) = ⟨#[a, b, c']⟩ := by
        simp only [Utf8.encode, hv, if_true, Int.toNat_natCast, if_neg n1, if_neg n2, if_pos hl]
        rw [u8_of a (by simp only [three]; omega), u8_of b (by simp only [three]; omega), u8_of c' (by simp only [three]; omega)]
       rw [he]
       exact ⟨hv, by simp, by simp [ByteArray.size], by omega, by simp, by omega, by omega⟩
      ·rw [if_neg g] at h; simp at h
    ·rw [if_neg h3] at h
     by_cases h4 : 240 ≤ a.toNat ∧ a.toNat < 248
     ·rw [if_pos h4] at h
      match r with
      | [] => simp at h
      | [b] => simp at h
      | [b, c'] => simp at h
      | b :: c' :: d :: r' =>
       simp only at h
       by_cases g : ctU b = true ∧ ctU c' = true ∧ ctU d = true ∧ 65536 ≤ four a b c' d ∧ four a b c' d ≤ 1114111
       ·rw [if_pos g] at h
        simp only [Option.some.injEq, Prod.mk.injEq] at h
        obtain ⟨rfl, rfl⟩ := h
        obtain ⟨g1, g2, g3, g4, g5⟩ := g
        simp only [ctU, Bool.and_eq_true, decide_eq_true_eq] at g1 g2 g3
        have hv : Utf8.valid (four a b c' d : Int) = true := by simp [Utf8.valid]; omega
        have n1 : ¬ four a b c' d < 128 := by omega
        have n2 : ¬ four a b c' d < 2048 := by omega
        have n3 : ¬ four a b c' d < 65536 := by omega
        have he : Utf8.encode (four a b c' d : Int) = ⟨#[a, b, c', d]⟩ := by
         simp only [Utf8.encode, hv, if_true, Int.toNat_natCast, if_neg n1, if_neg n2, if_neg n3]
         rw [u8_of a (by simp only [four]; omega), u8_of b (by simp only [four]; omega), u8_of c' (by simp only [four]; omega), u8_of d (by simp only [four]; omega)]
        rw [he]
        exact ⟨hv, by simp, by simp [ByteArray.size], by omega, by simp, by omega, by omega⟩
       ·rw [if_neg g] at h; simp at h
     ·rw [if_neg h4] at h; simp at h
theorem nxL_encode (c : Nat) (h : Utf8.valid c = true) (t : List UInt8) :
  nxL ((Utf8.encode c).data.toList ++ t) = some (c, (Utf8.encode c).size) := by
 have hc : c ≤ 1114111 ∧ ¬ (55296 ≤ c ∧ c ≤ 57343) := by simp [Utf8.valid] at h; omega
 by_cases h1 : c < 128
 ·have e : Utf8.encode (c : Int) = ⟨#[UInt8.ofNat c]⟩ := by simp [Utf8.encode, h, h1]
  have n : (UInt8.ofNat c).toNat = c := by simp; omega
  rw [e]
  simp only [List.cons_append, List.nil_append, nxL, n, if_pos h1]
  rfl
 ·by_cases h2 : c < 2048
  ·have e : Utf8.encode (c : Int) = ⟨#[UInt8.ofNat (192 + c / 64), UInt8.ofNat (128 + c % 64)]⟩ := by simp [Utf8.encode, h, h1, h2]
   have n1 : (UInt8.ofNat (192 + c / 64)).toNat = 192 + c / 64 := by simp; omega
   have n2 : (UInt8.ofNat (128 + c % 64)).toNat = 128 + c % 64 := by simp; omega
   rw [e]
   simp only [List.cons_append, List.nil_append, nxL, n1, n2, ctU, two]
   rw [if_neg (by omega), if_pos (by omega), if_pos (by simp; omega)]
   simp [ByteArray.size]; omega
  ·by_cases h3 : c < 65536
   ·have e : Utf8.encode (c : Int) = ⟨#[UInt8.ofNat (224 + c / 4096), UInt8.ofNat (128 + c / 64 % 64), UInt8.ofNat (128 + c % 64)]⟩ := by simp [Utf8.encode, h, h1, h2, h3]
    have n1 : (UInt8.ofNat (224 + c / 4096)).toNat = 224 + c / 4096 := by simp; omega
    have n2 : (UInt8.ofNat (128 + c / 64 % 64)).toNat = 128 + c / 64 % 64 := by simp; omega
    have n3 : (UInt8.ofNat (128 + c % 64)).toNat = 128 + c % 64 := by simp; omega
    have hv : ((224 + c / 4096 - 224) * 64 + (128 + c / 64 % 64 - 128)) * 64 + (128 + c % 64 - 128) = c := by omega
    rw [e]
    simp only [List.cons_append, List.nil_append, nxL, n1, n2, n3, ctU, three, hv]
    rw [if_neg (by omega), if_neg (by omega), if_pos (by omega), if_pos (by simp; omega)]
    simp [ByteArray.size]
   ·have e : Utf8.encode (c : Int) = ⟨#[UInt8.ofNat (240 + c / 262144), UInt8.ofNat (128 + c / 4096 % 64), UInt8.ofNat (128 + c / 64 % 64), UInt8.ofNat (128 + c % 64)]⟩ := by simp [Utf8.encode, h, h1, h2, h3]
    have n1 : (UInt8.ofNat (240 + c / 262144)).toNat = 240 + c / 262144 := by simp; omega
    have n2 : (UInt8.ofNat (128 + c / 4096 % 64)).toNat = 128 + c / 4096 % 64 := by simp; omega
    have n3 : (UInt8.ofNat (128 + c / 64 % 64)).toNat = 128 + c / 64 % 64 := by simp; omega
    have n4 : (UInt8.ofNat (128 + c % 64)).toNat = 128 + c % 64 := by simp; omega
    have hv : (((240 + c / 262144 - 240) * 64 + (128 + c / 4096 % 64 - 128)) * 64 + (128 + c / 64 % 64 - 128)) * 64 + (128 + c % 64 - 128) = c := by omega
    rw [e]
    simp only [List.cons_append, List.nil_append, nxL, n1, n2, n3, n4, ctU, four, hv]
    rw [if_neg (by omega), if_neg (by omega), if_neg (by omega), if_pos (by omega), if_pos (by simp; omega)]
    simp [ByteArray.size]
end Go.Proofs.YtcjfeandnmochaaGreatDoor
namespace Go.Proofs.YtcjfeandnmochaaGreatDoor
open Go.ChangeShapes Go.WideShapes Go.ChangeAt Go.RowKit
set_option linter.unusedVariables false
set_option maxRecDepth 20000
theorem ret_bool {a b : Bool} (h : a = b) : Ending.returned (.bool a) = .returned (.bool b) := by rw [h]
theorem ret_int {k : IntKind} {a b : Int} (h : a = b) : Ending.returned (.int k a) = .returned (.int k b) := by rw [h]
theorem ret_str {a b : ByteArray} (h : a = b) : Ending.returned (.string a) = .returned (.string b) := by rw [h]
def digB (r : Int) : Bool := decide (48 ≤ r ∧ r ≤ 57)
def letB (r : Int) : Bool := decide (97 ≤ r ∧ r ≤ 122 ∨ 65 ≤ r ∧ r ≤ 90 ∨ r = 95 ∨ (192 ≤ r ∧ r ≤ 591 ∧ r ≠ 215 ∧ r ≠ 247) ∨ (913 ≤ r ∧ r ≤ 969 ∧ r ≠ 930))
def putS (r : Int) : ByteArray := if Utf8.valid r then Utf8.encode r else ⟨#[]⟩
set_option maxHeartbeats 400000 in
theorem digit_any (r : Int) (w : World) :
  Calls Tryz.prog 99 #[.int .i32 r] w fun e w' => e = .returned (.bool (digB r)) ∧ w' = w := by
 go_enter Tryz.func99, Tryz.ntmps99
 go_wp2
 all_goals
  go_ret
  exact ⟨ret_bool (by simp [digB]; try omega), rfl⟩
set_option maxHeartbeats 1000000 in
theorem letter_any (r : Int) (w : World) :
  Calls Tryz.prog 98 #[.int .i32 r] w fun e w' => e = .returned (.bool (letB r)) ∧ w' = w := by
 go_enter Tryz.func98, Tryz.ntmps98
 go_wp2
 all_goals
  go_ret
  refine ⟨ret_bool ?_, rfl⟩
  try simp only [beq_eq_false_iff_ne, beq_iff_eq, ne_eq] at *
  rw [Bool.eq_iff_iff]
  simp [letB]
  try omega
theorem valid_iff (r : Int) : Utf8.valid r = true ↔ (0 ≤ r ∧ r ≤ 1114111 ∧ ¬ (55296 ≤ r ∧ r ≤ 57343)) := by
 simp [Utf8.valid]; omega
theorem valid_not (r : Int) : Utf8.valid r = false ↔ ¬ (0 ≤ r ∧ r ≤ 1114111 ∧ ¬ (55296 ≤ r ∧ r ≤ 57343)) := by
 rw [← valid_iff]; simp
theorem putS_yes {r : Int} (h : Utf8.valid r = true) : Utf8.encode r = putS r := by simp [putS, h]
theorem putS_no {r : Int} (h : Utf8.valid r = false) : ⟨#[]⟩ = putS r := by simp [putS, h]
def keyB (s : ByteArray) : Bool := [[115, 99, 104, 101, 109, 97], [109, 101, 115, 115, 97, 103, 101], [101, 110, 117, 109], [99, 97, 108, 108], [114, 101, 116, 117, 114, 110, 115], [114, 101, 115, 101, 114, 118, 101, 100],
 [111, 112, 116, 105, 111, 110, 97, 108], [114, 101, 112, 101, 97, 116, 101, 100], [105, 110, 116, 51, 50], [105, 110, 116, 54, 52], [98, 111, 111, 108], [116, 101, 120, 116], [98, 121, 116, 101, 115]].any fun (k : List UInt8) => s.toList == k
theorem prefix_eq (s p : ByteArray) (h : p.size ≤ s.size) : ((s.extract 0 p.size).toList == p.toList) = p.toList.isPrefixOf s.toList := by
 obtain ⟨⟨l⟩⟩ := s
 obtain ⟨⟨q⟩⟩ := p
 simp only [ByteArray.toList_eq, ByteArray.data_extract, ByteArray.size, List.size_toArray, List.extract_toArray, List.extract_eq_take_drop, List.drop_zero, Nat.sub_zero] at *
 rw [Bool.eq_iff_iff, List.isPrefixOf_iff_prefix, List.prefix_iff_eq_take, beq_iff_eq]
 exact eq_comm
theorem prefix_short (s p : ByteArray) (h : ¬ p.size ≤ s.size) : false = p.toList.isPrefixOf s.toList := by
 obtain ⟨⟨l⟩⟩ := s
 obtain ⟨⟨q⟩⟩ := p
 simp only [ByteArray.toList_eq, ByteArray.size, List.size_toArray] at *
 cases e : q.isPrefixOf l with
 | false => rfl
 | true =>
  rw [List.isPrefixOf_iff_prefix] at e
  exact absurd e.length_le h
set_option maxHeartbeats 1000000 in
theorem hasPrefix_any (s p : ByteArray) (w : World) (hs : s.size ≤ 140737488351232) (hp : p.size ≤ 140737488351232) :
  Calls Tryz.prog 94 #[.string s, .string p] w fun e w' => e = .returned (.bool (p.toList.isPrefixOf s.toList)) ∧ w' = w := by
 go_enter Tryz.func94, Tryz.ntmps94
 go_wp2
 ·go_ret
  exact ⟨ret_bool (prefix_eq s p ‹_›), rfl⟩
 ·go_ret
  exact ⟨ret_bool (prefix_short s p ‹_›), rfl⟩
def standsB (l : List UInt8) (r : Int) : Bool := decide (r ≠ 65533) || hasErr l
theorem extract_drop (s : ByteArray) (i : Nat) : (s.extract i s.size).data.toList = s.data.toList.drop i := by
 obtain ⟨⟨l⟩⟩ := s
 simp [ByteArray.data_extract, ByteArray.size]
 exact List.take_of_length_le (by simp)
theorem hasErr_extract (s : ByteArray) (i : Nat) : [239, 191, 189].isPrefixOf (s.extract i s.size).toList = hasErr (s.data.toList.drop i) := by
 rw [ByteArray.toList_eq, extract_drop]; rfl
theorem extract_size_le (s : ByteArray) (i : Nat) (h : s.size ≤ 140737488351232) : (s.extract i s.size).size ≤ 140737488351232 := by
 simp [ByteArray.size_extract]; omega
set_option maxHeartbeats 1000000 in
theorem stands_any (s : ByteArray) (i : Int) (r : Int) (w : World) (hs : s.size ≤ 140737488351232) (hi : 0 ≤ i) (hj : i ≤ s.size) :
  Calls Tryz.prog 96 #[.string s, .int .i64 i, .int .i32 r] w fun e w' => e = .returned (.bool (standsB (s.data.toList.drop i.toNat) r)) ∧ w' = w := by
 by_cases h : r = 65533
 ·subst h
  go_enter Tryz.func96, Tryz.ntmps96
  go_wp2_with (go_at_call 94; refine (hasPrefix_any _ _ _ (extract_size_le s _ hs) (by decide)).mono ?_; rintro e w' ⟨rfl, rfl⟩)
  go_ret
  refine ⟨ret_bool ?_, rfl⟩
  simp [standsB, ← hasErr_extract]
 ·have hne : (r != 65533) = true := by simp [h]
  go_enter Tryz.func96, Tryz.ntmps96
  go_wp2_with fail
  go_ret
  refine ⟨ret_bool ?_, rfl⟩
  simp [standsB, h]
theorem drop_cons (s : ByteArray) (i : Nat) (h : i < s.size) : s.data.toList.drop i = s[i] :: s.data.toList.drop (i + 1) := by
 rw [List.drop_eq_getElem_cons (by simpa using h)]; rfl
theorem drop_none (s : ByteArray) (i : Nat) (h : s.size ≤ i) : s.data.toList.drop i = [] := by
 apply List.drop_eq_nil_of_le; simpa using h
def nxV : Option (Nat × Nat) → Value
 | none => .tuple #[.int .i32 0, .int .i64 0, .bool false]
 | some x => .tuple #[.int .i32 (x.1 : Int), .int .i64 (x.2 : Int), .bool true]
def atL (s : ByteArray) (i : Int) : List UInt8 := if i < 0 then [] else s.data.toList.drop i.toNat
theorem ret_none {x : Option (Nat × Nat)} (h : x = none) : Ending.returned (.tuple #[.int .i32 0, .int .i64 0, .bool false]) = .returned (nxV x) := by rw [h]; rfl
theorem ret_some {x : Option (Nat × Nat)} {c k : Int} (c' k' : Nat) (h : x = some (c', k')) (hc : c = c') (hk : k = k') : Ending.returned (.tuple #[.int .i32 c, .int .i64 k, .bool true]) = .returned (nxV x) := by rw [h, hc, hk]; rfl
theorem atL_out (s : ByteArray) (i : Int) (h : i < 0 ∨ (s.size : Int) ≤ i) : nxL (atL s i) = none := by
 unfold atL
 by_cases g : i < 0
 ·rw [if_pos g]; rfl
 ·rw [if_neg g, drop_none s _ (by omega)]; rfl
theorem atL_in (s : ByteArray) (i : Int) (h : 0 ≤ i) : atL s i = s.data.toList.drop i.toNat := by
 unfold atL; rw [if_neg (by omega)]
theorem below_iter (w : World) (s : ByteArray) (p : Nat) : Below w.heap.size w (w.iter s p) := (Below.refl _ _).alloc (Nat.le_refl _) _
theorem nx_stands {l : List UInt8} {c k : Nat} (hl : l ≠ []) (hd : Utf8.decode ⟨l.toArray⟩ 0 = (c, k)) :
  (standsB l c = true → nxL l = some (c, k)) ∧ (standsB l c = false → nxL l = none) := by
 have h := decode_nx' l hl
 rw [hd] at h
 unfold standsB
 constructor
 ·intro g
  rw [h, if_neg]
  rintro ⟨g1, g2⟩
  simp only at g1
  rw [g2, g1] at g
  simp at g
 ·intro g
  rw [h, if_pos]
  simp only [Bool.or_eq_false_iff, decide_eq_false_iff_not, ne_eq, Decidable.not_not] at g
  exact ⟨by show c = 65533; omega, g.2⟩
end Go.Proofs.YtcjfeandnmochaaGreatDoor
namespace Go.Proofs.YtcjfeandnmochaaGreatDoor
open Go.RowKit
set_option linter.unusedVariables false
set_option linter.unusedSimpArgs false
set_option maxRecDepth 20000
def allL : Nat → List UInt8 → Option (List Nat)
 | 0, l => if l.isEmpty then some [] else none
 | f + 1, l => if l.isEmpty then some [] else
  match nxL l with
  | none => none
  | some x => (allL f (l.drop x.2)).map (x.1 :: ·)
def runesOf (l : List UInt8) : Option (List Nat) := allL l.length l
theorem allL_fuel (f : Nat) : ∀ (g : Nat) (l : List UInt8), l.length ≤ f → l.length ≤ g → allL f l = allL g l := by
 induction f with
 | zero =>
  intro g l h _
  have : l = [] := List.length_eq_zero_iff.1 (by omega)
  subst this
  cases g <;> simp [allL]
 | succ f ih =>
  intro g l hf hg
  match l, g with
  | [], 0 => simp [allL]
  | [], g + 1 => simp [allL]
  | a :: r, 0 => simp at hg
  | a :: r, g + 1 =>
   simp only [allL]
   cases e : nxL (a :: r) with
   | none => simp
   | some x =>
    obtain ⟨c, k⟩ := x
    obtain ⟨_, _, _, h4, h5, _⟩ := nxL_some _ _ _ e
    have hd : ((a :: r).drop k).length ≤ f := by simp at hf h5 ⊢; omega
    have hd2 : ((a :: r).drop k).length ≤ g := by simp at hg h5 ⊢; omega
    simp [ih g ((a :: r).drop k) hd hd2]
theorem runesOf_nil : runesOf [] = some [] := rfl
theorem runesOf_bad {l : List UInt8} (hl : l ≠ []) (h : nxL l = none) : runesOf l = none := by
 match l with
 | [] => exact absurd rfl hl
 | a :: r => simp [runesOf, allL, h]
theorem runesOf_step {l : List UInt8} {c k : Nat} (h : nxL l = some (c, k)) : runesOf l = (runesOf (l.drop k)).map (c :: ·) := by
 match l with
 | [] => simp [nxL] at h
 | a :: r =>
  obtain ⟨_, _, _, h4, h5, _⟩ := nxL_some _ _ _ h
  simp only [runesOf, List.length_cons, allL, h]
  have e := allL_fuel r.length ((a :: r).drop k).length ((a :: r).drop k) (by simp; omega) (Nat.le_refl _)
  rw [if_neg (by simp)]
  simp only [e]
theorem runesOf_le (f : Nat) : ∀ l : List UInt8, l.length ≤ f → ∀ rs, runesOf l = some rs → rs.length ≤ l.length := by
 induction f with
 | zero =>
  intro l hl rs h
  have : l = [] := List.length_eq_zero_iff.1 (by omega)
  subst this
  rw [runesOf_nil] at h
  simp at h; subst h; simp
 | succ f ih =>
  intro l hl rs h
  match l with
  | [] => rw [runesOf_nil] at h; simp at h; subst h; simp
  | a :: r =>
   cases e : nxL (a :: r) with
   | none => rw [runesOf_bad (by simp) e] at h; cases h
   | some x =>
    obtain ⟨c, k⟩ := x
    obtain ⟨_, _, _, h4, h5, _⟩ := nxL_some _ _ _ e
    rw [runesOf_step e] at h
    cases e2 : runesOf ((a :: r).drop k) with
    | none => rw [e2] at h; cases h
    | some rs' =>
     rw [e2] at h
     simp at h; subst h
     have := ih _ (by simp at hl h5 ⊢; omega) _ e2
     simp at this h5 ⊢; omega
def validB (l : List UInt8) : Bool := (runesOf l).isSome
def countN (l : List UInt8) : Nat := ((runesOf l).getD []).length
theorem countN_le (l : List UInt8) : countN l ≤ l.length := by
 unfold countN
 cases e : runesOf l with
 | none => simp
 | some rs => simpa using runesOf_le l.length l (Nat.le_refl _) rs e
def okFrom : Bool → List Nat → Bool
 | _, [] => true
 | b, c :: r => (letB c || (!b && digB c)) && okFrom false r
theorem okFrom_append (acc rest : List Nat) : ∀ b, okFrom b (acc ++ rest) = (okFrom b acc && okFrom (b && acc.isEmpty) rest) := by
 induction acc with
 | nil => intro b; simp [okFrom]
 | cons a r ih => intro b; simp [okFrom, ih, Bool.and_assoc]
def nameB (s : ByteArray) : Bool := decide (1 ≤ countN s.data.toList ∧ countN s.data.toList ≤ 20) && !keyB s && okFrom true ((runesOf s.data.toList).getD [])
def Gone (l : List UInt8) (pos : Nat) (acc : List Nat) : Prop := runesOf l = (runesOf (l.drop pos)).map (acc ++ ·)
theorem Gone.start (l : List UInt8) : Gone l 0 [] := by
 unfold Gone; simp
theorem Gone.step {l : List UInt8} {pos c k : Nat} {acc : List Nat} (h : Gone l pos acc) (hn : nxL (l.drop pos) = some (c, k)) : Gone l (pos + k) (acc ++ [c]) := by
 unfold Gone at h ⊢
 rw [h, runesOf_step hn, List.drop_drop]
 cases runesOf (l.drop (pos + k)) <;> simp
theorem Gone.bad {l : List UInt8} {pos : Nat} {acc : List Nat} (h : Gone l pos acc) (hp : pos < l.length) (hn : nxL (l.drop pos) = none) : runesOf l = none := by
 unfold Gone at h
 rw [h, runesOf_bad _ hn]; rfl
 intro e
 have : (l.drop pos).length = 0 := by rw [e]; rfl
 simp at this; omega
theorem Gone.done {l : List UInt8} {pos : Nat} {acc : List Nat} (h : Gone l pos acc) (hp : l.length ≤ pos) : runesOf l = some acc := by
 unfold Gone at h
 rw [h, List.drop_eq_nil_of_le hp, runesOf_nil]; simp
theorem Gone.len {l : List UInt8} {pos : Nat} {acc rs : List Nat} (h : Gone l pos acc) (hr : runesOf l = some rs) : ∃ rest, rs = acc ++ rest := by
 unfold Gone at h
 rw [hr] at h
 cases e : runesOf (l.drop pos) with
 | none => rw [e] at h; cases h
 | some r => rw [e] at h; simp at h; exact ⟨r, h⟩
theorem dec_at (s : ByteArray) (pos : Nat) (h : pos < s.size) : ∃ c k, Utf8.decode s pos = (c, k) ∧
  (standsB (s.data.toList.drop pos) c = true → nxL (s.data.toList.drop pos) = some (c, k)) ∧ (standsB (s.data.toList.drop pos) c = false → nxL (s.data.toList.drop pos) = none) := by
 have hl : s.data.toList.drop pos ≠ [] := by rw [drop_cons s pos h]; exact List.cons_ne_nil _ _
 have hd := decode_drop s pos (by omega)
 rw [hd]
 generalize e : Utf8.decode ⟨(s.data.toList.drop pos).toArray⟩ 0 = d
 obtain ⟨c, k⟩ := d
 exact ⟨c, k, rfl, nx_stands hl e⟩
theorem len_data (s : ByteArray) : s.data.toList.length = s.size := by rw [Array.length_toList]; rfl
theorem nx_of_gone {l : List UInt8} {pos : Nat} {acc rs : List Nat} (h : Gone l pos acc) (hp : pos < l.length) (hr : runesOf l = some rs) : ∃ x, nxL (l.drop pos) = some x := by
 cases e : nxL (l.drop pos) with
 | none => rw [h.bad hp e] at hr; cases hr
 | some x => exact ⟨x, rfl⟩
theorem dec_of_nx {l : List UInt8} {c k : Nat} {x : Nat × Nat} (h1 : standsB l c = true → nxL l = some (c, k)) (h2 : standsB l c = false → nxL l = none) (h : nxL l = some x) : nxL l = some (c, k) := by
 cases e : standsB l c with
 | true => exact h1 e
 | false => rw [h2 e] at h; cases h
def memB (x : ByteArray) (l : List ByteArray) : Bool := l.any fun y => decide (x = y)
theorem memB_iff {x : ByteArray} {l : List ByteArray} : memB x l = true ↔ x ∈ l := by simp [memB]
theorem memB_no {x : ByteArray} {l : List ByteArray} : memB x l = false ↔ x ∉ l := by rw [← memB_iff]; simp
def memI (x : Int) (l : List Int) : Bool := decide (x ∈ l)
def freshB (x : ByteArray) (l : List ByteArray) : Bool := nameB x && !memB x l
def tagR (n : Int) : Bool := decide (1 ≤ n ∧ n ≤ 500)
def tagB (n : Int) (l : List Int) : Bool := tagR n && !memI n l
def numR (n : Int) : Bool := decide (0 ≤ n ∧ n ≤ 2147483647)
def numB (n : Int) (l : List Int) : Bool := numR n && !memI n l
def labB (n : Int) : Bool := decide (1 ≤ n ∧ n ≤ 3)
def typeB (mn en : List ByteArray) (k : Int) (t : ByteArray) : Bool :=
 (decide (1 ≤ k ∧ k ≤ 5) && decide (t = ⟨#[]⟩)) || (decide (k = 6) && memB t en) || (decide (k = 7) && memB t mn)
def orE (a b : Int) : Int := if a = 0 then b else a
def chkRes : List Int → List Int → Int
 | _, [] => 0
 | a, n :: l => if tagB n a = true then chkRes (a ++ [n]) l else 7
def chkFs (mn en : List ByteArray) : List ByteArray → List Int → List FlS → Int
 | _, _, [] => 0
 | a, t, f :: l => if freshB f.name a = false then 6 else if tagB f.tag t = false then 7 else if (labB f.label && typeB mn en f.kind f.tname) = false then 8 else chkFs mn en (a ++ [f.name]) (t ++ [f.tag]) l
def bigM (m : MsS) : Bool := decide (16 < m.fields.length ∨ 32 < m.reserved.length)
def chkMb (mn en : List ByteArray) (m : MsS) : Int := if bigM m = true then 4 else orE (chkRes [] m.reserved) (chkFs mn en [] m.reserved m.fields)
def chkMs (mn en : List ByteArray) : List ByteArray → List MsS → Int
 | _, [] => 0
 | a, m :: l => if freshB m.name a = false then 6 else orE (chkMb mn en m) (chkMs mn en (a ++ [m.name]) l)
def chkVs : List ByteArray → List Int → List NmS → Int
 | _, _, [] => 0
 | a, t, v :: l => if freshB v.name a = false then 6 else if numB v.n t = false then 11 else chkVs (a ++ [v.name]) (t ++ [v.n]) l
def zeroE (e : EnS) : Bool := e.values.any fun v => decide (v.n = 0)
def chkEb (e : EnS) : Int := if 16 < e.values.length then 4 else if zeroE e = false then 12 else chkVs [] [] e.values
def chkEs : List ByteArray → List EnS → Int
 | _, [] => 0
 | a, e :: l => if freshB e.name a = false then 6 else orE (chkEb e) (chkEs (a ++ [e.name]) l)
def chkTs (mn : List ByteArray) : List ByteArray → List MtS → Int
 | _, [] => 0
 | a, m :: l => if freshB m.name a = false then 6 else if (memB m.inn mn && memB m.out mn) = false then 8 else chkTs mn (a ++ [m.name]) l
def ScS.mn (s : ScS) : List ByteArray := s.msgs.map MsS.name
def ScS.en (s : ScS) : List ByteArray := s.enums.map EnS.name
def ScS.tn (s : ScS) : List ByteArray := s.methods.map MtS.name
def bigS (s : ScS) : Bool := decide (10 < s.msgs.length ∨ 6 < s.enums.length ∨ 6 < s.methods.length)
def wholeA (s : ScS) : Int := if nameB s.name = false then 6 else if s.msgs.length = 0 then 12 else if bigS s = true then 4 else 0
def partsA (s : ScS) : Int := orE (chkMs s.mn s.en [] s.msgs) (chkEs s.mn s.enums)
def checkA (s : ScS) : Int := orE (wholeA s) (orE (partsA s) (chkTs s.mn [] s.methods))
/-! Steps, for the loops -/
theorem drop_at {α : Type} {l : List α} {k : Nat} {x : α} (h : l[k]? = some x) : l.drop k = x :: l.drop (k + 1) := by
 obtain ⟨hk, rfl⟩ := List.getElem?_eq_some_iff.1 h
 exact List.drop_eq_getElem_cons hk
theorem drop_end {α : Type} {l : List α} {k : Nat} (h : l.length ≤ k) : l.drop k = [] := List.drop_eq_nil_of_le h
theorem orE_zero (b : Int) : orE 0 b = b := by simp [orE]
theorem orE_ne {a : Int} (h : a ≠ 0) (b : Int) : orE a b = a := by simp [orE, h]
theorem memB_nil (x : ByteArray) : memB x [] = false := by simp [memB]
theorem memI_snoc (x y : Int) (l : List Int) : memI x (l ++ [y]) = (memI x l || decide (x = y)) := by simp [memI, Bool.decide_or]
theorem memI_append (x : Int) (l m : List Int) : memI x (l ++ m) = (memI x l || memI x m) := by simp [memI, Bool.decide_or]
theorem bytes_eq_iff (a b : ByteArray) : a = b ↔ a.data.toList = b.data.toList :=
 ⟨fun h => by rw [h], fun h => by obtain ⟨⟨l⟩⟩ := a; obtain ⟨⟨m⟩⟩ := b; simp at h; subst h; rfl⟩
theorem beq_bytes (a b : ByteArray) : (a.data.toList == b.data.toList) = decide (a = b) := by
 rw [Bool.eq_iff_iff, beq_iff_eq, decide_eq_true_iff, bytes_eq_iff]
/-! When Check answers OK -/
theorem orE_ok {a b : Int} : orE a b = 0 ↔ a = 0 ∧ b = 0 := by unfold orE; split <;> omega
theorem freshB_iff {x : ByteArray} {l : List ByteArray} : freshB x l = true ↔ nameB x = true ∧ x ∉ l := by unfold freshB; rw [Bool.and_eq_true, Bool.not_eq_true', memB_no]
theorem tagB_iff {x : Int} {l : List Int} : tagB x l = true ↔ tagR x = true ∧ x ∉ l := by simp [tagB, memI]
theorem chkRes_ok : ∀ (l a : List Int), chkRes a l = 0 ↔ (∀ n ∈ l, tagR n = true ∧ n ∉ a) ∧ l.Nodup
 | [], a => by simp [chkRes]
 | n :: l, a => by
  unfold chkRes
  by_cases h : tagB n a = true
  ·rw [if_pos h, chkRes_ok l]
   rw [tagB_iff] at h
   simp only [List.mem_append, List.mem_singleton, not_or, List.forall_mem_cons, List.nodup_cons]
   constructor
   ·rintro ⟨h1, h2⟩
    exact ⟨⟨h, fun m hm => ⟨(h1 m hm).1, (h1 m hm).2.1⟩⟩, fun hn => (h1 n hn).2.2 rfl, h2⟩
   ·rintro ⟨⟨_, h1⟩, h2, h3⟩
    exact ⟨fun m hm => ⟨(h1 m hm).1, (h1 m hm).2, fun e => h2 (e ▸ hm)⟩, h3⟩
  ·rw [if_neg h]
   rw [tagB_iff] at h
   simp only [List.mem_cons, forall_eq_or_imp]
   constructor
   ·intro e; omega
   ·rintro ⟨⟨h1, _⟩, _⟩; exact absurd h1 h
def fieldOk (mn en : List ByteArray) (f : FlS) : Prop := nameB f.name = true ∧ tagR f.tag = true ∧ labB f.label = true ∧ typeB mn en f.kind f.tname = true
theorem chkFs_ok (mn en : List ByteArray) : ∀ (l : List FlS) (a : List ByteArray) (t : List Int), chkFs mn en a t l = 0 ↔ (∀ f ∈ l, fieldOk mn en f ∧ f.name ∉ a ∧ f.tag ∉ t) ∧ (l.map FlS.name).Nodup ∧ (l.map FlS.tag).Nodup
 | [], a, t => by simp [chkFs]
 | f :: l, a, t => by
  unfold chkFs
  simp only [List.mem_cons, forall_eq_or_imp, List.map_cons, List.nodup_cons, List.mem_map, not_exists, not_and]
  by_cases h1 : freshB f.name a = true
  ·rw [if_neg (by rw [h1]; decide)]
   by_cases h2 : tagB f.tag t = true
   ·rw [if_neg (by rw [h2]; decide)]
    by_cases h3 : (labB f.label && typeB mn en f.kind f.tname) = true
    ·rw [if_neg (by rw [h3]; decide), chkFs_ok mn en l]
     rw [freshB_iff] at h1
     rw [tagB_iff] at h2
     rw [Bool.and_eq_true] at h3
     simp only [List.mem_append, List.mem_singleton, not_or]
     constructor
     ·rintro ⟨g1, g2, g3⟩
      exact ⟨⟨⟨⟨h1.1, h2.1, h3.1, h3.2⟩, h1.2, h2.2⟩, fun m hm => ⟨(g1 m hm).1, (g1 m hm).2.1.1, (g1 m hm).2.2.1⟩⟩, ⟨fun m hm => (g1 m hm).2.1.2, g2⟩, ⟨fun m hm => (g1 m hm).2.2.2, g3⟩⟩
     ·rintro ⟨⟨_, g1⟩, ⟨g2, g3⟩, ⟨g4, g5⟩⟩
      exact ⟨fun m hm => ⟨(g1 m hm).1, ⟨(g1 m hm).2.1, g2 m hm⟩, ⟨(g1 m hm).2.2, g4 m hm⟩⟩, g3, g5⟩
    ·rw [if_pos (by simpa using h3)]
     constructor
     ·intro e; omega
     ·rintro ⟨⟨⟨⟨_, _, g1, g2⟩, _⟩, _⟩, _⟩; rw [g1, g2] at h3; exact absurd rfl h3
   ·rw [if_pos (by simpa using h2)]
    constructor
    ·intro e; omega
    ·rintro ⟨⟨⟨⟨_, g1, _⟩, _, g2⟩, _⟩, _⟩; exact absurd (tagB_iff.2 ⟨g1, g2⟩) h2
  ·rw [if_pos (by simpa using h1)]
   constructor
   ·intro e; omega
   ·rintro ⟨⟨⟨⟨g1, _⟩, g2, _⟩, _⟩, _⟩; exact absurd (freshB_iff.2 ⟨g1, g2⟩) h1
def msgOk (mn en : List ByteArray) (m : MsS) : Prop := bigM m = false ∧ (∀ n ∈ m.reserved, tagR n = true) ∧ m.reserved.Nodup ∧ (∀ f ∈ m.fields, fieldOk mn en f ∧ f.tag ∉ m.reserved) ∧ (m.fields.map FlS.name).Nodup ∧ (m.fields.map FlS.tag).Nodup
theorem chkMb_ok (mn en : List ByteArray) (m : MsS) : chkMb mn en m = 0 ↔ msgOk mn en m := by
 unfold chkMb msgOk
 cases h : bigM m
 ·rw [if_neg (by decide), orE_ok, chkRes_ok, chkFs_ok]
  simp only [List.not_mem_nil, not_false_eq_true, and_true, true_and]
  constructor
  ·rintro ⟨⟨h1, h2⟩, h3, h4, h5⟩; exact ⟨h1, h2, h3, h4, h5⟩
  ·rintro ⟨h1, h2, h3, h4, h5⟩; exact ⟨⟨h1, h2⟩, h3, h4, h5⟩
 ·rw [if_pos rfl]; constructor
  ·intro e; omega
  ·rintro ⟨e, _⟩; cases e
theorem chkMs_ok (mn en : List ByteArray) : ∀ (l : List MsS) (a : List ByteArray), chkMs mn en a l = 0 ↔ (∀ m ∈ l, nameB m.name = true ∧ m.name ∉ a ∧ msgOk mn en m) ∧ (l.map MsS.name).Nodup
 | [], a => by simp [chkMs]
 | m :: l, a => by
  unfold chkMs
  simp only [List.mem_cons, forall_eq_or_imp, List.map_cons, List.nodup_cons, List.mem_map, not_exists, not_and]
  by_cases h1 : freshB m.name a = true
  ·rw [if_neg (by rw [h1]; decide), orE_ok, chkMs_ok mn en l, chkMb_ok]
   rw [freshB_iff] at h1
   simp only [List.mem_append, List.mem_singleton, not_or]
   constructor
   ·rintro ⟨g0, g1, g2⟩
    exact ⟨⟨⟨h1.1, h1.2, g0⟩, fun x hx => ⟨(g1 x hx).1, (g1 x hx).2.1.1, (g1 x hx).2.2⟩⟩, fun x hx => (g1 x hx).2.1.2, g2⟩
   ·rintro ⟨⟨⟨_, _, g0⟩, g1⟩, g2, g3⟩
    exact ⟨g0, fun x hx => ⟨(g1 x hx).1, ⟨(g1 x hx).2.1, g2 x hx⟩, (g1 x hx).2.2⟩, g3⟩
  ·rw [if_pos (by simpa using h1)]
   constructor
   ·intro e; omega
   ·rintro ⟨⟨⟨g1, g2, _⟩, _⟩, _⟩; exact absurd (freshB_iff.2 ⟨g1, g2⟩) h1
theorem chkEs_ok : ∀ (l : List EnS) (a : List ByteArray), chkEs a l = 0 ↔ (∀ e ∈ l, nameB e.name = true ∧ e.name ∉ a ∧ chkEb e = 0) ∧ (l.map EnS.name).Nodup
 | [], a => by simp [chkEs]
 | m :: l, a => by
  unfold chkEs
  simp only [List.mem_cons, forall_eq_or_imp, List.map_cons, List.nodup_cons, List.mem_map, not_exists, not_and]
  by_cases h1 : freshB m.name a = true
  ·rw [if_neg (by rw [h1]; decide), orE_ok, chkEs_ok l]
   rw [freshB_iff] at h1
   simp only [List.mem_append, List.mem_singleton, not_or]
   constructor
   ·rintro ⟨g0, g1, g2⟩
    exact ⟨⟨⟨h1.1, h1.2, g0⟩, fun x hx => ⟨(g1 x hx).1, (g1 x hx).2.1.1, (g1 x hx).2.2⟩⟩, fun x hx => (g1 x hx).2.1.2, g2⟩
   ·rintro ⟨⟨⟨_, _, g0⟩, g1⟩, g2, g3⟩
    exact ⟨g0, fun x hx => ⟨(g1 x hx).1, ⟨(g1 x hx).2.1, g2 x hx⟩, (g1 x hx).2.2⟩, g3⟩
  ·rw [if_pos (by simpa using h1)]
   constructor
   ·intro e; omega
   ·rintro ⟨⟨⟨g1, g2, _⟩, _⟩, _⟩; exact absurd (freshB_iff.2 ⟨g1, g2⟩) h1
theorem chkTs_ok (mn : List ByteArray) : ∀ (l : List MtS) (a : List ByteArray), chkTs mn a l = 0 ↔ (∀ e ∈ l, nameB e.name = true ∧ e.name ∉ a ∧ e.inn ∈ mn ∧ e.out ∈ mn) ∧ (l.map MtS.name).Nodup
 | [], a => by simp [chkTs]
 | m :: l, a => by
  unfold chkTs
  simp only [List.mem_cons, forall_eq_or_imp, List.map_cons, List.nodup_cons, List.mem_map, not_exists, not_and]
  by_cases h1 : freshB m.name a = true
  ·rw [if_neg (by rw [h1]; decide)]
   by_cases h2 : (memB m.inn mn && memB m.out mn) = true
   ·rw [if_neg (by rw [h2]; decide), chkTs_ok mn l]
    rw [freshB_iff] at h1
    have h2' : m.inn ∈ mn ∧ m.out ∈ mn := by rw [Bool.and_eq_true, memB_iff, memB_iff] at h2; exact h2
    simp only [List.mem_append, List.mem_singleton, not_or]
    constructor
    ·rintro ⟨g1, g2⟩
     exact ⟨⟨⟨h1.1, h1.2, h2'⟩, fun x hx => ⟨(g1 x hx).1, (g1 x hx).2.1.1, (g1 x hx).2.2⟩⟩, fun x hx => (g1 x hx).2.1.2, g2⟩
    ·rintro ⟨⟨_, g1⟩, g2, g3⟩
     exact ⟨fun x hx => ⟨(g1 x hx).1, ⟨(g1 x hx).2.1, g2 x hx⟩, (g1 x hx).2.2⟩, g3⟩
   ·rw [if_pos (by simpa using h2)]
    constructor
    ·intro e; omega
    ·rintro ⟨⟨⟨_, _, g1, g2⟩, _⟩, _⟩
     exact absurd (by rw [Bool.and_eq_true, memB_iff, memB_iff]; exact ⟨g1, g2⟩) h2
  ·rw [if_pos (by simpa using h1)]
   constructor
   ·intro e; omega
   ·rintro ⟨⟨⟨g1, g2, _⟩, _⟩, _⟩; exact absurd (freshB_iff.2 ⟨g1, g2⟩) h1
structure OkS (s : ScS) : Prop where
 name : nameB s.name = true
 some : 0 < s.msgs.length
 big : bigS s = false
 msgs : ∀ m ∈ s.msgs, nameB m.name = true ∧ msgOk s.mn s.en m
 enums : ∀ e ∈ s.enums, nameB e.name = true ∧ chkEb e = 0
 meths : ∀ t ∈ s.methods, nameB t.name = true ∧ t.inn ∈ s.mn ∧ t.out ∈ s.mn
 names : s.mn.Nodup
 enms : s.en.Nodup
 apart : ∀ x ∈ s.en, x ∉ s.mn
 tns : s.tn.Nodup
theorem wholeA_ok (s : ScS) : wholeA s = 0 ↔ nameB s.name = true ∧ 0 < s.msgs.length ∧ bigS s = false := by
 unfold wholeA
 cases h1 : nameB s.name
 ·simp
 ·by_cases h2 : s.msgs.length = 0
  ·rw [if_neg (by decide), if_pos h2]; simp [h2]
  ·rw [if_neg (by decide), if_neg h2]
   cases h3 : bigS s
   ·simp; omega
   ·simp
theorem checkA_ok (s : ScS) : checkA s = 0 ↔ OkS s := by
 unfold checkA partsA
 rw [orE_ok, orE_ok, orE_ok, wholeA_ok, chkMs_ok, chkEs_ok, chkTs_ok]
 constructor
 ·rintro ⟨⟨h1, h2, h3⟩, ⟨⟨h4, h5⟩, h6, h7⟩, h8, h9⟩
  exact ⟨h1, h2, h3, fun m hm => ⟨(h4 m hm).1, (h4 m hm).2.2⟩, fun e he => ⟨(h6 e he).1, (h6 e he).2.2⟩, fun t ht => ⟨(h8 t ht).1, (h8 t ht).2.2⟩, h5, h7,
   fun x hx => by obtain ⟨e, he, rfl⟩ := List.mem_map.1 hx; exact (h6 e he).2.1, h9⟩
 ·rintro ⟨h1, h2, h3, h4, h5, h6, h7, h8, h9, h10⟩
  exact ⟨⟨h1, h2, h3⟩, ⟨⟨fun m hm => ⟨(h4 m hm).1, by simp, (h4 m hm).2⟩, h7⟩, fun e he => ⟨(h5 e he).1, h9 _ (List.mem_map_of_mem he), (h5 e he).2⟩, h8⟩, fun t ht => ⟨(h6 t ht).1, by simp, (h6 t ht).2⟩, h10⟩
end Go.Proofs.YtcjfeandnmochaaGreatDoor
namespace Go.Proofs.YtcjfeandnmochaaGreatDoor
open Go.ChangeShapes Go.WideShapes Go.ChangeAt Go.RowKit
set_option linter.unusedVariables false
set_option maxRecDepth 20000
set_option maxHeartbeats 1000000 in
theorem key_any (s : ByteArray) (w : World) :
  Calls Tryz.prog 109 #[.string s] w fun e w' => e = .returned (.bool (keyB s)) ∧ w' = w := by
 go_enter Tryz.func109, Tryz.ntmps109
 go_wp2
 all_goals
  go_ret
  refine ⟨ret_bool ?_, rfl⟩
  first | (simp [keyB, *]; done) | simp_all
set_option maxHeartbeats 1000000 in
theorem count_any (s : ByteArray) (w : World) (hs : s.size ≤ 140737488351232) :
  Calls Tryz.prog 108 #[.string s] w fun e w' => e = .returned (.int .i64 (countN s.data.toList)) ∧ Below w.heap.size w w' := by
 go_enter Tryz.func108, Tryz.ntmps108
 go_wp2
 go_loopw [3] (fun n wr => ∃ (pos : Nat) (acc : List Nat), wr = w.iter s pos ∧ n = .int .i64 acc.length ∧ acc.length ≤ pos ∧ Hid (Gone s.data.toList pos acc)) (fun _ wr => s.size - wr.iterPos w.heap.size)
 case atStart => exact ⟨0, [], rfl, rfl, by simp, Gone.start _⟩
 case round =>
  obtain ⟨pos, acc, rfl, rfl, hle, H⟩ := hrel
  by_cases hp : pos < s.size
  ·obtain ⟨c, k, hd, h1, h2⟩ := dec_at s pos hp
   have hnx : ∀ ty, (Instr.next (.pointer (some ⟨w.heap.size, 0, none⟩)) true ty).run Tryz.prog (w.iter s pos) = .ok (.tuple #[.bool true, .int .i64 (pos : Int), .int .i32 (c : Int)]) (w.iter s (pos + k)) := by
    intro ty
    have := run_next_any (P := Tryz.prog) w s pos ty hp
    rw [hd] at this
    exact this
   have H1 : Hid (standsB (s.data.toList.drop pos) c = true → nxL (s.data.toList.drop pos) = some (c, k)) := h1
   have H2 : Hid (standsB (s.data.toList.drop pos) c = false → nxL (s.data.toList.drop pos) = none) := h2
   clear hd h1 h2
   go_wp2_with fail
   refine (stands_any s _ _ _ hs (by omega) (by omega)).mono ?_
   rintro e w' ⟨rfl, rfl⟩
   rw [Int.toNat_natCast]
   cases hst : standsB (s.data.toList.drop pos) c with
   | false =>
    go_wp2
    go_ret
    exact ⟨ret_int (by unfold countN; rw [H.out.bad (by rw [len_data]; exact hp) (H2.out hst)]; rfl), below_iter _ _ _⟩
   | true =>
    have HN := H1.out hst
    have hk : 1 ≤ k := (nxL_some _ _ _ HN).2.2.2.1
    have HG : Hid (Gone s.data.toList (pos + k) (acc ++ [c])) := H.out.step HN
    clear HN
    go_wp2
    go_roundw
    case rel => exact ⟨pos + k, acc ++ [c], rfl, by simp, by simp; omega, HG⟩
    case measure => simp; omega
  ·have hnx : ∀ ty, (Instr.next (.pointer (some ⟨w.heap.size, 0, none⟩)) true ty).run Tryz.prog (w.iter s pos) = _ := fun ty => run_next_end w s pos ty hp
   go_wp2
   go_ret
   exact ⟨ret_int (by unfold countN; rw [H.out.done (by rw [len_data]; omega)]; rfl), below_iter _ _ _⟩
theorem nameB_off (s : ByteArray) {pos c k : Nat} {acc : List Nat} (h : Gone s.data.toList pos acc) (hn : nxL (s.data.toList.drop pos) = some (c, k)) (hb : (letB c || (!acc.isEmpty && digB c)) = false) : nameB s = false := by
 unfold nameB
 cases e : runesOf s.data.toList with
 | none => simp [countN, e]
 | some rs =>
  obtain ⟨rest, rfl⟩ := (h.step hn).len e
  have : okFrom true (acc ++ [c] ++ rest) = false := by
   rw [List.append_assoc, okFrom_append]
   simp only [List.singleton_append, okFrom, Bool.true_and]
   rw [hb]; simp
  simp only [Option.getD_some, this, Bool.and_false]
set_option maxHeartbeats 1000000 in
theorem name_any (s : ByteArray) (w : World) (hs : s.size ≤ 140737488351232) :
  Calls Tryz.prog 61 #[.string s] w fun e w' => e = .returned (.bool (nameB s)) ∧ Below w.heap.size w w' := by
 have hcl := countN_le s.data.toList
 rw [len_data] at hcl
 by_cases hc1 : countN s.data.toList < 1
 ·have HX : Hid (false = nameB s) := by show false = _; unfold nameB; simp; omega
  go_enter Tryz.func61, Tryz.ntmps61
  go_wp2_with fail
  refine (count_any s _ hs).mono ?_
  rintro e w1 ⟨rfl, hw1⟩
  generalize countN s.data.toList = n at *
  have hn1 : decide ((n : Int) < 1) = true := by simp; omega
  go_wp2_with fail
  go_ret
  exact ⟨ret_bool HX.out, hw1⟩
 ·by_cases hc2 : 20 < countN s.data.toList
  ·have HX : Hid (false = nameB s) := by show false = _; unfold nameB; simp; omega
   go_enter Tryz.func61, Tryz.ntmps61
   go_wp2_with fail
   refine (count_any s _ hs).mono ?_
   rintro e w1 ⟨rfl, hw1⟩
   generalize countN s.data.toList = n at *
   have hn1 : decide ((n : Int) < 1) = false := by simp; omega
   have hn2 : decide (20 < (n : Int)) = true := by simp; omega
   go_wp2_with fail
   go_ret
   exact ⟨ret_bool HX.out, hw1⟩
  ·cases hk : keyB s with
   | true =>
    have HX : Hid (false = nameB s) := by show false = _; unfold nameB; simp [hk]
    have HK : Hid (keyB s = true) := hk
    clear hk
    go_enter Tryz.func61, Tryz.ntmps61
    go_wp2_with fail
    refine (count_any s _ hs).mono ?_
    rintro e w1 ⟨rfl, hw1⟩
    generalize countN s.data.toList = n at *
    have hn1 : decide ((n : Int) < 1) = false := by simp; omega
    have hn2 : decide (20 < (n : Int)) = false := by simp; omega
    go_wp2_with fail
    refine (key_any s _).mono ?_
    rintro e w2 ⟨rfl, rfl⟩
    rw [HK.out]
    go_wp2_with fail
    go_ret
    exact ⟨ret_bool HX.out, hw1⟩
   | false =>
    obtain ⟨rs, hrs⟩ : ∃ rs, runesOf s.data.toList = some rs := by
     cases e : runesOf s.data.toList with
     | none => simp [countN, e] at hc1
     | some rs => exact ⟨rs, rfl⟩
    have HX : Hid (nameB s = okFrom true rs) := by
     show nameB s = _
     unfold nameB
     rw [hk, hrs]
     simp only [Bool.not_false, Bool.and_true, Option.getD_some]
     rw [decide_eq_true (by omega), Bool.true_and]
    have HR : Hid (runesOf s.data.toList = some rs) := hrs
    have HK : Hid (keyB s = false) := hk
    clear hk hrs
    go_enter Tryz.func61, Tryz.ntmps61
    go_wp2_with fail
    refine (count_any s _ hs).mono ?_
    rintro e w1 ⟨rfl, hw1⟩
    generalize countN s.data.toList = n at *
    have hn1 : decide ((n : Int) < 1) = false := by simp; omega
    have hn2 : decide (20 < (n : Int)) = false := by simp; omega
    go_wp2_with fail
    refine (key_any s _).mono ?_
    rintro e w2 ⟨rfl, rfl⟩
    rw [HK.out]
    go_wp2_with fail
    go_loopw [] (fun wr => ∃ (pos : Nat) (acc : List Nat), wr = w2.iter s pos ∧ Hid (Gone s.data.toList pos acc) ∧ Hid (okFrom true acc = true) ∧ Hid (acc.isEmpty = decide (pos = 0))) (fun wr => s.size - wr.iterPos w2.heap.size)
    case atStart => exact ⟨0, [], rfl, Gone.start _, rfl, rfl⟩
    case round =>
     obtain ⟨pos, acc, rfl, H, HO, HE⟩ := hrel
     by_cases hp : pos < s.size
     ·obtain ⟨c, k, hd, h1, h2⟩ := dec_at s pos hp
      obtain ⟨x, hx⟩ := nx_of_gone H.out (by rw [len_data]; exact hp) HR.out
      have HN : Hid (nxL (s.data.toList.drop pos) = some (c, k)) := dec_of_nx h1 h2 hx
      have hnx : ∀ ty, (Instr.next (.pointer (some ⟨w2.heap.size, 0, none⟩)) true ty).run Tryz.prog (w2.iter s pos) = .ok (.tuple #[.bool true, .int .i64 (pos : Int), .int .i32 (c : Int)]) (w2.iter s (pos + k)) := by
       intro ty
       have := run_next_any (P := Tryz.prog) w2 s pos ty hp
       rw [hd] at this
       exact this
      have hk : 1 ≤ k := (nxL_some _ _ _ HN.out).2.2.2.1
      have HG : Hid (Gone s.data.toList (pos + k) (acc ++ [c])) := H.out.step HN.out
      have HE2 : Hid ((acc ++ [c]).isEmpty = decide (pos + k = 0)) := by show _ = _; rw [decide_eq_false (by omega)]; cases acc <;> rfl
      clear hd h1 h2 hx
      go_wp2_with fail
      refine (letter_any _ _).mono ?_
      rintro e w3 ⟨rfl, rfl⟩
      cases hl : letB c with
      | true =>
       have HO2 : Hid (okFrom true (acc ++ [c]) = true) := by show _ = _; rw [okFrom_append, HO.out]; simp [okFrom, hl]
       go_wp2_with fail
       go_roundw
       case rel => exact ⟨pos + k, acc ++ [c], rfl, HG, HO2, HE2⟩
       case measure => simp; omega
      | false =>
       by_cases hp0 : pos = 0
       ·have HF : Hid (false = nameB s) := (nameB_off s H.out HN.out (by rw [hl, HE.out]; simp [hp0])).symm
        have hpd : ((pos : Int) == 0) = true := by simp [hp0]
        clear hp0
        go_wp2_with fail
        go_ret
        exact ⟨ret_bool HF.out, hw1.trans ((below_iter _ _ _).mono hw1.size)⟩
       ·have hpd : ((pos : Int) == 0) = false := by simp [hp0]
        go_wp2_with fail
        refine (digit_any _ _).mono ?_
        rintro e w4 ⟨rfl, rfl⟩
        cases hdg : digB c with
        | true =>
         have HO2 : Hid (okFrom true (acc ++ [c]) = true) := by show _ = _; rw [okFrom_append, HO.out, HE.out]; simp [okFrom, hdg, hp0]
         go_wp2_with fail
         go_roundw
         case rel => exact ⟨pos + k, acc ++ [c], rfl, HG, HO2, HE2⟩
         case measure => simp; omega
        | false =>
         have HF : Hid (false = nameB s) := (nameB_off s H.out HN.out (by rw [hl, hdg]; simp)).symm
         go_wp2_with fail
         go_ret
         exact ⟨ret_bool HF.out, hw1.trans ((below_iter _ _ _).mono hw1.size)⟩
     ·have hnx : ∀ ty, (Instr.next (.pointer (some ⟨w2.heap.size, 0, none⟩)) true ty).run Tryz.prog (w2.iter s pos) = _ := fun ty => run_next_end w2 s pos ty hp
      have HF : Hid (true = nameB s) := by
       show true = _
       have := H.out.done (by rw [len_data]; omega)
       rw [HR.out] at this
       simp at this
       rw [HX.out, this, HO.out]
      go_wp2
      go_ret
      exact ⟨ret_bool HF.out, hw1.trans ((below_iter _ _ _).mono hw1.size)⟩
end Go.Proofs.YtcjfeandnmochaaGreatDoor
namespace Go.Proofs.YtcjfeandnmochaaGreatDoor
open Go.ChangeShapes Go.WideShapes Go.ChangeAt Go.RowKit Go.Maps
set_option linter.unusedVariables false
set_option linter.unusedSimpArgs false
set_option maxRecDepth 20000
def SetK (k : TypeId) (w : World) (b n : Nat) (L : List Value) : Prop :=
 ∃ D : DataW Unit, w.ownsMap Tryz.prog k (unitElem (H := Unit)) b n D ∧ ∀ v kl, keyOf Tryz.prog k v = some kl → (Maps.has D kl = true ↔ v ∈ L)
theorem SetK.lt {k : TypeId} {w : World} {b n : Nat} {L : List Value} (h : SetK k w b n L) : b < w.heap.size := by obtain ⟨D, h1, _⟩ := h; exact h1.lt
theorem SetK.made (k : TypeId) (w : World) : SetK k (w.alloc (.map #[] 0)) w.heap.size 0 [] :=
 ⟨.map [], World.ownsMap_made w Tryz.prog k unitElem, fun v kl _ => by simp [Maps.has]⟩
theorem SetK.kp {k : TypeId} {S : Nat → Prop} {w w1 : World} {b n : Nat} {L : List Value} (h : SetK k w b n L) (hk : Kp S w w1) (hs : ¬ S b) : SetK k w1 b n L := by
 have hlt := h.lt
 obtain ⟨D, ⟨es, clock, hb, r⟩, h2⟩ := h
 exact ⟨D, ⟨es, clock, (hk.block b hlt hs).trans hb, r⟩, h2⟩
theorem SetK.below {k : TypeId} {w w1 : World} {b n : Nat} {L : List Value} (h : SetK k w b n L) (hk : Below w.heap.size w w1) : SetK k w1 b n L := h.kp (S := fun _ => False) (Kp.ofBelow hk) (fun e => e)
theorem SetK.mono {k : TypeId} {w : World} {b n n' : Nat} {L : List Value} (h : SetK k w b n L) (hn : n ≤ n') : SetK k w b n' L := by
 obtain ⟨D, h1, h2⟩ := h; exact ⟨D, h1.mono hn, h2⟩
theorem SetK.put {k : TypeId} (K : Keyed Tryz.prog k) {w : World} {b n : Nat} {L : List Value} {D : DataW Unit} (hD : Maps.IsMap D) (h2 : ∀ v kl, keyOf Tryz.prog k v = some kl → (Maps.has D kl = true ↔ v ∈ L)) {v : Value} {kl : Lit} (hv : keyOf Tryz.prog k v = some kl) {u : DataW Unit}
  (h1 : w.ownsMap Tryz.prog k (unitElem (H := Unit)) b n (D.put kl u)) : SetK k w b n (L ++ [v]) := by
 refine ⟨_, h1, fun v' kl' hv' => ?_⟩
 by_cases e : kl' = kl
 ·subst e
  have : v' = v := K.inj hv' hv
  subst this
  rw [Maps.has_put_same hD (K.key hv)]
  simp
 ·rw [Maps.has_put_other e, h2 v' kl' hv']
  simp only [List.mem_append, List.mem_singleton]
  constructor
  ·exact .inl
  ·rintro (h | rfl)
   ·exact h
   ·rw [hv] at hv'; cases hv'; exact absurd rfl e
theorem SetK.ne {k : TypeId} {w : World} {b n : Nat} {L : List Value} (h : SetK k w b n L) {g : Nat} {p : Addr} {u : Value} (hc : w.cell? p = some u) (hg : p.block = g) : g ≠ b := by
 rintro rfl
 obtain ⟨D, ⟨es, clock, hb, _⟩, _⟩ := h
 obtain ⟨q, off, sp⟩ := p
 simp only at hg
 subst hg
 simp [World.cell?, hb] at hc
theorem zeroU (w : World) : (zeroValue 118).run Tryz.prog w = .ok (.agg #[]) w := by kernel_rfl
def SetS (w : World) (b n : Nat) (L : List ByteArray) : Prop := SetK 9 w b n (L.map Value.string)
def SetI (w : World) (b n : Nat) (L : List Int) : Prop := SetK 3 w b n (L.map (Value.int .i64))
def tyV (p : Int × ByteArray) : Value := .agg #[.int .i64 p.1, .string p.2]
def SetT (w : World) (b n : Nat) (L : List (Int × ByteArray)) : Prop := SetK 88 w b n (L.map tyV)
theorem lawS : Keyed Tryz.prog 9 := string_keyed Tryz.underlying9
theorem lawI : Keyed Tryz.prog 3 := int_keyed Tryz.underlying3
theorem laidOutP : laidOutB Tryz.prog = true := by kernel_rfl
theorem lawT : Keyed Tryz.prog 88 := Keyed.of_law (deep_law_laid laidOutP (m := 3) (by omega) (of_decide_eq_true (by kernel_rfl)) (by kernel_rfl) (by kernel_rfl))
def I64 (n : Int) : Prop := -9223372036854775808 ≤ n ∧ n ≤ 9223372036854775807
theorem wf64 {n : Int} (h : I64 n) : (Lit.int .i64 n).wf = true := WalkArith.wf_i64 (by obtain ⟨h1, h2⟩ := h; omega)
theorem key_str {s : ByteArray} (h : s.size ≤ 140737488351232) : keyOf Tryz.prog 9 (.string s) = some (.string s.data.toList) :=
 WideMaps.keyOf_string_mk (P := Tryz.prog) (k := 9) Tryz.underlying9 (s := s) (by unfold maxLen; omega)
theorem key_int {n : Int} (h : I64 n) : keyOf Tryz.prog 3 (.int .i64 n) = some (.int .i64 n) :=
 keyOf_int_mk (P := Tryz.prog) (k := 3) Tryz.underlying3 (wf64 h)
theorem keyTypeT : Tryz.prog.keyType 88 = true := by kernel_rfl
theorem cellsT : Tryz.prog.cellsOf 88 = 2 := by kernel_rfl
theorem cellsI : Tryz.prog.cellsOf 3 = 1 := by kernel_rfl
theorem cellsS : Tryz.prog.cellsOf 9 = 1 := by kernel_rfl
theorem lits_int {m : Nat} {k : Int} (hk : I64 k) : Tryz.prog.keyLits (m + 1) 3 [.int .i64 k] = some [.int .i64 k] := by
 simp [Program.keyLits, Tryz.underlying3, wf64 hk]
theorem lits_str {m : Nat} {s : ByteArray} (hs : s.size ≤ 140737488351232) : Tryz.prog.keyLits (m + 1) 9 [.string s] = some [.string s.data.toList] := by
 have : s.size ≤ maxLen := by unfold maxLen; omega
 simp [Program.keyLits, Tryz.underlying9, this]
theorem lits_ty {m : Nat} {k : Int} {s : ByteArray} (hk : I64 k) (hs : s.size ≤ 140737488351232) : Tryz.prog.keyLits (m + 2) 88 [.int .i64 k, .string s] = some [.int .i64 k, .string s.data.toList] := by
 unfold Program.keyLits
 simp only [Tryz.underlying88, cellsT]
 simp [cellsI, cellsS, lits_int hk, lits_str hs]
theorem key_ty {k : Int} {s : ByteArray} (hk : I64 k) (hs : s.size ≤ 140737488351232) : ∃ kl, keyOf Tryz.prog 88 (tyV (k, s)) = some kl := by
 obtain ⟨m, hm⟩ : ∃ m, Tryz.prog.types.size + 1 = m + 2 := ⟨Tryz.prog.types.size - 1, by have : 0 < Tryz.prog.types.size := of_decide_eq_true (by kernel_rfl); omega⟩
 have hf : (tyV (k, s)).formed Tryz.prog 88 = true := by simp [tyV, Value.formed, Tryz.underlying88, cellsT]
 unfold keyOf
 rw [hm, show (tyV (k, s)).cells.toList = [.int .i64 k, .string s] from rfl, lits_ty hk hs, keyTypeT, hf]
 simp only [Tryz.underlying88]
 exact ⟨_, rfl⟩
theorem mem_str {s : ByteArray} {L : List ByteArray} : Value.string s ∈ L.map Value.string ↔ s ∈ L := by
 simp only [List.mem_map, Value.string.injEq, exists_eq_right]
theorem mem_int {s : Int} {L : List Int} : Value.int .i64 s ∈ L.map (Value.int .i64) ↔ s ∈ L := by
 simp only [List.mem_map, Value.int.injEq, true_and, exists_eq_right]
theorem mem_ty {s : Int × ByteArray} {L : List (Int × ByteArray)} : tyV s ∈ L.map tyV ↔ s ∈ L := by
 simp only [List.mem_map, tyV, Value.agg.injEq, Array.mk.injEq, List.cons.injEq, Value.int.injEq, Value.string.injEq, true_and, and_true]
 constructor
 ·rintro ⟨⟨a, b⟩, h1, h2, h3⟩; obtain ⟨c, d⟩ := s; simp only at h2 h3; subst h2 h3; exact h1
 ·intro h; exact ⟨s, h, rfl, rfl⟩
theorem SetS.has {w : World} {b n : Nat} {L : List ByteArray} {D : DataW Unit} (h2 : ∀ v kl, keyOf Tryz.prog 9 v = some kl → (Maps.has D kl = true ↔ v ∈ L.map Value.string)) {s : ByteArray} (hs : s.size ≤ 140737488351232) : Maps.has D (.string s.data.toList) = memB s L := by
 rw [Bool.eq_iff_iff, h2 _ _ (key_str hs), mem_str, memB_iff]
theorem SetI.has {w : World} {b n : Nat} {L : List Int} {D : DataW Unit} (h2 : ∀ v kl, keyOf Tryz.prog 3 v = some kl → (Maps.has D kl = true ↔ v ∈ L.map (Value.int .i64))) {s : Int} (hs : I64 s) : Maps.has D (.int .i64 s) = memI s L := by
 rw [Bool.eq_iff_iff, h2 _ _ (key_int hs), mem_int]
 simp [memI]
set_option maxHeartbeats 1000000 in
theorem has_str {w : World} {b n : Nat} {L : List ByteArray} (h : SetS w b n L) {s : ByteArray} (hs : s.size ≤ 140737488351232) :
  Calls Tryz.prog 134 #[.map (some b), .string s] w fun e w' => e = .returned (.bool (memB s L)) ∧ Below w.heap.size w w' := by
 obtain ⟨D, hown, h2⟩ := h
 have HH : Hid (Maps.has D (.string s.data.toList) = memB s L) := SetS.has (w := w) (b := b) (n := n) h2 hs
 have hkey := key_str hs
 clear h2
 go_enter Tryz.func134, Tryz.ntmps134
 go_wp2_with (first
  | (at_lookup; refine wpList_lookup_own_unit _ rfl _ _ 69 rfl 9 118 lawS Tryz.underlying69 (zeroU _) b n D rfl hown _ _ rfl hkey ?_)
  | fail)
 go_ret
 exact ⟨ret_bool HH.out, ((Below.refl _ _).alloc (Nat.le_refl _) _)⟩
set_option maxHeartbeats 1000000 in
theorem has_int {w : World} {b n : Nat} {L : List Int} (h : SetI w b n L) {s : Int} (hs : I64 s) :
  Calls Tryz.prog 135 #[.map (some b), .int .i64 s] w fun e w' => e = .returned (.bool (memI s L)) ∧ Below w.heap.size w w' := by
 obtain ⟨D, hown, h2⟩ := h
 have HH : Hid (Maps.has D (.int .i64 s) = memI s L) := SetI.has (w := w) (b := b) (n := n) h2 hs
 have hkey := key_int hs
 clear h2
 go_enter Tryz.func135, Tryz.ntmps135
 go_wp2_with (first
  | (at_lookup; refine wpList_lookup_own_unit _ rfl _ _ 124 rfl 3 118 lawI Tryz.underlying124 (zeroU _) b n D rfl hown _ _ rfl hkey ?_)
  | fail)
 go_ret
 exact ⟨ret_bool HH.out, ((Below.refl _ _).alloc (Nat.le_refl _) _)⟩
def memT (p : Int × ByteArray) (L : List (Int × ByteArray)) : Bool := L.any fun q => decide (p = q)
theorem memT_iff {p : Int × ByteArray} {L : List (Int × ByteArray)} : memT p L = true ↔ p ∈ L := by simp [memT]
set_option maxHeartbeats 1000000 in
theorem has_ty {w : World} {b n : Nat} {L : List (Int × ByteArray)} (h : SetT w b n L) {k : Int} {s : ByteArray} (hk : I64 k) (hs : s.size ≤ 140737488351232) :
  Calls Tryz.prog 69 #[.map (some b), .agg #[.int .i64 k, .string s]] w fun e w' => e = .returned (.bool (memT (k, s) L)) ∧ Below w.heap.size w w' := by
 obtain ⟨D, hown, h2⟩ := h
 obtain ⟨kl, hkey⟩ := key_ty hk hs
 have HH : Hid (Maps.has D kl = memT (k, s) L) := by
  show _ = _
  rw [Bool.eq_iff_iff, h2 _ _ hkey, mem_ty, memT_iff]
 unfold tyV at hkey
 simp only at hkey
 clear h2
 go_enter Tryz.func69, Tryz.ntmps69
 go_wp2_with (first
  | (at_lookup; refine wpList_lookup_own_unit _ rfl _ _ 66 rfl 88 118 lawT Tryz.underlying66 (zeroU _) b n D rfl (hown.alloc _) _ _ rfl hkey ?_)
  | fail)
 go_ret
 exact ⟨ret_bool HH.out, ((Below.refl _ _).alloc (Nat.le_refl _) _).alloc (by simp) _⟩
set_option maxHeartbeats 1000000 in
theorem add_str {w : World} {b n : Nat} {L : List ByteArray} (h : SetS w b n L) {s : ByteArray} (hs : s.size ≤ 140737488351232) (hn : n < 1000000) :
  Calls Tryz.prog 110 #[.map (some b), .string s] w fun e w' => e = .returned (.bool (!memB s L)) ∧ (memB s L = false → SetS w' b (n + 1) (L ++ [s])) ∧ Kp (fun k => k = b) w w' := by
 have HS : Hid (SetS w b n L) := h
 clear h
 have hkey := key_str hs
 cases hm : memB s L
 ·go_enter Tryz.func110, Tryz.ntmps110
  go_wp2_with fail
  refine (has_str HS.out hs).mono ?_
  rintro e w1 ⟨rfl, hb1⟩
  rw [hm]
  obtain ⟨D, hown, h2⟩ := HS.out.below hb1
  have H2 : Hid _ := h2
  clear h2
  go_wp2_with (first
   | (at_mapUpdate; refine wpList_mapUpdate_own _ rfl _ _ _ 69 rfl 9 118 lawS Tryz.underlying69 (unitElem (H := Unit)) b n _ rfl hown (by unfold maxLen; omega) _ _ _ rfl rfl hkey _ [] unitElem_mk ?_; intro w2 hown1 hgrow1)
   | fail)
  go_ret
  refine ⟨rfl, fun _ => ?_, (Kp.ofBelow hb1).grown hgrow1 (fun k hk _ => by cases hk; rfl)⟩
  have := SetK.put lawS hown.isMap H2.out hkey hown1
  unfold SetS
  rw [List.map_append]
  exact this
 ·go_enter Tryz.func110, Tryz.ntmps110
  go_wp2_with fail
  refine (has_str HS.out hs).mono ?_
  rintro e w1 ⟨rfl, hb1⟩
  rw [hm]
  go_wp2_with fail
  go_ret
  exact ⟨rfl, (fun e => by cases e), Kp.ofBelow hb1⟩
set_option maxHeartbeats 1000000 in
theorem add_int {w : World} {b n : Nat} {L : List Int} (h : SetI w b n L) {s : Int} (hs : I64 s) (hn : n < 1000000) :
  Calls Tryz.prog 111 #[.map (some b), .int .i64 s] w fun e w' => e = .returned (.bool (!memI s L)) ∧ (memI s L = false → SetI w' b (n + 1) (L ++ [s])) ∧ Kp (fun k => k = b) w w' := by
 have HS : Hid (SetI w b n L) := h
 clear h
 have hkey := key_int hs
 cases hm : memI s L
 ·go_enter Tryz.func111, Tryz.ntmps111
  go_wp2_with fail
  refine (has_int HS.out hs).mono ?_
  rintro e w1 ⟨rfl, hb1⟩
  rw [hm]
  obtain ⟨D, hown, h2⟩ := HS.out.below hb1
  have H2 : Hid _ := h2
  clear h2
  go_wp2_with (first
   | (at_mapUpdate; refine wpList_mapUpdate_own _ rfl _ _ _ 124 rfl 3 118 lawI Tryz.underlying124 (unitElem (H := Unit)) b n _ rfl hown (by unfold maxLen; omega) _ _ _ rfl rfl hkey _ [] unitElem_mk ?_; intro w2 hown1 hgrow1)
   | fail)
  go_ret
  refine ⟨rfl, fun _ => ?_, (Kp.ofBelow hb1).grown hgrow1 (fun k hk _ => by cases hk; rfl)⟩
  have := SetK.put lawI hown.isMap H2.out hkey hown1
  unfold SetI
  rw [List.map_append]
  exact this
 ·go_enter Tryz.func111, Tryz.ntmps111
  go_wp2_with fail
  refine (has_int HS.out hs).mono ?_
  rintro e w1 ⟨rfl, hb1⟩
  rw [hm]
  go_wp2_with fail
  go_ret
  exact ⟨rfl, (fun e => by cases e), Kp.ofBelow hb1⟩
set_option maxHeartbeats 1000000 in
theorem newname_any {w : World} {b n : Nat} {L : List ByteArray} (h : SetS w b n L) {s : ByteArray} (hs : s.size ≤ 140737488351232) (hn : n < 1000000) :
  Calls Tryz.prog 63 #[.map (some b), .string s] w fun e w' => e = .returned (.bool (freshB s L)) ∧ (freshB s L = true → SetS w' b (n + 1) (L ++ [s])) ∧ Kp (fun k => k = b) w w' := by
 have HS : Hid (SetS w b n L) := h
 clear h
 cases hm : nameB s
 ·have HF : Hid (false = freshB s L) := by show _ = _; unfold freshB; rw [hm]; rfl
  go_enter Tryz.func63, Tryz.ntmps63
  go_wp2_with fail
  refine (name_any s _ hs).mono ?_
  rintro e w1 ⟨rfl, hb1⟩
  rw [hm]
  go_wp2_with fail
  go_ret
  exact ⟨ret_bool HF.out, (fun e => by rw [← HF.out] at e; cases e), Kp.ofBelow hb1⟩
 ·have HF : Hid ((!memB s L) = freshB s L) := by show _ = _; unfold freshB; rw [hm]; rfl
  go_enter Tryz.func63, Tryz.ntmps63
  go_wp2_with fail
  refine (name_any s _ hs).mono ?_
  rintro e w1 ⟨rfl, hb1⟩
  rw [hm]
  go_wp2_with fail
  refine (add_str (SetK.below HS.out hb1) hs hn).mono ?_
  rintro e w2 ⟨rfl, h2, hk2⟩
  have H2 : Hid _ := h2
  clear h2
  go_wp2_with fail
  go_ret
  exact ⟨ret_bool HF.out, (fun e => H2.out (by rw [← HF.out] at e; simpa using e)), (Kp.ofBelow hb1).trans hk2⟩
set_option maxHeartbeats 1000000 in
theorem newtag_any {w : World} {b n : Nat} {L : List Int} (h : SetI w b n L) {s : Int} (hs : I64 s) (hn : n < 1000000) :
  Calls Tryz.prog 64 #[.map (some b), .int .i64 s] w fun e w' => e = .returned (.bool (tagB s L)) ∧ (tagB s L = true → SetI w' b (n + 1) (L ++ [s])) ∧ Kp (fun k => k = b) w w' := by
 have HS : Hid (SetI w b n L) := h
 clear h
 by_cases h1 : 1 ≤ s
 ·by_cases h5 : s ≤ 500
  ·have HF : Hid ((!memI s L) = tagB s L) := by show _ = _; unfold tagB tagR; rw [decide_eq_true (And.intro h1 h5)]; rfl
   go_enter Tryz.func64, Tryz.ntmps64
   go_wp2_with fail
   refine (add_int HS.out hs hn).mono ?_
   rintro e w2 ⟨rfl, h2, hk2⟩
   have H2 : Hid _ := h2
   clear h2
   go_wp2_with fail
   go_ret
   exact ⟨ret_bool HF.out, (fun e => H2.out (by rw [← HF.out] at e; simpa using e)), hk2⟩
  ·have hd : decide (s ≤ 500) = false := by simpa using h5
   have HF : Hid (false = tagB s L) := by show _ = _; unfold tagB tagR; rw [decide_eq_false (fun e => h5 e.2)]; rfl
   go_enter Tryz.func64, Tryz.ntmps64
   go_wp2_with fail
   go_ret
   exact ⟨ret_bool HF.out, (fun e => by rw [← HF.out] at e; cases e), Kp.refl _ _⟩
 ·have hd : decide (1 ≤ s) = false := by simpa using h1
  have HF : Hid (false = tagB s L) := by show _ = _; unfold tagB tagR; rw [decide_eq_false (fun e => h1 e.1)]; rfl
  go_enter Tryz.func64, Tryz.ntmps64
  go_wp2_with fail
  go_ret
  exact ⟨ret_bool HF.out, (fun e => by rw [← HF.out] at e; cases e), Kp.refl _ _⟩
theorem RowG.kpM {S : Nat → Prop} {w w1 : World} {v : Value} {size : Nat} {rs : List (List Value)} (h : RowG w v size rs) (hk : Kp S w w1) (hs : ∀ p u, w.cell? p = some u → ¬ S p.block) : RowG w1 v size rs := by
 obtain ⟨a, cap, h1, h2, h3, h0, h4⟩ := h.form
 refine ⟨a, cap, h1, h2, h3, h0, fun hne => ?_⟩
 obtain ⟨g, off, h5, h6⟩ := h4 hne
 exact ⟨g, off, h5, fun i c u j hc hu => hk.cell (h6 i c u j hc hu) (hs _ _ (h6 i c u j hc hu))⟩
theorem SetK.no {k : TypeId} {w : World} {b n : Nat} {L : List Value} (h : SetK k w b n L) : ∀ p u, w.cell? p = some u → ¬ p.block = b := fun p u hc => h.ne hc rfl
theorem Kp.new {S : Nat → Prop} {w wr w1 : World} {b : Nat} (h : Kp S w wr) (h1 : Kp (fun k => k = b) wr w1) (hb : w.heap.size ≤ b) : Kp S w w1 := h.trans2 h1 (fun i hi e => by omega)
def FlW (f : FlS) : Prop := f.name.size ≤ 140737488351232 ∧ f.tname.size ≤ 140737488351232 ∧ I64 f.tag ∧ I64 f.label ∧ I64 f.kind
def NmW (f : NmS) : Prop := f.name.size ≤ 140737488351232 ∧ I64 f.n
def MtW (f : MtS) : Prop := f.name.size ≤ 140737488351232 ∧ f.inn.size ≤ 140737488351232 ∧ f.out.size ≤ 140737488351232
def MsW (m : MsS) : Prop := m.name.size ≤ 140737488351232 ∧ (∀ f ∈ m.fields, FlW f) ∧ ∀ n ∈ m.reserved, I64 n
def EnW (m : EnS) : Prop := m.name.size ≤ 140737488351232 ∧ ∀ f ∈ m.values, NmW f
structure ScW (s : ScS) : Prop where
 name : s.name.size ≤ 140737488351232
 msgs : ∀ m ∈ s.msgs, MsW m
 enums : ∀ m ∈ s.enums, EnW m
 meths : ∀ m ∈ s.methods, MtW m
set_option maxHeartbeats 1000000 in
theorem islabel_any (n : Int) (w : World) : Calls Tryz.prog 112 #[.int .i64 n] w fun e w' => e = .returned (.bool (labB n)) ∧ w' = w := by
 by_cases h1 : n = 1
 ·subst h1
  go_enter Tryz.func112, Tryz.ntmps112
  go_wp2_with fail
  go_ret
  exact ⟨rfl, rfl⟩
 ·by_cases h2 : n = 2
  ·subst h2
   go_enter Tryz.func112, Tryz.ntmps112
   go_wp2_with fail
   go_ret
   exact ⟨rfl, rfl⟩
  ·by_cases h3 : n = 3
   ·subst h3
    go_enter Tryz.func112, Tryz.ntmps112
    go_wp2_with fail
    go_ret
    exact ⟨rfl, rfl⟩
   ·have HF : Hid (false = labB n) := by show _ = _; unfold labB; rw [decide_eq_false (by omega)]
    have e1 : (n == 1) = false := by simpa using h1
    have e2 : (n == 2) = false := by simpa using h2
    have e3 : (n == 3) = false := by simpa using h3
    go_enter Tryz.func112, Tryz.ntmps112
    go_wp2_with fail
    go_ret
    exact ⟨ret_bool HF.out, rfl⟩
set_option maxHeartbeats 1000000 in
theorem msgtype_any (s : ByteArray) (w : World) : Calls Tryz.prog 62 #[.string s] w fun e w' => e = .returned (.agg #[.int .i64 7, .string s]) ∧ Below w.heap.size w w' := by
 go_enter Tryz.func62, Tryz.ntmps62
 go_wp2_with fail
 refine bodyPost_ret (v := .agg #[.int .i64 7, .string s]) (by simp [results, Tryz.results62, go_sem]) rfl ⟨rfl, ?_⟩
 exact (Below.refl _ _).alloc (Nat.le_refl _) _
set_option maxHeartbeats 1000000 in
theorem iszero_any (s : ByteArray) (n : Int) (w : World) : Calls Tryz.prog 67 #[.agg #[.string s, .int .i64 n]] w fun e w' => e = .returned (.bool (decide (n = 0))) ∧ Below w.heap.size w w' := by
 have HE : Hid ((n == 0) = decide (n = 0)) := rfl
 go_enter Tryz.func67, Tryz.ntmps67
 go_wp2_with fail
 go_ret
 exact ⟨ret_bool HE.out, (Below.refl _ _).alloc (Nat.le_refl _) _⟩
theorem numR_low {n : Int} (h : n < 0) : numR n = false := by unfold numR; rw [decide_eq_false (by omega)]
theorem numR_high {n : Int} (h : 2147483647 < n) : numR n = false := by unfold numR; rw [decide_eq_false (by omega)]
theorem numR_in {n : Int} (h : ¬ n < 0) (h2 : ¬ 2147483647 < n) : numR n = true := by unfold numR; rw [decide_eq_true (by omega)]
set_option maxHeartbeats 2000000 in
theorem cvalues_any {w : World} {v : Value} {vs : List NmS} (hr : RowG w v 2 (nmRows vs)) (hl : vs.length ≤ 30000) (hw : ∀ f ∈ vs, NmW f) :
  Calls Tryz.prog 68 #[v] w fun e w' => e = .returned (.int .i64 (chkVs [] [] vs)) ∧ Below w.heap.size w w' := by
 obtain ⟨a, c, rfl, q1, q2⟩ := hr.form2
 have hN : (nmRows vs).length = vs.length := by simp [nmRows]
 rw [hN] at hr q1 ⊢
 clear hN
 obtain ⟨N, hN⟩ : ∃ N, vs.length = N := ⟨_, rfl⟩
 rw [hN] at hr q1 hl ⊢
 have HN : Hid (vs.length = N) := hN
 have HR : Hid (RowG w (.slice a N c) 2 (nmRows vs)) := hr
 have HW : Hid (∀ f ∈ vs, NmW f) := hw
 clear hN hr hw
 obtain ⟨A, hA⟩ : ∃ A, chkVs [] [] vs = A := ⟨_, rfl⟩
 rw [hA]
 have HA : Hid (A = chkVs [] [] vs) := hA.symm
 clear hA
 have hmm := @run_makeMap Tryz.prog
 go_enter Tryz.func68, Tryz.ntmps68
 go_wp2_with fail
 clear hmm
 have HM0 : SetS ((w.alloc (.map #[] 0)).alloc (.map #[] 0)) w.heap.size 0 [] := SetK.below (SetK.made 9 w) ((Below.refl _ _).alloc (Nat.le_refl _) _)
 have HM1 : SetI ((w.alloc (.map #[] 0)).alloc (.map #[] 0)) (w.heap.size + 1) 0 [] := by
  have := SetK.made 3 (w.alloc (.map #[] 0))
  rwa [show (w.alloc (.map #[] 0)).heap.size = w.heap.size + 1 by simp] at this
 have KP0 : Below w.heap.size w ((w.alloc (.map #[] 0)).alloc (.map #[] 0)) := ((Below.refl _ _).alloc (Nat.le_refl _) _).alloc (by simp) _
 obtain ⟨bn, hbn⟩ : ∃ n, w.heap.size = n := ⟨_, rfl⟩
 rw [hbn] at HM0 HM1 KP0 ⊢
 have HB : Hid (w.heap.size = bn) := hbn
 clear hbn
 go_loopw [11] (fun iv wr => ∃ (k : Nat) (al : List ByteArray) (t : List Int), iv = .int .i64 (k : Int) ∧ k ≤ N ∧ Hid (A = chkVs al t (vs.drop k)) ∧ Hid (SetS wr bn k al) ∧ Hid (SetI wr (bn + 1) k t) ∧ Below bn w wr) (fun iv _ => N - (intOf iv).toNat)
 case atStart => exact ⟨0, [], [], rfl, by omega, HA, HM0, HM1, KP0⟩
 case round =>
  obtain ⟨k, al, t, rfl, hk, HAk, HSn, HSt, hbel⟩ := hrel
  clear HM0 HM1 KP0
  have hbw : bn + 1 < wr.heap.size := SetK.lt HSt.out
  have hbW : Below w.heap.size w wr := by rw [HB.out]; exact hbel
  by_cases hlt : k < N
  ·obtain ⟨f, hf⟩ : ∃ n, vs[k]? = some n := ⟨_, List.getElem?_eq_getElem (by rw [HN.out]; exact hlt)⟩
   have hrr : (nmRows vs)[k]? = some f.cells := by simp [nmRows, hf]
   obtain ⟨g, off, rfl, c1⟩ := (HR.out.below hbW).get hrr
   have hfw := HW.out _ (List.mem_of_getElem? hf)
   obtain ⟨f0, f1⟩ := f
   obtain ⟨w1', w2'⟩ := hfw
   simp only at w1' w2'
   have HA2 : Hid (A = if freshB f0 al = false then 6 else if numB f1 t = false then 11 else chkVs (al ++ [f0]) (t ++ [f1]) (vs.drop (k + 1))) := by
    show _ = _
    rw [HAk.out, drop_at hf]; rfl
   have p0 := c1 0 _ rfl
   have p1 := c1 1 _ rfl
   simp only [Nat.add_zero] at p0 p1
   clear c1 hrr hf HAk hbW
   go_wp2_with fail
   clear p0 p1
   have hba : Below wr.heap.size wr (wr.alloc (.cells #[.string f0, .int .i64 f1] 96)) := (Below.refl _ _).alloc (Nat.le_refl _) _
   have BX := Blk.new wr #[.string f0, .int .i64 f1] 96
   refine (newname_any (SetK.below HSn.out hba) w1' (by omega)).mono ?_
   rintro e w1 ⟨rfl, hs1, hk1⟩
   have HS1 : Hid _ := hs1
   clear hs1
   have hb1 : Below bn w w1 := (hbel.alloc (by omega) _).trans (hk1.toBelow (by simp; omega) (fun k e => by omega))
   cases h1 : freshB f0 al
   ·go_wp2_with fail
    go_ret
    exact ⟨ret_int (by rw [HA2.out, if_pos h1]), by rw [HB.out]; exact hb1⟩
   ·have BX1 := BX.kp hk1 (by omega)
    have b1 : w1.cell? ⟨wr.heap.size, 1, none⟩ = some (.int .i64 f1) := BX1.cell 1
    by_cases hlo : f1 < 0
    ·go_wp2_with fail
     go_ret
     exact ⟨ret_int (by rw [HA2.out, if_neg (by rw [h1]; decide), if_pos (by unfold numB; rw [numR_low hlo]; rfl)]), by rw [HB.out]; exact hb1⟩
    ·by_cases hhi : 2147483647 < f1
     ·go_wp2_with fail
      go_ret
      exact ⟨ret_int (by rw [HA2.out, if_neg (by rw [h1]; decide), if_pos (by unfold numB; rw [numR_high hhi]; rfl)]), by rw [HB.out]; exact hb1⟩
     ·have HNB : Hid (numB f1 t = !memI f1 t) := by show _ = _; unfold numB; rw [numR_in hlo hhi]; rfl
      go_wp2_with fail
      clear b1
      refine (add_int (SetK.kp (SetK.below HSt.out hba) hk1 (by omega)) w2' (by omega)).mono ?_
      rintro e w2 ⟨rfl, hs2, hk2⟩
      have HS2 : Hid _ := hs2
      clear hs2
      have hb2 : Below bn w w2 := hb1.trans (hk2.toBelow (by have := hb1.size; have := HB.out; omega) (fun k e => by omega))
      cases h2 : memI f1 t
      ·have HA3 : Hid (A = chkVs (al ++ [f0]) (t ++ [f1]) (vs.drop (k + 1))) := by
        show _ = _
        rw [HA2.out, if_neg (by rw [h1]; decide), if_neg (by rw [HNB.out, h2]; decide)]
       have HS1' : Hid (SetS w2 bn (k + 1) (al ++ [f0])) := SetK.kp (HS1.out h1) hk2 (by omega)
       have HS2' : Hid (SetI w2 (bn + 1) (k + 1) (t ++ [f1])) := HS2.out h2
       clear HS1 HS2 hbel hb1 hba hk1 hk2 BX BX1 HA2
       go_wp2_with fail
       go_roundw
       case rel => exact ⟨k + 1, _, _, by go_num, by omega, HA3, HS1', HS2', hb2⟩
       case measure => simp [intOf]; omega
      ·go_wp2_with fail
       go_ret
       exact ⟨ret_int (by rw [HA2.out, if_neg (by rw [h1]; decide), if_pos (by rw [HNB.out, h2]; rfl)]), by rw [HB.out]; exact hb2⟩
  ·go_wp2_with fail
   go_ret
   exact ⟨ret_int (by rw [HAk.out, drop_end (by rw [HN.out]; omega)]; rfl), hbW⟩
theorem typeB_msg (mn en : List ByteArray) (t : ByteArray) : typeB mn en 7 t = memB t mn := by
 unfold typeB; simp
set_option maxHeartbeats 2000000 in
theorem cmethods_any {w : World} {v : Value} {ts : List MtS} {mn en : List ByteArray} {bY ny : Nat} {T : List (Int × ByteArray)}
  (hr : RowG w v 3 (mtRows ts)) (hl : ts.length ≤ 30000) (hT : SetT w bY ny T) (hTt : ∀ k s, memT (k, s) T = typeB mn en k s) (hw : ∀ f ∈ ts, MtW f) :
  Calls Tryz.prog 30 #[v, .map (some bY)] w fun e w' => e = .returned (.int .i64 (chkTs mn [] ts)) ∧ Below w.heap.size w w' := by
 obtain ⟨a, c, rfl, q1, q2⟩ := hr.form2
 have hN : (mtRows ts).length = ts.length := by simp [mtRows]
 rw [hN] at hr q1 ⊢
 clear hN
 obtain ⟨N, hN⟩ : ∃ N, ts.length = N := ⟨_, rfl⟩
 rw [hN] at hr q1 hl ⊢
 have HN : Hid (ts.length = N) := hN
 have HR : Hid (RowG w (.slice a N c) 3 (mtRows ts)) := hr
 have HT : Hid (SetT w bY ny T) := hT
 have HTT : Hid (∀ s, memT (7, s) T = memB s mn) := fun s => by rw [hTt, typeB_msg]
 have HW : Hid (∀ f ∈ ts, MtW f) := hw
 clear hN hr hT hTt hw
 obtain ⟨A, hA⟩ : ∃ A, chkTs mn [] ts = A := ⟨_, rfl⟩
 rw [hA]
 have HA : Hid (A = chkTs mn [] ts) := hA.symm
 clear hA
 have hmm := @run_makeMap Tryz.prog
 go_enter Tryz.func30, Tryz.ntmps30
 go_wp2_with fail
 clear hmm
 have HM0 := SetK.made 9 w
 have KP0 : Below w.heap.size w (w.alloc (.map #[] 0)) := (Below.refl _ _).alloc (Nat.le_refl _) _
 obtain ⟨bn, hbn⟩ : ∃ n, w.heap.size = n := ⟨_, rfl⟩
 rw [hbn] at HM0 KP0 ⊢
 have HB : Hid (w.heap.size = bn) := hbn
 clear hbn
 go_loopw [11] (fun iv wr => ∃ (k : Nat) (al : List ByteArray), iv = .int .i64 (k : Int) ∧ k ≤ N ∧ Hid (A = chkTs mn al (ts.drop k)) ∧ Hid (SetS wr bn k al) ∧ Below bn w wr) (fun iv _ => N - (intOf iv).toNat)
 case atStart => exact ⟨0, [], rfl, by omega, HA, HM0, KP0⟩
 case round =>
  obtain ⟨k, al, rfl, hk, HAk, HSn, hbel⟩ := hrel
  clear HM0 KP0
  have hbw : bn < wr.heap.size := SetK.lt HSn.out
  have hbW : Below w.heap.size w wr := by rw [HB.out]; exact hbel
  by_cases hlt : k < N
  ·obtain ⟨f, hf⟩ : ∃ n, ts[k]? = some n := ⟨_, List.getElem?_eq_getElem (by rw [HN.out]; exact hlt)⟩
   have hrr : (mtRows ts)[k]? = some f.cells := by simp [mtRows, hf]
   obtain ⟨g, off, rfl, c1⟩ := (HR.out.below hbW).get hrr
   have hfw := HW.out _ (List.mem_of_getElem? hf)
   obtain ⟨f0, f1, f2⟩ := f
   obtain ⟨w1', w2', w3'⟩ := hfw
   simp only at w1' w2' w3'
   have HA2 : Hid (A = if freshB f0 al = false then 6 else if (memB f1 mn && memB f2 mn) = false then 8 else chkTs mn (al ++ [f0]) (ts.drop (k + 1))) := by
    show _ = _
    rw [HAk.out, drop_at hf]; rfl
   have p0 := c1 0 _ rfl
   have p1 := c1 1 _ rfl
   have p2 := c1 2 _ rfl
   simp only [Nat.add_zero] at p0 p1 p2
   have HTr : Hid (SetT wr bY ny T) := SetK.below HT.out hbW
   have hYn : bY < bn := by have := SetK.lt HT.out; have := HB.out; omega
   clear c1 hrr hf HAk hbW
   go_wp2_with fail
   clear p0 p1 p2
   have hba : Below wr.heap.size wr (wr.alloc (.cells #[.string f0, .string f1, .string f2] 46)) := (Below.refl _ _).alloc (Nat.le_refl _) _
   have BX := Blk.new wr #[.string f0, .string f1, .string f2] 46
   refine (newname_any (SetK.below HSn.out hba) w1' (by omega)).mono ?_
   rintro e w1 ⟨rfl, hs1, hk1⟩
   have HS1 : Hid _ := hs1
   clear hs1
   have hb1 : Below bn w w1 := (hbel.alloc (by omega) _).trans (hk1.toBelow (by simp; omega) (fun k e => by omega))
   cases h1 : freshB f0 al
   ·go_wp2_with fail
    go_ret
    exact ⟨ret_int (by rw [HA2.out, if_pos h1]), by rw [HB.out]; exact hb1⟩
   ·have BX1 := BX.kp hk1 (by omega)
    have b1 : w1.cell? ⟨wr.heap.size, 1, none⟩ = some (.string f1) := BX1.cell 1
    have HT1 : Hid (SetT w1 bY ny T) := SetK.kp (SetK.below HTr.out hba) hk1 (by omega)
    go_wp2_with fail
    refine (msgtype_any _ _).mono ?_
    rintro e w2 ⟨rfl, hb2⟩
    clear b1
    go_wp2_with fail
    refine (has_ty (SetK.below HT1.out hb2) ⟨by decide, by decide⟩ w2').mono ?_
    rintro e w3 ⟨rfl, hb3⟩
    rw [HTT.out]
    have hb13 : Below w1.heap.size w1 w3 := hb2.trans (hb3.mono hb2.size)
    have hbn1 : bn ≤ w1.heap.size := by have := hb1.size; have := HB.out; omega
    have hb03 : Below bn w w3 := hb1.trans (hb13.mono hbn1)
    cases h2 : memB f1 mn
    ·go_wp2_with fail
     go_ret
     exact ⟨ret_int (by rw [HA2.out, if_neg (by rw [h1]; decide), if_pos (by rw [h2]; rfl)]), by rw [HB.out]; exact hb03⟩
    ·have BX3 := BX1.below hb13
     have b2 : w3.cell? ⟨wr.heap.size, 2, none⟩ = some (.string f2) := BX3.cell 2
     clear hb2 hb3
     go_wp2_with fail
     refine (msgtype_any _ _).mono ?_
     rintro e w4 ⟨rfl, hb4⟩
     clear b2
     go_wp2_with fail
     refine (has_ty (SetK.below (SetK.below HT1.out hb13) hb4) ⟨by decide, by decide⟩ w3').mono ?_
     rintro e w5 ⟨rfl, hb5⟩
     rw [HTT.out]
     have hb35 : Below w3.heap.size w3 w5 := hb4.trans (hb5.mono hb4.size)
     have hb05 : Below bn w w5 := hb03.trans (hb35.mono (Nat.le_trans hbn1 hb13.size))
     cases h3 : memB f2 mn
     ·go_wp2_with fail
      go_ret
      exact ⟨ret_int (by rw [HA2.out, if_neg (by rw [h1]; decide), if_pos (by rw [h2, h3]; rfl)]), by rw [HB.out]; exact hb05⟩
     ·have HA3 : Hid (A = chkTs mn (al ++ [f0]) (ts.drop (k + 1))) := by
       show _ = _
       rw [HA2.out, if_neg (by rw [h1]; decide), if_neg (by rw [h2, h3]; decide)]
      have HS1' : Hid (SetS w5 bn (k + 1) (al ++ [f0])) := SetK.below (SetK.below (HS1.out h1) hb13) hb35
      clear HS1 hbel hb1 hba hk1 BX BX1 BX3 HA2 hb03 hb35 hb13 hb4 hb5 HT1
      go_wp2_with fail
      go_roundw
      case rel => exact ⟨k + 1, _, by go_num, by omega, HA3, HS1', hb05⟩
      case measure => simp [intOf]; omega
  ·go_wp2_with fail
   go_ret
   exact ⟨ret_int (by rw [HAk.out, drop_end (by rw [HN.out]; omega)]; rfl), hbW⟩
set_option maxHeartbeats 2000000 in
theorem cfields_any {w : World} {v : Value} {fs : List FlS} {mn en : List ByteArray} {bt nt bY ny : Nat} {L : List Int} {T : List (Int × ByteArray)}
  (hr : RowG w v 5 (flRows fs)) (hl : fs.length ≤ 30000) (hI : SetI w bt nt L) (hnt : nt ≤ 100000) (hT : SetT w bY ny T) (hne : bY ≠ bt) (hTt : ∀ k s, memT (k, s) T = typeB mn en k s) (hw : ∀ f ∈ fs, FlW f) :
  Calls Tryz.prog 65 #[v, .map (some bt), .map (some bY)] w fun e w' => e = .returned (.int .i64 (chkFs mn en [] L fs)) ∧ Kp (fun k => k = bt) w w' := by
 obtain ⟨a, c, rfl, q1, q2⟩ := hr.form2
 have hN : (flRows fs).length = fs.length := by simp [flRows]
 rw [hN] at hr q1 ⊢
 clear hN
 obtain ⟨N, hN⟩ : ∃ N, fs.length = N := ⟨_, rfl⟩
 rw [hN] at hr q1 hl ⊢
 have HN : Hid (fs.length = N) := hN
 have HR : Hid (RowG w (.slice a N c) 5 (flRows fs)) := hr
 have HI : Hid (SetI w bt nt L) := hI
 have HT : Hid (SetT w bY ny T) := hT
 have HTT : Hid (∀ k s, memT (k, s) T = typeB mn en k s) := hTt
 have HW : Hid (∀ f ∈ fs, FlW f) := hw
 have hbt : bt < w.heap.size := SetK.lt hI
 clear hN hr hI hT hTt hw
 obtain ⟨A, hA⟩ : ∃ A, chkFs mn en [] L fs = A := ⟨_, rfl⟩
 rw [hA]
 have HA : Hid (A = chkFs mn en [] L fs) := hA.symm
 clear hA
 have hmm := @run_makeMap Tryz.prog
 go_enter Tryz.func65, Tryz.ntmps65
 go_wp2_with fail
 clear hmm
 have HM0 := SetK.made 9 w
 have KP0 : Kp (fun k => k = bt) w (w.alloc (.map #[] 0)) := (Kp.refl _ _).alloc _
 have HI0 : Hid (SetI (w.alloc (.map #[] 0)) bt nt L) := SetK.kp HI.out (S := fun _ => False) ((Kp.refl _ _).alloc _) (fun e => e)
 obtain ⟨bn, hbn⟩ : ∃ n, w.heap.size = n := ⟨_, rfl⟩
 rw [hbn] at HM0 hbt ⊢
 have HB : Hid (w.heap.size = bn) := hbn
 clear hbn
 go_loopw [13] (fun iv wr => ∃ (k : Nat) (al : List ByteArray) (t : List Int), iv = .int .i64 (k : Int) ∧ k ≤ N ∧ Hid (A = chkFs mn en al t (fs.drop k)) ∧ Hid (SetS wr bn k al) ∧ Hid (SetI wr bt (nt + k) t) ∧ Kp (fun k => k = bt) w wr) (fun iv _ => N - (intOf iv).toNat)
 case atStart => exact ⟨0, [], L, rfl, by omega, HA, HM0, HI0, KP0⟩
 case round =>
  obtain ⟨k, al, t, rfl, hk, HAk, HSn, HSt, hkp⟩ := hrel
  clear HM0 KP0 HI0
  have hbw : bn < wr.heap.size := SetK.lt HSn.out
  by_cases hlt : k < N
  ·obtain ⟨f, hf⟩ : ∃ n, fs[k]? = some n := ⟨_, List.getElem?_eq_getElem (by rw [HN.out]; exact hlt)⟩
   have hrr : (flRows fs)[k]? = some f.cells := by simp [flRows, hf]
   obtain ⟨g, off, rfl, c1⟩ := (HR.out.kpM hkp (SetK.no HI.out)).get hrr
   have hfw := HW.out _ (List.mem_of_getElem? hf)
   obtain ⟨f0, f1, f2, f3, f4⟩ := f
   obtain ⟨w1', w2', w3', w4', w5'⟩ := hfw
   simp only at w1' w2' w3' w4' w5'
   have HA2 : Hid (A = if freshB f0 al = false then 6 else if tagB f1 t = false then 7 else if (labB f2 && typeB mn en f3 f4) = false then 8 else chkFs mn en (al ++ [f0]) (t ++ [f1]) (fs.drop (k + 1))) := by
    show _ = _
    rw [HAk.out, drop_at hf]; rfl
   have p0 := c1 0 _ rfl
   have p1 := c1 1 _ rfl
   have p2 := c1 2 _ rfl
   have p3 := c1 3 _ rfl
   have p4 := c1 4 _ rfl
   simp only [Nat.add_zero] at p0 p1 p2 p3 p4
   clear c1 hrr hf HAk
   have HTr : Hid (SetT wr bY ny T) := SetK.kp HT.out hkp hne
   go_wp2_with fail
   clear p0 p1 p2 p3 p4
   have hba : Below wr.heap.size wr (wr.alloc (.cells #[.string f0, .int .i64 f1, .int .i64 f2, .int .i64 f3, .string f4] 90)) := (Below.refl _ _).alloc (Nat.le_refl _) _
   have BX := Blk.new wr #[.string f0, .int .i64 f1, .int .i64 f2, .int .i64 f3, .string f4] 90
   refine (newname_any (SetK.below HSn.out hba) w1' (by omega)).mono ?_
   rintro e w1 ⟨rfl, hs1, hk1⟩
   have HS1 : Hid _ := hs1
   clear hs1
   have hkp1 : Kp (fun k => k = bt) w w1 := (hkp.below hba).new hk1 (by rw [HB.out]; omega)
   cases h1 : freshB f0 al
   ·go_wp2_with fail
    go_ret
    exact ⟨ret_int (by rw [HA2.out, if_pos h1]), hkp1⟩
   ·have BX1 := BX.kp hk1 (by omega)
    have b1 : w1.cell? ⟨wr.heap.size, 1, none⟩ = some (.int .i64 f1) := BX1.cell 1
    go_wp2_with fail
    clear b1
    refine (newtag_any (SetK.kp (SetK.below HSt.out hba) hk1 (by omega)) w3' (by omega)).mono ?_
    rintro e w2 ⟨rfl, hs2, hk2⟩
    have HS2 : Hid _ := hs2
    clear hs2
    have hkp2 : Kp (fun k => k = bt) w w2 := hkp1.trans hk2
    cases h2 : tagB f1 t
    ·go_wp2_with fail
     go_ret
     exact ⟨ret_int (by rw [HA2.out, if_neg (by rw [h1]; decide), if_pos h2]), hkp2⟩
    ·have BX2 := BX1.kp hk2 (by omega)
     have b2 : w2.cell? ⟨wr.heap.size, 2, none⟩ = some (.int .i64 f2) := BX2.cell 2
     have b3 : w2.cell? ⟨wr.heap.size, 3, none⟩ = some (.int .i64 f3) := BX2.cell 3
     have b4 : w2.cell? ⟨wr.heap.size, 4, none⟩ = some (.string f4) := BX2.cell 4
     go_wp2_with fail
     refine (islabel_any _ _).mono ?_
     rintro e w3 ⟨rfl, rfl⟩
     cases h3 : labB f2
     ·go_wp2_with fail
      go_ret
      exact ⟨ret_int (by rw [HA2.out, if_neg (by rw [h1]; decide), if_neg (by rw [h2]; decide), if_pos (by rw [h3]; rfl)]), hkp2⟩
     ·go_wp2_with fail
      clear b2 b3 b4
      refine (has_ty (SetK.kp (SetK.kp (SetK.below HTr.out hba) hk1 (by have := SetK.lt HT.out; have := HB.out; omega)) hk2 hne) w5' w2').mono ?_
      rintro e w4 ⟨rfl, hb4⟩
      rw [HTT.out]
      cases h4 : typeB mn en f3 f4
      ·go_wp2_with fail
       go_ret
       exact ⟨ret_int (by rw [HA2.out, if_neg (by rw [h1]; decide), if_neg (by rw [h2]; decide), if_pos (by rw [h3, h4]; rfl)]), hkp2.below hb4⟩
      ·have HA3 : Hid (A = chkFs mn en (al ++ [f0]) (t ++ [f1]) (fs.drop (k + 1))) := by
        show _ = _
        rw [HA2.out, if_neg (by rw [h1]; decide), if_neg (by rw [h2]; decide), if_neg (by rw [h3, h4]; decide)]
       have HS1' : Hid (SetS w4 bn (k + 1) (al ++ [f0])) := SetK.below (SetK.kp (HS1.out h1) hk2 (by omega)) hb4
       have HS2' : Hid (SetI w4 bt (nt + (k + 1)) (t ++ [f1])) := SetK.below (HS2.out h2) hb4
       have hkp4 := hkp2.below hb4
       clear HS1 HS2 hkp hkp1 hkp2 hba hk1 hk2 hb4 BX BX1 BX2 HA2 HTr
       go_wp2_with fail
       go_roundw
       case rel => exact ⟨k + 1, _, _, by go_num, by omega, HA3, HS1', HS2', hkp4⟩
       case measure => simp [intOf]; omega
  ·go_wp2_with fail
   go_ret
   exact ⟨ret_int (by rw [HAk.out, drop_end (by rw [HN.out]; omega)]; rfl), hkp⟩
theorem take_at {α : Type} {l : List α} {k : Nat} {x : α} (h : l[k]? = some x) : l.take (k + 1) = l.take k ++ [x] := by
 rw [List.take_add_one, h]; rfl
def zeroV (vs : List NmS) : Bool := vs.any fun v => decide (v.n = 0)
set_option maxHeartbeats 2000000 in
theorem indexf_any {w : World} {v : Value} {vs : List NmS} (hr : RowG w v 2 (nmRows vs)) (hl : vs.length ≤ 30000) :
  Calls Tryz.prog 113 #[v, .func (.func 67) #[] #[]] w fun e w' => (∃ n : Int, e = .returned (.int .i64 n) ∧ decide (0 ≤ n) = zeroV vs) ∧ Below w.heap.size w w' := by
 obtain ⟨a, c, rfl, q1, q2⟩ := hr.form2
 have hN : (nmRows vs).length = vs.length := by simp [nmRows]
 rw [hN] at hr q1 ⊢
 clear hN
 obtain ⟨N, hN⟩ : ∃ N, vs.length = N := ⟨_, rfl⟩
 rw [hN] at hr q1 hl ⊢
 have HN : Hid (vs.length = N) := hN
 have HR : Hid (RowG w (.slice a N c) 2 (nmRows vs)) := hr
 clear hN hr
 obtain ⟨A, hA⟩ : ∃ A, zeroV vs = A := ⟨_, rfl⟩
 rw [hA]
 have HA : Hid (A = zeroV vs) := hA.symm
 clear hA
 go_enter Tryz.func113, Tryz.ntmps113
 go_wp2_with fail
 go_loopw [8] (fun iv wr => ∃ k : Nat, iv = .int .i64 (k : Int) ∧ k ≤ N ∧ Hid (A = zeroV (vs.drop k)) ∧ Below w.heap.size w wr) (fun iv _ => N - (intOf iv).toNat)
 case atStart => exact ⟨0, rfl, by omega, HA, Below.refl _ _⟩
 case round =>
  obtain ⟨k, rfl, hk, HAk, hbel⟩ := hrel
  by_cases hlt : k < N
  ·obtain ⟨f, hf⟩ : ∃ n, vs[k]? = some n := ⟨_, List.getElem?_eq_getElem (by rw [HN.out]; exact hlt)⟩
   have hrr : (nmRows vs)[k]? = some f.cells := by simp [nmRows, hf]
   obtain ⟨g, off, rfl, c1⟩ := (HR.out.below hbel).get hrr
   obtain ⟨f0, f1⟩ := f
   have HA2 : Hid (A = (decide (f1 = 0) || zeroV (vs.drop (k + 1)))) := by
    show _ = _
    rw [HAk.out, drop_at hf]; rfl
   have p0 := c1 0 _ rfl
   have p1 := c1 1 _ rfl
   simp only [Nat.add_zero] at p0 p1
   clear c1 hrr hf HAk
   go_wp2_with fail
   clear p0 p1
   refine (iszero_any _ _ _).mono ?_
   rintro e w1 ⟨rfl, hb1⟩
   have hb2 : Below w.heap.size w w1 := hbel.trans (hb1.mono hbel.size)
   cases hz : decide (f1 = 0)
   ·have HA3 : Hid (A = zeroV (vs.drop (k + 1))) := by show _ = _; rw [HA2.out, hz]; rfl
    clear hbel hb1 HA2
    go_wp2_with fail
    go_roundw
    case rel => exact ⟨k + 1, by go_num, by omega, HA3, hb2⟩
    case measure => simp [intOf]; omega
   ·go_wp2_with fail
    go_ret
    exact ⟨⟨(k : Int), rfl, by rw [HA2.out, hz, decide_eq_true (by omega)]; rfl⟩, hb2⟩
  ·go_wp2_with fail
   go_ret
   exact ⟨⟨-1, rfl, by rw [HAk.out, drop_end (by rw [HN.out]; omega)]; rfl⟩, hbel⟩
set_option maxHeartbeats 2000000 in
theorem contf_any {w : World} {v : Value} {vs : List NmS} (hr : RowG w v 2 (nmRows vs)) (hl : vs.length ≤ 30000) :
  Calls Tryz.prog 66 #[v, .func (.func 67) #[] #[]] w fun e w' => e = .returned (.bool (zeroV vs)) ∧ Below w.heap.size w w' := by
 have HC := indexf_any hr hl
 clear hr hl
 go_enter Tryz.func66, Tryz.ntmps66
 go_wp2_with fail
 refine HC.mono ?_
 rintro e w1 ⟨⟨n, rfl, hn⟩, hb1⟩
 have HN : Hid _ := hn
 clear hn
 go_wp2_with fail
 go_ret
 exact ⟨ret_bool HN.out, hb1⟩
set_option maxHeartbeats 2000000 in
theorem cenum_any {w : World} {vv : Value} {nm : ByteArray} {vs : List NmS} {bn nn : Nat} {L : List ByteArray} (hr : RowG w vv 2 (nmRows vs)) (hl : vs.length ≤ 30000) (hS : SetS w bn nn L) (hnn : nn ≤ 100000) (hw : EnW ⟨nm, vs⟩) :
  Calls Tryz.prog 29 #[.agg #[.string nm, vv], .map (some bn)] w fun e w' => e = .returned (.int .i64 (if freshB nm L = false then 6 else chkEb ⟨nm, vs⟩)) ∧ (freshB nm L = true → SetS w' bn (nn + 1) (L ++ [nm])) ∧ Kp (fun k => k = bn) w w' := by
 have HR : Hid (RowG w vv 2 (nmRows vs)) := hr
 obtain ⟨a, c, rfl, q1, q2⟩ := hr.form2
 have hN : (nmRows vs).length = vs.length := by simp [nmRows]
 rw [hN] at q1 HR ⊢
 obtain ⟨N, hN2⟩ : ∃ N, vs.length = N := ⟨_, rfl⟩
 rw [hN2] at q1 HR ⊢
 have HN : Hid (vs.length = N) := hN2
 have HS : Hid (SetS w bn nn L) := hS
 obtain ⟨w1', hwv⟩ := hw
 have HW : Hid (∀ f ∈ vs, NmW f) := hwv
 have HL : Hid (vs.length ≤ 30000) := hl
 simp only at w1'
 clear hr hN hN2 hS hwv hl
 obtain ⟨A, hA⟩ : ∃ A, (if freshB nm L = false then 6 else chkEb ⟨nm, vs⟩) = A := ⟨_, rfl⟩
 rw [hA]
 have HA : Hid (A = if freshB nm L = false then 6 else chkEb ⟨nm, vs⟩) := hA.symm
 clear hA
 have hba : Below w.heap.size w (w.alloc (.cells #[.string nm, .slice a N c] 44)) := (Below.refl _ _).alloc (Nat.le_refl _) _
 have BX := Blk.new w #[.string nm, .slice a N c] 44
 have hbw : bn < w.heap.size := SetK.lt HS.out
 go_enter Tryz.func29, Tryz.ntmps29
 go_wp2_with fail
 refine (newname_any (SetK.below HS.out hba) w1' (by omega)).mono ?_
 rintro e w1 ⟨rfl, hs1, hk1⟩
 have HS1 : Hid _ := hs1
 clear hs1
 have hkp1 : Kp (fun k => k = bn) w w1 := (Kp.ofBelow hba).trans hk1
 cases h1 : freshB nm L
 ·have H1 : Hid (freshB nm L = false) := h1
  clear h1
  go_wp2_with fail
  go_ret
  exact ⟨ret_int (by rw [HA.out, if_pos H1.out]), (fun e => by rw [H1.out] at e; cases e), hkp1⟩
 ·have H1 : Hid (freshB nm L = true) := h1
  clear h1
  have HX : Hid (chkEb ⟨nm, vs⟩ = A) := by show _ = _; rw [HA.out, if_neg (by rw [H1.out]; decide)]
  have BX1 := BX.kp hk1 (by omega)
  have b1 : w1.cell? ⟨w.heap.size, 1, none⟩ = some (.slice a N c) := BX1.cell 1
  by_cases hbig : 16 < N
  ·have HE : Hid (4 = A) := by show _ = _; rw [← HX.out]; unfold chkEb; simp only; rw [if_pos (by rw [HN.out]; exact hbig)]
   go_wp2_with fail
   go_ret
   exact ⟨ret_int HE.out, (fun _ => HS1.out H1.out), hkp1⟩
  ·have HR1 : Hid (RowG w1 (.slice a N c) 2 (nmRows vs)) := (HR.out.kpM hkp1 (SetK.no HS.out))
   go_wp2_with fail
   refine (contf_any HR1.out HL.out).mono ?_
   rintro e w2 ⟨rfl, hb2⟩
   cases h2 : zeroV vs
   ·have HE : Hid (12 = A) := by show _ = _; rw [← HX.out]; unfold chkEb; simp only; rw [if_neg (by rw [HN.out]; exact hbig), if_pos (show zeroE ⟨nm, vs⟩ = false from h2)]
    go_wp2_with fail
    go_ret
    exact ⟨ret_int HE.out, (fun _ => SetK.below (HS1.out H1.out) hb2), hkp1.below hb2⟩
   ·have HE : Hid (chkVs [] [] vs = A) := by
     show _ = _; rw [← HX.out]; unfold chkEb; simp only
     rw [if_neg (by rw [HN.out]; exact hbig), if_neg (by show ¬ zeroV vs = false; rw [h2]; decide)]
    have b2 : w2.cell? ⟨w.heap.size, 1, none⟩ = some (.slice a N c) := (BX1.below hb2).cell 1
    clear b1
    go_wp2_with fail
    refine (cvalues_any (HR1.out.below hb2) HL.out HW.out).mono ?_
    rintro e w3 ⟨rfl, hb3⟩
    rw [HE.out]
    clear b2
    go_wp2_with fail
    go_ret
    exact ⟨rfl, (fun _ => SetK.below (SetK.below (HS1.out H1.out) hb2) hb3), (hkp1.below hb2).below hb3⟩
set_option maxHeartbeats 4000000 in
theorem cmsg_any {w : World} {vf vr : Value} {nm : ByteArray} {fs : List FlS} {ns : List Int} {mn en : List ByteArray} {bn nn bY ny : Nat} {L : List ByteArray} {T : List (Int × ByteArray)}
  (hf : RowG w vf 5 (flRows fs)) (hr : RowG w vr 1 (inRows ns)) (hlf : fs.length ≤ 30000) (hlr : ns.length ≤ 30000) (hS : SetS w bn nn L) (hnn : nn ≤ 100000) (hT : SetT w bY ny T) (hne : bY ≠ bn) (hTt : ∀ k s, memT (k, s) T = typeB mn en k s) (hw : MsW ⟨nm, fs, ns⟩) :
  Calls Tryz.prog 28 #[.agg #[.string nm, vf, vr], .map (some bn), .map (some bY)] w fun e w' => e = .returned (.int .i64 (if freshB nm L = false then 6 else chkMb mn en ⟨nm, fs, ns⟩)) ∧ (freshB nm L = true → SetS w' bn (nn + 1) (L ++ [nm])) ∧ Kp (fun k => k = bn) w w' := by
 have HF : Hid (RowG w vf 5 (flRows fs)) := hf
 have HR : Hid (RowG w vr 1 (inRows ns)) := hr
 obtain ⟨a, c, rfl, q1, q2⟩ := hf.form2
 obtain ⟨ar, cr, rfl, q3, q4⟩ := hr.form2
 have e1 : (flRows fs).length = fs.length := by simp [flRows]
 have e2 : (inRows ns).length = ns.length := by simp [inRows]
 rw [e1] at q1 HF ⊢
 rw [e2] at q3 HR ⊢
 obtain ⟨N, hN⟩ : ∃ N, fs.length = N := ⟨_, rfl⟩
 obtain ⟨R, hR⟩ : ∃ N, ns.length = N := ⟨_, rfl⟩
 have HL : Hid (fs.length ≤ 30000) := hlf
 rw [hN] at q1 HF hlf ⊢
 rw [hR] at q3 HR hlr ⊢
 have HN : Hid (fs.length = N) := hN
 have HNR : Hid (ns.length = R) := hR
 have HS : Hid (SetS w bn nn L) := hS
 have HT : Hid (SetT w bY ny T) := hT
 have HTT : Hid (∀ k s, memT (k, s) T = typeB mn en k s) := hTt
 obtain ⟨w1', hwf, hwr⟩ := hw
 have HWF : Hid (∀ f ∈ fs, FlW f) := hwf
 have HWR : Hid (∀ f ∈ ns, I64 f) := hwr
 simp only at w1'
 clear hf hr e1 e2 hN hR hS hT hTt hwf hwr
 obtain ⟨B, hB⟩ : ∃ A, (if freshB nm L = false then 6 else chkMb mn en ⟨nm, fs, ns⟩) = A := ⟨_, rfl⟩
 rw [hB]
 have HA : Hid (B = if freshB nm L = false then 6 else chkMb mn en ⟨nm, fs, ns⟩) := hB.symm
 clear hB
 have hba : Below w.heap.size w (w.alloc (.cells #[.string nm, .slice a N c, .slice ar R cr] 40)) := (Below.refl _ _).alloc (Nat.le_refl _) _
 have BX := Blk.new w #[.string nm, .slice a N c, .slice ar R cr] 40
 have hbw : bn < w.heap.size := SetK.lt HS.out
 have hmm := @run_makeMap Tryz.prog
 go_enter Tryz.func28, Tryz.ntmps28
 go_wp2_with fail
 refine (newname_any (SetK.below HS.out hba) w1' (by omega)).mono ?_
 rintro e w1 ⟨rfl, hs1, hk1⟩
 have HS1 : Hid _ := hs1
 clear hs1
 have hkp1 : Kp (fun k => k = bn) w w1 := (Kp.ofBelow hba).trans hk1
 cases h1 : freshB nm L
 ·have H1 : Hid (freshB nm L = false) := h1
  clear h1
  go_wp2_with fail
  go_ret
  exact ⟨ret_int (by rw [HA.out, if_pos H1.out]), (fun e => by rw [H1.out] at e; cases e), hkp1⟩
 ·have H1 : Hid (freshB nm L = true) := h1
  clear h1
  have HX : Hid (chkMb mn en ⟨nm, fs, ns⟩ = B) := by show _ = _; rw [HA.out, if_neg (by rw [H1.out]; decide)]
  clear HA
  have BX1 := BX.kp hk1 (by omega)
  have b1 : w1.cell? ⟨w.heap.size, 1, none⟩ = some (.slice a N c) := BX1.cell 1
  have b2 : w1.cell? ⟨w.heap.size, 2, none⟩ = some (.slice ar R cr) := BX1.cell 2
  by_cases hbig : 16 < N
  ·have HE : Hid (4 = B) := by show _ = _; rw [← HX.out]; unfold chkMb; rw [if_pos (by unfold bigM; simp only; rw [HN.out, decide_eq_true (.inl hbig)])]
   go_wp2_with fail
   go_ret
   exact ⟨ret_int HE.out, (fun _ => HS1.out H1.out), hkp1⟩
  ·have hd : decide (16 < N) = false := by simpa using hbig
   by_cases hbigr : 32 < R
   ·have HE : Hid (4 = B) := by show _ = _; rw [← HX.out]; unfold chkMb; rw [if_pos (by unfold bigM; simp only; rw [HNR.out, decide_eq_true (.inr hbigr)])]
    go_wp2_with fail
    go_ret
    exact ⟨ret_int HE.out, (fun _ => HS1.out H1.out), hkp1⟩
   ·have HE : Hid (B = orE (chkRes [] ns) (chkFs mn en [] ns fs)) := by
     show _ = _; rw [← HX.out]; unfold chkMb
     rw [if_neg (by unfold bigM; simp only; rw [HNR.out, HN.out, decide_eq_false (by omega)]; decide)]
    obtain ⟨A, hA⟩ : ∃ A, chkRes [] ns = A := ⟨_, rfl⟩
    have HA : Hid (A = chkRes (ns.take 0) (ns.drop 0)) := hA.symm
    have HB : Hid (B = orE A (chkFs mn en [] ns fs)) := by show _ = _; rw [HE.out, hA]
    clear hA HE
    have hdr : decide (32 < R) = false := by simpa using hbigr
    have HF1 : Hid (RowG w1 (.slice a N c) 5 (flRows fs)) := HF.out.kpM hkp1 (SetK.no HS.out)
    have HR1 : Hid (RowG w1 (.slice ar R cr) 1 (inRows ns)) := HR.out.kpM hkp1 (SetK.no HS.out)
    have HT1 : Hid (SetT w1 bY ny T) := SetK.kp HT.out hkp1 hne
    have hxw : w.heap.size < w1.heap.size := BX1.lt
    go_wp2_with fail
    clear hmm b1 b2
    have HM0 := SetK.made 3 w1
    have KP0 : Below w1.heap.size w1 (w1.alloc (.map #[] 0)) := (Below.refl _ _).alloc (Nat.le_refl _) _
    have hbw1 : bn < w1.heap.size := by have := hkp1.size; omega
    have hbY1 : bY < w1.heap.size := SetK.lt HT1.out
    obtain ⟨bt, hbt⟩ : ∃ n, w1.heap.size = n := ⟨_, rfl⟩
    rw [hbt] at HM0 KP0 hbw1 hbY1 ⊢
    have HBT : Hid (w1.heap.size = bt) := hbt
    clear hbt
    go_loopw [29] (fun iv wr => ∃ (k : Nat), iv = .int .i64 (k : Int) ∧ k ≤ R ∧ Hid (A = chkRes (ns.take k) (ns.drop k)) ∧ Hid (SetI wr bt k (ns.take k)) ∧ Below bt w1 wr) (fun iv _ => R - (intOf iv).toNat)
    case atStart => exact ⟨0, rfl, by omega, HA, HM0, KP0⟩
    case round =>
     obtain ⟨k, rfl, hk, HAk, HSt, hbel⟩ := hrel
     clear HM0 KP0
     have hbW : Below w1.heap.size w1 wr := by rw [HBT.out]; exact hbel
     have hbtw : bt < wr.heap.size := SetK.lt HSt.out
     by_cases hlt : k < R
     ·obtain ⟨n, hn⟩ : ∃ n, ns[k]? = some n := ⟨_, List.getElem?_eq_getElem (by rw [HNR.out]; exact hlt)⟩
      have hrr : (inRows ns)[k]? = some [.int .i64 n] := by simp [inRows, hn]
      obtain ⟨g, off, rfl, c1⟩ := (HR1.out.below hbW).get hrr
      have hn64 := HWR.out _ (List.mem_of_getElem? hn)
      have HA2 : Hid (A = if tagB n (ns.take k) = true then chkRes (ns.take k ++ [n]) (ns.drop (k + 1)) else 7) := by
       show _ = _
       rw [HAk.out, drop_at hn]; rfl
      have HTK : Hid (ns.take (k + 1) = ns.take k ++ [n]) := take_at hn
      have p0 := c1 0 _ rfl
      simp only [Nat.mul_one, Nat.add_zero] at p0
      clear c1 hrr hn HAk hbW
      go_wp2_with fail
      clear p0
      refine (newtag_any HSt.out hn64 (by omega)).mono ?_
      rintro e w2 ⟨rfl, hs2, hk2⟩
      have HS2 : Hid _ := hs2
      clear hs2
      have hb2 : Below bt w1 w2 := hbel.trans (hk2.toBelow (by omega) (fun k e => by omega))
      cases h2 : tagB n (ns.take k)
      ·have HB2 : Hid (7 = B) := by show _ = _; rw [HB.out, HA2.out, if_neg (by rw [h2]; decide), orE_ne (by decide)]
       go_wp2_with fail
       go_ret
       have hbW2 : Below w1.heap.size w1 w2 := by rw [HBT.out]; exact hb2
       exact ⟨ret_int HB2.out, (fun _ => SetK.below (HS1.out H1.out) hbW2), hkp1.below hbW2⟩
      ·have HA3 : Hid (A = chkRes (ns.take (k + 1)) (ns.drop (k + 1))) := by
        show _ = _
        rw [HA2.out, if_pos h2, HTK.out]
       have HS2' : Hid (SetI w2 bt (k + 1) (ns.take (k + 1))) := by
        show SetI _ _ _ _
        rw [HTK.out]; exact HS2.out h2
       clear HS2 hbel hk2 HA2 HTK
       go_wp2_with fail
       go_roundw
       case rel => exact ⟨k + 1, by go_num, by omega, HA3, HS2', hb2⟩
       case measure => simp [intOf]; omega
     ·have HB2 : Hid (chkFs mn en [] ns fs = B) := by show _ = _; rw [HB.out, HAk.out, drop_end (by rw [HNR.out]; omega)]; exact (orE_zero _).symm
      have HS2 : Hid (SetI wr bt k ns) := by
       have := HSt.out
       rw [List.take_of_length_le (by rw [HNR.out]; omega)] at this
       exact this
      have b1 : wr.cell? ⟨w.heap.size, 1, none⟩ = some (.slice a N c) := (BX1.below hbW).cell 1
      go_wp2_with fail
      clear b1
      refine (cfields_any (HF1.out.below hbW) HL.out HS2.out (by omega) (SetK.below HT1.out hbW) (by omega) HTT.out HWF.out).mono ?_
      rintro e w2 ⟨rfl, hk2⟩
      rw [HB2.out]
      go_wp2_with fail
      go_ret
      have hb2 : Below w1.heap.size w1 w2 := hbW.trans (hk2.toBelow hbW.size (fun k e => by have := HBT.out; omega))
      exact ⟨rfl, (fun _ => SetK.below (HS1.out H1.out) hb2), hkp1.below hb2⟩
set_option maxHeartbeats 2000000 in
theorem cwhole_any {w : World} {am ae at' : Option Addr} {cm ce ct : Nat} (s : ScS) (hs : s.name.size ≤ 140737488351232) (h1 : s.msgs.length ≤ 30000) (h2 : s.enums.length ≤ 30000) (h3 : s.methods.length ≤ 30000) :
  Calls Tryz.prog 26 #[.agg #[.string s.name, .slice am s.msgs.length cm, .slice ae s.enums.length ce, .slice at' s.methods.length ct]] w fun e w' => e = .returned (.int .i64 (wholeA s)) ∧ Below w.heap.size w w' := by
 obtain ⟨nm, ms, es, ts⟩ := s
 simp only at *
 have HE : Hid (wholeA ⟨nm, ms, es, ts⟩ = if nameB nm = false then 6 else if ms.length = 0 then 12 else if (10 < ms.length ∨ 6 < es.length ∨ 6 < ts.length) then 4 else 0) := by
  show _ = _; unfold wholeA bigS; simp only [decide_eq_true_eq]
 generalize wholeA ⟨nm, ms, es, ts⟩ = A at *
 generalize ms.length = M at *
 generalize es.length = E at *
 generalize ts.length = T at *
 have hba : Below w.heap.size w (w.alloc (.cells #[.string nm, .slice am M cm, .slice ae E ce, .slice at' T ct] 27)) := (Below.refl _ _).alloc (Nat.le_refl _) _
 have BX := Blk.new w #[.string nm, .slice am M cm, .slice ae E ce, .slice at' T ct] 27
 have key : ∀ w1, Below (w.alloc (.cells #[.string nm, .slice am M cm, .slice ae E ce, .slice at' T ct] 27)).heap.size (w.alloc (.cells #[.string nm, .slice am M cm, .slice ae E ce, .slice at' T ct] 27)) w1 → Below w.heap.size w w1 := fun w1 h => hba.trans (h.mono hba.size)
 cases hn : nameB nm
 ·rw [hn, if_pos rfl] at HE
  go_enter Tryz.func26, Tryz.ntmps26
  go_wp2_with fail
  refine (name_any _ _ hs).mono ?_
  rintro e w1 ⟨rfl, hb1⟩
  rw [hn]
  go_wp2_with fail
  go_ret
  exact ⟨ret_int HE.out.symm, key _ hb1⟩
 ·rw [hn, if_neg (by decide)] at HE
  by_cases h0 : M = 0
  ·rw [if_pos h0] at HE
   subst h0
   go_enter Tryz.func26, Tryz.ntmps26
   go_wp2_with fail
   refine (name_any _ _ hs).mono ?_
   rintro e w1 ⟨rfl, hb1⟩
   rw [hn]
   have b1 : w1.cell? ⟨w.heap.size, 1, none⟩ = some (.slice am 0 cm) := (BX.below hb1).cell 1
   go_wp2_with fail
   go_ret
   exact ⟨ret_int HE.out.symm, key _ hb1⟩
  ·rw [if_neg h0] at HE
   have h0' : ((M : Int) == 0) = false := by simpa using h0
   have body : ∀ V : Int, (if (10 < M ∨ 6 < E ∨ 6 < T) then (4 : Int) else 0) = V → A = V := fun V h => HE.out.trans h
   clear HE
   have HBd : Hid (∀ V : Int, (if (10 < M ∨ 6 < E ∨ 6 < T) then (4 : Int) else 0) = V → A = V) := body
   clear body
   go_enter Tryz.func26, Tryz.ntmps26
   go_wp2_with fail
   refine (name_any _ _ hs).mono ?_
   rintro e w1 ⟨rfl, hb1⟩
   rw [hn]
   have b1 : w1.cell? ⟨w.heap.size, 1, none⟩ = some (.slice am M cm) := (BX.below hb1).cell 1
   have b2 : w1.cell? ⟨w.heap.size, 2, none⟩ = some (.slice ae E ce) := (BX.below hb1).cell 2
   have b3 : w1.cell? ⟨w.heap.size, 3, none⟩ = some (.slice at' T ct) := (BX.below hb1).cell 3
   have HK : Hid (Below w.heap.size w w1) := key _ hb1
   clear key hb1 BX hba
   by_cases g1 : 10 < M
   ·go_wp2_with fail
    go_ret
    exact ⟨ret_int (HBd.out 4 (if_pos (.inl g1))).symm, HK.out⟩
   ·by_cases g2 : 6 < E
    ·go_wp2_with fail
     go_ret
     exact ⟨ret_int (HBd.out 4 (if_pos (.inr (.inl g2)))).symm, HK.out⟩
    ·by_cases g3 : 6 < T
     ·go_wp2_with fail
      go_ret
      exact ⟨ret_int (HBd.out 4 (if_pos (.inr (.inr g3)))).symm, HK.out⟩
     ·go_wp2_with fail
      go_ret
      exact ⟨ret_int (HBd.out 0 (if_neg (by omega))).symm, HK.out⟩
theorem SetK.perm {k : TypeId} {w : World} {b n : Nat} {L L' : List Value} (h : SetK k w b n L) (hp : ∀ v, v ∈ L ↔ v ∈ L') : SetK k w b n L' := by
 obtain ⟨D, h1, h2⟩ := h
 exact ⟨D, h1, fun v kl hv => (h2 v kl hv).trans (hp v)⟩
theorem ins_wp {ops : Array Oper} {Q : Exit → Act → World → Prop} {K : Act → World → Prop} {a : Act} {w : World} {i : Nat} {o : Oper} {m kt vt b n : Nat} {L : List (Int × ByteArray)} {p : Int × ByteArray} (hi : ops[i]? = some o) (hg : o.guard = none) (hd : o.dst = none)
  (hop : o.op = .insert 66 (.tmp m) (.tmp kt) (.tmp vt)) (hm : a.eval (.tmp m) = .map (some b)) (hk : a.eval (.tmp kt) = tyV p) (hv : a.eval (.tmp vt) = .agg #[]) (hp : I64 p.1) (hps : p.2.size ≤ 140737488351232)
  (hS : SetT w b n L) (hn : n < 1000000) (hK : ∀ w', SetT w' b (n + 1) (L ++ [p]) → w.grownBy w' (some b) → K a w') : wpOp Tryz.prog ops Q i K a w := by
 obtain ⟨D, hown, h2⟩ := hS
 obtain ⟨kl, hkey⟩ := key_ty hp hps
 obtain ⟨w', hrun, r1, r2⟩ := hown.update lawT Tryz.underlying66 (by unfold maxLen; omega) hkey (unitElem_mk (H := Unit))
 have hS' : SetT w' b (n + 1) (L ++ [p]) := by
  have := SetK.put lawT hown.isMap h2 hkey r1
  unfold SetT
  rw [List.map_append]
  exact this
 unfold wpOp
 simp only [hi]
 have hwt : Region.wanted o (yielded ops a.tmps) = true := by unfold Region.wanted; rw [hg]
 rw [if_pos hwt]
 refine .inl ?_
 unfold Oper.wp
 simp [execOp, hop, hm, hk, hv, hrun, Result.andThen, hd]
 rw [Oper.upon_skip, hd]
 exact hK w' hS' r2
def five (b1 b2 b3 b4 b5 : Bool) : List (Int × ByteArray) := (if b1 then [(1, ⟨#[]⟩)] else []) ++ (if b2 then [(2, ⟨#[]⟩)] else []) ++ (if b3 then [(3, ⟨#[]⟩)] else []) ++ (if b4 then [(4, ⟨#[]⟩)] else []) ++ (if b5 then [(5, ⟨#[]⟩)] else [])
def lst5 (b1 b2 b3 b4 b5 : Bool) : Array Bool := #[true, true, true, b1, true, true, b2, true, true, b3, true, true, b4, true, true, b5, false, false]
def rd5 (b1 b2 b3 b4 b5 : Bool) : List Nat := if b1 && b2 && b3 && b4 && b5 then [16] else (if b1 then [] else [3]) ++ (if b2 then [] else [6]) ++ (if b3 then [] else [9]) ++ (if b4 then [] else [12]) ++ (if b5 then [] else [15])
def cnt5 (b1 b2 b3 b4 b5 : Bool) : Nat := (if b1 then 0 else 1) + (if b2 then 0 else 1) + (if b3 then 0 else 1) + (if b4 then 0 else 1) + (if b5 then 0 else 1)
theorem rd5_mem : ∀ (b1 b2 b3 b4 b5 : Bool), cnt5 b1 b2 b3 b4 b5 ≠ 0 → ∀ i ∈ rd5 b1 b2 b3 b4 b5, (i = 3 ∧ b1 = false) ∨ (i = 6 ∧ b2 = false) ∨ (i = 9 ∧ b3 = false) ∨ (i = 12 ∧ b4 = false) ∨ (i = 15 ∧ b5 = false) := by
 intro b1 b2 b3 b4 b5
 cases b1 <;> cases b2 <;> cases b3 <;> cases b4 <;> cases b5 <;> simp [rd5, cnt5]
theorem rd5_ne : ∀ (b1 b2 b3 b4 b5 : Bool), rd5 b1 b2 b3 b4 b5 ≠ [] := by decide
theorem mem5 {p : Int × ByteArray} {b1 b2 b3 b4 b5 : Bool} : p ∈ five b1 b2 b3 b4 b5 ↔ (b1 = true ∧ p = (1, ⟨#[]⟩)) ∨ (b2 = true ∧ p = (2, ⟨#[]⟩)) ∨ (b3 = true ∧ p = (3, ⟨#[]⟩)) ∨ (b4 = true ∧ p = (4, ⟨#[]⟩)) ∨ (b5 = true ∧ p = (5, ⟨#[]⟩)) := by
 cases b1 <;> cases b2 <;> cases b3 <;> cases b4 <;> cases b5 <;> simp [five]
theorem setT_perm {w : World} {b n : Nat} {L L' : List (Int × ByteArray)} (h : SetT w b n L) (hp : ∀ v, v ∈ L ↔ v ∈ L') : SetT w b n L' := by
 refine SetK.perm h fun v => ?_
 simp only [List.mem_map]
 constructor
 ·rintro ⟨p, h1, h2⟩; exact ⟨p, (hp p).1 h1, h2⟩
 ·rintro ⟨p, h1, h2⟩; exact ⟨p, (hp p).2 h1, h2⟩
theorem rg_five {ops : Array Oper} {Q : Exit → Act → World → Prop} {a : Act} {b B : Nat} {w0 : World} {o3 o6 o9 o12 o15 : Oper} (hB : B ≤ b)
  (h3 : ops[3]? = some o3) (g3 : o3.guard = none) (d3 : o3.dst = none) (p3 : o3.op = .insert 66 (.tmp 8) (.tmp 9) (.tmp 10))
  (h6 : ops[6]? = some o6) (g6 : o6.guard = none) (d6 : o6.dst = none) (p6 : o6.op = .insert 66 (.tmp 8) (.tmp 11) (.tmp 12))
  (h9 : ops[9]? = some o9) (g9 : o9.guard = none) (d9 : o9.dst = none) (p9 : o9.op = .insert 66 (.tmp 8) (.tmp 13) (.tmp 14))
  (h12 : ops[12]? = some o12) (g12 : o12.guard = none) (d12 : o12.dst = none) (p12 : o12.op = .insert 66 (.tmp 8) (.tmp 15) (.tmp 16))
  (h15 : ops[15]? = some o15) (g15 : o15.guard = none) (d15 : o15.dst = none) (p15 : o15.op = .insert 66 (.tmp 8) (.tmp 17) (.tmp 18))
  (hm : a.eval (.tmp 8) = .map (some b)) (k1 : a.eval (.tmp 9) = tyV (1, ⟨#[]⟩)) (v1 : a.eval (.tmp 10) = .agg #[]) (k2 : a.eval (.tmp 11) = tyV (2, ⟨#[]⟩)) (v2 : a.eval (.tmp 12) = .agg #[]) (k3 : a.eval (.tmp 13) = tyV (3, ⟨#[]⟩)) (v3 : a.eval (.tmp 14) = .agg #[])
  (k4 : a.eval (.tmp 15) = tyV (4, ⟨#[]⟩)) (v4 : a.eval (.tmp 16) = .agg #[]) (k5 : a.eval (.tmp 17) = tyV (5, ⟨#[]⟩)) (v5 : a.eval (.tmp 18) = .agg #[])
  (hrd : ∀ b1 b2 b3 b4 b5, Region.ready .any ops (lst5 b1 b2 b3 b4 b5) = rd5 b1 b2 b3 b4 b5)
  (fin : ∀ w n, n ≤ 5 → Below B w0 w → SetT w b n (five true true true true true) → wpAnyH Tryz.prog .any ops Q (fun _ => True) 2 (lst5 true true true true true) a w) :
  ∀ (n m : Nat) (b1 b2 b3 b4 b5 : Bool), cnt5 b1 b2 b3 b4 b5 = n → m + n ≤ 5 → ∀ w, B ≤ w.heap.size → Below B w0 w → SetT w b m (five b1 b2 b3 b4 b5) → wpAnyH Tryz.prog .any ops Q (fun _ => True) (n + 2) (lst5 b1 b2 b3 b4 b5) a w
 | 0, m, b1, b2, b3, b4, b5, hc, hmn, w, hw, hbel, hS => by
  have : b1 = true ∧ b2 = true ∧ b3 = true ∧ b4 = true ∧ b5 = true := by
   revert hc; cases b1 <;> cases b2 <;> cases b3 <;> cases b4 <;> cases b5 <;> simp [cnt5]
  obtain ⟨rfl, rfl, rfl, rfl, rfl⟩ := this
  exact fin w m (by omega) hbel hS
 | n + 1, m, b1, b2, b3, b4, b5, hc, hmn, w, hw, hbel, hS => by
  have ih := rg_five hB h3 g3 d3 p3 h6 g6 d6 p6 h9 g9 d9 p9 h12 g12 d12 p12 h15 g15 d15 p15 hm k1 v1 k2 v2 k3 v3 k4 v4 k5 v5 hrd fin n (m + 1)
  refine ⟨fun h => absurd ((hrd b1 b2 b3 b4 b5).symm.trans h) (rd5_ne b1 b2 b3 b4 b5), fun i hi => ?_⟩
  rw [hrd] at hi
  have hgb : ∀ w', w.grownBy w' (some b) → Below B w0 w' := fun w' hg => hbel.grown hg hw (fun j hj => by cases hj; exact hB)
  have hgs : ∀ w', w.grownBy w' (some b) → B ≤ w'.heap.size := fun w' hg => Nat.le_trans hw hg.size
  rcases rd5_mem b1 b2 b3 b4 b5 (by omega) i hi with ⟨rfl, rfl⟩ | ⟨rfl, rfl⟩ | ⟨rfl, rfl⟩ | ⟨rfl, rfl⟩ | ⟨rfl, rfl⟩
  ·refine ins_wp (p := (1, ⟨#[]⟩)) h3 g3 d3 p3 hm k1 v1 ⟨by decide, by decide⟩ (by decide) hS (by omega) (fun w' hS' hg => ⟨trivial, ?_⟩)
   exact ih true b2 b3 b4 b5 (by revert hc; unfold cnt5; simp only [if_true, if_false, Bool.false_eq_true]; omega) (by omega) w' (hgs w' hg) (hgb w' hg) (setT_perm hS' (fun v => by rw [List.mem_append, mem5, mem5]; simp [or_comm, or_left_comm, or_assoc]))
  ·refine ins_wp (p := (2, ⟨#[]⟩)) h6 g6 d6 p6 hm k2 v2 ⟨by decide, by decide⟩ (by decide) hS (by omega) (fun w' hS' hg => ⟨trivial, ?_⟩)
   exact ih b1 true b3 b4 b5 (by revert hc; unfold cnt5; simp only [if_true, if_false, Bool.false_eq_true]; omega) (by omega) w' (hgs w' hg) (hgb w' hg) (setT_perm hS' (fun v => by rw [List.mem_append, mem5, mem5]; simp [or_comm, or_left_comm, or_assoc]))
  ·refine ins_wp (p := (3, ⟨#[]⟩)) h9 g9 d9 p9 hm k3 v3 ⟨by decide, by decide⟩ (by decide) hS (by omega) (fun w' hS' hg => ⟨trivial, ?_⟩)
   exact ih b1 b2 true b4 b5 (by revert hc; unfold cnt5; simp only [if_true, if_false, Bool.false_eq_true]; omega) (by omega) w' (hgs w' hg) (hgb w' hg) (setT_perm hS' (fun v => by rw [List.mem_append, mem5, mem5]; simp [or_comm, or_left_comm, or_assoc]))
  ·refine ins_wp (p := (4, ⟨#[]⟩)) h12 g12 d12 p12 hm k4 v4 ⟨by decide, by decide⟩ (by decide) hS (by omega) (fun w' hS' hg => ⟨trivial, ?_⟩)
   exact ih b1 b2 b3 true b5 (by revert hc; unfold cnt5; simp only [if_true, if_false, Bool.false_eq_true]; omega) (by omega) w' (hgs w' hg) (hgb w' hg) (setT_perm hS' (fun v => by rw [List.mem_append, mem5, mem5]; simp [or_comm, or_left_comm, or_assoc]))
  ·refine ins_wp (p := (5, ⟨#[]⟩)) h15 g15 d15 p15 hm k5 v5 ⟨by decide, by decide⟩ (by decide) hS (by omega) (fun w' hS' hg => ⟨trivial, ?_⟩)
   exact ih b1 b2 b3 b4 true (by revert hc; unfold cnt5; simp only [if_true, if_false, Bool.false_eq_true]; omega) (by omega) w' (hgs w' hg) (hgb w' hg) (setT_perm hS' (fun v => by rw [List.mem_append, mem5, mem5]; simp [or_comm, or_left_comm, or_assoc]))
end Go.Proofs.YtcjfeandnmochaaGreatDoor

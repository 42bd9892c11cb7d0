/- Part 1 of what the proof stands on. -/
import Derived.Test.YtdkolhfpfimeoabRows
import Derived.WalkKit
import Derived.ProofKit
import Derived.OpenShut
import Derived.Below
import GoSem.Core.Utf8
import Derived.ShutString
import Derived.ChangeOld
import Derived.Laws.OwnMore
import Derived.BigQuiet
import Derived.Maps.OwnSet
import Derived.DeepKeys4
namespace Go.Proofs.Ytdkolhfpfimeoab
set_option maxHeartbeats 8000000
set_option linter.unusedVariables false
set_option linter.unusedSimpArgs false
set_option maxRecDepth 20000
def bts (n m : Nat) : Array Bool := ((List.range n).map fun i => m.testBit i).toArray
theorem zsA {α : Type} (l : List α) (i : Nat) (a : α) : l.toArray.setIfInBounds i a = (l.set i a).toArray := List.setIfInBounds_toArray ..
theorem zsZ {α : Type} (a b : α) (l : List α) : (a :: l).set 0 b = b :: l := rfl
theorem zsS {α : Type} (a b : α) (l : List α) (n : Nat) : (a :: l).set (n + 1) b = a :: l.set n b := rfl
section
open Go.ChangeShapes Go.WideShapes Go.ChangeAt Go.RowKit
def Is64 (n : Int) : Prop := -9223372036854775808 ≤ n ∧ n ≤ 9223372036854775807
end
section
def ctU (a : UInt8) : Bool := decide (128 ≤ a.toNat) && decide (a.toNat ≤ 191)
def two (a b : UInt8) : Nat := (a.toNat - 192) * 64 + (b.toNat - 128)
def three (a b c : UInt8) : Nat := ((a.toNat - 224) * 64 + (b.toNat - 128)) * 64 + (c.toNat - 128)
def four (a b c d : UInt8) : Nat := (((a.toNat - 240) * 64 + (b.toNat - 128)) * 64 + (c.toNat - 128)) * 64 + (d.toNat - 128)
def nxL : List UInt8 → Option (Nat × Nat)
 | [] => none
 | a :: r =>
  if a.toNat < 128 then some (a.toNat,1)
  else if 192 ≤ a.toNat ∧ a.toNat < 224 then
   match r with
   | b :: _ => if ctU b = true ∧ 128 ≤ two a b then some (two a b,2) else none
   | _ => none
  else if 224 ≤ a.toNat ∧ a.toNat < 240 then
   match r with
   | b :: c :: _ => if ctU b = true ∧ ctU c = true ∧ 2048 ≤ three a b c ∧ ¬ (55296 ≤ three a b c ∧ three a b c ≤ 57343) then some (three a b c,3) else none
   | _ => none
  else if 240 ≤ a.toNat ∧ a.toNat < 248 then
   match r with
   | b :: c :: d :: _ => if ctU b = true ∧ ctU c = true ∧ ctU d = true ∧ 65536 ≤ four a b c d ∧ four a b c d ≤ 1114111 then some (four a b c d,4) else none
   | _ => none
  else none
theorem get_list (l : List UInt8) (k : Nat) : (ByteArray.mk l.toArray).get! k = l.getD k default := by
 simp [ByteArray.get!,List.getD_eq_getElem?_getD,getElem!_def]
 cases h : l[k]? <;> simp
theorem decode_drop (s : ByteArray) (i : Nat) (h : i ≤ s.size) :
  Utf8.decode s i = Utf8.decode ⟨(s.data.toList.drop i).toArray⟩ 0 := by
 obtain ⟨⟨l⟩⟩ := s
 have e : ∀ k,(ByteArray.mk l.toArray).get! (i + k) = (ByteArray.mk (l.drop i).toArray).get! (0 + k) := by
  intro k;rw [get_list,get_list]
  simp [List.getD_eq_getElem?_getD]
 have e2 : ∀ k,(i + k < (ByteArray.mk l.toArray).size) ↔ (0 + k < (ByteArray.mk (l.drop i).toArray).size) := by
  intro k;simp only [ByteArray.size,List.size_toArray,List.length_drop]
  omega
 simp only [Utf8.decode,e,e2]
def hasErr (l : List UInt8) : Bool := [239,191,189].isPrefixOf l
theorem size_list (l : List UInt8) : (ByteArray.mk l.toArray).size = l.length := by simp [ByteArray.size]
theorem dec_1 (a : UInt8) (r : List UInt8) (h : a.toNat < 128) : Utf8.decode ⟨(a :: r).toArray⟩ 0 = (a.toNat,1) := by
 simp only [Utf8.decode,get_list,size_list]
 simp [h]
theorem cont_of {b : UInt8} (h : ctU b = true) : b.toNat / 64 = 2 := by simp [ctU] at h; omega
theorem cont_not {b : UInt8} (h : ctU b = false) : ¬ b.toNat / 64 = 2 := by simp [ctU] at h; omega
theorem two_eq {a b : UInt8} (h1 : 192 ≤ a.toNat) (h2 : a.toNat < 224) (h : ctU b = true) : a.toNat % 32 * 64 + b.toNat % 64 = two a b := by
 simp [ctU] at h; simp only [two]; omega
theorem three_eq {a b c : UInt8} (h1 : 224 ≤ a.toNat) (h2 : a.toNat < 240) (h : ctU b = true) (hc : ctU c = true) : a.toNat % 16 * 4096 + b.toNat % 64 * 64 + c.toNat % 64 = three a b c := by
 simp [ctU] at h hc; simp only [three]; omega
theorem four_eq {a b c d : UInt8} (h1 : 240 ≤ a.toNat) (h2 : a.toNat < 248) (h : ctU b = true) (hc : ctU c = true) (hd : ctU d = true) : a.toNat % 8 * 262144 + b.toNat % 64 * 4096 + c.toNat % 64 * 64 + d.toNat % 64 = four a b c d := by
 simp [ctU] at h hc hd; simp only [four]; omega
theorem two_lt {a b : UInt8} (h2 : a.toNat < 224) (h : ctU b = true) : two a b < 2048 := by
 simp [ctU] at h; simp only [two]; omega
theorem three_lt {a b c : UInt8} (h2 : a.toNat < 240) (h : ctU b = true) (hc : ctU c = true) : three a b c < 65536 := by
 simp [ctU] at h hc; simp only [three]; omega
theorem dec_2 (a b : UInt8) (r : List UInt8) (h1 : 192 ≤ a.toNat) (h2 : a.toNat < 224) (h : ctU b = true) :
  Utf8.decode ⟨(a :: b :: r).toArray⟩ 0 = if 128 ≤ two a b then (two a b,2) else (65533,1) := by
 have e1 : ¬ a.toNat < 128 := by omega
 have e2 : a.toNat / 32 = 6 := by omega
 have e3 := cont_of h;have e4 := two_eq h1 h2 h;simp only [Utf8.decode,get_list,size_list]
 simp [e1,e2,e3,e4,Utf8.runeError]
theorem dec_2n (a : UInt8) (r : List UInt8) (h1 : 192 ≤ a.toNat) (h2 : a.toNat < 224) (h : ∀ b r',r = b :: r' → ctU b = false) :
  Utf8.decode ⟨(a :: r).toArray⟩ 0 = (65533,1) := by
 have e1 : ¬ a.toNat < 128 := by omega
 have e2 : a.toNat / 32 = 6 := by omega
 have e5 : ¬ a.toNat / 16 = 14 := by omega
 have e6 : ¬ a.toNat / 8 = 30 := by omega
 simp only [Utf8.decode,get_list,size_list]
 match r with
 | [] => simp [e1,e2,Utf8.runeError]
 | b :: r' =>
  have e3 := cont_not (h b r' rfl)
  simp [e1,e2,e3,e5,e6,Utf8.runeError]
theorem dec_3 (a b c : UInt8) (r : List UInt8) (h1 : 224 ≤ a.toNat) (h2 : a.toNat < 240) (h : ctU b = true) (hc : ctU c = true) :
  Utf8.decode ⟨(a :: b :: c :: r).toArray⟩ 0 = if 2048 ≤ three a b c ∧ ¬ (55296 ≤ three a b c ∧ three a b c ≤ 57343) then (three a b c,3) else (65533,1) := by
 have e1 : ¬ a.toNat < 128 := by omega
 have e2 : ¬ a.toNat / 32 = 6 := by omega
 have e3 : a.toNat / 16 = 14 := by omega
 have e4 := cont_of h;have e5 := cont_of hc;have e6 := three_eq h1 h2 h hc;have e7 := three_lt h2 h hc;simp only [Utf8.decode,get_list,size_list]
 simp [e1,e2,e3,e4,e5,e6,Utf8.runeError,Utf8.valid]
 generalize three a b c = v at *
 by_cases g1 : 2048 ≤ v
 ·by_cases g2 : v < 55296
  ·have : ((v : Int) < 55296) := by omega
   simp [g1,g2,this]; omega
  ·by_cases g3 : 57344 ≤ v
   ·have i1 : ((57344 : Int) ≤ v) := by omega
    have i2 : ((v : Int) ≤ 1114111) := by omega
    simp [g1,i1,i2]; omega
   ·have i1 : ¬ ((57344 : Int) ≤ v) := by omega
    have i2 : ¬ ((v : Int) < 55296) := by omega
    have i3 : ¬ (55296 ≤ v → 57343 < v) := by omega
    simp [i1,i2,i3]
 ·simp [g1]
theorem dec_3n (a : UInt8) (r : List UInt8) (h1 : 224 ≤ a.toNat) (h2 : a.toNat < 240) (h : ∀ b c r',r = b :: c :: r' → ctU b = false ∨ ctU c = false) :
  Utf8.decode ⟨(a :: r).toArray⟩ 0 = (65533,1) := by
 have e1 : ¬ a.toNat < 128 := by omega
 have e2 : ¬ a.toNat / 32 = 6 := by omega
 have e3 : a.toNat / 16 = 14 := by omega
 have e6 : ¬ a.toNat / 8 = 30 := by omega
 simp only [Utf8.decode,get_list,size_list]
 match r with
 | [] => simp [e1,e2,e6,Utf8.runeError]
 | [b] => simp [e1,e2,e6,Utf8.runeError]
 | b :: c :: r' =>
  rcases h b c r' rfl with g | g
  ·simp [e1,e2,e6,cont_not g,Utf8.runeError]
  ·simp [e1,e2,e6,cont_not g,Utf8.runeError]
theorem dec_4 (a b c d : UInt8) (r : List UInt8) (h1 : 240 ≤ a.toNat) (h2 : a.toNat < 248) (h : ctU b = true) (hc : ctU c = true) (hd : ctU d = true) :
  Utf8.decode ⟨(a :: b :: c :: d :: r).toArray⟩ 0 = if 65536 ≤ four a b c d ∧ four a b c d ≤ 1114111 then (four a b c d,4) else (65533,1) := by
 have e1 : ¬ a.toNat < 128 := by omega
 have e2 : ¬ a.toNat / 32 = 6 := by omega
 have e3 : ¬ a.toNat / 16 = 14 := by omega
 have e8 : a.toNat / 8 = 30 := by omega
 have e4 := cont_of h;have e5 := cont_of hc;have e9 := cont_of hd;have e6 := four_eq h1 h2 h hc hd;simp only [Utf8.decode,get_list,size_list]
 simp [e1,e2,e3,e4,e5,e6,e8,e9,Utf8.runeError,Utf8.valid]
 generalize four a b c d = v at *
 by_cases g1 : 65536 ≤ v
 ·have i1 : ((57344 : Int) ≤ v) := by omega
  have i4 : ¬ ((v : Int) < 55296) := by omega
  by_cases g3 : v ≤ 1114111
  ·have i2 : ((v : Int) ≤ 1114111) := by omega
   simp [g1,i1,i2,i4,g3]
  ·have i2 : ¬ ((v : Int) ≤ 1114111) := by omega
   simp [i2,i4,g3]
 ·simp [g1]
theorem dec_4n (a : UInt8) (r : List UInt8) (h1 : 240 ≤ a.toNat) (h2 : a.toNat < 248) (h : ∀ b c d r',r = b :: c :: d :: r' → ctU b = false ∨ ctU c = false ∨ ctU d = false) :
  Utf8.decode ⟨(a :: r).toArray⟩ 0 = (65533,1) := by
 have e1 : ¬ a.toNat < 128 := by omega
 have e2 : ¬ a.toNat / 32 = 6 := by omega
 have e3 : ¬ a.toNat / 16 = 14 := by omega
 simp only [Utf8.decode,get_list,size_list]
 match r with
 | [] => simp [e1,e2,e3,Utf8.runeError]
 | [b] => simp [e1,e2,e3,Utf8.runeError]
 | [b,c] => simp [e1,e2,e3,Utf8.runeError]
 | b :: c :: d :: r' =>
  rcases h b c d r' rfl with g | g | g
  ·simp [e1,e2,e3,cont_not g,Utf8.runeError]
  ·simp [e1,e2,e3,cont_not g,Utf8.runeError]
  ·simp [e1,e2,e3,cont_not g,Utf8.runeError]
theorem dec_0 (a : UInt8) (r : List UInt8) (h : 128 ≤ a.toNat) (h1 : ¬ (192 ≤ a.toNat ∧ a.toNat < 224)) (h2 : ¬ (224 ≤ a.toNat ∧ a.toNat < 240)) (h3 : ¬ (240 ≤ a.toNat ∧ a.toNat < 248)) :
  Utf8.decode ⟨(a :: r).toArray⟩ 0 = (65533,1) := by
 have e1 : ¬ a.toNat < 128 := by omega
 have e2 : ¬ a.toNat / 32 = 6 := by omega
 have e3 : ¬ a.toNat / 16 = 14 := by omega
 have e4 : ¬ a.toNat / 8 = 30 := by omega
 simp only [Utf8.decode,get_list,size_list]
 simp [e1,e2,e3,e4,Utf8.runeError]
theorem hasErr_three {a b c : UInt8} {r : List UInt8} (h : three a b c = 65533) (h1 : 224 ≤ a.toNat) (h2 : a.toNat < 240) (hb : ctU b = true) (hc : ctU c = true) : hasErr (a :: b :: c :: r) = true := by
 simp [ctU] at hb hc
 simp only [three] at h;have ea : a = 239 := UInt8.toNat_inj.1 (by show a.toNat = 239; omega);have eb : b = 191 := UInt8.toNat_inj.1 (by show b.toNat = 191; omega);have ec : c = 189 := UInt8.toNat_inj.1 (by show c.toNat = 189; omega);subst ea eb ec
 simp [hasErr,List.isPrefixOf]
theorem hasErr_iff {l : List UInt8} (h : hasErr l = true) : nxL l = some (65533,3) := by
 match l with
 | [] => simp [hasErr,List.isPrefixOf] at h
 | [a] => simp [hasErr,List.isPrefixOf] at h
 | [a,b] => simp [hasErr,List.isPrefixOf] at h
 | a :: b :: c :: r =>
  simp [hasErr,List.isPrefixOf] at h
  obtain ⟨rfl,rfl,rfl⟩ := h
  rfl
theorem decode_nx (a : UInt8) (r : List UInt8) :
  nxL (a :: r) = if (Utf8.decode ⟨(a :: r).toArray⟩ 0).1 = 65533 ∧ hasErr (a :: r) = false then none else some (Utf8.decode ⟨(a :: r).toArray⟩ 0) := by
 have ha := a.toNat_lt
 cases he : hasErr (a :: r) with
 | true =>
  rw [hasErr_iff he]
  match r with
  | [] => simp [hasErr,List.isPrefixOf] at he
  | [b] => simp [hasErr,List.isPrefixOf] at he
  | b :: c :: r' =>
   simp [hasErr,List.isPrefixOf] at he
   obtain ⟨rfl,rfl,rfl⟩ := he;rw [dec_3 _ _ _ _ (by decide) (by decide) (by decide) (by decide)]
   rfl
 | false =>
  by_cases h0 : a.toNat < 128
  ·rw [dec_1 a r h0,if_neg (by simp; omega)]
   simp [nxL,h0]
  ·by_cases h2 : 192 ≤ a.toNat ∧ a.toNat < 224
   ·by_cases hc : ∀ b r',r = b :: r' → ctU b = false
    ·rw [dec_2n a r h2.1 h2.2 hc,if_pos ⟨rfl,rfl⟩]
     match r with
     | [] => simp only [nxL]; rw [if_neg h0,if_pos h2]
     | b :: r' => simp only [nxL]; rw [if_neg h0,if_pos h2,if_neg (by rw [hc b r' rfl]; simp)]
    ·simp only [Classical.not_forall] at hc;obtain ⟨b,r',rfl,hb⟩ := hc
     have hb' : ctU b = true := by simpa using hb
     have hl := two_lt h2.2 hb';rw [dec_2 a b r' h2.1 h2.2 hb'];simp only [nxL];rw [if_neg h0,if_pos h2]
     by_cases g : 128 ≤ two a b
     ·rw [if_pos ⟨hb',g⟩,if_pos g,if_neg (by simp; omega)]
     ·rw [if_neg (fun x => g x.2),if_neg g,if_pos (by simp)]
   ·by_cases h3 : 224 ≤ a.toNat ∧ a.toNat < 240
    ·by_cases hc : ∀ b c r',r = b :: c :: r' → ctU b = false ∨ ctU c = false
     ·rw [dec_3n a r h3.1 h3.2 hc,if_pos ⟨rfl,rfl⟩]
      match r with
      | [] => simp only [nxL]; rw [if_neg h0,if_neg h2,if_pos h3]
      | [b] => simp only [nxL]; rw [if_neg h0,if_neg h2,if_pos h3]
      | b :: c :: r' => simp only [nxL]; rw [if_neg h0,if_neg h2,if_pos h3,if_neg (by rcases hc b c r' rfl with g | g <;> rw [g] <;> simp)]
     ·simp only [Classical.not_forall,not_or] at hc;obtain ⟨b,c,r',rfl,hb,hc⟩ := hc
      have hb' : ctU b = true := by simpa using hb
      have hc' : ctU c = true := by simpa using hc
      rw [dec_3 a b c r' h3.1 h3.2 hb' hc'];simp only [nxL];rw [if_neg h0,if_neg h2,if_pos h3]
      by_cases g : 2048 ≤ three a b c ∧ ¬ (55296 ≤ three a b c ∧ three a b c ≤ 57343)
      ·rw [if_pos ⟨hb',hc',g⟩,if_pos g,if_neg];rintro ⟨g1,_⟩;rw [hasErr_three g1 h3.1 h3.2 hb' hc'] at he
       cases he
      ·rw [if_neg (fun x => g x.2.2),if_neg g,if_pos (by simp)]
    ·by_cases h4 : 240 ≤ a.toNat ∧ a.toNat < 248
     ·by_cases hc : ∀ b c d r',r = b :: c :: d :: r' → ctU b = false ∨ ctU c = false ∨ ctU d = false
      ·rw [dec_4n a r h4.1 h4.2 hc,if_pos ⟨rfl,rfl⟩]
       match r with
       | [] => simp only [nxL]; rw [if_neg h0,if_neg h2,if_neg h3,if_pos h4]
       | [b] => simp only [nxL]; rw [if_neg h0,if_neg h2,if_neg h3,if_pos h4]
       | [b,c] => simp only [nxL]; rw [if_neg h0,if_neg h2,if_neg h3,if_pos h4]
       | b :: c :: d :: r' => simp only [nxL]; rw [if_neg h0,if_neg h2,if_neg h3,if_pos h4,if_neg (by rcases hc b c d r' rfl with g | g | g <;> rw [g] <;> simp)]
      ·simp only [Classical.not_forall,not_or] at hc;obtain ⟨b,c,d,r',rfl,hb,hc,hd⟩ := hc
       have hb' : ctU b = true := by simpa using hb
       have hc' : ctU c = true := by simpa using hc
       have hd' : ctU d = true := by simpa using hd
       rw [dec_4 a b c d r' h4.1 h4.2 hb' hc' hd'];simp only [nxL];rw [if_neg h0,if_neg h2,if_neg h3,if_pos h4]
       by_cases g : 65536 ≤ four a b c d ∧ four a b c d ≤ 1114111
       ·rw [if_pos ⟨hb',hc',hd',g⟩,if_pos g,if_neg (by simp; omega)]
       ·rw [if_neg (fun x => g x.2.2.2),if_neg g,if_pos (by simp)]
     ·rw [dec_0 a r (by omega) h2 h3 h4,if_pos ⟨rfl,rfl⟩];simp only [nxL];rw [if_neg h0,if_neg h2,if_neg h3,if_neg h4]
theorem decode_nx' (l : List UInt8) (hl : l ≠ []) :
  nxL l = if (Utf8.decode ⟨l.toArray⟩ 0).1 = 65533 ∧ hasErr l = false then none else some (Utf8.decode ⟨l.toArray⟩ 0) := by
 match l with
 | [] => exact absurd rfl hl
 | a :: r => exact decode_nx a r
theorem u8_of {n : Nat} (a : UInt8) (h : n = a.toNat) : UInt8.ofNat n = a := by
 subst h; simp
theorem nxL_some (l : List UInt8) (c k : Nat) (h : nxL l = some (c,k)) :
  Utf8.valid c = true ∧ (Utf8.encode c).data.toList = l.take k ∧ (Utf8.encode c).size = k ∧ 1 ≤ k ∧ k ≤ l.length ∧ k ≤ 4 ∧ c ≤ 1114111 := by
 match l with
 | [] => simp [nxL] at h
 | a :: r =>
  simp only [nxL] at h
  by_cases h0 : a.toNat < 128
  ·rw [if_pos h0] at h;simp only [Option.some.injEq,Prod.mk.injEq] at h;obtain ⟨rfl,rfl⟩ := h
   have hv : Utf8.valid (a.toNat : Int) = true := by simp [Utf8.valid]; omega
   have he : Utf8.encode (a.toNat : Int) = ⟨#[a]⟩ := by
    simp [Utf8.encode,hv,h0]
   rw [he];exact ⟨hv,by simp,by simp [ByteArray.size],by omega,by simp,by omega,by omega⟩
  ·rw [if_neg h0] at h
   by_cases h2 : 192 ≤ a.toNat ∧ a.toNat < 224
   ·rw [if_pos h2] at h
    match r with
    | [] => simp at h
    | b :: r' =>
     simp only at h
     by_cases g : ctU b = true ∧ 128 ≤ two a b
     ·rw [if_pos g] at h;simp only [Option.some.injEq,Prod.mk.injEq] at h;obtain ⟨rfl,rfl⟩ := h;have hl := two_lt h2.2 g.1;have hb := g.1;simp only [ctU,Bool.and_eq_true,decide_eq_true_eq] at hb
      have hv : Utf8.valid (two a b : Int) = true := by simp [Utf8.valid]; omega
      have n1 : ¬ two a b < 128 := by omega
      have he : Utf8.encode (two a b : Int) = ⟨#[a,b]⟩ := by
       simp only [Utf8.encode,hv,if_true,Int.toNat_natCast,if_neg n1,if_pos hl];rw [u8_of a (by simp only [two]; omega),u8_of b (by simp only [two]; omega)]
      rw [he];exact ⟨hv,by simp,by simp [ByteArray.size],by omega,by simp,by omega,by omega⟩
     ·rw [if_neg g] at h; simp at h
   ·rw [if_neg h2] at h
    by_cases h3 : 224 ≤ a.toNat ∧ a.toNat < 240
    ·rw [if_pos h3] at h
     match r with
     | [] => simp at h
     | [b] => simp at h
     | b :: c' :: r' =>
      simp only at h
      by_cases g : ctU b = true ∧ ctU c' = true ∧ 2048 ≤ three a b c' ∧ ¬ (55296 ≤ three a b c' ∧ three a b c' ≤ 57343)
      ·rw [if_pos g] at h;simp only [Option.some.injEq,Prod.mk.injEq] at h;obtain ⟨rfl,rfl⟩ := h;obtain ⟨g1,g2,g3,g4⟩ := g;have hl := three_lt h3.2 g1 g2;simp only [ctU,Bool.and_eq_true,decide_eq_true_eq] at g1 g2
       have hv : Utf8.valid (three a b c' : Int) = true := by simp [Utf8.valid]; omega
       have n1 : ¬ three a b c' < 128 := by omega
       have n2 : ¬ three a b c' < 2048 := by omega
       have he : Utf8.encode (three a b c' : Int) = ⟨#[a,b,c']⟩ := by
        simp only [Utf8.encode,hv,if_true,Int.toNat_natCast,if_neg n1,if_neg n2,if_pos hl];rw [u8_of a (by simp only [three]; omega),u8_of b (by simp only [three]; omega),u8_of c' (by simp only [three]; omega)]
       rw [he];exact ⟨hv,by simp,by simp [ByteArray.size],by omega,by simp,by omega,by omega⟩
      ·rw [if_neg g] at h; simp at h
    ·rw [if_neg h3] at h
     by_cases h4 : 240 ≤ a.toNat ∧ a.toNat < 248
     ·rw [if_pos h4] at h
      match r with
      | [] => simp at h
      | [b] => simp at h
      | [b,c'] => simp at h
      | b :: c' :: d :: r' =>
       simp only at h
       by_cases g : ctU b = true ∧ ctU c' = true ∧ ctU d = true ∧ 65536 ≤ four a b c' d ∧ four a b c' d ≤ 1114111
       ·rw [if_pos g] at h;simp only [Option.some.injEq,Prod.mk.injEq] at h;obtain ⟨rfl,rfl⟩ := h;obtain ⟨g1,g2,g3,g4,g5⟩ := g;simp only [ctU,Bool.and_eq_true,decide_eq_true_eq] at g1 g2 g3
        have hv : Utf8.valid (four a b c' d : Int) = true := by simp [Utf8.valid]; omega
        have n1 : ¬ four a b c' d < 128 := by omega
        have n2 : ¬ four a b c' d < 2048 := by omega
        have n3 : ¬ four a b c' d < 65536 := by omega
        have he : Utf8.encode (four a b c' d : Int) = ⟨#[a,b,c',d]⟩ := by
         simp only [Utf8.encode,hv,if_true,Int.toNat_natCast,if_neg n1,if_neg n2,if_neg n3];rw [u8_of a (by simp only [four]; omega),u8_of b (by simp only [four]; omega),u8_of c' (by simp only [four]; omega),u8_of d (by simp only [four]; omega)]
        rw [he];exact ⟨hv,by simp,by simp [ByteArray.size],by omega,by simp,by omega,by omega⟩
       ·rw [if_neg g] at h; simp at h
     ·rw [if_neg h4] at h; simp at h
end
section
open Go.ChangeShapes Go.WideShapes Go.ChangeAt Go.RowKit
theorem ret_bool {a b : Bool} (h : a = b) : Ending.returned (.bool a) = .returned (.bool b) := by rw [h]
theorem ret_int {k : IntKind} {a b : Int} (h : a = b) : Ending.returned (.int k a) = .returned (.int k b) := by rw [h]
def digB (r : Int) : Bool := decide (48 ≤ r ∧ r ≤ 57)
def letB (r : Int) : Bool := decide (97 ≤ r ∧ r ≤ 122 ∨ 65 ≤ r ∧ r ≤ 90 ∨ r = 95 ∨ (192 ≤ r ∧ r ≤ 591 ∧ r ≠ 215 ∧ r ≠ 247) ∨ (913 ≤ r ∧ r ≤ 969 ∧ r ≠ 930))
theorem digit_any (r : Int) (w : World) :
  Calls Try.prog 59 #[.int .i32 r] w fun e w' => e = .returned (.bool (digB r)) ∧ w' = w := by
 go_enter Try.func59,Try.ntmps59
 go_wp2
 all_goals
  go_ret;exact ⟨ret_bool (by simp [digB]; try omega),rfl⟩
theorem letter_any (r : Int) (w : World) :
  Calls Try.prog 58 #[.int .i32 r] w fun e w' => e = .returned (.bool (letB r)) ∧ w' = w := by
 go_enter Try.func58,Try.ntmps58
 go_wp2
 all_goals
  go_ret;refine ⟨ret_bool ?_,rfl⟩
  try simp only [beq_eq_false_iff_ne,beq_iff_eq,ne_eq] at *
  rw [Bool.eq_iff_iff]
  simp [letB]
  try omega
def keyB (s : ByteArray) : Bool := [[115,99,104,101,109,97],[109,101,115,115,97,103,101],[101,110,117,109],[99,97,108,108],[114,101,116,117,114,110,115],[114,101,115,101,114,118,101,100],
 [111,112,116,105,111,110,97,108],[114,101,112,101,97,116,101,100],[105,110,116,51,50],[105,110,116,54,52],[98,111,111,108],[116,101,120,116],[98,121,116,101,115]].any fun (k : List UInt8) => s.toList == k
theorem prefix_eq (s p : ByteArray) (h : p.size ≤ s.size) : ((s.extract 0 p.size).toList == p.toList) = p.toList.isPrefixOf s.toList := by
 obtain ⟨⟨l⟩⟩ := s;obtain ⟨⟨q⟩⟩ := p;simp only [ByteArray.toList_eq,ByteArray.data_extract,ByteArray.size,List.size_toArray,List.extract_toArray,List.extract_eq_take_drop,List.drop_zero,Nat.sub_zero] at *;rw [Bool.eq_iff_iff,List.isPrefixOf_iff_prefix,List.prefix_iff_eq_take,beq_iff_eq];exact eq_comm
theorem prefix_short (s p : ByteArray) (h : ¬ p.size ≤ s.size) : false = p.toList.isPrefixOf s.toList := by
 obtain ⟨⟨l⟩⟩ := s;obtain ⟨⟨q⟩⟩ := p;simp only [ByteArray.toList_eq,ByteArray.size,List.size_toArray] at *
 cases e : q.isPrefixOf l with
 | false => rfl
 | true =>
  rw [List.isPrefixOf_iff_prefix] at e;exact absurd e.length_le h
theorem hasPrefix_any (s p : ByteArray) (w : World) (hs : s.size ≤ 140737488351232) (hp : p.size ≤ 140737488351232) :
  Calls Try.prog 87 #[.string s,.string p] w fun e w' => e = .returned (.bool (p.toList.isPrefixOf s.toList)) ∧ w' = w := by
 go_enter Try.func87,Try.ntmps87
 go_wp2
 ·go_ret;exact ⟨ret_bool (prefix_eq s p ‹_›),rfl⟩
 ·go_ret;exact ⟨ret_bool (prefix_short s p ‹_›),rfl⟩
def standsB (l : List UInt8) (r : Int) : Bool := decide (r ≠ 65533) || hasErr l
theorem extract_drop (s : ByteArray) (i : Nat) : (s.extract i s.size).data.toList = s.data.toList.drop i := by
 obtain ⟨⟨l⟩⟩ := s
 simp [ByteArray.data_extract,ByteArray.size]
 exact List.take_of_length_le (by simp)
theorem hasErr_extract (s : ByteArray) (i : Nat) : [239,191,189].isPrefixOf (s.extract i s.size).toList = hasErr (s.data.toList.drop i) := by
 rw [ByteArray.toList_eq,extract_drop]; rfl
theorem extract_size_le (s : ByteArray) (i : Nat) (h : s.size ≤ 140737488351232) : (s.extract i s.size).size ≤ 140737488351232 := by
 simp [ByteArray.size_extract]; omega
theorem stands_any (s : ByteArray) (i : Int) (r : Int) (w : World) (hs : s.size ≤ 140737488351232) (hi : 0 ≤ i) (hj : i ≤ s.size) :
  Calls Try.prog 70 #[.string s,.int .i64 i,.int .i32 r] w fun e w' => e = .returned (.bool (standsB (s.data.toList.drop i.toNat) r)) ∧ w' = w := by
 by_cases h : r = 65533
 ·subst h
  go_enter Try.func70,Try.ntmps70
  go_wp2_with (go_at_call 87; refine (hasPrefix_any _ _ _ (extract_size_le s _ hs) (by decide)).mono ?_; rintro e w' ⟨rfl,rfl⟩)
  go_ret;refine ⟨ret_bool ?_,rfl⟩
  simp [standsB,← hasErr_extract]
 ·have hne : (r != 65533) = true := by simp [h]
  go_enter Try.func70,Try.ntmps70
  go_wp2_with fail;go_ret;refine ⟨ret_bool ?_,rfl⟩
  simp [standsB,h]
theorem drop_cons (s : ByteArray) (i : Nat) (h : i < s.size) : s.data.toList.drop i = s[i] :: s.data.toList.drop (i + 1) := by
 rw [List.drop_eq_getElem_cons (by simpa using h)]; rfl
theorem below_iter (w : World) (s : ByteArray) (p : Nat) : Below w.heap.size w (w.iter s p) := (Below.refl _ _).alloc (Nat.le_refl _) _
theorem nx_stands {l : List UInt8} {c k : Nat} (hl : l ≠ []) (hd : Utf8.decode ⟨l.toArray⟩ 0 = (c,k)) :
  (standsB l c = true → nxL l = some (c,k)) ∧ (standsB l c = false → nxL l = none) := by
 have h := decode_nx' l hl;rw [hd] at h;unfold standsB
 constructor
 ·intro g;rw [h,if_neg];rintro ⟨g1,g2⟩;simp only at g1;rw [g2,g1] at g
  simp at g
 ·intro g;rw [h,if_pos];simp only [Bool.or_eq_false_iff,decide_eq_false_iff_not,ne_eq,Decidable.not_not] at g;exact ⟨by show c = 65533; omega,g.2⟩
end
section
open Go.RowKit
def allL : Nat → List UInt8 → Option (List Nat)
 | 0,l => if l.isEmpty then some [] else none
 | f + 1,l => if l.isEmpty then some [] else
  match nxL l with
  | none => none
  | some x => (allL f (l.drop x.2)).map (x.1 :: ·)
def runesOf (l : List UInt8) : Option (List Nat) := allL l.length l
theorem allL_fuel (f : Nat) : ∀ (g : Nat) (l : List UInt8),l.length ≤ f → l.length ≤ g → allL f l = allL g l := by
 induction f with
 | zero =>
  intro g l h _;have : l = [] := List.length_eq_zero_iff.1 (by omega);subst this
  cases g <;> simp [allL]
 | succ f ih =>
  intro g l hf hg
  match l,g with
  | [],0 => simp [allL]
  | [],g + 1 => simp [allL]
  | a :: r,0 => simp at hg
  | a :: r,g + 1 =>
   simp only [allL]
   cases e : nxL (a :: r) with
   | none => simp
   | some x =>
    obtain ⟨c,k⟩ := x;obtain ⟨_,_,_,h4,h5,_⟩ := nxL_some _ _ _ e
    have hd : ((a :: r).drop k).length ≤ f := by simp at hf h5 ⊢; omega
    have hd2 : ((a :: r).drop k).length ≤ g := by simp at hg h5 ⊢; omega
    simp [ih g ((a :: r).drop k) hd hd2]
theorem runesOf_nil : runesOf [] = some [] := rfl
theorem runesOf_bad {l : List UInt8} (hl : l ≠ []) (h : nxL l = none) : runesOf l = none := by
 match l with
 | [] => exact absurd rfl hl
 | a :: r => simp [runesOf,allL,h]
theorem runesOf_step {l : List UInt8} {c k : Nat} (h : nxL l = some (c,k)) : runesOf l = (runesOf (l.drop k)).map (c :: ·) := by
 match l with
 | [] => simp [nxL] at h
 | a :: r =>
  obtain ⟨_,_,_,h4,h5,_⟩ := nxL_some _ _ _ h;simp only [runesOf,List.length_cons,allL,h];have e := allL_fuel r.length ((a :: r).drop k).length ((a :: r).drop k) (by simp; omega) (Nat.le_refl _);rw [if_neg (by simp)];simp only [e]
theorem runesOf_le (f : Nat) : ∀ l : List UInt8,l.length ≤ f → ∀ rs,runesOf l = some rs → rs.length ≤ l.length := by
 induction f with
 | zero =>
  intro l hl rs h;have : l = [] := List.length_eq_zero_iff.1 (by omega);subst this;rw [runesOf_nil] at h
  simp at h; subst h; simp
 | succ f ih =>
  intro l hl rs h
  match l with
  | [] => rw [runesOf_nil] at h; simp at h; subst h; simp
  | a :: r =>
   cases e : nxL (a :: r) with
   | none => rw [runesOf_bad (by simp) e] at h; cases h
   | some x =>
    obtain ⟨c,k⟩ := x;obtain ⟨_,_,_,h4,h5,_⟩ := nxL_some _ _ _ e;rw [runesOf_step e] at h
    cases e2 : runesOf ((a :: r).drop k) with
    | none => rw [e2] at h; cases h
    | some rs' =>
     rw [e2] at h
     simp at h; subst h
     have := ih _ (by simp at hl h5 ⊢; omega) _ e2
     simp at this h5 ⊢; omega
def countN (l : List UInt8) : Nat := ((runesOf l).getD []).length
theorem countN_le (l : List UInt8) : countN l ≤ l.length := by
 unfold countN
 cases e : runesOf l with
 | none => simp
 | some rs => simpa using runesOf_le l.length l (Nat.le_refl _) rs e
def okFrom : Bool → List Nat → Bool
 | _,[] => true
 | b,c :: r => (letB c || (!b && digB c)) && okFrom false r
theorem okFrom_append (acc rest : List Nat) : ∀ b,okFrom b (acc ++ rest) = (okFrom b acc && okFrom (b && acc.isEmpty) rest) := by
 induction acc with
 | nil => intro b; simp [okFrom]
 | cons a r ih => intro b; simp [okFrom,ih,Bool.and_assoc]
def nameB (s : ByteArray) : Bool := decide (1 ≤ countN s.data.toList ∧ countN s.data.toList ≤ 20) && !keyB s && okFrom true ((runesOf s.data.toList).getD [])
def Gone (l : List UInt8) (pos : Nat) (acc : List Nat) : Prop := runesOf l = (runesOf (l.drop pos)).map (acc ++ ·)
theorem Gone.start (l : List UInt8) : Gone l 0 [] := by
 unfold Gone; simp
theorem Gone.step {l : List UInt8} {pos c k : Nat} {acc : List Nat} (h : Gone l pos acc) (hn : nxL (l.drop pos) = some (c,k)) : Gone l (pos + k) (acc ++ [c]) := by
 unfold Gone at h ⊢;rw [h,runesOf_step hn,List.drop_drop]
 cases runesOf (l.drop (pos + k)) <;> simp
theorem Gone.bad {l : List UInt8} {pos : Nat} {acc : List Nat} (h : Gone l pos acc) (hp : pos < l.length) (hn : nxL (l.drop pos) = none) : runesOf l = none := by
 unfold Gone at h;rw [h,runesOf_bad _ hn]; rfl;intro e
 have : (l.drop pos).length = 0 := by rw [e]; rfl
 simp at this; omega
theorem Gone.done {l : List UInt8} {pos : Nat} {acc : List Nat} (h : Gone l pos acc) (hp : l.length ≤ pos) : runesOf l = some acc := by
 unfold Gone at h;rw [h,List.drop_eq_nil_of_le hp,runesOf_nil]; simp
theorem Gone.len {l : List UInt8} {pos : Nat} {acc rs : List Nat} (h : Gone l pos acc) (hr : runesOf l = some rs) : ∃ rest,rs = acc ++ rest := by
 unfold Gone at h;rw [hr] at h
 cases e : runesOf (l.drop pos) with
 | none => rw [e] at h; cases h
 | some r => rw [e] at h; simp at h; exact ⟨r,h⟩
theorem dec_at (s : ByteArray) (pos : Nat) (h : pos < s.size) : ∃ c k,Utf8.decode s pos = (c,k) ∧
  (standsB (s.data.toList.drop pos) c = true → nxL (s.data.toList.drop pos) = some (c,k)) ∧ (standsB (s.data.toList.drop pos) c = false → nxL (s.data.toList.drop pos) = none) := by
 have hl : s.data.toList.drop pos ≠ [] := by rw [drop_cons s pos h]; exact List.cons_ne_nil _ _
 have hd := decode_drop s pos (by omega);rw [hd];generalize e : Utf8.decode ⟨(s.data.toList.drop pos).toArray⟩ 0 = d;obtain ⟨c,k⟩ := d;exact ⟨c,k,rfl,nx_stands hl e⟩
theorem len_data (s : ByteArray) : s.data.toList.length = s.size := by rw [Array.length_toList]; rfl
theorem nx_of_gone {l : List UInt8} {pos : Nat} {acc rs : List Nat} (h : Gone l pos acc) (hp : pos < l.length) (hr : runesOf l = some rs) : ∃ x,nxL (l.drop pos) = some x := by
 cases e : nxL (l.drop pos) with
 | none => rw [h.bad hp e] at hr; cases hr
 | some x => exact ⟨x,rfl⟩
theorem dec_of_nx {l : List UInt8} {c k : Nat} {x : Nat × Nat} (h1 : standsB l c = true → nxL l = some (c,k)) (h2 : standsB l c = false → nxL l = none) (h : nxL l = some x) : nxL l = some (c,k) := by
 cases e : standsB l c with
 | true => exact h1 e
 | false => rw [h2 e] at h; cases h
end
section
structure FlS where
 name : ByteArray
 tag : Int
 label : Int
 kind : Int
 tname : ByteArray
structure MsS where
 name : ByteArray
 fields : List FlS
 reserved : List Int
structure NmS where
 name : ByteArray
 n : Int
structure EnS where
 name : ByteArray
 values : List NmS
structure MtS where
 name : ByteArray
 inn : ByteArray
 out : ByteArray
structure ScS where
 name : ByteArray
 msgs : List MsS
 enums : List EnS
 methods : List MtS
def FlS.cells (f : FlS) : List Value := [.string f.name,.int .i64 f.tag,.int .i64 f.label,.int .i64 f.kind,.string f.tname]
def NmS.cells (f : NmS) : List Value := [.string f.name,.int .i64 f.n]
def MtS.cells (f : MtS) : List Value := [.string f.name,.string f.inn,.string f.out]
end
section
open Go.RowKit
def memB (x : ByteArray) (l : List ByteArray) : Bool := l.any fun y => decide (x = y)
theorem memB_iff {x : ByteArray} {l : List ByteArray} : memB x l = true ↔ x ∈ l := by simp [memB]
theorem memB_no {x : ByteArray} {l : List ByteArray} : memB x l = false ↔ x ∉ l := by rw [← memB_iff]; simp
def memI (x : Int) (l : List Int) : Bool := decide (x ∈ l)
def freshB (x : ByteArray) (l : List ByteArray) : Bool := nameB x && !memB x l
def tagR (n : Int) : Bool := decide (1 ≤ n ∧ n ≤ 500)
def tagB (n : Int) (l : List Int) : Bool := tagR n && !memI n l
def numR (n : Int) : Bool := decide (0 ≤ n ∧ n ≤ 2147483647)
def numB (n : Int) (l : List Int) : Bool := numR n && !memI n l
def labB (n : Int) : Bool := decide (1 ≤ n ∧ n ≤ 3)
def typeB (mn en : List ByteArray) (k : Int) (t : ByteArray) : Bool :=
 (decide (1 ≤ k ∧ k ≤ 5) && decide (t = ⟨#[]⟩)) || (decide (k = 6) && memB t en) || (decide (k = 7) && memB t mn)
def orE (a b : Int) : Int := if a = 0 then b else a
def chkRes : List Int → List Int → Int
 | _,[] => 0
 | a,n :: l => if tagB n a = true then chkRes (a ++ [n]) l else 7
def chkFs (mn en : List ByteArray) : List ByteArray → List Int → List FlS → Int
 | _,_,[] => 0
 | a,t,f :: l => if freshB f.name a = false then 6 else if tagB f.tag t = false then 7 else if (labB f.label && typeB mn en f.kind f.tname) = false then 8 else chkFs mn en (a ++ [f.name]) (t ++ [f.tag]) l
def bigM (m : MsS) : Bool := decide (16 < m.fields.length ∨ 32 < m.reserved.length)
def chkMb (mn en : List ByteArray) (m : MsS) : Int := if bigM m = true then 4 else orE (chkRes [] m.reserved) (chkFs mn en [] m.reserved m.fields)
def chkMs (mn en : List ByteArray) : List ByteArray → List MsS → Int
 | _,[] => 0
 | a,m :: l => if freshB m.name a = false then 6 else orE (chkMb mn en m) (chkMs mn en (a ++ [m.name]) l)
def chkVs : List ByteArray → List Int → List NmS → Int
 | _,_,[] => 0
 | a,t,v :: l => if freshB v.name a = false then 6 else if numB v.n t = false then 11 else chkVs (a ++ [v.name]) (t ++ [v.n]) l
def zeroE (e : EnS) : Bool := e.values.any fun v => decide (v.n = 0)
def chkEb (e : EnS) : Int := if 16 < e.values.length then 4 else if zeroE e = false then 12 else chkVs [] [] e.values
def chkEs : List ByteArray → List EnS → Int
 | _,[] => 0
 | a,e :: l => if freshB e.name a = false then 6 else orE (chkEb e) (chkEs (a ++ [e.name]) l)
def chkTs (mn : List ByteArray) : List ByteArray → List MtS → Int
 | _,[] => 0
 | a,m :: l => if freshB m.name a = false then 6 else if (memB m.inn mn && memB m.out mn) = false then 8 else chkTs mn (a ++ [m.name]) l
def ScS.mn (s : ScS) : List ByteArray := s.msgs.map MsS.name
def ScS.en (s : ScS) : List ByteArray := s.enums.map EnS.name
def ScS.tn (s : ScS) : List ByteArray := s.methods.map MtS.name
def bigS (s : ScS) : Bool := decide (10 < s.msgs.length ∨ 6 < s.enums.length ∨ 6 < s.methods.length)
def wholeA (s : ScS) : Int := if nameB s.name = false then 6 else if s.msgs.length = 0 then 12 else if bigS s = true then 4 else 0
def partsA (s : ScS) : Int := orE (chkMs s.mn s.en [] s.msgs) (chkEs s.mn s.enums)
def checkA (s : ScS) : Int := orE (wholeA s) (orE (partsA s) (chkTs s.mn [] s.methods))
/-! Steps,for the loops -/
theorem drop_at {α : Type} {l : List α} {k : Nat} {x : α} (h : l[k]? = some x) : l.drop k = x :: l.drop (k + 1) := by
 obtain ⟨hk,rfl⟩ := List.getElem?_eq_some_iff.1 h;exact List.drop_eq_getElem_cons hk
theorem drop_end {α : Type} {l : List α} {k : Nat} (h : l.length ≤ k) : l.drop k = [] := List.drop_eq_nil_of_le h
theorem orE_zero (b : Int) : orE 0 b = b := by simp [orE]
theorem orE_ne {a : Int} (h : a ≠ 0) (b : Int) : orE a b = a := by simp [orE,h]
theorem bytes_eq_iff (a b : ByteArray) : a = b ↔ a.data.toList = b.data.toList :=
 ⟨fun h => by rw [h],fun h => by obtain ⟨⟨l⟩⟩ := a; obtain ⟨⟨m⟩⟩ := b; simp at h; subst h; rfl⟩
theorem beq_bytes (a b : ByteArray) : (a.data.toList == b.data.toList) = decide (a = b) := by
 rw [Bool.eq_iff_iff,beq_iff_eq,decide_eq_true_iff,bytes_eq_iff]
/-! When Check answers OK -/
theorem orE_ok {a b : Int} : orE a b = 0 ↔ a = 0 ∧ b = 0 := by unfold orE; split <;> omega
theorem freshB_iff {x : ByteArray} {l : List ByteArray} : freshB x l = true ↔ nameB x = true ∧ x ∉ l := by unfold freshB; rw [Bool.and_eq_true,Bool.not_eq_true',memB_no]
theorem tagB_iff {x : Int} {l : List Int} : tagB x l = true ↔ tagR x = true ∧ x ∉ l := by simp [tagB,memI]
theorem chkRes_ok : ∀ (l a : List Int),chkRes a l = 0 ↔ (∀ n ∈ l,tagR n = true ∧ n ∉ a) ∧ l.Nodup
 | [],a => by simp [chkRes]
 | n :: l,a => by
  unfold chkRes
  by_cases h : tagB n a = true
  ·rw [if_pos h,chkRes_ok l];rw [tagB_iff] at h;simp only [List.mem_append,List.mem_singleton,not_or,List.forall_mem_cons,List.nodup_cons]
   constructor
   ·rintro ⟨h1,h2⟩;exact ⟨⟨h,fun m hm => ⟨(h1 m hm).1,(h1 m hm).2.1⟩⟩,fun hn => (h1 n hn).2.2 rfl,h2⟩
   ·rintro ⟨⟨_,h1⟩,h2,h3⟩;exact ⟨fun m hm => ⟨(h1 m hm).1,(h1 m hm).2,fun e => h2 (e ▸ hm)⟩,h3⟩
  ·rw [if_neg h];rw [tagB_iff] at h;simp only [List.mem_cons,forall_eq_or_imp]
   constructor
   ·intro e; omega
   ·rintro ⟨⟨h1,_⟩,_⟩; exact absurd h1 h
def fieldOk (mn en : List ByteArray) (f : FlS) : Prop := nameB f.name = true ∧ tagR f.tag = true ∧ labB f.label = true ∧ typeB mn en f.kind f.tname = true
theorem chkFs_ok (mn en : List ByteArray) : ∀ (l : List FlS) (a : List ByteArray) (t : List Int),chkFs mn en a t l = 0 ↔ (∀ f ∈ l,fieldOk mn en f ∧ f.name ∉ a ∧ f.tag ∉ t) ∧ (l.map FlS.name).Nodup ∧ (l.map FlS.tag).Nodup
 | [],a,t => by simp [chkFs]
 | f :: l,a,t => by
  unfold chkFs;simp only [List.mem_cons,forall_eq_or_imp,List.map_cons,List.nodup_cons,List.mem_map,not_exists,not_and]
  by_cases h1 : freshB f.name a = true
  ·rw [if_neg (by rw [h1]; decide)]
   by_cases h2 : tagB f.tag t = true
   ·rw [if_neg (by rw [h2]; decide)]
    by_cases h3 : (labB f.label && typeB mn en f.kind f.tname) = true
    ·rw [if_neg (by rw [h3]; decide),chkFs_ok mn en l];rw [freshB_iff] at h1;rw [tagB_iff] at h2;rw [Bool.and_eq_true] at h3;simp only [List.mem_append,List.mem_singleton,not_or]
     constructor
     ·rintro ⟨g1,g2,g3⟩;exact ⟨⟨⟨⟨h1.1,h2.1,h3.1,h3.2⟩,h1.2,h2.2⟩,fun m hm => ⟨(g1 m hm).1,(g1 m hm).2.1.1,(g1 m hm).2.2.1⟩⟩,⟨fun m hm => (g1 m hm).2.1.2,g2⟩,⟨fun m hm => (g1 m hm).2.2.2,g3⟩⟩
     ·rintro ⟨⟨_,g1⟩,⟨g2,g3⟩,⟨g4,g5⟩⟩;exact ⟨fun m hm => ⟨(g1 m hm).1,⟨(g1 m hm).2.1,g2 m hm⟩,⟨(g1 m hm).2.2,g4 m hm⟩⟩,g3,g5⟩
    ·rw [if_pos (by simpa using h3)]
     constructor
     ·intro e; omega
     ·rintro ⟨⟨⟨⟨_,_,g1,g2⟩,_⟩,_⟩,_⟩; rw [g1,g2] at h3; exact absurd rfl h3
   ·rw [if_pos (by simpa using h2)]
    constructor
    ·intro e; omega
    ·rintro ⟨⟨⟨⟨_,g1,_⟩,_,g2⟩,_⟩,_⟩; exact absurd (tagB_iff.2 ⟨g1,g2⟩) h2
  ·rw [if_pos (by simpa using h1)]
   constructor
   ·intro e; omega
   ·rintro ⟨⟨⟨⟨g1,_⟩,g2,_⟩,_⟩,_⟩; exact absurd (freshB_iff.2 ⟨g1,g2⟩) h1
def msgOk (mn en : List ByteArray) (m : MsS) : Prop := bigM m = false ∧ (∀ n ∈ m.reserved,tagR n = true) ∧ m.reserved.Nodup ∧ (∀ f ∈ m.fields,fieldOk mn en f ∧ f.tag ∉ m.reserved) ∧ (m.fields.map FlS.name).Nodup ∧ (m.fields.map FlS.tag).Nodup
theorem chkMb_ok (mn en : List ByteArray) (m : MsS) : chkMb mn en m = 0 ↔ msgOk mn en m := by
 unfold chkMb msgOk
 cases h : bigM m
 ·rw [if_neg (by decide),orE_ok,chkRes_ok,chkFs_ok];simp only [List.not_mem_nil,not_false_eq_true,and_true,true_and]
  constructor
  ·rintro ⟨⟨h1,h2⟩,h3,h4,h5⟩; exact ⟨h1,h2,h3,h4,h5⟩
  ·rintro ⟨h1,h2,h3,h4,h5⟩; exact ⟨⟨h1,h2⟩,h3,h4,h5⟩
 ·rw [if_pos rfl]; constructor
  ·intro e; omega
  ·rintro ⟨e,_⟩; cases e
theorem chkMs_ok (mn en : List ByteArray) : ∀ (l : List MsS) (a : List ByteArray),chkMs mn en a l = 0 ↔ (∀ m ∈ l,nameB m.name = true ∧ m.name ∉ a ∧ msgOk mn en m) ∧ (l.map MsS.name).Nodup
 | [],a => by simp [chkMs]
 | m :: l,a => by
  unfold chkMs;simp only [List.mem_cons,forall_eq_or_imp,List.map_cons,List.nodup_cons,List.mem_map,not_exists,not_and]
  by_cases h1 : freshB m.name a = true
  ·rw [if_neg (by rw [h1]; decide),orE_ok,chkMs_ok mn en l,chkMb_ok];rw [freshB_iff] at h1;simp only [List.mem_append,List.mem_singleton,not_or]
   constructor
   ·rintro ⟨g0,g1,g2⟩;exact ⟨⟨⟨h1.1,h1.2,g0⟩,fun x hx => ⟨(g1 x hx).1,(g1 x hx).2.1.1,(g1 x hx).2.2⟩⟩,fun x hx => (g1 x hx).2.1.2,g2⟩
   ·rintro ⟨⟨⟨_,_,g0⟩,g1⟩,g2,g3⟩;exact ⟨g0,fun x hx => ⟨(g1 x hx).1,⟨(g1 x hx).2.1,g2 x hx⟩,(g1 x hx).2.2⟩,g3⟩
  ·rw [if_pos (by simpa using h1)]
   constructor
   ·intro e; omega
   ·rintro ⟨⟨⟨g1,g2,_⟩,_⟩,_⟩; exact absurd (freshB_iff.2 ⟨g1,g2⟩) h1
theorem chkEs_ok : ∀ (l : List EnS) (a : List ByteArray),chkEs a l = 0 ↔ (∀ e ∈ l,nameB e.name = true ∧ e.name ∉ a ∧ chkEb e = 0) ∧ (l.map EnS.name).Nodup
 | [],a => by simp [chkEs]
 | m :: l,a => by
  unfold chkEs;simp only [List.mem_cons,forall_eq_or_imp,List.map_cons,List.nodup_cons,List.mem_map,not_exists,not_and]
  by_cases h1 : freshB m.name a = true
  ·rw [if_neg (by rw [h1]; decide),orE_ok,chkEs_ok l];rw [freshB_iff] at h1;simp only [List.mem_append,List.mem_singleton,not_or]
   constructor
   ·rintro ⟨g0,g1,g2⟩;exact ⟨⟨⟨h1.1,h1.2,g0⟩,fun x hx => ⟨(g1 x hx).1,(g1 x hx).2.1.1,(g1 x hx).2.2⟩⟩,fun x hx => (g1 x hx).2.1.2,g2⟩
   ·rintro ⟨⟨⟨_,_,g0⟩,g1⟩,g2,g3⟩;exact ⟨g0,fun x hx => ⟨(g1 x hx).1,⟨(g1 x hx).2.1,g2 x hx⟩,(g1 x hx).2.2⟩,g3⟩
  ·rw [if_pos (by simpa using h1)]
   constructor
   ·intro e; omega
   ·rintro ⟨⟨⟨g1,g2,_⟩,_⟩,_⟩; exact absurd (freshB_iff.2 ⟨g1,g2⟩) h1
theorem chkTs_ok (mn : List ByteArray) : ∀ (l : List MtS) (a : List ByteArray),chkTs mn a l = 0 ↔ (∀ e ∈ l,nameB e.name = true ∧ e.name ∉ a ∧ e.inn ∈ mn ∧ e.out ∈ mn) ∧ (l.map MtS.name).Nodup
 | [],a => by simp [chkTs]
 | m :: l,a => by
  unfold chkTs;simp only [List.mem_cons,forall_eq_or_imp,List.map_cons,List.nodup_cons,List.mem_map,not_exists,not_and]
  by_cases h1 : freshB m.name a = true
  ·rw [if_neg (by rw [h1]; decide)]
   by_cases h2 : (memB m.inn mn && memB m.out mn) = true
   ·rw [if_neg (by rw [h2]; decide),chkTs_ok mn l];rw [freshB_iff] at h1
    have h2' : m.inn ∈ mn ∧ m.out ∈ mn := by rw [Bool.and_eq_true,memB_iff,memB_iff] at h2; exact h2
    simp only [List.mem_append,List.mem_singleton,not_or]
    constructor
    ·rintro ⟨g1,g2⟩;exact ⟨⟨⟨h1.1,h1.2,h2'⟩,fun x hx => ⟨(g1 x hx).1,(g1 x hx).2.1.1,(g1 x hx).2.2⟩⟩,fun x hx => (g1 x hx).2.1.2,g2⟩
    ·rintro ⟨⟨_,g1⟩,g2,g3⟩;exact ⟨fun x hx => ⟨(g1 x hx).1,⟨(g1 x hx).2.1,g2 x hx⟩,(g1 x hx).2.2⟩,g3⟩
   ·rw [if_pos (by simpa using h2)]
    constructor
    ·intro e; omega
    ·rintro ⟨⟨⟨_,_,g1,g2⟩,_⟩,_⟩;exact absurd (by rw [Bool.and_eq_true,memB_iff,memB_iff]; exact ⟨g1,g2⟩) h2
  ·rw [if_pos (by simpa using h1)]
   constructor
   ·intro e; omega
   ·rintro ⟨⟨⟨g1,g2,_⟩,_⟩,_⟩; exact absurd (freshB_iff.2 ⟨g1,g2⟩) h1
structure OkS (s : ScS) : Prop where
 name : nameB s.name = true
 some : 0 < s.msgs.length
 big : bigS s = false
 msgs : ∀ m ∈ s.msgs,nameB m.name = true ∧ msgOk s.mn s.en m
 enums : ∀ e ∈ s.enums,nameB e.name = true ∧ chkEb e = 0
 meths : ∀ t ∈ s.methods,nameB t.name = true ∧ t.inn ∈ s.mn ∧ t.out ∈ s.mn
 names : s.mn.Nodup
 enms : s.en.Nodup
 apart : ∀ x ∈ s.en,x ∉ s.mn
 tns : s.tn.Nodup
theorem wholeA_ok (s : ScS) : wholeA s = 0 ↔ nameB s.name = true ∧ 0 < s.msgs.length ∧ bigS s = false := by
 unfold wholeA
 cases h1 : nameB s.name
 ·simp
 ·by_cases h2 : s.msgs.length = 0
  ·rw [if_neg (by decide),if_pos h2]; simp [h2]
  ·rw [if_neg (by decide),if_neg h2]
   cases h3 : bigS s
   ·simp; omega
   ·simp
theorem checkA_ok (s : ScS) : checkA s = 0 ↔ OkS s := by
 unfold checkA partsA;rw [orE_ok,orE_ok,orE_ok,wholeA_ok,chkMs_ok,chkEs_ok,chkTs_ok]
 constructor
 ·rintro ⟨⟨h1,h2,h3⟩,⟨⟨h4,h5⟩,h6,h7⟩,h8,h9⟩
  exact ⟨h1,h2,h3,fun m hm => ⟨(h4 m hm).1,(h4 m hm).2.2⟩,fun e he => ⟨(h6 e he).1,(h6 e he).2.2⟩,fun t ht => ⟨(h8 t ht).1,(h8 t ht).2.2⟩,h5,h7,
   fun x hx => by obtain ⟨e,he,rfl⟩ := List.mem_map.1 hx; exact (h6 e he).2.1,h9⟩
 ·rintro ⟨h1,h2,h3,h4,h5,h6,h7,h8,h9,h10⟩;exact ⟨⟨h1,h2,h3⟩,⟨⟨fun m hm => ⟨(h4 m hm).1,by simp,(h4 m hm).2⟩,h7⟩,fun e he => ⟨(h5 e he).1,h9 _ (List.mem_map_of_mem he),(h5 e he).2⟩,h8⟩,fun t ht => ⟨(h6 t ht).1,by simp,(h6 t ht).2⟩,h10⟩
end
section
def fldOf (fs : List FlS) (tag : Int) : Option FlS := fs.find? fun f => decide (f.tag = tag)
def msgOf (s : ScS) (nm : ByteArray) : Option MsS := s.msgs.find? fun m => decide (m.name = nm)
def zMs : MsS := ⟨⟨#[]⟩,[],[]⟩
theorem fldP {fs : List FlS} {t : Int} {f : FlS} (h : fldOf fs t = some f) : f.tag = t ∧ f ∈ fs := ⟨by simpa using List.find?_some h,List.mem_of_find?_eq_some h⟩
abbrev Pr : Type := ByteArray × ByteArray
def enmOf (s : ScS) (nm : ByteArray) : Option EnS := s.enums.find? fun e => decide (e.name = nm)
def mtOf (s : ScS) (nm : ByteArray) : Option MtS := s.methods.find? fun e => decide (e.name = nm)
def zEn : EnS := ⟨⟨#[]⟩,[]⟩
def inVs (v : NmS) (l : List NmS) : Bool := l.any fun x => decide (v.name = x.name ∧ v.n = x.n)
def fitsY (s t : ScS) (k1 : Int) (n1 : ByteArray) (k2 : Int) (n2 : ByteArray) : Bool :=
 if k1 = 1 ∧ k2 = 2 then true else if k1 ≠ k2 then false else if k1 ≠ 6 then true else
  (enmOf s n1).isSome && (enmOf t n2).isSome && ((enmOf s n1).getD zEn).values.all fun v => inVs v ((enmOf t n2).getD zEn).values
def atE (s t : ScS) (m n : MsS) (tag : Int) : Option (Option Pr) :=
 if tag ∈ m.reserved then (if tag ∈ n.reserved then some none else none)
 else match fldOf m.fields tag with
  | none => some none
  | some f => if tag ∈ n.reserved then some none else match fldOf n.fields tag with
   | none => none
   | some g => if f.label = g.label ∧ fitsY s t f.kind f.tname g.kind g.tname = true then some (if f.kind = 7 then some (f.tname,g.tname) else none) else none
def memP (p : Pr) (l : List Pr) : Bool := l.any fun q => decide (q.1 = p.1) && decide (q.2 = p.2)
theorem memP_iff {p : Pr} {l : List Pr} : memP p l = true ↔ p ∈ l := by
 simp only [memP,List.any_eq_true,Bool.and_eq_true,decide_eq_true_eq]
 constructor
 ·rintro ⟨q,hq,h1,h2⟩;have : q = p := Prod.ext h1 h2;exact this ▸ hq
 ·exact fun h => ⟨p,h,rfl,rfl⟩
def addP (l : List Pr) (p : Pr) : List Pr := if memP p l = true then l else l ++ [p]
def addO (l : List Pr) : Option Pr → List Pr
 | none => l
 | some p => addP l p
def rowE (s t : ScS) (m n : MsS) : Nat → Int → List Pr → List Pr × Option Int
 | 0,_,l => (l,none)
 | k + 1,tag,l => match atE s t m n tag with
  | none => (l,some tag)
  | some o => rowE s t m n k (tag + 1) (addO l o)
def msG (s : ScS) (nm : ByteArray) : MsS := (msgOf s nm).getD zMs
def loopE (s t : ScS) : Nat → Nat → List Pr → ByteArray × Int × Bool
 | 0,_,_ => (⟨#[]⟩,0,true)
 | k + 1,i,l => match l[i]? with
  | none => (⟨#[]⟩,0,true)
  | some p => match rowE s t (msG s p.1) (msG t p.2) 500 1 l with
   | (l',none) => loopE s t k (i + 1) l'
   | (_,some tag) => (p.1,tag,false)
def startE (t : ScS) : List MtS → List Pr → List Pr × Option ByteArray
 | [],l => (l,none)
 | m :: ms,l => match mtOf t m.name with
  | none => (l,some m.name)
  | some k => startE t ms (addP (addP l (m.inn,k.inn)) (m.out,k.out))
def evolA (s t : ScS) : ByteArray × Int × Bool :=
 if checkA s = 0 ∧ checkA t = 0 then match startE t s.methods [] with
  | (_,some nm) => (nm,0,false)
  | (l,none) => loopE s t 300 0 l
 else (⟨#[]⟩,0,false)
def OkAt (s t : ScS) (R : Pr → Prop) (p : Pr) (tag : Int) : Prop := ∃ o,atE s t (msG s p.1) (msG t p.2) tag = some o ∧ ∀ q,o = some q → R q
theorem addP_sub {l : List Pr} {p : Pr} : ∀ x ∈ l,x ∈ addP l p := fun x hx => by
 unfold addP; split
 ·exact hx
 ·exact List.mem_append.2 (.inl hx)
theorem addP_mem {l : List Pr} {p : Pr} : p ∈ addP l p := by
 unfold addP; split
 ·rename_i h; exact memP_iff.1 h
 ·simp
theorem addP_of {l : List Pr} {p : Pr} {R : Pr → Prop} (h : ∀ x ∈ l,R x) (hp : R p) : ∀ x ∈ addP l p,R x := fun x hx => by
 unfold addP at hx; split at hx
 ·exact h x hx
 ·rcases List.mem_append.1 hx with hx | hx
  ·exact h x hx
  ·rw [List.mem_singleton.1 hx]; exact hp
theorem addP_nodup {l : List Pr} {p : Pr} (h : l.Nodup) : (addP l p).Nodup := by
 unfold addP; split
 ·exact h
 ·rename_i hp
  rw [List.nodup_append];refine ⟨h,by simp,fun a ha b hb => ?_⟩;rw [List.mem_singleton.1 hb];exact fun e => hp (memP_iff.2 (e ▸ ha))
theorem addP_pre {l : List Pr} {p : Pr} : ∃ r,addP l p = l ++ r := by
 unfold addP; split
 ·exact ⟨[],by simp⟩
 ·exact ⟨[p],rfl⟩
theorem addO_of {l : List Pr} {o : Option Pr} {R : Pr → Prop} (h : ∀ x ∈ l,R x) (hp : ∀ q,o = some q → R q) : ∀ x ∈ addO l o,R x := by
 cases o with
 | none => exact h
 | some p => exact addP_of h (hp p rfl)
theorem addO_nodup {l : List Pr} {o : Option Pr} (h : l.Nodup) : (addO l o).Nodup := by
 cases o with
 | none => exact h
 | some p => exact addP_nodup (p := p) h
theorem addO_pre {l : List Pr} {o : Option Pr} : ∃ r,addO l o = l ++ r := by
 cases o with
 | none => exact ⟨[],by simp [addO]⟩
 | some p => exact addP_pre (l := l) (p := p)
theorem rowE_in {s t : ScS} {R : Pr → Prop} {p : Pr} : ∀ (k : Nat) (tag : Int) (l : List Pr),(∀ x ∈ l,R x) → (∀ j : Int,tag ≤ j → j < tag + k → OkAt s t R p j) → ∃ l',rowE s t (msG s p.1) (msG t p.2) k tag l = (l',none) ∧ ∀ x ∈ l',R x
 | 0,tag,l,h,_ => ⟨l,rfl,h⟩
 | k + 1,tag,l,h,hok => by
  obtain ⟨o,ho,hq⟩ := hok tag (Int.le_refl _) (by omega);unfold rowE;rw [ho];exact rowE_in k (tag + 1) (addO l o) (addO_of h hq) fun j h1 h2 => hok j (by omega) (by omega)
theorem rowE_bad {s t : ScS} {R : Pr → Prop} {p : Pr} {tag0 : Int} : ∀ (k : Nat) (tag : Int) (l : List Pr),(∀ j : Int,tag ≤ j → j < tag0 → OkAt s t R p j) → atE s t (msG s p.1) (msG t p.2) tag0 = none → tag ≤ tag0 → tag0 < tag + k → (rowE s t (msG s p.1) (msG t p.2) k tag l).2 = some tag0
 | 0,tag,l,_,_,_,h => by omega
 | k + 1,tag,l,hok,hn,h1,h2 => by
  unfold rowE
  by_cases he : tag = tag0
  ·subst he;rw [hn]
  ·obtain ⟨o,ho, -⟩ := hok tag (Int.le_refl _) (by omega);rw [ho];exact rowE_bad k (tag + 1) _ (fun j g1 g2 => hok j (by omega) g2) hn (by omega) (by omega)
def PrIn (s t : ScS) (l : List Pr) : Prop := l.Nodup ∧ ∀ p ∈ l,p.1 ∈ s.mn ∧ p.2 ∈ t.mn
theorem nodup_lenE {α : Type} : ∀ (a b : List α),a.Nodup → (∀ x ∈ a,x ∈ b) → a.length ≤ b.length
 | [],b,_,_ => Nat.zero_le _
 | x :: a,b,hn,h => by
  rw [List.nodup_cons] at hn;obtain ⟨b1,b2,rfl⟩ := List.append_of_mem (h x (List.mem_cons_self ..))
  have ih := nodup_lenE a (b1 ++ b2) hn.2 fun y hy => by
   have hxy : y ≠ x := fun e => hn.1 (e ▸ hy)
   have := h y (List.mem_cons_of_mem _ hy);simp only [List.mem_append,List.mem_cons] at this ⊢
   rcases this with h1 | h1 | h1
   ·exact .inl h1
   ·exact absurd h1 hxy
   ·exact .inr h1
  simp only [List.length_append,List.length_cons] at ih ⊢
  omega
def prodP (a b : List ByteArray) : List Pr := a.flatMap fun x => b.map fun y => (x,y)
theorem prodP_len : ∀ (a b : List ByteArray),(prodP a b).length = a.length * b.length
 | [],b => by simp [prodP]
 | x :: a,b => by
  have := prodP_len a b;simp only [prodP,List.flatMap_cons,List.length_append,List.length_map,List.length_cons] at this ⊢;rw [this,Nat.add_mul]; omega
theorem PrIn.len {s t : ScS} {l : List Pr} (h : PrIn s t l) (h1 : s.msgs.length ≤ 15) (h2 : t.msgs.length ≤ 15) : l.length ≤ 225 := by
 have h3 := nodup_lenE l (prodP s.mn t.mn) h.1 fun p hp => by
  obtain ⟨a,b⟩ := p;obtain ⟨q1,q2⟩ := h.2 _ hp;simp only [prodP,List.mem_flatMap,List.mem_map];exact ⟨a,q1,b,q2,rfl⟩
 rw [prodP_len] at h3
 have e1 : s.mn.length = s.msgs.length := by simp [ScS.mn]
 have e2 : t.mn.length = t.msgs.length := by simp [ScS.mn]
 rw [e1,e2] at h3;have : s.msgs.length * t.msgs.length ≤ 15 * 15 := Nat.mul_le_mul h1 h2
 omega
end
section
open Go.ChangeShapes Go.WideShapes Go.ChangeAt Go.RowKit
theorem own_below {w w1 : World} {base : Nat} {e : TypeId} {s : Nat} {v : Value} {n : Nat} {xs : List Value} (h : w.ownsRow base e s v n xs) (hb : Below w.heap.size w w1) : w1.ownsRow base e s v n xs := by
 refine ⟨h.1,?_⟩
 rcases h.2 with h | ⟨g,cap,cur,h1,h2,h3,h4⟩
 ·exact .inl h
 ·exact .inr ⟨g,cap,cur,h1,h2,(hb.block g (Array.getElem?_eq_some_iff.1 h3).1).trans h3,h4⟩
theorem below_drewN {B : Nat} {w wr : World} (n : Nat) (h : Below B w wr) : Below B w (wr.drewN n) := h.trans ⟨rfl,rfl,rfl,Nat.le_refl _,fun _ _ => rfl⟩
structure Kp (S : Nat → Prop) (w w' : World) : Prop where
 os : w'.os = w.os
 tape : w'.tape = w.tape
 output : w'.output = w.output
 size : w.heap.size ≤ w'.heap.size
 block : ∀ k,k < w.heap.size → ¬ S k → w'.heap[k]? = w.heap[k]?
theorem Kp.refl (S : Nat → Prop) (w : World) : Kp S w w := ⟨rfl,rfl,rfl,Nat.le_refl _,fun _ _ _ => rfl⟩
theorem Kp.trans {S : Nat → Prop} {a b c : World} (h : Kp S a b) (k : Kp S b c) : Kp S a c :=
 ⟨k.os.trans h.os,k.tape.trans h.tape,k.output.trans h.output,Nat.le_trans h.size k.size,fun i hi hs => (k.block i (Nat.lt_of_lt_of_le hi h.size) hs).trans (h.block i hi hs)⟩
theorem Kp.trans2 {S S' : Nat → Prop} {a b c : World} (h : Kp S a b) (k : Kp S' b c) (hs : ∀ i,i < a.heap.size → S' i → S i) : Kp S a c :=
 ⟨k.os.trans h.os,k.tape.trans h.tape,k.output.trans h.output,Nat.le_trans h.size k.size,fun i hi hn => (k.block i (Nat.lt_of_lt_of_le hi h.size) (fun e => hn (hs i hi e))).trans (h.block i hi hn)⟩
theorem Kp.ofBelow {S : Nat → Prop} {w w' : World} (h : Below w.heap.size w w') : Kp S w w' := ⟨h.os,h.tape,h.output,h.size,fun k hk _ => h.block k hk⟩
theorem Kp.toBelow {S : Nat → Prop} {w w' : World} {B : Nat} (h : Kp S w w') (hB : B ≤ w.heap.size) (hs : ∀ k,S k → B ≤ k) : Below B w w' :=
 ⟨h.os,h.tape,h.output,h.size,fun k hk => h.block k (by omega) (fun e => by have := hs k e; omega)⟩
theorem Kp.alloc {S : Nat → Prop} {a w : World} (h : Kp S a w) (o : Obj) : Kp S a (w.alloc o) :=
 h.trans ⟨rfl,rfl,rfl,by simp,fun k hk _ => Below.heap_alloc _ _ _ hk⟩
theorem Kp.setCell {S : Nat → Prop} {a w : World} (h : Kp S a w) {p : Addr} (hp : p.block < a.heap.size → S p.block) (u : Value) : Kp S a (w.setCell p u) :=
 ⟨h.os,h.tape,h.output,by simp [World.setCell]; exact h.size,fun k hk hs => (Below.heap_setCell _ _ _ _ (fun e => hs (by subst e; exact hp hk))).trans (h.block k hk hs)⟩
theorem Kp.grown {S : Nat → Prop} {a w w' : World} {row : Option Nat} (h : Kp S a w) (hg : w.grownBy w' row) (hr : ∀ k,row = some k → k < a.heap.size → S k) : Kp S a w' :=
 ⟨hg.os.trans h.os,hg.tape.trans h.tape,hg.output.trans h.output,Nat.le_trans h.size hg.size,fun k hk hs => (hg.block k (Nat.lt_of_lt_of_le hk h.size) (fun e => hs (hr k e.symm hk))).trans (h.block k hk hs)⟩
theorem Kp.below {S : Nat → Prop} {a w w' : World} (h : Kp S a w) (hb : Below w.heap.size w w') : Kp S a w' := h.trans (Kp.ofBelow hb)
theorem Kp.cell {S : Nat → Prop} {w w' : World} (h : Kp S w w') {p : Addr} {u : Value} (hc : w.cell? p = some u) (hs : ¬ S p.block) : w'.cell? p = some u :=
 (World.cell?_of_block (w := w) (h.block p.block (World.block_lt_of_cell? _ _ hc) hs)).trans hc
theorem own_kp {S : Nat → Prop} {w w1 : World} {base : Nat} {e : TypeId} {s : Nat} {v : Value} {n : Nat} {xs : List Value} (h : w.ownsRow base e s v n xs) (hb : Kp S w w1) (hs : ∀ k,base ≤ k → ¬ S k) : w1.ownsRow base e s v n xs := by
 refine ⟨h.1,?_⟩
 rcases h.2 with h | ⟨g,cap,cur,h1,h2,h3,h4⟩
 ·exact .inl h
 ·exact .inr ⟨g,cap,cur,h1,h2,(hb.block g (Array.getElem?_eq_some_iff.1 h3).1 (hs g h2)).trans h3,h4⟩
theorem own_base {w : World} {base base' : Nat} {e : TypeId} {s : Nat} {v : Value} {n : Nat} {xs : List Value} (h : w.ownsRow base e s v n xs) (hb : base' ≤ base) : w.ownsRow base' e s v n xs := by
 refine ⟨h.1,?_⟩
 rcases h.2 with h | ⟨g,cap,cur,h1,h2,h3⟩
 ·exact .inl h
 ·exact .inr ⟨g,cap,cur,h1,by omega,h3⟩
theorem own_kpV {S : Nat → Prop} {w w1 : World} {base : Nat} {e : TypeId} {s : Nat} {v : Value} {n : Nat} {xs : List Value} (h : w.ownsRow base e s v n xs) (hb : Kp S w w1) (hs : ∀ k,v.ownBlock = some k → ¬ S k) : w1.ownsRow base e s v n xs := by
 refine ⟨h.1,?_⟩
 rcases h.2 with h | ⟨g,cap,cur,h1,h2,h3,h4⟩
 ·exact .inl h
 ·refine .inr ⟨g,cap,cur,h1,h2,(hb.block g (Array.getElem?_eq_some_iff.1 h3).1 (hs g ?_)).trans h3,h4⟩;rw [h1]; rfl
theorem block_set {w : World} {g : Nat} {cur : Array Value} {e : TypeId} {fz : Nat × Nat} (h : w.heap[g]? = some (.cells cur e fz)) (i : Nat) (u : Value) : (w.setCell ⟨g,i,none⟩ u).heap[g]? = some (.cells (cur.setIfInBounds i u) e fz) := by
 simp [World.setCell,Array.getElem?_modify,h]
theorem block_cell {w : World} {g : Nat} {cur : Array Value} {e : TypeId} {fz : Nat × Nat} (h : w.heap[g]? = some (.cells cur e fz)) (i : Nat) : w.cell? ⟨g,i,none⟩ = cur[i]? := by
 simp [World.cell?,h]
theorem block_froz {w : World} {g : Nat} {cur : Array Value} {e : TypeId} (h : w.heap[g]? = some (.cells cur e (0,0))) (i : Nat) : w.frozen? ⟨g,i,none⟩ = false := by
 simp [World.frozen?,h]
theorem own_form {w : World} {B : Nat} {e : TypeId} {s : Nat} {v : Value} {n : Nat} {xs : List Value} (h : w.ownsRow B e s v n xs) : ∃ a c,v = .slice a n c := by
 rcases h.2 with ⟨rfl,rfl⟩ | ⟨q,cap,cur,rfl,_⟩
 ·exact ⟨none,0,rfl⟩
 ·exact ⟨_,_,rfl⟩
theorem key_any (s : ByteArray) (w : World) :
  Calls Try.prog 57 #[.string s] w fun e w' => e = .returned (.bool (keyB s)) ∧ w' = w := by
 go_enter Try.func57,Try.ntmps57
 go_wp2
 all_goals
  go_ret;refine ⟨ret_bool ?_,rfl⟩
  first | (simp [keyB, *]; done) | simp_all
theorem count_any (s : ByteArray) (w : World) (hs : s.size ≤ 140737488351232) :
  Calls Try.prog 56 #[.string s] w fun e w' => e = .returned (.int .i64 (countN s.data.toList)) ∧ Below w.heap.size w w' := by
 go_enter Try.func56,Try.ntmps56
 go_wp2
 go_loopw [3] (fun n wr => ∃ (pos : Nat) (acc : List Nat),wr = w.iter s pos ∧ n = .int .i64 acc.length ∧ acc.length ≤ pos ∧ Hid (Gone s.data.toList pos acc)) (fun _ wr => s.size - wr.iterPos w.heap.size)
 case atStart => exact ⟨0,[],rfl,rfl,by simp,Gone.start _⟩
 case round =>
  obtain ⟨pos,acc,rfl,rfl,hle,H⟩ := hrel
  by_cases hp : pos < s.size
  ·obtain ⟨c,k,hd,h1,h2⟩ := dec_at s pos hp
   have hnx : ∀ ty,(Instr.next (.pointer (some ⟨w.heap.size,0,none⟩)) true ty).run Try.prog (w.iter s pos) = .ok (.tuple #[.bool true,.int .i64 (pos : Int),.int .i32 (c : Int)]) (w.iter s (pos + k)) := by
    intro ty;have := run_next_any (P := Try.prog) w s pos ty hp;rw [hd] at this;exact this
   have H1 : Hid (standsB (s.data.toList.drop pos) c = true → nxL (s.data.toList.drop pos) = some (c,k)) := h1;have H2 : Hid (standsB (s.data.toList.drop pos) c = false → nxL (s.data.toList.drop pos) = none) := h2;clear hd h1 h2;go_wp2_with fail;refine (stands_any s _ _ _ hs (by omega) (by omega)).mono ?_;rintro e w' ⟨rfl,rfl⟩;rw [Int.toNat_natCast]
   cases hst : standsB (s.data.toList.drop pos) c with
   | false =>
    go_wp2
    go_ret;exact ⟨ret_int (by unfold countN; rw [H.out.bad (by rw [len_data]; exact hp) (H2.out hst)]; rfl),below_iter _ _ _⟩
   | true =>
    have HN := H1.out hst;have hk : 1 ≤ k := (nxL_some _ _ _ HN).2.2.2.1;have HG : Hid (Gone s.data.toList (pos + k) (acc ++ [c])) := H.out.step HN;clear HN
    go_wp2
    go_roundw
    case rel => exact ⟨pos + k,acc ++ [c],rfl,by simp,by simp; omega,HG⟩
    case measure => simp; omega
  ·have hnx : ∀ ty,(Instr.next (.pointer (some ⟨w.heap.size,0,none⟩)) true ty).run Try.prog (w.iter s pos) = _ := fun ty => run_next_end w s pos ty hp
   go_wp2
   go_ret;exact ⟨ret_int (by unfold countN; rw [H.out.done (by rw [len_data]; omega)]; rfl),below_iter _ _ _⟩
theorem nameB_off (s : ByteArray) {pos c k : Nat} {acc : List Nat} (h : Gone s.data.toList pos acc) (hn : nxL (s.data.toList.drop pos) = some (c,k)) (hb : (letB c || (!acc.isEmpty && digB c)) = false) : nameB s = false := by
 unfold nameB
 cases e : runesOf s.data.toList with
 | none => simp [countN,e]
 | some rs =>
  obtain ⟨rest,rfl⟩ := (h.step hn).len e
  have : okFrom true (acc ++ [c] ++ rest) = false := by
   rw [List.append_assoc,okFrom_append];simp only [List.singleton_append,okFrom,Bool.true_and];rw [hb]; simp
  simp only [Option.getD_some,this,Bool.and_false]
theorem name_any (s : ByteArray) (w : World) (hs : s.size ≤ 140737488351232) :
  Calls Try.prog 36 #[.string s] w fun e w' => e = .returned (.bool (nameB s)) ∧ Below w.heap.size w w' := by
 have hcl := countN_le s.data.toList;rw [len_data] at hcl
 by_cases hc1 : countN s.data.toList < 1
 ·have HX : Hid (false = nameB s) := by show false = _; unfold nameB; simp; omega
  go_enter Try.func36,Try.ntmps36
  go_wp2_with fail;refine (count_any s _ hs).mono ?_;rintro e w1 ⟨rfl,hw1⟩;generalize countN s.data.toList = n at *
  have hn1 : decide ((n : Int) < 1) = true := by simp; omega
  go_wp2_with fail;go_ret;exact ⟨ret_bool HX.out,hw1⟩
 ·by_cases hc2 : 20 < countN s.data.toList
  ·have HX : Hid (false = nameB s) := by show false = _; unfold nameB; simp; omega
   go_enter Try.func36,Try.ntmps36
   go_wp2_with fail;refine (count_any s _ hs).mono ?_;rintro e w1 ⟨rfl,hw1⟩;generalize countN s.data.toList = n at *
   have hn1 : decide ((n : Int) < 1) = false := by simp; omega
   have hn2 : decide (20 < (n : Int)) = true := by simp; omega
   go_wp2_with fail;go_ret;exact ⟨ret_bool HX.out,hw1⟩
  ·cases hk : keyB s with
   | true =>
    have HX : Hid (false = nameB s) := by show false = _; unfold nameB; simp [hk]
    have HK : Hid (keyB s = true) := hk;clear hk
    go_enter Try.func36,Try.ntmps36
    go_wp2_with fail;refine (count_any s _ hs).mono ?_;rintro e w1 ⟨rfl,hw1⟩;generalize countN s.data.toList = n at *
    have hn1 : decide ((n : Int) < 1) = false := by simp; omega
    have hn2 : decide (20 < (n : Int)) = false := by simp; omega
    go_wp2_with fail;refine (key_any s _).mono ?_;rintro e w2 ⟨rfl,rfl⟩;rw [HK.out];go_wp2_with fail;go_ret;exact ⟨ret_bool HX.out,hw1⟩
   | false =>
    obtain ⟨rs,hrs⟩ : ∃ rs,runesOf s.data.toList = some rs := by
     cases e : runesOf s.data.toList with
     | none => simp [countN,e] at hc1
     | some rs => exact ⟨rs,rfl⟩
    have HX : Hid (nameB s = okFrom true rs) := by
     show nameB s = _
     unfold nameB;rw [hk,hrs];simp only [Bool.not_false,Bool.and_true,Option.getD_some];rw [decide_eq_true (by omega),Bool.true_and]
    have HR : Hid (runesOf s.data.toList = some rs) := hrs;have HK : Hid (keyB s = false) := hk;clear hk hrs
    go_enter Try.func36,Try.ntmps36
    go_wp2_with fail;refine (count_any s _ hs).mono ?_;rintro e w1 ⟨rfl,hw1⟩;generalize countN s.data.toList = n at *
    have hn1 : decide ((n : Int) < 1) = false := by simp; omega
    have hn2 : decide (20 < (n : Int)) = false := by simp; omega
    go_wp2_with fail;refine (key_any s _).mono ?_;rintro e w2 ⟨rfl,rfl⟩;rw [HK.out];go_wp2_with fail
    go_loopw [] (fun wr => ∃ (pos : Nat) (acc : List Nat),wr = w2.iter s pos ∧ Hid (Gone s.data.toList pos acc) ∧ Hid (okFrom true acc = true) ∧ Hid (acc.isEmpty = decide (pos = 0))) (fun wr => s.size - wr.iterPos w2.heap.size)
    case atStart => exact ⟨0,[],rfl,Gone.start _,rfl,rfl⟩
    case round =>
     obtain ⟨pos,acc,rfl,H,HO,HE⟩ := hrel
     by_cases hp : pos < s.size
     ·obtain ⟨c,k,hd,h1,h2⟩ := dec_at s pos hp;obtain ⟨x,hx⟩ := nx_of_gone H.out (by rw [len_data]; exact hp) HR.out;have HN : Hid (nxL (s.data.toList.drop pos) = some (c,k)) := dec_of_nx h1 h2 hx
      have hnx : ∀ ty,(Instr.next (.pointer (some ⟨w2.heap.size,0,none⟩)) true ty).run Try.prog (w2.iter s pos) = .ok (.tuple #[.bool true,.int .i64 (pos : Int),.int .i32 (c : Int)]) (w2.iter s (pos + k)) := by
       intro ty;have := run_next_any (P := Try.prog) w2 s pos ty hp;rw [hd] at this;exact this
      have hk : 1 ≤ k := (nxL_some _ _ _ HN.out).2.2.2.1;have HG : Hid (Gone s.data.toList (pos + k) (acc ++ [c])) := H.out.step HN.out
      have HE2 : Hid ((acc ++ [c]).isEmpty = decide (pos + k = 0)) := by show _ = _; rw [decide_eq_false (by omega)]; cases acc <;> rfl
      clear hd h1 h2 hx;go_wp2_with fail;refine (letter_any _ _).mono ?_;rintro e w3 ⟨rfl,rfl⟩
      cases hl : letB c with
      | true =>
       have HO2 : Hid (okFrom true (acc ++ [c]) = true) := by show _ = _; rw [okFrom_append,HO.out]; simp [okFrom,hl]
       go_wp2_with fail
       go_roundw
       case rel => exact ⟨pos + k,acc ++ [c],rfl,HG,HO2,HE2⟩
       case measure => simp; omega
      | false =>
       by_cases hp0 : pos = 0
       ·have HF : Hid (false = nameB s) := (nameB_off s H.out HN.out (by rw [hl,HE.out]; simp [hp0])).symm
        have hpd : ((pos : Int) == 0) = true := by simp [hp0]
        clear hp0;go_wp2_with fail;go_ret;exact ⟨ret_bool HF.out,hw1.trans ((below_iter _ _ _).mono hw1.size)⟩
       ·have hpd : ((pos : Int) == 0) = false := by simp [hp0]
        go_wp2_with fail;refine (digit_any _ _).mono ?_;rintro e w4 ⟨rfl,rfl⟩
        cases hdg : digB c with
        | true =>
         have HO2 : Hid (okFrom true (acc ++ [c]) = true) := by show _ = _; rw [okFrom_append,HO.out,HE.out]; simp [okFrom,hdg,hp0]
         go_wp2_with fail
         go_roundw
         case rel => exact ⟨pos + k,acc ++ [c],rfl,HG,HO2,HE2⟩
         case measure => simp; omega
        | false =>
         have HF : Hid (false = nameB s) := (nameB_off s H.out HN.out (by rw [hl,hdg]; simp)).symm;go_wp2_with fail;go_ret;exact ⟨ret_bool HF.out,hw1.trans ((below_iter _ _ _).mono hw1.size)⟩
     ·have hnx : ∀ ty,(Instr.next (.pointer (some ⟨w2.heap.size,0,none⟩)) true ty).run Try.prog (w2.iter s pos) = _ := fun ty => run_next_end w2 s pos ty hp
      have HF : Hid (true = nameB s) := by
       show true = _
       have := H.out.done (by rw [len_data]; omega);rw [HR.out] at this
       simp at this
       rw [HX.out,this,HO.out]
      go_wp2
      go_ret;exact ⟨ret_bool HF.out,hw1.trans ((below_iter _ _ _).mono hw1.size)⟩
end
section
open Go.ChangeShapes Go.WideShapes Go.ChangeAt Go.RowKit Go.Maps
def SetK (k : TypeId) (w : World) (b n : Nat) (L : List Value) : Prop :=
 ∃ D : DataW Unit,w.ownsMap Try.prog k (unitElem (H := Unit)) b n D ∧ ∀ v kl,keyOf Try.prog k v = some kl → (Maps.has D kl = true ↔ v ∈ L)
theorem SetK.lt {k : TypeId} {w : World} {b n : Nat} {L : List Value} (h : SetK k w b n L) : b < w.heap.size := by obtain ⟨D,h1,_⟩ := h; exact h1.lt
theorem SetK.made (k : TypeId) (w : World) : SetK k (w.alloc (.map #[] 0)) w.heap.size 0 [] :=
 ⟨.map [],World.ownsMap_made w Try.prog k unitElem,fun v kl _ => by simp [Maps.has]⟩
theorem SetK.kp {k : TypeId} {S : Nat → Prop} {w w1 : World} {b n : Nat} {L : List Value} (h : SetK k w b n L) (hk : Kp S w w1) (hs : ¬ S b) : SetK k w1 b n L := by
 have hlt := h.lt;obtain ⟨D,⟨es,clock,hb,r⟩,h2⟩ := h;exact ⟨D,⟨es,clock,(hk.block b hlt hs).trans hb,r⟩,h2⟩
theorem SetK.below {k : TypeId} {w w1 : World} {b n : Nat} {L : List Value} (h : SetK k w b n L) (hk : Below w.heap.size w w1) : SetK k w1 b n L := h.kp (S := fun _ => False) (Kp.ofBelow hk) (fun e => e)
theorem SetK.put {k : TypeId} (K : Keyed Try.prog k) {w : World} {b n : Nat} {L : List Value} {D : DataW Unit} (hD : Maps.IsMap D) (h2 : ∀ v kl,keyOf Try.prog k v = some kl → (Maps.has D kl = true ↔ v ∈ L)) {v : Value} {kl : Lit} (hv : keyOf Try.prog k v = some kl) {u : DataW Unit}
  (h1 : w.ownsMap Try.prog k (unitElem (H := Unit)) b n (D.put kl u)) : SetK k w b n (L ++ [v]) := by
 refine ⟨_,h1,fun v' kl' hv' => ?_⟩
 by_cases e : kl' = kl
 ·subst e;have : v' = v := K.inj hv' hv;subst this;rw [Maps.has_put_same hD (K.key hv)]
  simp
 ·rw [Maps.has_put_other e,h2 v' kl' hv'];simp only [List.mem_append,List.mem_singleton]
  constructor
  ·exact .inl
  ·rintro (h | rfl)
   ·exact h
   ·rw [hv] at hv'; cases hv'; exact absurd rfl e
theorem SetK.ne {k : TypeId} {w : World} {b n : Nat} {L : List Value} (h : SetK k w b n L) {g : Nat} {p : Addr} {u : Value} (hc : w.cell? p = some u) (hg : p.block = g) : g ≠ b := by
 rintro rfl;obtain ⟨D,⟨es,clock,hb,_⟩,_⟩ := h;obtain ⟨q,off,sp⟩ := p;simp only at hg;subst hg
 simp [World.cell?,hb] at hc
theorem zeroU (w : World) : (zeroValue 79).run Try.prog w = .ok (.agg #[]) w := by kernel_rfl
def SetS (w : World) (b n : Nat) (L : List ByteArray) : Prop := SetK 9 w b n (L.map Value.string)
def SetI (w : World) (b n : Nat) (L : List Int) : Prop := SetK 3 w b n (L.map (Value.int .i64))
def tyV (p : Int × ByteArray) : Value := .agg #[.int .i64 p.1,.string p.2]
def SetT (w : World) (b n : Nat) (L : List (Int × ByteArray)) : Prop := SetK 36 w b n (L.map tyV)
theorem lawS : Keyed Try.prog 9 := string_keyed Try.underlying9
theorem lawI : Keyed Try.prog 3 := int_keyed Try.underlying3
theorem laidOutP : laidOutB Try.prog = true := by kernel_rfl
theorem lawT : Keyed Try.prog 36 := Keyed.of_law (deep_law_laid laidOutP (m := 3) (by omega) (of_decide_eq_true (by kernel_rfl)) (by kernel_rfl) (by kernel_rfl))
def I64 (n : Int) : Prop := -9223372036854775808 ≤ n ∧ n ≤ 9223372036854775807
theorem wf64 {n : Int} (h : I64 n) : (Lit.int .i64 n).wf = true := WalkArith.wf_i64 (by obtain ⟨h1,h2⟩ := h; omega)
theorem key_str {s : ByteArray} (h : s.size ≤ 140737488351232) : keyOf Try.prog 9 (.string s) = some (.string s.data.toList) :=
 WideMaps.keyOf_string_mk (P := Try.prog) (k := 9) Try.underlying9 (s := s) (by unfold maxLen; omega)
theorem key_int {n : Int} (h : I64 n) : keyOf Try.prog 3 (.int .i64 n) = some (.int .i64 n) :=
 keyOf_int_mk (P := Try.prog) (k := 3) Try.underlying3 (wf64 h)
theorem keyTypeT : Try.prog.keyType 36 = true := by kernel_rfl
theorem cellsT : Try.prog.cellsOf 36 = 2 := by kernel_rfl
theorem cellsI : Try.prog.cellsOf 3 = 1 := by kernel_rfl
theorem cellsS : Try.prog.cellsOf 9 = 1 := by kernel_rfl
theorem lits_int {m : Nat} {k : Int} (hk : I64 k) : Try.prog.keyLits (m + 1) 3 [.int .i64 k] = some [.int .i64 k] := by
 simp [Program.keyLits,Try.underlying3,wf64 hk]
theorem lits_str {m : Nat} {s : ByteArray} (hs : s.size ≤ 140737488351232) : Try.prog.keyLits (m + 1) 9 [.string s] = some [.string s.data.toList] := by
 have : s.size ≤ maxLen := by unfold maxLen; omega
 simp [Program.keyLits,Try.underlying9,this]
theorem lits_ty {m : Nat} {k : Int} {s : ByteArray} (hk : I64 k) (hs : s.size ≤ 140737488351232) : Try.prog.keyLits (m + 2) 36 [.int .i64 k,.string s] = some [.int .i64 k,.string s.data.toList] := by
 unfold Program.keyLits;simp only [Try.underlying36,cellsT]
 simp [cellsI,cellsS,lits_int hk,lits_str hs]
theorem key_ty {k : Int} {s : ByteArray} (hk : I64 k) (hs : s.size ≤ 140737488351232) : ∃ kl,keyOf Try.prog 36 (tyV (k,s)) = some kl := by
 obtain ⟨m,hm⟩ : ∃ m,Try.prog.types.size + 1 = m + 2 := ⟨Try.prog.types.size - 1,by have : 0 < Try.prog.types.size := of_decide_eq_true (by kernel_rfl); omega⟩
 have hf : (tyV (k,s)).formed Try.prog 36 = true := by simp [tyV,Value.formed,Try.underlying36,cellsT]
 unfold keyOf;rw [hm,show (tyV (k,s)).cells.toList = [.int .i64 k,.string s] from rfl,lits_ty hk hs,keyTypeT,hf];simp only [Try.underlying36];exact ⟨_,rfl⟩
theorem mem_str {s : ByteArray} {L : List ByteArray} : Value.string s ∈ L.map Value.string ↔ s ∈ L := by
 simp only [List.mem_map,Value.string.injEq,exists_eq_right]
theorem mem_int {s : Int} {L : List Int} : Value.int .i64 s ∈ L.map (Value.int .i64) ↔ s ∈ L := by
 simp only [List.mem_map,Value.int.injEq,true_and,exists_eq_right]
theorem mem_ty {s : Int × ByteArray} {L : List (Int × ByteArray)} : tyV s ∈ L.map tyV ↔ s ∈ L := by
 simp only [List.mem_map,tyV,Value.agg.injEq,Array.mk.injEq,List.cons.injEq,Value.int.injEq,Value.string.injEq,true_and,and_true]
 constructor
 ·rintro ⟨⟨a,b⟩,h1,h2,h3⟩; obtain ⟨c,d⟩ := s; simp only at h2 h3; subst h2 h3; exact h1
 ·intro h; exact ⟨s,h,rfl,rfl⟩
theorem SetS.has {w : World} {b n : Nat} {L : List ByteArray} {D : DataW Unit} (h2 : ∀ v kl,keyOf Try.prog 9 v = some kl → (Maps.has D kl = true ↔ v ∈ L.map Value.string)) {s : ByteArray} (hs : s.size ≤ 140737488351232) : Maps.has D (.string s.data.toList) = memB s L := by
 rw [Bool.eq_iff_iff,h2 _ _ (key_str hs),mem_str,memB_iff]
theorem SetI.has {w : World} {b n : Nat} {L : List Int} {D : DataW Unit} (h2 : ∀ v kl,keyOf Try.prog 3 v = some kl → (Maps.has D kl = true ↔ v ∈ L.map (Value.int .i64))) {s : Int} (hs : I64 s) : Maps.has D (.int .i64 s) = memI s L := by
 rw [Bool.eq_iff_iff,h2 _ _ (key_int hs),mem_int]
 simp [memI]
theorem has_str {w : World} {b n : Nat} {L : List ByteArray} (h : SetS w b n L) {s : ByteArray} (hs : s.size ≤ 140737488351232) :
  Calls Try.prog 71 #[.map (some b),.string s] w fun e w' => e = .returned (.bool (memB s L)) ∧ Below w.heap.size w w' := by
 obtain ⟨D,hown,h2⟩ := h;have HH : Hid (Maps.has D (.string s.data.toList) = memB s L) := SetS.has (w := w) (b := b) (n := n) h2 hs;have hkey := key_str hs;clear h2
 go_enter Try.func71,Try.ntmps71
 go_wp2_with (first
  | (at_lookup; refine wpList_lookup_own_unit _ rfl _ _ 74 rfl 9 79 lawS Try.underlying74 (zeroU _) b n D rfl hown _ _ rfl hkey ?_)
  | fail)
 go_ret;exact ⟨ret_bool HH.out,((Below.refl _ _).alloc (Nat.le_refl _) _)⟩
theorem has_int {w : World} {b n : Nat} {L : List Int} (h : SetI w b n L) {s : Int} (hs : I64 s) :
  Calls Try.prog 72 #[.map (some b),.int .i64 s] w fun e w' => e = .returned (.bool (memI s L)) ∧ Below w.heap.size w w' := by
 obtain ⟨D,hown,h2⟩ := h;have HH : Hid (Maps.has D (.int .i64 s) = memI s L) := SetI.has (w := w) (b := b) (n := n) h2 hs;have hkey := key_int hs;clear h2
 go_enter Try.func72,Try.ntmps72
 go_wp2_with (first
  | (at_lookup; refine wpList_lookup_own_unit _ rfl _ _ 92 rfl 3 79 lawI Try.underlying92 (zeroU _) b n D rfl hown _ _ rfl hkey ?_)
  | fail)
 go_ret;exact ⟨ret_bool HH.out,((Below.refl _ _).alloc (Nat.le_refl _) _)⟩
def memT (p : Int × ByteArray) (L : List (Int × ByteArray)) : Bool := L.any fun q => decide (p = q)
theorem memT_iff {p : Int × ByteArray} {L : List (Int × ByteArray)} : memT p L = true ↔ p ∈ L := by simp [memT]
theorem has_ty {w : World} {b n : Nat} {L : List (Int × ByteArray)} (h : SetT w b n L) {k : Int} {s : ByteArray} (hk : I64 k) (hs : s.size ≤ 140737488351232) :
  Calls Try.prog 44 #[.map (some b),.agg #[.int .i64 k,.string s]] w fun e w' => e = .returned (.bool (memT (k,s) L)) ∧ Below w.heap.size w w' := by
 obtain ⟨D,hown,h2⟩ := h;obtain ⟨kl,hkey⟩ := key_ty hk hs
 have HH : Hid (Maps.has D kl = memT (k,s) L) := by
  show _ = _
  rw [Bool.eq_iff_iff,h2 _ _ hkey,mem_ty,memT_iff]
 unfold tyV at hkey;simp only at hkey;clear h2
 go_enter Try.func44,Try.ntmps44
 go_wp2_with (first
  | (at_lookup; refine wpList_lookup_own_unit _ rfl _ _ 71 rfl 36 79 lawT Try.underlying71 (zeroU _) b n D rfl (hown.alloc _) _ _ rfl hkey ?_)
  | fail)
 go_ret;exact ⟨ret_bool HH.out,((Below.refl _ _).alloc (Nat.le_refl _) _).alloc (by simp) _⟩
theorem add_str {w : World} {b n : Nat} {L : List ByteArray} (h : SetS w b n L) {s : ByteArray} (hs : s.size ≤ 140737488351232) (hn : n < 1000000) :
  Calls Try.prog 60 #[.map (some b),.string s] w fun e w' => e = .returned (.bool (!memB s L)) ∧ (memB s L = false → SetS w' b (n + 1) (L ++ [s])) ∧ Kp (fun k => k = b) w w' := by
 have HS : Hid (SetS w b n L) := h;clear h;have hkey := key_str hs
 cases hm : memB s L
 ·go_enter Try.func60,Try.ntmps60
  go_wp2_with fail;refine (has_str HS.out hs).mono ?_;rintro e w1 ⟨rfl,hb1⟩;rw [hm];obtain ⟨D,hown,h2⟩ := HS.out.below hb1;have H2 : Hid _ := h2;clear h2
  go_wp2_with (first
   | (at_mapUpdate; refine wpList_mapUpdate_own _ rfl _ _ _ 74 rfl 9 79 lawS Try.underlying74 (unitElem (H := Unit)) b n _ rfl hown (by unfold maxLen; omega) _ _ _ rfl rfl hkey _ [] unitElem_mk ?_; intro w2 hown1 hgrow1)
   | fail)
  go_ret;refine ⟨rfl,fun _ => ?_,(Kp.ofBelow hb1).grown hgrow1 (fun k hk _ => by cases hk; rfl)⟩;have := SetK.put lawS hown.isMap H2.out hkey hown1;unfold SetS;rw [List.map_append];exact this
 ·go_enter Try.func60,Try.ntmps60
  go_wp2_with fail;refine (has_str HS.out hs).mono ?_;rintro e w1 ⟨rfl,hb1⟩;rw [hm];go_wp2_with fail;go_ret;exact ⟨rfl,(fun e => by cases e),Kp.ofBelow hb1⟩
theorem add_int {w : World} {b n : Nat} {L : List Int} (h : SetI w b n L) {s : Int} (hs : I64 s) (hn : n < 1000000) :
  Calls Try.prog 61 #[.map (some b),.int .i64 s] w fun e w' => e = .returned (.bool (!memI s L)) ∧ (memI s L = false → SetI w' b (n + 1) (L ++ [s])) ∧ Kp (fun k => k = b) w w' := by
 have HS : Hid (SetI w b n L) := h;clear h;have hkey := key_int hs
 cases hm : memI s L
 ·go_enter Try.func61,Try.ntmps61
  go_wp2_with fail;refine (has_int HS.out hs).mono ?_;rintro e w1 ⟨rfl,hb1⟩;rw [hm];obtain ⟨D,hown,h2⟩ := HS.out.below hb1;have H2 : Hid _ := h2;clear h2
  go_wp2_with (first
   | (at_mapUpdate; refine wpList_mapUpdate_own _ rfl _ _ _ 92 rfl 3 79 lawI Try.underlying92 (unitElem (H := Unit)) b n _ rfl hown (by unfold maxLen; omega) _ _ _ rfl rfl hkey _ [] unitElem_mk ?_; intro w2 hown1 hgrow1)
   | fail)
  go_ret;refine ⟨rfl,fun _ => ?_,(Kp.ofBelow hb1).grown hgrow1 (fun k hk _ => by cases hk; rfl)⟩;have := SetK.put lawI hown.isMap H2.out hkey hown1;unfold SetI;rw [List.map_append];exact this
 ·go_enter Try.func61,Try.ntmps61
  go_wp2_with fail;refine (has_int HS.out hs).mono ?_;rintro e w1 ⟨rfl,hb1⟩;rw [hm];go_wp2_with fail;go_ret;exact ⟨rfl,(fun e => by cases e),Kp.ofBelow hb1⟩
theorem newname_any {w : World} {b n : Nat} {L : List ByteArray} (h : SetS w b n L) {s : ByteArray} (hs : s.size ≤ 140737488351232) (hn : n < 1000000) :
  Calls Try.prog 38 #[.map (some b),.string s] w fun e w' => e = .returned (.bool (freshB s L)) ∧ (freshB s L = true → SetS w' b (n + 1) (L ++ [s])) ∧ Kp (fun k => k = b) w w' := by
 have HS : Hid (SetS w b n L) := h;clear h
 cases hm : nameB s
 ·have HF : Hid (false = freshB s L) := by show _ = _; unfold freshB; rw [hm]; rfl
  go_enter Try.func38,Try.ntmps38
  go_wp2_with fail;refine (name_any s _ hs).mono ?_;rintro e w1 ⟨rfl,hb1⟩;rw [hm];go_wp2_with fail;go_ret;exact ⟨ret_bool HF.out,(fun e => by rw [← HF.out] at e; cases e),Kp.ofBelow hb1⟩
 ·have HF : Hid ((!memB s L) = freshB s L) := by show _ = _; unfold freshB; rw [hm]; rfl
  go_enter Try.func38,Try.ntmps38
  go_wp2_with fail;refine (name_any s _ hs).mono ?_;rintro e w1 ⟨rfl,hb1⟩;rw [hm];go_wp2_with fail;refine (add_str (SetK.below HS.out hb1) hs hn).mono ?_;rintro e w2 ⟨rfl,h2,hk2⟩;have H2 : Hid _ := h2;clear h2;go_wp2_with fail;go_ret;exact ⟨ret_bool HF.out,(fun e => H2.out (by rw [← HF.out] at e; simpa using e)),(Kp.ofBelow hb1).trans hk2⟩
theorem newtag_any {w : World} {b n : Nat} {L : List Int} (h : SetI w b n L) {s : Int} (hs : I64 s) (hn : n < 1000000) :
  Calls Try.prog 39 #[.map (some b),.int .i64 s] w fun e w' => e = .returned (.bool (tagB s L)) ∧ (tagB s L = true → SetI w' b (n + 1) (L ++ [s])) ∧ Kp (fun k => k = b) w w' := by
 have HS : Hid (SetI w b n L) := h;clear h
 by_cases h1 : 1 ≤ s
 ·by_cases h5 : s ≤ 500
  ·have HF : Hid ((!memI s L) = tagB s L) := by show _ = _; unfold tagB tagR; rw [decide_eq_true (And.intro h1 h5)]; rfl
   go_enter Try.func39,Try.ntmps39
   go_wp2_with fail;refine (add_int HS.out hs hn).mono ?_;rintro e w2 ⟨rfl,h2,hk2⟩;have H2 : Hid _ := h2;clear h2;go_wp2_with fail;go_ret;exact ⟨ret_bool HF.out,(fun e => H2.out (by rw [← HF.out] at e; simpa using e)),hk2⟩
  ·have hd : decide (s ≤ 500) = false := by simpa using h5
   have HF : Hid (false = tagB s L) := by show _ = _; unfold tagB tagR; rw [decide_eq_false (fun e => h5 e.2)]; rfl
   go_enter Try.func39,Try.ntmps39
   go_wp2_with fail;go_ret;exact ⟨ret_bool HF.out,(fun e => by rw [← HF.out] at e; cases e),Kp.refl _ _⟩
 ·have hd : decide (1 ≤ s) = false := by simpa using h1
  have HF : Hid (false = tagB s L) := by show _ = _; unfold tagB tagR; rw [decide_eq_false (fun e => h1 e.1)]; rfl
  go_enter Try.func39,Try.ntmps39
  go_wp2_with fail;go_ret;exact ⟨ret_bool HF.out,(fun e => by rw [← HF.out] at e; cases e),Kp.refl _ _⟩
end
section
open Go.ChangeShapes Go.WideShapes Go.ChangeAt Go.RowKit
def Blk (w : World) (b : Nat) (cs : Array Value) (t : TypeId) : Prop := w.heap[b]? = some (.cells cs t (0,0))
theorem Blk.new (w : World) (cs : Array Value) (t : TypeId) : Blk (w.alloc (.cells cs t)) w.heap.size cs t := heap_alloc_new w _
theorem Blk.kp {S : Nat → Prop} {w w' : World} {b : Nat} {cs : Array Value} {t : TypeId} (h : Blk w b cs t) (hk : Kp S w w') (hs : ¬ S b) : Blk w' b cs t := (hk.block b (Array.getElem?_eq_some_iff.1 h).1 hs).trans h
theorem Blk.lt {w : World} {b : Nat} {cs : Array Value} {t : TypeId} (h : Blk w b cs t) : b < w.heap.size := (Array.getElem?_eq_some_iff.1 h).1
theorem Blk.below {w w' : World} {b : Nat} {cs : Array Value} {t : TypeId} (h : Blk w b cs t) (hb : Below w.heap.size w w') : Blk w' b cs t := (hb.block b h.lt).trans h
theorem Blk.set {w : World} {b : Nat} {cs cs' : Array Value} {t : TypeId} (h : Blk w b cs t) (i : Nat) (u : Value) (hc : cs.setIfInBounds i u = cs') : Blk (w.setCell ⟨b,i,none⟩ u) b cs' t := by subst hc; exact block_set h i u
theorem Blk.cell {w : World} {b : Nat} {cs : Array Value} {t : TypeId} (h : Blk w b cs t) (i : Nat) : w.cell? ⟨b,i,none⟩ = cs[i]? := block_cell h i
theorem Blk.froz {w : World} {b : Nat} {cs : Array Value} {t : TypeId} (h : Blk w b cs t) (i : Nat) : w.frozen? ⟨b,i,none⟩ = false := block_froz h i
theorem results_cell {fn : Func} {p : Tmp} {ty : TypeId} (h : fn.results = #[.cell p ty]) (tmps : Array Value) (P : Program) (w : World) (a : Addr) (x : Value) (ha : (asAddr (tmps.getD p undef)).run P w = .ok a w) (hl : (loadVar ty a).run P w = .ok x w) :
  (results fn tmps).run P w = .ok x w := by
 simp only [results,h];simp only [Array.getD_eq_getD_getElem?] at ha
 simp [Sem.run_bind,Result.andThen,ha,hl]
theorem results_two {fn : Func} {p u : Tmp} {ty : TypeId} (h : fn.results = #[.cell p ty,.tmp u]) (tmps : Array Value) (P : Program) (w : World) (a : Addr) (x : Value) (ha : (asAddr (tmps.getD p undef)).run P w = .ok a w) (hl : (loadVar ty a).run P w = .ok x w) :
  (results fn tmps).run P w = .ok (.tuple #[x,tmps.getD u undef]) w := by
 simp only [results,h];simp only [Array.getD_eq_getD_getElem?] at ha
 simp [Sem.run_bind,Result.andThen,ha,hl]
structure RowG (w : World) (v : Value) (size : Nat) (rs : List (List Value)) : Prop where
 form : ∃ a cap,v = .slice a rs.length cap ∧ rs.length ≤ cap ∧ cap ≤ maxLen ∧ (a = none → cap = 0) ∧ (rs ≠ [] → ∃ g off,a = some ⟨g,off,none⟩ ∧ ∀ i c u j,rs[i]? = some c → c[j]? = some u → w.cell? ⟨g,off + i * size + j,none⟩ = some u)
theorem RowG.below {w w1 : World} {v : Value} {size : Nat} {rs : List (List Value)} (h : RowG w v size rs) (hb : Below w.heap.size w w1) : RowG w1 v size rs := by
 obtain ⟨a,cap,h1,h2,h3,h0,h4⟩ := h.form;refine ⟨a,cap,h1,h2,h3,h0,fun hne => ?_⟩;obtain ⟨g,off,h5,h6⟩ := h4 hne;refine ⟨g,off,h5,fun i c u j hc hu => ?_⟩;have := h6 i c u j hc hu;rw [hb.cell (World.block_lt_of_cell? _ _ this)];exact this
theorem RowG.nil (w : World) (size : Nat) : RowG w (.slice none 0 0) size [] := ⟨none,0,rfl,Nat.le_refl _,by decide,fun _ => rfl,fun h => absurd rfl h⟩
theorem RowG.open {w : World} {v : Value} {size : Nat} {rs : List (List Value)} (h : RowG w v size rs) : ∃ a cap,v = .slice a rs.length cap ∧ rs.length ≤ cap ∧ cap ≤ maxLen ∧ (rs ≠ [] → ∃ g off,a = some ⟨g,off,none⟩) ∧ ∀ g off,a = some ⟨g,off,none⟩ → ∀ i c,rs[i]? = some c → ∀ j u,c[j]? = some u → w.cell? ⟨g,off + i * size + j,none⟩ = some u := by
 obtain ⟨a,cap,h1,h2,h3,_,h4⟩ := h.form;refine ⟨a,cap,h1,h2,h3,fun hne => ?_,?_⟩
 ·obtain ⟨g,off,h5,_⟩ := h4 hne;exact ⟨g,off,h5⟩
 ·intro g off ha i c hc j u hu
  have hne : rs ≠ [] := by intro e; rw [e] at hc; simp at hc
  obtain ⟨g',off',h5,h6⟩ := h4 hne;rw [ha] at h5
  simp at h5
  obtain ⟨rfl,rfl⟩ := h5;exact h6 i c u j hc hu
theorem flat_get {size : Nat} : ∀ (rs : List (List Value)),(∀ r ∈ rs,r.length = size) → ∀ (i : Nat) (c : List Value),rs[i]? = some c → ∀ j u,c[j]? = some u → rs.flatten[i * size + j]? = some u
 | [],_,i,c,h,_,_,_ => by simp at h
 | x :: l,hl,0,c,h,j,u,hu => by
  obtain rfl : x = c := by simpa using h
  rw [List.flatten_cons,Nat.zero_mul,Nat.zero_add,List.getElem?_append_left (List.getElem?_eq_some_iff.1 hu).1];exact hu
 | x :: l,hl,i + 1,c,h,j,u,hu => by
  have := flat_get l (fun r hr => hl r (List.mem_cons_of_mem _ hr)) i c (by simpa using h) j u hu;have hx := hl x (List.mem_cons_self ..);rw [List.flatten_cons,List.getElem?_append_right (by rw [hx,Nat.add_mul]; omega)]
  have e : (i + 1) * size + j - x.length = i * size + j := by rw [hx,Nat.add_mul]; omega
  rw [e];exact this
theorem flat_len {size : Nat} : ∀ (rs : List (List Value)),(∀ r ∈ rs,r.length = size) → rs.flatten.length = rs.length * size
 | [],_ => by simp
 | x :: l,hl => by
  rw [List.flatten_cons,List.length_append,flat_len l (fun r hr => hl r (List.mem_cons_of_mem _ hr)),hl x (List.mem_cons_self ..),List.length_cons,Nat.add_mul]; omega
theorem RowG.own {w : World} {B e size : Nat} {v : Value} {n : Nat} {rs : List (List Value)} (hl : ∀ r ∈ rs,r.length = size) (hs : 0 < size) (h : w.ownsRow B e size v n rs.flatten) : RowG w v size rs ∧ n = rs.length := by
 have hn : n = rs.length := by
  have := h.1;rw [flat_len rs hl] at this;exact (Nat.eq_of_mul_eq_mul_right hs this).symm
 have h0 := h;subst hn;refine ⟨?_,rfl⟩
 rcases h.2 with ⟨rfl,h2⟩ | ⟨g,cap,cur,rfl,hb,hg,hc,hm,_⟩
 ·have : rs = [] := List.eq_nil_of_length_eq_zero h2;subst this;exact RowG.nil w size
 ·refine ⟨_,cap,rfl,hc,hm,(fun e => by cases e),fun _ => ⟨g,0,rfl,fun i c u j hc hu => ?_⟩⟩;have := h0.cells (g := g) rfl (i * size + j) u (flat_get rs hl i c hc j u hu);rw [Addr.add_lit,Nat.zero_add] at this;rw [Nat.zero_add];exact this
theorem RowG.get {w : World} {a : Option Addr} {N cap size : Nat} {rs : List (List Value)} (h : RowG w (.slice a N cap) size rs) {i : Nat} {c : List Value} (hi : rs[i]? = some c) : ∃ g off,a = some ⟨g,off,none⟩ ∧ ∀ j u,c[j]? = some u → w.cell? ⟨g,off + i * size + j,none⟩ = some u := by
 obtain ⟨a',cap',e1,e2,e3,e4,e5⟩ := h.open;simp only [Value.slice.injEq] at e1;obtain ⟨rfl,_,_⟩ := e1;obtain ⟨g,off,rfl⟩ := e4 (by intro e; rw [e] at hi; simp at hi);exact ⟨g,off,rfl,fun j u hu => e5 g off rfl i c hi j u hu⟩
theorem RowG.form2 {w : World} {v : Value} {size : Nat} {rs : List (List Value)} (h : RowG w v size rs) : ∃ a cap,v = .slice a rs.length cap ∧ rs.length ≤ cap ∧ cap ≤ 9223372036854775807 := by
 obtain ⟨a',cap',e1,e2,e3,_⟩ := h.open;exact ⟨a',cap',e1,e2,by unfold maxLen at e3; omega⟩
end
end Go.Proofs.Ytdkolhfpfimeoab

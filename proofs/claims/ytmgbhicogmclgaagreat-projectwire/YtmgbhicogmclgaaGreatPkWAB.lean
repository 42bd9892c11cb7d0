/- Part 2 of what the proof stands on. -/
import Derived.Test.YtmgbhicogmclgaaGreatPkWAA
import GoSem.Core.Utf8
import Derived.ShutString
import Derived.ChangeOld
namespace Go.Proofs.YtmgbhicogmclgaaGreat
set_option maxHeartbeats 8000000
set_option linter.unusedSimpArgs false
set_option linter.unusedVariables false
set_option maxRecDepth 20000
section
def ctU (a : UInt8) : Bool := decide (128 ≤ a.toNat) && decide (a.toNat ≤ 191)
def two (a b : UInt8) : Nat := (a.toNat - 192) * 64 + (b.toNat - 128)
def three (a b c : UInt8) : Nat := ((a.toNat - 224) * 64 + (b.toNat - 128)) * 64 + (c.toNat - 128)
def four (a b c d : UInt8) : Nat := (((a.toNat - 240) * 64 + (b.toNat - 128)) * 64 + (c.toNat - 128)) * 64 + (d.toNat - 128)
def nxL : List UInt8 → Option (Nat × Nat)
 | [] => none
 | a :: r =>
  if a.toNat < 128 then some (a.toNat,1)
  else if 192 ≤ a.toNat ∧ a.toNat < 224 then
   match r with
   | b :: _ => if ctU b = true ∧ 128 ≤ two a b then some (two a b,2) else none
   | _ => none
  else if 224 ≤ a.toNat ∧ a.toNat < 240 then
   match r with
   | b :: c :: _ => if ctU b = true ∧ ctU c = true ∧ 2048 ≤ three a b c ∧ ¬ (55296 ≤ three a b c ∧ three a b c ≤ 57343) then some (three a b c,3) else none
   | _ => none
  else if 240 ≤ a.toNat ∧ a.toNat < 248 then
   match r with
   | b :: c :: d :: _ => if ctU b = true ∧ ctU c = true ∧ ctU d = true ∧ 65536 ≤ four a b c d ∧ four a b c d ≤ 1114111 then some (four a b c d,4) else none
   | _ => none
  else none
theorem get_list (l : List UInt8) (k : Nat) : (ByteArray.mk l.toArray).get! k = l.getD k default := by
 simp [ByteArray.get!,List.getD_eq_getElem?_getD,getElem!_def]
 cases h : l[k]? <;> simp
theorem decode_drop (s : ByteArray) (i : Nat) (h : i ≤ s.size) :
  Utf8.decode s i = Utf8.decode ⟨(s.data.toList.drop i).toArray⟩ 0 := by
 obtain ⟨⟨l⟩⟩ := s
 have e : ∀ k,(ByteArray.mk l.toArray).get! (i + k) = (ByteArray.mk (l.drop i).toArray).get! (0 + k) := by
  intro k;rw [get_list,get_list]
  simp [List.getD_eq_getElem?_getD]
 have e2 : ∀ k,(i + k < (ByteArray.mk l.toArray).size) ↔ (0 + k < (ByteArray.mk (l.drop i).toArray).size) := by
  intro k;simp only [ByteArray.size,List.size_toArray,List.length_drop]
  omega
 simp only [Utf8.decode,e,e2]
def hasErr (l : List UInt8) : Bool := [239,191,189].isPrefixOf l
theorem size_list (l : List UInt8) : (ByteArray.mk l.toArray).size = l.length := by simp [ByteArray.size]
theorem dec_1 (a : UInt8) (r : List UInt8) (h : a.toNat < 128) : Utf8.decode ⟨(a :: r).toArray⟩ 0 = (a.toNat,1) := by
 simp only [Utf8.decode,get_list,size_list]
 simp [h]
theorem cont_of {b : UInt8} (h : ctU b = true) : b.toNat / 64 = 2 := by simp [ctU] at h; omega
theorem cont_not {b : UInt8} (h : ctU b = false) : ¬ b.toNat / 64 = 2 := by simp [ctU] at h; omega
theorem two_eq {a b : UInt8} (h1 : 192 ≤ a.toNat) (h2 : a.toNat < 224) (h : ctU b = true) : a.toNat % 32 * 64 + b.toNat % 64 = two a b := by
 simp [ctU] at h; simp only [two]; omega
theorem three_eq {a b c : UInt8} (h1 : 224 ≤ a.toNat) (h2 : a.toNat < 240) (h : ctU b = true) (hc : ctU c = true) : a.toNat % 16 * 4096 + b.toNat % 64 * 64 + c.toNat % 64 = three a b c := by
 simp [ctU] at h hc; simp only [three]; omega
theorem four_eq {a b c d : UInt8} (h1 : 240 ≤ a.toNat) (h2 : a.toNat < 248) (h : ctU b = true) (hc : ctU c = true) (hd : ctU d = true) : a.toNat % 8 * 262144 + b.toNat % 64 * 4096 + c.toNat % 64 * 64 + d.toNat % 64 = four a b c d := by
 simp [ctU] at h hc hd; simp only [four]; omega
theorem two_lt {a b : UInt8} (h2 : a.toNat < 224) (h : ctU b = true) : two a b < 2048 := by
 simp [ctU] at h; simp only [two]; omega
theorem three_lt {a b c : UInt8} (h2 : a.toNat < 240) (h : ctU b = true) (hc : ctU c = true) : three a b c < 65536 := by
 simp [ctU] at h hc; simp only [three]; omega
theorem dec_2 (a b : UInt8) (r : List UInt8) (h1 : 192 ≤ a.toNat) (h2 : a.toNat < 224) (h : ctU b = true) :
  Utf8.decode ⟨(a :: b :: r).toArray⟩ 0 = if 128 ≤ two a b then (two a b,2) else (65533,1) := by
 have e1 : ¬ a.toNat < 128 := by omega
 have e2 : a.toNat / 32 = 6 := by omega
 have e3 := cont_of h;have e4 := two_eq h1 h2 h;simp only [Utf8.decode,get_list,size_list]
 simp [e1,e2,e3,e4,Utf8.runeError]
theorem dec_2n (a : UInt8) (r : List UInt8) (h1 : 192 ≤ a.toNat) (h2 : a.toNat < 224) (h : ∀ b r',r = b :: r' → ctU b = false) :
  Utf8.decode ⟨(a :: r).toArray⟩ 0 = (65533,1) := by
 have e1 : ¬ a.toNat < 128 := by omega
 have e2 : a.toNat / 32 = 6 := by omega
 have e5 : ¬ a.toNat / 16 = 14 := by omega
 have e6 : ¬ a.toNat / 8 = 30 := by omega
 simp only [Utf8.decode,get_list,size_list]
 match r with
 | [] => simp [e1,e2,Utf8.runeError]
 | b :: r' =>
  have e3 := cont_not (h b r' rfl)
  simp [e1,e2,e3,e5,e6,Utf8.runeError]
theorem dec_3 (a b c : UInt8) (r : List UInt8) (h1 : 224 ≤ a.toNat) (h2 : a.toNat < 240) (h : ctU b = true) (hc : ctU c = true) :
  Utf8.decode ⟨(a :: b :: c :: r).toArray⟩ 0 = if 2048 ≤ three a b c ∧ ¬ (55296 ≤ three a b c ∧ three a b c ≤ 57343) then (three a b c,3) else (65533,1) := by
 have e1 : ¬ a.toNat < 128 := by omega
 have e2 : ¬ a.toNat / 32 = 6 := by omega
 have e3 : a.toNat / 16 = 14 := by omega
 have e4 := cont_of h;have e5 := cont_of hc;have e6 := three_eq h1 h2 h hc;have e7 := three_lt h2 h hc;simp only [Utf8.decode,get_list,size_list]
 simp [e1,e2,e3,e4,e5,e6,Utf8.runeError,Utf8.valid]
 generalize three a b c = v at *
 by_cases g1 : 2048 ≤ v
 ·by_cases g2 : v < 55296
  ·have : ((v : Int) < 55296) := by omega
   simp [g1,g2,this]; omega
  ·by_cases g3 : 57344 ≤ v
   ·have i1 : ((57344 : Int) ≤ v) := by omega
    have i2 : ((v : Int) ≤ 1114111) := by omega
    simp [g1,i1,i2]; omega
   ·have i1 : ¬ ((57344 : Int) ≤ v) := by omega
    have i2 : ¬ ((v : Int) < 55296) := by omega
    have i3 : ¬ (55296 ≤ v → 57343 < v) := by omega
    simp [i1,i2,i3]
 ·simp [g1]
theorem dec_3n (a : UInt8) (r : List UInt8) (h1 : 224 ≤ a.toNat) (h2 : a.toNat < 240) (h : ∀ b c r',r = b :: c :: r' → ctU b = false ∨ ctU c = false) :
  Utf8.decode ⟨(a :: r).toArray⟩ 0 = (65533,1) := by
 have e1 : ¬ a.toNat < 128 := by omega
 have e2 : ¬ a.toNat / 32 = 6 := by omega
 have e3 : a.toNat / 16 = 14 := by omega
 have e6 : ¬ a.toNat / 8 = 30 := by omega
 simp only [Utf8.decode,get_list,size_list]
 match r with
 | [] => simp [e1,e2,e6,Utf8.runeError]
 | [b] => simp [e1,e2,e6,Utf8.runeError]
 | b :: c :: r' =>
  rcases h b c r' rfl with g | g
  ·simp [e1,e2,e6,cont_not g,Utf8.runeError]
  ·simp [e1,e2,e6,cont_not g,Utf8.runeError]
theorem dec_4 (a b c d : UInt8) (r : List UInt8) (h1 : 240 ≤ a.toNat) (h2 : a.toNat < 248) (h : ctU b = true) (hc : ctU c = true) (hd : ctU d = true) :
  Utf8.decode ⟨(a :: b :: c :: d :: r).toArray⟩ 0 = if 65536 ≤ four a b c d ∧ four a b c d ≤ 1114111 then (four a b c d,4) else (65533,1) := by
 have e1 : ¬ a.toNat < 128 := by omega
 have e2 : ¬ a.toNat / 32 = 6 := by omega
 have e3 : ¬ a.toNat / 16 = 14 := by omega
 have e8 : a.toNat / 8 = 30 := by omega
 have e4 := cont_of h;have e5 := cont_of hc;have e9 := cont_of hd;have e6 := four_eq h1 h2 h hc hd;simp only [Utf8.decode,get_list,size_list]
 simp [e1,e2,e3,e4,e5,e6,e8,e9,Utf8.runeError,Utf8.valid]
 generalize four a b c d = v at *
 by_cases g1 : 65536 ≤ v
 ·have i1 : ((57344 : Int) ≤ v) := by omega
  have i4 : ¬ ((v : Int) < 55296) := by omega
  by_cases g3 : v ≤ 1114111
  ·have i2 : ((v : Int) ≤ 1114111) := by omega
   simp [g1,i1,i2,i4,g3]
  ·have i2 : ¬ ((v : Int) ≤ 1114111) := by omega
   simp [i2,i4,g3]
 ·simp [g1]
theorem dec_4n (a : UInt8) (r : List UInt8) (h1 : 240 ≤ a.toNat) (h2 : a.toNat < 248) (h : ∀ b c d r',r = b :: c :: d :: r' → ctU b = false ∨ ctU c = false ∨ ctU d = false) :
  Utf8.decode ⟨(a :: r).toArray⟩ 0 = (65533,1) := by
 have e1 : ¬ a.toNat < 128 := by omega
 have e2 : ¬ a.toNat / 32 = 6 := by omega
 have e3 : ¬ a.toNat / 16 = 14 := by omega
 simp only [Utf8.decode,get_list,size_list]
 match r with
 | [] => simp [e1,e2,e3,Utf8.runeError]
 | [b] => simp [e1,e2,e3,Utf8.runeError]
 | [b,c] => simp [e1,e2,e3,Utf8.runeError]
 | b :: c :: d :: r' =>
  rcases h b c d r' rfl with g | g | g
  ·simp [e1,e2,e3,cont_not g,Utf8.runeError]
  ·simp [e1,e2,e3,cont_not g,Utf8.runeError]
  ·simp [e1,e2,e3,cont_not g,Utf8.runeError]
theorem dec_0 (a : UInt8) (r : List UInt8) (h : 128 ≤ a.toNat) (h1 : ¬ (192 ≤ a.toNat ∧ a.toNat < 224)) (h2 : ¬ (224 ≤ a.toNat ∧ a.toNat < 240)) (h3 : ¬ (240 ≤ a.toNat ∧ a.toNat < 248)) :
  Utf8.decode ⟨(a :: r).toArray⟩ 0 = (65533,1) := by
 have e1 : ¬ a.toNat < 128 := by omega
 have e2 : ¬ a.toNat / 32 = 6 := by omega
 have e3 : ¬ a.toNat / 16 = 14 := by omega
 have e4 : ¬ a.toNat / 8 = 30 := by omega
 simp only [Utf8.decode,get_list,size_list]
 simp [e1,e2,e3,e4,Utf8.runeError]
theorem hasErr_three {a b c : UInt8} {r : List UInt8} (h : three a b c = 65533) (h1 : 224 ≤ a.toNat) (h2 : a.toNat < 240) (hb : ctU b = true) (hc : ctU c = true) : hasErr (a :: b :: c :: r) = true := by
 simp [ctU] at hb hc
 simp only [three] at h;have ea : a = 239 := UInt8.toNat_inj.1 (by show a.toNat = 239; omega);have eb : b = 191 := UInt8.toNat_inj.1 (by show b.toNat = 191; omega);have ec : c = 189 := UInt8.toNat_inj.1 (by show c.toNat = 189; omega);subst ea eb ec
 simp [hasErr,List.isPrefixOf]
theorem hasErr_iff {l : List UInt8} (h : hasErr l = true) : nxL l = some (65533,3) := by
 match l with
 | [] => simp [hasErr,List.isPrefixOf] at h
 | [a] => simp [hasErr,List.isPrefixOf] at h
 | [a,b] => simp [hasErr,List.isPrefixOf] at h
 | a :: b :: c :: r =>
  simp [hasErr,List.isPrefixOf] at h
  obtain ⟨rfl,rfl,rfl⟩ := h
  rfl
theorem decode_nx (a : UInt8) (r : List UInt8) :
  nxL (a :: r) = if (Utf8.decode ⟨(a :: r).toArray⟩ 0).1 = 65533 ∧ hasErr (a :: r) = false then none else some (Utf8.decode ⟨(a :: r).toArray⟩ 0) := by
 have ha := a.toNat_lt
 cases he : hasErr (a :: r) with
 | true =>
  rw [hasErr_iff he]
  match r with
  | [] => simp [hasErr,List.isPrefixOf] at he
  | [b] => simp [hasErr,List.isPrefixOf] at he
  | b :: c :: r' =>
   simp [hasErr,List.isPrefixOf] at he
   obtain ⟨rfl,rfl,rfl⟩ := he;rw [dec_3 _ _ _ _ (by decide) (by decide) (by decide) (by decide)]
   rfl
 | false =>
  by_cases h0 : a.toNat < 128
  ·rw [dec_1 a r h0,if_neg (by simp; omega)]
   simp [nxL,h0]
  ·by_cases h2 : 192 ≤ a.toNat ∧ a.toNat < 224
   ·by_cases hc : ∀ b r',r = b :: r' → ctU b = false
    ·rw [dec_2n a r h2.1 h2.2 hc,if_pos ⟨rfl,rfl⟩]
     match r with
     | [] => simp only [nxL]; rw [if_neg h0,if_pos h2]
     | b :: r' => simp only [nxL]; rw [if_neg h0,if_pos h2,if_neg (by rw [hc b r' rfl]; simp)]
    ·simp only [Classical.not_forall] at hc;obtain ⟨b,r',rfl,hb⟩ := hc
     have hb' : ctU b = true := by simpa using hb
     have hl := two_lt h2.2 hb';rw [dec_2 a b r' h2.1 h2.2 hb'];simp only [nxL];rw [if_neg h0,if_pos h2]
     by_cases g : 128 ≤ two a b
     ·rw [if_pos ⟨hb',g⟩,if_pos g,if_neg (by simp; omega)]
     ·rw [if_neg (fun x => g x.2),if_neg g,if_pos (by simp)]
   ·by_cases h3 : 224 ≤ a.toNat ∧ a.toNat < 240
    ·by_cases hc : ∀ b c r',r = b :: c :: r' → ctU b = false ∨ ctU c = false
     ·rw [dec_3n a r h3.1 h3.2 hc,if_pos ⟨rfl,rfl⟩]
      match r with
      | [] => simp only [nxL]; rw [if_neg h0,if_neg h2,if_pos h3]
      | [b] => simp only [nxL]; rw [if_neg h0,if_neg h2,if_pos h3]
      | b :: c :: r' => simp only [nxL]; rw [if_neg h0,if_neg h2,if_pos h3,if_neg (by rcases hc b c r' rfl with g | g <;> rw [g] <;> simp)]
     ·simp only [Classical.not_forall,not_or] at hc;obtain ⟨b,c,r',rfl,hb,hc⟩ := hc
      have hb' : ctU b = true := by simpa using hb
      have hc' : ctU c = true := by simpa using hc
      rw [dec_3 a b c r' h3.1 h3.2 hb' hc'];simp only [nxL];rw [if_neg h0,if_neg h2,if_pos h3]
      by_cases g : 2048 ≤ three a b c ∧ ¬ (55296 ≤ three a b c ∧ three a b c ≤ 57343)
      ·rw [if_pos ⟨hb',hc',g⟩,if_pos g,if_neg];rintro ⟨g1,_⟩;rw [hasErr_three g1 h3.1 h3.2 hb' hc'] at he
       cases he
      ·rw [if_neg (fun x => g x.2.2),if_neg g,if_pos (by simp)]
    ·by_cases h4 : 240 ≤ a.toNat ∧ a.toNat < 248
     ·by_cases hc : ∀ b c d r',r = b :: c :: d :: r' → ctU b = false ∨ ctU c = false ∨ ctU d = false
      ·rw [dec_4n a r h4.1 h4.2 hc,if_pos ⟨rfl,rfl⟩]
       match r with
       | [] => simp only [nxL]; rw [if_neg h0,if_neg h2,if_neg h3,if_pos h4]
       | [b] => simp only [nxL]; rw [if_neg h0,if_neg h2,if_neg h3,if_pos h4]
       | [b,c] => simp only [nxL]; rw [if_neg h0,if_neg h2,if_neg h3,if_pos h4]
       | b :: c :: d :: r' => simp only [nxL]; rw [if_neg h0,if_neg h2,if_neg h3,if_pos h4,if_neg (by rcases hc b c d r' rfl with g | g | g <;> rw [g] <;> simp)]
      ·simp only [Classical.not_forall,not_or] at hc;obtain ⟨b,c,d,r',rfl,hb,hc,hd⟩ := hc
       have hb' : ctU b = true := by simpa using hb
       have hc' : ctU c = true := by simpa using hc
       have hd' : ctU d = true := by simpa using hd
       rw [dec_4 a b c d r' h4.1 h4.2 hb' hc' hd'];simp only [nxL];rw [if_neg h0,if_neg h2,if_neg h3,if_pos h4]
       by_cases g : 65536 ≤ four a b c d ∧ four a b c d ≤ 1114111
       ·rw [if_pos ⟨hb',hc',hd',g⟩,if_pos g,if_neg (by simp; omega)]
       ·rw [if_neg (fun x => g x.2.2.2),if_neg g,if_pos (by simp)]
     ·rw [dec_0 a r (by omega) h2 h3 h4,if_pos ⟨rfl,rfl⟩];simp only [nxL];rw [if_neg h0,if_neg h2,if_neg h3,if_neg h4]
theorem decode_nx' (l : List UInt8) (hl : l ≠ []) :
  nxL l = if (Utf8.decode ⟨l.toArray⟩ 0).1 = 65533 ∧ hasErr l = false then none else some (Utf8.decode ⟨l.toArray⟩ 0) := by
 match l with
 | [] => exact absurd rfl hl
 | a :: r => exact decode_nx a r
theorem u8_of {n : Nat} (a : UInt8) (h : n = a.toNat) : UInt8.ofNat n = a := by
 subst h; simp
theorem nxL_some (l : List UInt8) (c k : Nat) (h : nxL l = some (c,k)) :
  Utf8.valid c = true ∧ (Utf8.encode c).data.toList = l.take k ∧ (Utf8.encode c).size = k ∧ 1 ≤ k ∧ k ≤ l.length ∧ k ≤ 4 ∧ c ≤ 1114111 := by
 match l with
 | [] => simp [nxL] at h
 | a :: r =>
  simp only [nxL] at h
  by_cases h0 : a.toNat < 128
  ·rw [if_pos h0] at h;simp only [Option.some.injEq,Prod.mk.injEq] at h;obtain ⟨rfl,rfl⟩ := h
   have hv : Utf8.valid (a.toNat : Int) = true := by simp [Utf8.valid]; omega
   have he : Utf8.encode (a.toNat : Int) = ⟨#[a]⟩ := by
    simp [Utf8.encode,hv,h0]
   rw [he];exact ⟨hv,by simp,by simp [ByteArray.size],by omega,by simp,by omega,by omega⟩
  ·rw [if_neg h0] at h
   by_cases h2 : 192 ≤ a.toNat ∧ a.toNat < 224
   ·rw [if_pos h2] at h
    match r with
    | [] => simp at h
    | b :: r' =>
     simp only at h
     by_cases g : ctU b = true ∧ 128 ≤ two a b
     ·rw [if_pos g] at h;simp only [Option.some.injEq,Prod.mk.injEq] at h;obtain ⟨rfl,rfl⟩ := h;have hl := two_lt h2.2 g.1;have hb := g.1;simp only [ctU,Bool.and_eq_true,decide_eq_true_eq] at hb
      have hv : Utf8.valid (two a b : Int) = true := by simp [Utf8.valid]; omega
      have n1 : ¬ two a b < 128 := by omega
      have he : Utf8.encode (two a b : Int) = ⟨#[a,b]⟩ := by
       simp only [Utf8.encode,hv,if_true,Int.toNat_natCast,if_neg n1,if_pos hl];rw [u8_of a (by simp only [two]; omega),u8_of b (by simp only [two]; omega)]
      rw [he];exact ⟨hv,by simp,by simp [ByteArray.size],by omega,by simp,by omega,by omega⟩
     ·rw [if_neg g] at h; simp at h
   ·rw [if_neg h2] at h
    by_cases h3 : 224 ≤ a.toNat ∧ a.toNat < 240
    ·rw [if_pos h3] at h
     match r with
     | [] => simp at h
     | [b] => simp at h
     | b :: c' :: r' =>
      simp only at h
      by_cases g : ctU b = true ∧ ctU c' = true ∧ 2048 ≤ three a b c' ∧ ¬ (55296 ≤ three a b c' ∧ three a b c' ≤ 57343)
      ·rw [if_pos g] at h;simp only [Option.some.injEq,Prod.mk.injEq] at h;obtain ⟨rfl,rfl⟩ := h;obtain ⟨g1,g2,g3,g4⟩ := g;have hl := three_lt h3.2 g1 g2;simp only [ctU,Bool.and_eq_true,decide_eq_true_eq] at g1 g2
       have hv : Utf8.valid (three a b c' : Int) = true := by simp [Utf8.valid]; omega
       have n1 : ¬ three a b c' < 128 := by omega
       have n2 : ¬ three a b c' < 2048 := by omega
       have he : Utf8.encode (three a b c' : Int) = ⟨#[a,b,c']⟩ := by
        simp only [Utf8.encode,hv,if_true,Int.toNat_natCast,if_neg n1,if_neg n2,if_pos hl];rw [u8_of a (by simp only [three]; omega),u8_of b (by simp only [three]; omega),u8_of c' (by simp only [three]; omega)]
       rw [he];exact ⟨hv,by simp,by simp [ByteArray.size],by omega,by simp,by omega,by omega⟩
      ·rw [if_neg g] at h; simp at h
    ·rw [if_neg h3] at h
     by_cases h4 : 240 ≤ a.toNat ∧ a.toNat < 248
     ·rw [if_pos h4] at h
      match r with
      | [] => simp at h
      | [b] => simp at h
      | [b,c'] => simp at h
      | b :: c' :: d :: r' =>
       simp only at h
       by_cases g : ctU b = true ∧ ctU c' = true ∧ ctU d = true ∧ 65536 ≤ four a b c' d ∧ four a b c' d ≤ 1114111
       ·rw [if_pos g] at h;simp only [Option.some.injEq,Prod.mk.injEq] at h;obtain ⟨rfl,rfl⟩ := h;obtain ⟨g1,g2,g3,g4,g5⟩ := g;simp only [ctU,Bool.and_eq_true,decide_eq_true_eq] at g1 g2 g3
        have hv : Utf8.valid (four a b c' d : Int) = true := by simp [Utf8.valid]; omega
        have n1 : ¬ four a b c' d < 128 := by omega
        have n2 : ¬ four a b c' d < 2048 := by omega
        have n3 : ¬ four a b c' d < 65536 := by omega
        have he : Utf8.encode (four a b c' d : Int) = ⟨#[a,b,c',d]⟩ := by
         simp only [Utf8.encode,hv,if_true,Int.toNat_natCast,if_neg n1,if_neg n2,if_neg n3];rw [u8_of a (by simp only [four]; omega),u8_of b (by simp only [four]; omega),u8_of c' (by simp only [four]; omega),u8_of d (by simp only [four]; omega)]
        rw [he];exact ⟨hv,by simp,by simp [ByteArray.size],by omega,by simp,by omega,by omega⟩
       ·rw [if_neg g] at h; simp at h
     ·rw [if_neg h4] at h; simp at h
end
section
open Go.ChangeShapes Go.WideShapes Go.ChangeAt Go.RowKit
theorem ret_bool {a b : Bool} (h : a = b) : Ending.returned (.bool a) = .returned (.bool b) := by rw [h]
theorem ret_int {k : IntKind} {a b : Int} (h : a = b) : Ending.returned (.int k a) = .returned (.int k b) := by rw [h]
def digB (r : Int) : Bool := decide (48 ≤ r ∧ r ≤ 57)
def letB (r : Int) : Bool := decide (97 ≤ r ∧ r ≤ 122 ∨ 65 ≤ r ∧ r ≤ 90 ∨ r = 95 ∨ (192 ≤ r ∧ r ≤ 591 ∧ r ≠ 215 ∧ r ≠ 247) ∨ (913 ≤ r ∧ r ≤ 969 ∧ r ≠ 930))
theorem digit_any (r : Int) (w : World) :
  Calls Tryz.prog 102 #[.int .i32 r] w fun e w' => e = .returned (.bool (digB r)) ∧ w' = w := by
 go_enter Tryz.func102,Tryz.ntmps102
 go_wp2
 all_goals
  go_ret;exact ⟨ret_bool (by simp [digB]; try omega),rfl⟩
theorem letter_any (r : Int) (w : World) :
  Calls Tryz.prog 101 #[.int .i32 r] w fun e w' => e = .returned (.bool (letB r)) ∧ w' = w := by
 go_enter Tryz.func101,Tryz.ntmps101
 go_wp2
 all_goals
  go_ret;refine ⟨ret_bool ?_,rfl⟩
  try simp only [beq_eq_false_iff_ne,beq_iff_eq,ne_eq] at *
  rw [Bool.eq_iff_iff]
  simp [letB]
  try omega
def keyB (s : ByteArray) : Bool := [[115,99,104,101,109,97],[109,101,115,115,97,103,101],[101,110,117,109],[99,97,108,108],[114,101,116,117,114,110,115],[114,101,115,101,114,118,101,100],
 [111,112,116,105,111,110,97,108],[114,101,112,101,97,116,101,100],[105,110,116,51,50],[105,110,116,54,52],[98,111,111,108],[116,101,120,116],[98,121,116,101,115]].any fun (k : List UInt8) => s.toList == k
theorem prefix_eq (s p : ByteArray) (h : p.size ≤ s.size) : ((s.extract 0 p.size).toList == p.toList) = p.toList.isPrefixOf s.toList := by
 obtain ⟨⟨l⟩⟩ := s;obtain ⟨⟨q⟩⟩ := p;simp only [ByteArray.toList_eq,ByteArray.data_extract,ByteArray.size,List.size_toArray,List.extract_toArray,List.extract_eq_take_drop,List.drop_zero,Nat.sub_zero] at *;rw [Bool.eq_iff_iff,List.isPrefixOf_iff_prefix,List.prefix_iff_eq_take,beq_iff_eq];exact eq_comm
theorem prefix_short (s p : ByteArray) (h : ¬ p.size ≤ s.size) : false = p.toList.isPrefixOf s.toList := by
 obtain ⟨⟨l⟩⟩ := s;obtain ⟨⟨q⟩⟩ := p;simp only [ByteArray.toList_eq,ByteArray.size,List.size_toArray] at *
 cases e : q.isPrefixOf l with
 | false => rfl
 | true =>
  rw [List.isPrefixOf_iff_prefix] at e;exact absurd e.length_le h
theorem hasPrefix_any (s p : ByteArray) (w : World) (hs : s.size ≤ 140737488351232) (hp : p.size ≤ 140737488351232) :
  Calls Tryz.prog 127 #[.string s,.string p] w fun e w' => e = .returned (.bool (p.toList.isPrefixOf s.toList)) ∧ w' = w := by
 go_enter Tryz.func127,Tryz.ntmps127
 go_wp2
 ·go_ret;exact ⟨ret_bool (prefix_eq s p ‹_›),rfl⟩
 ·go_ret;exact ⟨ret_bool (prefix_short s p ‹_›),rfl⟩
def standsB (l : List UInt8) (r : Int) : Bool := decide (r ≠ 65533) || hasErr l
theorem extract_drop (s : ByteArray) (i : Nat) : (s.extract i s.size).data.toList = s.data.toList.drop i := by
 obtain ⟨⟨l⟩⟩ := s
 simp [ByteArray.data_extract,ByteArray.size]
 exact List.take_of_length_le (by simp)
theorem hasErr_extract (s : ByteArray) (i : Nat) : [239,191,189].isPrefixOf (s.extract i s.size).toList = hasErr (s.data.toList.drop i) := by
 rw [ByteArray.toList_eq,extract_drop]; rfl
theorem extract_size_le (s : ByteArray) (i : Nat) (h : s.size ≤ 140737488351232) : (s.extract i s.size).size ≤ 140737488351232 := by
 simp [ByteArray.size_extract]; omega
theorem stands_any (s : ByteArray) (i : Int) (r : Int) (w : World) (hs : s.size ≤ 140737488351232) (hi : 0 ≤ i) (hj : i ≤ s.size) :
  Calls Tryz.prog 120 #[.string s,.int .i64 i,.int .i32 r] w fun e w' => e = .returned (.bool (standsB (s.data.toList.drop i.toNat) r)) ∧ w' = w := by
 by_cases h : r = 65533
 ·subst h
  go_enter Tryz.func120,Tryz.ntmps120
  go_wp2_with (go_at_call 127; refine (hasPrefix_any _ _ _ (extract_size_le s _ hs) (by decide)).mono ?_; rintro e w' ⟨rfl,rfl⟩)
  go_ret;refine ⟨ret_bool ?_,rfl⟩
  simp [standsB,← hasErr_extract]
 ·have hne : (r != 65533) = true := by simp [h]
  go_enter Tryz.func120,Tryz.ntmps120
  go_wp2_with fail;go_ret;refine ⟨ret_bool ?_,rfl⟩
  simp [standsB,h]
theorem drop_cons (s : ByteArray) (i : Nat) (h : i < s.size) : s.data.toList.drop i = s[i] :: s.data.toList.drop (i + 1) := by
 rw [List.drop_eq_getElem_cons (by simpa using h)]; rfl
theorem drop_none (s : ByteArray) (i : Nat) (h : s.size ≤ i) : s.data.toList.drop i = [] := by
 apply List.drop_eq_nil_of_le; simpa using h
def nxV : Option (Nat × Nat) → Value
 | none => .tuple #[.int .i32 0,.int .i64 0,.bool false]
 | some x => .tuple #[.int .i32 (x.1 : Int),.int .i64 (x.2 : Int),.bool true]
def atL (s : ByteArray) (i : Int) : List UInt8 := if i < 0 then [] else s.data.toList.drop i.toNat
theorem ret_none {x : Option (Nat × Nat)} (h : x = none) : Ending.returned (.tuple #[.int .i32 0,.int .i64 0,.bool false]) = .returned (nxV x) := by rw [h]; rfl
theorem ret_some {x : Option (Nat × Nat)} {c k : Int} (c' k' : Nat) (h : x = some (c',k')) (hc : c = c') (hk : k = k') : Ending.returned (.tuple #[.int .i32 c,.int .i64 k,.bool true]) = .returned (nxV x) := by rw [h,hc,hk]; rfl
theorem atL_out (s : ByteArray) (i : Int) (h : i < 0 ∨ (s.size : Int) ≤ i) : nxL (atL s i) = none := by
 unfold atL
 by_cases g : i < 0
 ·rw [if_pos g]; rfl
 ·rw [if_neg g,drop_none s _ (by omega)]; rfl
theorem atL_in (s : ByteArray) (i : Int) (h : 0 ≤ i) : atL s i = s.data.toList.drop i.toNat := by
 unfold atL; rw [if_neg (by omega)]
theorem below_iter (w : World) (s : ByteArray) (p : Nat) : Below w.heap.size w (w.iter s p) := bra _
theorem nx_stands {l : List UInt8} {c k : Nat} (hl : l ≠ []) (hd : Utf8.decode ⟨l.toArray⟩ 0 = (c,k)) :
  (standsB l c = true → nxL l = some (c,k)) ∧ (standsB l c = false → nxL l = none) := by
 have h := decode_nx' l hl;rw [hd] at h;unfold standsB
 constructor
 ·intro g;rw [h,if_neg];rintro ⟨g1,g2⟩;simp only at g1;rw [g2,g1] at g
  simp at g
 ·intro g;rw [h,if_pos];simp only [Bool.or_eq_false_iff,decide_eq_false_iff_not,ne_eq,Decidable.not_not] at g;exact ⟨by show c = 65533; omega,g.2⟩
end
section
open Go.RowKit
def allL : Nat → List UInt8 → Option (List Nat)
 | 0,l => if l.isEmpty then some [] else none
 | f + 1,l => if l.isEmpty then some [] else
  match nxL l with
  | none => none
  | some x => (allL f (l.drop x.2)).map (x.1 :: ·)
def runesOf (l : List UInt8) : Option (List Nat) := allL l.length l
theorem allL_fuel (f : Nat) : ∀ (g : Nat) (l : List UInt8),l.length ≤ f → l.length ≤ g → allL f l = allL g l := by
 induction f with
 | zero =>
  intro g l h _;have : l = [] := List.length_eq_zero_iff.1 (by omega);subst this
  cases g <;> simp [allL]
 | succ f ih =>
  intro g l hf hg
  match l,g with
  | [],0 => simp [allL]
  | [],g + 1 => simp [allL]
  | a :: r,0 => simp at hg
  | a :: r,g + 1 =>
   simp only [allL]
   cases e : nxL (a :: r) with
   | none => simp
   | some x =>
    obtain ⟨c,k⟩ := x;obtain ⟨_,_,_,h4,h5,_⟩ := nxL_some _ _ _ e
    have hd : ((a :: r).drop k).length ≤ f := by simp at hf h5 ⊢; omega
    have hd2 : ((a :: r).drop k).length ≤ g := by simp at hg h5 ⊢; omega
    simp [ih g ((a :: r).drop k) hd hd2]
theorem runesOf_nil : runesOf [] = some [] := rfl
theorem runesOf_bad {l : List UInt8} (hl : l ≠ []) (h : nxL l = none) : runesOf l = none := by
 match l with
 | [] => exact absurd rfl hl
 | a :: r => simp [runesOf,allL,h]
theorem runesOf_step {l : List UInt8} {c k : Nat} (h : nxL l = some (c,k)) : runesOf l = (runesOf (l.drop k)).map (c :: ·) := by
 match l with
 | [] => simp [nxL] at h
 | a :: r =>
  obtain ⟨_,_,_,h4,h5,_⟩ := nxL_some _ _ _ h;simp only [runesOf,List.length_cons,allL,h];have e := allL_fuel r.length ((a :: r).drop k).length ((a :: r).drop k) (by simp; omega) (Nat.le_refl _);rw [if_neg (by simp)];simp only [e]
theorem runesOf_le (f : Nat) : ∀ l : List UInt8,l.length ≤ f → ∀ rs,runesOf l = some rs → rs.length ≤ l.length := by
 induction f with
 | zero =>
  intro l hl rs h;have : l = [] := List.length_eq_zero_iff.1 (by omega);subst this;rw [runesOf_nil] at h
  simp at h; subst h; simp
 | succ f ih =>
  intro l hl rs h
  match l with
  | [] => rw [runesOf_nil] at h; simp at h; subst h; simp
  | a :: r =>
   cases e : nxL (a :: r) with
   | none => rw [runesOf_bad (by simp) e] at h; cases h
   | some x =>
    obtain ⟨c,k⟩ := x;obtain ⟨_,_,_,h4,h5,_⟩ := nxL_some _ _ _ e;rw [runesOf_step e] at h
    cases e2 : runesOf ((a :: r).drop k) with
    | none => rw [e2] at h; cases h
    | some rs' =>
     rw [e2] at h
     simp at h; subst h
     have := ih _ (by simp at hl h5 ⊢; omega) _ e2
     simp at this h5 ⊢; omega
def validB (l : List UInt8) : Bool := (runesOf l).isSome
def countN (l : List UInt8) : Nat := ((runesOf l).getD []).length
theorem countN_le (l : List UInt8) : countN l ≤ l.length := by
 unfold countN
 cases e : runesOf l with
 | none => simp
 | some rs => simpa using runesOf_le l.length l (Nat.le_refl _) rs e
def okFrom : Bool → List Nat → Bool
 | _,[] => true
 | b,c :: r => (letB c || (!b && digB c)) && okFrom false r
theorem okFrom_append (acc rest : List Nat) : ∀ b,okFrom b (acc ++ rest) = (okFrom b acc && okFrom (b && acc.isEmpty) rest) := by
 induction acc with
 | nil => intro b; simp [okFrom]
 | cons a r ih => intro b; simp [okFrom,ih,Bool.and_assoc]
def nameB (s : ByteArray) : Bool := decide (1 ≤ countN s.data.toList ∧ countN s.data.toList ≤ 20) && !keyB s && okFrom true ((runesOf s.data.toList).getD [])
def Gone (l : List UInt8) (pos : Nat) (acc : List Nat) : Prop := runesOf l = (runesOf (l.drop pos)).map (acc ++ ·)
theorem Gone.start (l : List UInt8) : Gone l 0 [] := by
 unfold Gone; simp
theorem Gone.step {l : List UInt8} {pos c k : Nat} {acc : List Nat} (h : Gone l pos acc) (hn : nxL (l.drop pos) = some (c,k)) : Gone l (pos + k) (acc ++ [c]) := by
 unfold Gone at h ⊢;rw [h,runesOf_step hn,List.drop_drop]
 cases runesOf (l.drop (pos + k)) <;> simp
theorem Gone.bad {l : List UInt8} {pos : Nat} {acc : List Nat} (h : Gone l pos acc) (hp : pos < l.length) (hn : nxL (l.drop pos) = none) : runesOf l = none := by
 unfold Gone at h;rw [h,runesOf_bad _ hn]; rfl;intro e
 have : (l.drop pos).length = 0 := by rw [e]; rfl
 simp at this; omega
theorem Gone.done {l : List UInt8} {pos : Nat} {acc : List Nat} (h : Gone l pos acc) (hp : l.length ≤ pos) : runesOf l = some acc := by
 unfold Gone at h;rw [h,List.drop_eq_nil_of_le hp,runesOf_nil]; simp
theorem Gone.len {l : List UInt8} {pos : Nat} {acc rs : List Nat} (h : Gone l pos acc) (hr : runesOf l = some rs) : ∃ rest,rs = acc ++ rest := by
 unfold Gone at h;rw [hr] at h
 cases e : runesOf (l.drop pos) with
 | none => rw [e] at h; cases h
 | some r => rw [e] at h; simp at h; exact ⟨r,h⟩
theorem dec_at (s : ByteArray) (pos : Nat) (h : pos < s.size) : ∃ c k,Utf8.decode s pos = (c,k) ∧
  (standsB (s.data.toList.drop pos) c = true → nxL (s.data.toList.drop pos) = some (c,k)) ∧ (standsB (s.data.toList.drop pos) c = false → nxL (s.data.toList.drop pos) = none) := by
 have hl : s.data.toList.drop pos ≠ [] := by rw [drop_cons s pos h]; exact List.cons_ne_nil _ _
 have hd := decode_drop s pos (by omega);rw [hd];generalize e : Utf8.decode ⟨(s.data.toList.drop pos).toArray⟩ 0 = d;obtain ⟨c,k⟩ := d;exact ⟨c,k,rfl,nx_stands hl e⟩
theorem len_data (s : ByteArray) : s.data.toList.length = s.size := by rw [Array.length_toList]; rfl
theorem nx_of_gone {l : List UInt8} {pos : Nat} {acc rs : List Nat} (h : Gone l pos acc) (hp : pos < l.length) (hr : runesOf l = some rs) : ∃ x,nxL (l.drop pos) = some x := by
 cases e : nxL (l.drop pos) with
 | none => rw [h.bad hp e] at hr; cases hr
 | some x => exact ⟨x,rfl⟩
theorem dec_of_nx {l : List UInt8} {c k : Nat} {x : Nat × Nat} (h1 : standsB l c = true → nxL l = some (c,k)) (h2 : standsB l c = false → nxL l = none) (h : nxL l = some x) : nxL l = some (c,k) := by
 cases e : standsB l c with
 | true => exact h1 e
 | false => rw [h2 e] at h; cases h
end
section
structure FlS where
 name : ByteArray
 tag : Int
 label : Int
 kind : Int
 tname : ByteArray
structure MsS where
 name : ByteArray
 fields : List FlS
 reserved : List Int
structure NmS where
 name : ByteArray
 n : Int
structure EnS where
 name : ByteArray
 values : List NmS
structure MtS where
 name : ByteArray
 inn : ByteArray
 out : ByteArray
structure ScS where
 name : ByteArray
 msgs : List MsS
 enums : List EnS
 methods : List MtS
def FlS.cells (f : FlS) : List Value := [.string f.name,.int .i64 f.tag,.int .i64 f.label,.int .i64 f.kind,.string f.tname]
def NmS.cells (f : NmS) : List Value := [.string f.name,.int .i64 f.n]
def MtS.cells (f : MtS) : List Value := [.string f.name,.string f.inn,.string f.out]
end
section
open Go.RowKit
def memB (x : ByteArray) (l : List ByteArray) : Bool := l.any fun y => decide (x = y)
theorem memB_iff {x : ByteArray} {l : List ByteArray} : memB x l = true ↔ x ∈ l := by simp [memB]
theorem memB_no {x : ByteArray} {l : List ByteArray} : memB x l = false ↔ x ∉ l := by rw [← memB_iff]; simp
def memI (x : Int) (l : List Int) : Bool := decide (x ∈ l)
def freshB (x : ByteArray) (l : List ByteArray) : Bool := nameB x && !memB x l
def tagR (n : Int) : Bool := decide (1 ≤ n ∧ n ≤ 500)
def tagB (n : Int) (l : List Int) : Bool := tagR n && !memI n l
def numR (n : Int) : Bool := decide (0 ≤ n ∧ n ≤ 2147483647)
def numB (n : Int) (l : List Int) : Bool := numR n && !memI n l
def labB (n : Int) : Bool := decide (1 ≤ n ∧ n ≤ 3)
def typeB (mn en : List ByteArray) (k : Int) (t : ByteArray) : Bool :=
 (decide (1 ≤ k ∧ k ≤ 5) && decide (t = ⟨#[]⟩)) || (decide (k = 6) && memB t en) || (decide (k = 7) && memB t mn)
def orE (a b : Int) : Int := if a = 0 then b else a
def chkRes : List Int → List Int → Int
 | _,[] => 0
 | a,n :: l => if tagB n a = true then chkRes (a ++ [n]) l else 7
def chkFs (mn en : List ByteArray) : List ByteArray → List Int → List FlS → Int
 | _,_,[] => 0
 | a,t,f :: l => if freshB f.name a = false then 6 else if tagB f.tag t = false then 7 else if (labB f.label && typeB mn en f.kind f.tname) = false then 8 else chkFs mn en (a ++ [f.name]) (t ++ [f.tag]) l
def bigM (m : MsS) : Bool := decide (16 < m.fields.length ∨ 32 < m.reserved.length)
def chkMb (mn en : List ByteArray) (m : MsS) : Int := if bigM m = true then 4 else orE (chkRes [] m.reserved) (chkFs mn en [] m.reserved m.fields)
def chkMs (mn en : List ByteArray) : List ByteArray → List MsS → Int
 | _,[] => 0
 | a,m :: l => if freshB m.name a = false then 6 else orE (chkMb mn en m) (chkMs mn en (a ++ [m.name]) l)
def chkVs : List ByteArray → List Int → List NmS → Int
 | _,_,[] => 0
 | a,t,v :: l => if freshB v.name a = false then 6 else if numB v.n t = false then 11 else chkVs (a ++ [v.name]) (t ++ [v.n]) l
def zeroE (e : EnS) : Bool := e.values.any fun v => decide (v.n = 0)
def chkEb (e : EnS) : Int := if 16 < e.values.length then 4 else if zeroE e = false then 12 else chkVs [] [] e.values
def chkEs : List ByteArray → List EnS → Int
 | _,[] => 0
 | a,e :: l => if freshB e.name a = false then 6 else orE (chkEb e) (chkEs (a ++ [e.name]) l)
def chkTs (mn : List ByteArray) : List ByteArray → List MtS → Int
 | _,[] => 0
 | a,m :: l => if freshB m.name a = false then 6 else if (memB m.inn mn && memB m.out mn) = false then 8 else chkTs mn (a ++ [m.name]) l
def ScS.mn (s : ScS) : List ByteArray := s.msgs.map MsS.name
def ScS.en (s : ScS) : List ByteArray := s.enums.map EnS.name
def ScS.tn (s : ScS) : List ByteArray := s.methods.map MtS.name
def bigS (s : ScS) : Bool := decide (10 < s.msgs.length ∨ 6 < s.enums.length ∨ 6 < s.methods.length)
def wholeA (s : ScS) : Int := if nameB s.name = false then 6 else if s.msgs.length = 0 then 12 else if bigS s = true then 4 else 0
def partsA (s : ScS) : Int := orE (chkMs s.mn s.en [] s.msgs) (chkEs s.mn s.enums)
def checkA (s : ScS) : Int := orE (wholeA s) (orE (partsA s) (chkTs s.mn [] s.methods))
/-! Steps,for the loops -/
theorem drop_at {α : Type} {l : List α} {k : Nat} {x : α} (h : l[k]? = some x) : l.drop k = x :: l.drop (k + 1) := by
 obtain ⟨hk,rfl⟩ := List.getElem?_eq_some_iff.1 h;exact List.drop_eq_getElem_cons hk
theorem drop_end {α : Type} {l : List α} {k : Nat} (h : l.length ≤ k) : l.drop k = [] := List.drop_eq_nil_of_le h
theorem orE_zero (b : Int) : orE 0 b = b := by simp [orE]
theorem orE_ne {a : Int} (h : a ≠ 0) (b : Int) : orE a b = a := by simp [orE,h]
theorem memB_nil (x : ByteArray) : memB x [] = false := by simp [memB]
theorem memI_snoc (x y : Int) (l : List Int) : memI x (l ++ [y]) = (memI x l || decide (x = y)) := by simp [memI,Bool.decide_or]
theorem memI_append (x : Int) (l m : List Int) : memI x (l ++ m) = (memI x l || memI x m) := by simp [memI,Bool.decide_or]
theorem bytes_eq_iff (a b : ByteArray) : a = b ↔ a.data.toList = b.data.toList :=
 ⟨fun h => by rw [h],fun h => by obtain ⟨⟨l⟩⟩ := a; obtain ⟨⟨m⟩⟩ := b; simp at h; subst h; rfl⟩
theorem beq_bytes (a b : ByteArray) : (a.data.toList == b.data.toList) = decide (a = b) := by
 rw [Bool.eq_iff_iff,beq_iff_eq,decide_eq_true_iff,bytes_eq_iff]
/-! When Check answers OK -/
theorem orE_ok {a b : Int} : orE a b = 0 ↔ a = 0 ∧ b = 0 := by unfold orE; split <;> omega
theorem freshB_iff {x : ByteArray} {l : List ByteArray} : freshB x l = true ↔ nameB x = true ∧ x ∉ l := by unfold freshB; rw [Bool.and_eq_true,Bool.not_eq_true',memB_no]
theorem tagB_iff {x : Int} {l : List Int} : tagB x l = true ↔ tagR x = true ∧ x ∉ l := by simp [tagB,memI]
theorem chkRes_ok : ∀ (l a : List Int),chkRes a l = 0 ↔ (∀ n ∈ l,tagR n = true ∧ n ∉ a) ∧ l.Nodup
 | [],a => by simp [chkRes]
 | n :: l,a => by
  unfold chkRes
  by_cases h : tagB n a = true
  ·rw [if_pos h,chkRes_ok l];rw [tagB_iff] at h;simp only [List.mem_append,List.mem_singleton,not_or,List.forall_mem_cons,List.nodup_cons]
   constructor
   ·rintro ⟨h1,h2⟩;exact ⟨⟨h,fun m hm => ⟨(h1 m hm).1,(h1 m hm).2.1⟩⟩,fun hn => (h1 n hn).2.2 rfl,h2⟩
   ·rintro ⟨⟨_,h1⟩,h2,h3⟩;exact ⟨fun m hm => ⟨(h1 m hm).1,(h1 m hm).2,fun e => h2 (e ▸ hm)⟩,h3⟩
  ·rw [if_neg h];rw [tagB_iff] at h;simp only [List.mem_cons,forall_eq_or_imp]
   constructor
   ·intro e; omega
   ·rintro ⟨⟨h1,_⟩,_⟩; exact absurd h1 h
def fieldOk (mn en : List ByteArray) (f : FlS) : Prop := nameB f.name = true ∧ tagR f.tag = true ∧ labB f.label = true ∧ typeB mn en f.kind f.tname = true
theorem chkFs_ok (mn en : List ByteArray) : ∀ (l : List FlS) (a : List ByteArray) (t : List Int),chkFs mn en a t l = 0 ↔ (∀ f ∈ l,fieldOk mn en f ∧ f.name ∉ a ∧ f.tag ∉ t) ∧ (l.map FlS.name).Nodup ∧ (l.map FlS.tag).Nodup
 | [],a,t => by simp [chkFs]
 | f :: l,a,t => by
  unfold chkFs;simp only [List.mem_cons,forall_eq_or_imp,List.map_cons,List.nodup_cons,List.mem_map,not_exists,not_and]
  by_cases h1 : freshB f.name a = true
  ·rw [if_neg (by rw [h1]; decide)]
   by_cases h2 : tagB f.tag t = true
   ·rw [if_neg (by rw [h2]; decide)]
    by_cases h3 : (labB f.label && typeB mn en f.kind f.tname) = true
    ·rw [if_neg (by rw [h3]; decide),chkFs_ok mn en l];rw [freshB_iff] at h1;rw [tagB_iff] at h2;rw [Bool.and_eq_true] at h3;simp only [List.mem_append,List.mem_singleton,not_or]
     constructor
     ·rintro ⟨g1,g2,g3⟩;exact ⟨⟨⟨⟨h1.1,h2.1,h3.1,h3.2⟩,h1.2,h2.2⟩,fun m hm => ⟨(g1 m hm).1,(g1 m hm).2.1.1,(g1 m hm).2.2.1⟩⟩,⟨fun m hm => (g1 m hm).2.1.2,g2⟩,⟨fun m hm => (g1 m hm).2.2.2,g3⟩⟩
     ·rintro ⟨⟨_,g1⟩,⟨g2,g3⟩,⟨g4,g5⟩⟩;exact ⟨fun m hm => ⟨(g1 m hm).1,⟨(g1 m hm).2.1,g2 m hm⟩,⟨(g1 m hm).2.2,g4 m hm⟩⟩,g3,g5⟩
    ·rw [if_pos (by simpa using h3)]
     constructor
     ·intro e; omega
     ·rintro ⟨⟨⟨⟨_,_,g1,g2⟩,_⟩,_⟩,_⟩; rw [g1,g2] at h3; exact absurd rfl h3
   ·rw [if_pos (by simpa using h2)]
    constructor
    ·intro e; omega
    ·rintro ⟨⟨⟨⟨_,g1,_⟩,_,g2⟩,_⟩,_⟩; exact absurd (tagB_iff.2 ⟨g1,g2⟩) h2
  ·rw [if_pos (by simpa using h1)]
   constructor
   ·intro e; omega
   ·rintro ⟨⟨⟨⟨g1,_⟩,g2,_⟩,_⟩,_⟩; exact absurd (freshB_iff.2 ⟨g1,g2⟩) h1
def msgOk (mn en : List ByteArray) (m : MsS) : Prop := bigM m = false ∧ (∀ n ∈ m.reserved,tagR n = true) ∧ m.reserved.Nodup ∧ (∀ f ∈ m.fields,fieldOk mn en f ∧ f.tag ∉ m.reserved) ∧ (m.fields.map FlS.name).Nodup ∧ (m.fields.map FlS.tag).Nodup
theorem chkMb_ok (mn en : List ByteArray) (m : MsS) : chkMb mn en m = 0 ↔ msgOk mn en m := by
 unfold chkMb msgOk
 cases h : bigM m
 ·rw [if_neg (by decide),orE_ok,chkRes_ok,chkFs_ok];simp only [List.not_mem_nil,not_false_eq_true,and_true,true_and]
  constructor
  ·rintro ⟨⟨h1,h2⟩,h3,h4,h5⟩; exact ⟨h1,h2,h3,h4,h5⟩
  ·rintro ⟨h1,h2,h3,h4,h5⟩; exact ⟨⟨h1,h2⟩,h3,h4,h5⟩
 ·rw [if_pos rfl]; constructor
  ·intro e; omega
  ·rintro ⟨e,_⟩; cases e
theorem chkMs_ok (mn en : List ByteArray) : ∀ (l : List MsS) (a : List ByteArray),chkMs mn en a l = 0 ↔ (∀ m ∈ l,nameB m.name = true ∧ m.name ∉ a ∧ msgOk mn en m) ∧ (l.map MsS.name).Nodup
 | [],a => by simp [chkMs]
 | m :: l,a => by
  unfold chkMs;simp only [List.mem_cons,forall_eq_or_imp,List.map_cons,List.nodup_cons,List.mem_map,not_exists,not_and]
  by_cases h1 : freshB m.name a = true
  ·rw [if_neg (by rw [h1]; decide),orE_ok,chkMs_ok mn en l,chkMb_ok];rw [freshB_iff] at h1;simp only [List.mem_append,List.mem_singleton,not_or]
   constructor
   ·rintro ⟨g0,g1,g2⟩;exact ⟨⟨⟨h1.1,h1.2,g0⟩,fun x hx => ⟨(g1 x hx).1,(g1 x hx).2.1.1,(g1 x hx).2.2⟩⟩,fun x hx => (g1 x hx).2.1.2,g2⟩
   ·rintro ⟨⟨⟨_,_,g0⟩,g1⟩,g2,g3⟩;exact ⟨g0,fun x hx => ⟨(g1 x hx).1,⟨(g1 x hx).2.1,g2 x hx⟩,(g1 x hx).2.2⟩,g3⟩
  ·rw [if_pos (by simpa using h1)]
   constructor
   ·intro e; omega
   ·rintro ⟨⟨⟨g1,g2,_⟩,_⟩,_⟩; exact absurd (freshB_iff.2 ⟨g1,g2⟩) h1
theorem chkEs_ok : ∀ (l : List EnS) (a : List ByteArray),chkEs a l = 0 ↔ (∀ e ∈ l,nameB e.name = true ∧ e.name ∉ a ∧ chkEb e = 0) ∧ (l.map EnS.name).Nodup
 | [],a => by simp [chkEs]
 | m :: l,a => by
  unfold chkEs;simp only [List.mem_cons,forall_eq_or_imp,List.map_cons,List.nodup_cons,List.mem_map,not_exists,not_and]
  by_cases h1 : freshB m.name a = true
  ·rw [if_neg (by rw [h1]; decide),orE_ok,chkEs_ok l];rw [freshB_iff] at h1;simp only [List.mem_append,List.mem_singleton,not_or]
   constructor
   ·rintro ⟨g0,g1,g2⟩;exact ⟨⟨⟨h1.1,h1.2,g0⟩,fun x hx => ⟨(g1 x hx).1,(g1 x hx).2.1.1,(g1 x hx).2.2⟩⟩,fun x hx => (g1 x hx).2.1.2,g2⟩
   ·rintro ⟨⟨⟨_,_,g0⟩,g1⟩,g2,g3⟩;exact ⟨g0,fun x hx => ⟨(g1 x hx).1,⟨(g1 x hx).2.1,g2 x hx⟩,(g1 x hx).2.2⟩,g3⟩
  ·rw [if_pos (by simpa using h1)]
   constructor
   ·intro e; omega
   ·rintro ⟨⟨⟨g1,g2,_⟩,_⟩,_⟩; exact absurd (freshB_iff.2 ⟨g1,g2⟩) h1
theorem chkTs_ok (mn : List ByteArray) : ∀ (l : List MtS) (a : List ByteArray),chkTs mn a l = 0 ↔ (∀ e ∈ l,nameB e.name = true ∧ e.name ∉ a ∧ e.inn ∈ mn ∧ e.out ∈ mn) ∧ (l.map MtS.name).Nodup
 | [],a => by simp [chkTs]
 | m :: l,a => by
  unfold chkTs;simp only [List.mem_cons,forall_eq_or_imp,List.map_cons,List.nodup_cons,List.mem_map,not_exists,not_and]
  by_cases h1 : freshB m.name a = true
  ·rw [if_neg (by rw [h1]; decide)]
   by_cases h2 : (memB m.inn mn && memB m.out mn) = true
   ·rw [if_neg (by rw [h2]; decide),chkTs_ok mn l];rw [freshB_iff] at h1
    have h2' : m.inn ∈ mn ∧ m.out ∈ mn := by rw [Bool.and_eq_true,memB_iff,memB_iff] at h2; exact h2
    simp only [List.mem_append,List.mem_singleton,not_or]
    constructor
    ·rintro ⟨g1,g2⟩;exact ⟨⟨⟨h1.1,h1.2,h2'⟩,fun x hx => ⟨(g1 x hx).1,(g1 x hx).2.1.1,(g1 x hx).2.2⟩⟩,fun x hx => (g1 x hx).2.1.2,g2⟩
    ·rintro ⟨⟨_,g1⟩,g2,g3⟩;exact ⟨fun x hx => ⟨(g1 x hx).1,⟨(g1 x hx).2.1,g2 x hx⟩,(g1 x hx).2.2⟩,g3⟩
   ·rw [if_pos (by simpa using h2)]
    constructor
    ·intro e; omega
    ·rintro ⟨⟨⟨_,_,g1,g2⟩,_⟩,_⟩;exact absurd (by rw [Bool.and_eq_true,memB_iff,memB_iff]; exact ⟨g1,g2⟩) h2
  ·rw [if_pos (by simpa using h1)]
   constructor
   ·intro e; omega
   ·rintro ⟨⟨⟨g1,g2,_⟩,_⟩,_⟩; exact absurd (freshB_iff.2 ⟨g1,g2⟩) h1
structure OkS (s : ScS) : Prop where
 name : nameB s.name = true
 some : 0 < s.msgs.length
 big : bigS s = false
 msgs : ∀ m ∈ s.msgs,nameB m.name = true ∧ msgOk s.mn s.en m
 enums : ∀ e ∈ s.enums,nameB e.name = true ∧ chkEb e = 0
 meths : ∀ t ∈ s.methods,nameB t.name = true ∧ t.inn ∈ s.mn ∧ t.out ∈ s.mn
 names : s.mn.Nodup
 enms : s.en.Nodup
 apart : ∀ x ∈ s.en,x ∉ s.mn
 tns : s.tn.Nodup
theorem wholeA_ok (s : ScS) : wholeA s = 0 ↔ nameB s.name = true ∧ 0 < s.msgs.length ∧ bigS s = false := by
 unfold wholeA
 cases h1 : nameB s.name
 ·simp
 ·by_cases h2 : s.msgs.length = 0
  ·rw [if_neg (by decide),if_pos h2]; simp [h2]
  ·rw [if_neg (by decide),if_neg h2]
   cases h3 : bigS s
   ·simp; omega
   ·simp
theorem checkA_ok (s : ScS) : checkA s = 0 ↔ OkS s := by
 unfold checkA partsA;rw [orE_ok,orE_ok,orE_ok,wholeA_ok,chkMs_ok,chkEs_ok,chkTs_ok]
 constructor
 ·rintro ⟨⟨h1,h2,h3⟩,⟨⟨h4,h5⟩,h6,h7⟩,h8,h9⟩
  exact ⟨h1,h2,h3,fun m hm => ⟨(h4 m hm).1,(h4 m hm).2.2⟩,fun e he => ⟨(h6 e he).1,(h6 e he).2.2⟩,fun t ht => ⟨(h8 t ht).1,(h8 t ht).2.2⟩,h5,h7,
   fun x hx => by obtain ⟨e,he,rfl⟩ := List.mem_map.1 hx; exact (h6 e he).2.1,h9⟩
 ·rintro ⟨h1,h2,h3,h4,h5,h6,h7,h8,h9,h10⟩;exact ⟨⟨h1,h2,h3⟩,⟨⟨fun m hm => ⟨(h4 m hm).1,by simp,(h4 m hm).2⟩,h7⟩,fun e he => ⟨(h5 e he).1,h9 _ (List.mem_map_of_mem he),(h5 e he).2⟩,h8⟩,fun t ht => ⟨(h6 t ht).1,by simp,(h6 t ht).2⟩,h10⟩
end
section
def nmrB (k n : Int) : Bool :=
 if k = 3 then decide (0 ≤ n) && decide (n ≤ 1) else if k = 6 then decide (0 ≤ n) && decide (n ≤ 2147483647)
 else if k = 1 then decide (-2147483648 ≤ n) && decide (n ≤ 2147483647) else decide (k = 2)
def kindT (k : Int) : Int := if k = 1 ∨ k = 2 ∨ k = 3 ∨ k = 6 then 1 else if k = 4 ∨ k = 5 then 2 else if k = 7 then 3 else 0
def zroB (t : Tr) : Bool := decide (t.kind = 1 ∨ t.kind = 2 ∨ t.kind = 3) && decide (t.n = 0) && decide (t.s.size = 0) && decide (t.es.length = 0) && decide (t.rest.length = 0)
def errF : List Int → Int
 | [] => 0
 | a :: l => if a = 0 then errF l else a
def fldOf (fs : List FlS) (tag : Int) : Option FlS := fs.find? fun f => decide (f.tag = tag)
def msgOf (s : ScS) (nm : ByteArray) : Option MsS := s.msgs.find? fun m => decide (m.name = nm)
def zMs : MsS := ⟨⟨#[]⟩,[],[]⟩
def treeV (M : ByteArray → Tr → Int) (k : Int) (tn : ByteArray) (t : Tr) : Int :=
 if t.kind ≠ kindT k then 8 else if t.kind = 1 ∧ nmrB k t.n = false then 11 else if k = 4 ∧ validB t.s.data.toList = false then 9 else if t.kind = 3 then M tn t else 0
def oneV (M : ByteArray → Tr → Int) (f : FlS) (t : Tr) : Int :=
 if treeV M f.kind f.tname t ≠ 0 then treeV M f.kind f.tname t else if f.label = 1 ∧ zroB t = true then 12 else 0
def entV (M : ByteArray → Tr → Int) (fs : List FlS) (e : Int × List Tr) : Int :=
 match fldOf fs e.1 with
 | none => 7
 | some f => if f.label ≠ 3 ∧ 1 < e.2.length then 4 else errF (e.2.map (oneV M f))
def msgV : Nat → ScS → ByteArray → Tr → Int
 | 0,_,_,_ => 0
 | n + 1,s,nm,t =>
  if errF (t.es.map (entV (msgV n s) ((msgOf s nm).getD zMs).fields)) ≠ 0 then errF (t.es.map (entV (msgV n s) ((msgOf s nm).getD zMs).fields))
  else if (t.rest.any fun f => (fldOf ((msgOf s nm).getD zMs).fields f.tag).isSome) = true then 7 else 0
def validA (n : Nat) (s : ScS) (nm : ByteArray) (t : Tr) : Int :=
 if checkA s ≠ 0 then 1 else if (msgOf s nm).isSome = false then 14 else if chkN n t = false ∨ t.kind ≠ 3 then 1 else msgV n s nm t
def bareN : Nat → Tr → Prop
 | 0,_ => True
 | n + 1,t => t.rest = [] ∧ ∀ e ∈ t.es,∀ x ∈ e.2,bareN n x
theorem leaf_bare (n : Nat) (k v : Int) (s : ByteArray) : bareN n ⟨k,v,s,[],[]⟩ := by
 cases n with
 | zero => trivial
 | succ n => exact ⟨rfl,by simp⟩
structure OneT (n : Nat) (s : ScS) (f : FlS) (x : Tr) : Prop where
 val : treeV (msgV n s) f.kind f.tname x = 0
 ok : okN n x = true
 sm : SmN n x
 kind : x.kind = kindT f.kind
 bare : bareN n x
structure FitT (n : Nat) (s : ScS) (nm : ByteArray) (t : Tr) : Prop where
 form : t = ⟨3,0,⟨#[]⟩,t.es,[]⟩
 val : msgV n s nm t = 0
 ok : okN n t = true
 sm : SmN n t
 bare : bareN n t
theorem FitT.one {n : Nat} {s : ScS} {f : FlS} {t : Tr} (h : FitT n s f.tname t) (hk : f.kind = 7) : OneT n s f t := by
 have h3 : t.kind = 3 := by rw [h.form]
 refine ⟨?_,h.ok,h.sm,?_,h.bare⟩
 ·rw [treeV,hk,if_neg (by rw [h3]; decide),if_neg (by rw [h3]; simp),if_neg (by simp),if_pos h3];exact h.val
 ·rw [h3,hk]; decide
theorem leaf_sm (n : Nat) (k v : Int) (s : ByteArray) (hs : s.size ≤ 5000) : SmN (n + 1) ⟨k,v,s,[],[]⟩ := ⟨hs,by simp,by simp,by simp,by simp⟩
theorem num_one (n : Nat) (s : ScS) (f : FlS) (v : Int) (hk : kindT f.kind = 1) (hv : nmrB f.kind v = true) (h4 : f.kind ≠ 4) : OneT (n + 1) s f ⟨1,v,⟨#[]⟩,[],[]⟩ := by
 refine ⟨?_,?_,leaf_sm n 1 v _ (by decide),hk.symm,leaf_bare _ _ _ _⟩
 ·rw [treeV,hk,if_neg (by simp),if_neg (by simp [hv]),if_neg (by simp [h4]),if_neg (by simp)]
 ·simp [okN,lvB]
  rfl
def clampI (n : Int) : Int := if n < -2147483648 then -2147483648 else if 2147483647 < n then 2147483647 else n
def pfitB (f : FlS) (x : Tr) : Bool := decide (x.kind = kindT f.kind) && (if f.kind = 3 ∨ f.kind = 6 then nmrB f.kind x.n else if f.kind = 4 then validB x.s.data.toList else true)
def oneP (M : ByteArray → Tr → Tr) (f : FlS) (x : Tr) : Tr := if f.kind = 1 then ⟨1,clampI x.n,⟨#[]⟩,[],[]⟩ else if f.kind = 7 then M f.tname x else x
def lastP (f : FlS) (l : List Tr) : List Tr := if f.label = 3 then l else l.drop (l.length - 1)
def entP (M : ByteArray → Tr → Tr) (fs : List FlS) (e : Int × List Tr) : Option (Int × List Tr) :=
 match fldOf fs e.1 with
 | none => none
 | some f => if e.2.all (pfitB f) = true then (if f.label = 1 ∧ zroB (((lastP f e.2).map (oneP M f)).headD tr0) = true then none else some (f.tag,(lastP f e.2).map (oneP M f))) else none
def prM : Nat → ScS → ByteArray → Tr → Tr
 | 0,_,_,_ => tr0
 | n + 1,s,nm,t => ⟨3,0,⟨#[]⟩,t.es.filterMap (entP (prM n s) ((msgOf s nm).getD zMs).fields),[]⟩
def projA (n : Nat) (s : ScS) (nm : ByteArray) (t : Tr) : Tr × Bool := if checkA s = 0 ∧ (msgOf s nm).isSome = true ∧ t.kind = 3 ∧ chkN n t = true then (prM n s nm t,true) else (tr0,false)
theorem clampI_in (n : Int) : -2147483648 ≤ clampI n ∧ clampI n ≤ 2147483647 := by
 unfold clampI; split
 ·omega
 ·split <;> omega
theorem clampI_of {n : Int} (h : -2147483648 ≤ n ∧ n ≤ 2147483647) : clampI n = n := by
 unfold clampI; rw [if_neg (by omega),if_neg (by omega)]
theorem nmr1 (n : Int) : nmrB 1 n = true ↔ -2147483648 ≤ n ∧ n ≤ 2147483647 := by simp [nmrB]
theorem errF_all {l : List Int} : errF l = 0 ↔ ∀ x ∈ l,x = 0 := by
 induction l with
 | nil => simp [errF]
 | cons a l ih =>
  by_cases h : a = 0
  ·simp [errF,h,ih]
  ·simp [errF,h]
theorem msgV_zero {n : Nat} {s : ScS} {nm : ByteArray} {t : Tr} (h : errF (t.es.map (entV (msgV n s) ((msgOf s nm).getD zMs).fields)) = 0) (hr : t.rest = []) : msgV (n + 1) s nm t = 0 := by
 rw [msgV,h,if_neg (by simp),hr]; simp
theorem lvB_msg {es : List (Int × List Tr)} (h : entsB 0 es = true) : lvB ⟨3,0,⟨#[]⟩,es,[]⟩ = true := by
 simp [lvB,h,restB,risesB]
 rfl
theorem entsB_le : ∀ {es : List (Int × List Tr)} {a b : Int},entsB a es = true → b ≤ a → entsB b es = true
 | [],_,_,_,_ => rfl
 | e :: l,a,b,h,hb => by
  simp only [entsB,Bool.and_eq_true,decide_eq_true_eq] at h ⊢;obtain ⟨⟨⟨⟨⟨h1,h2⟩,h3⟩,h4⟩,h5⟩,h6⟩ := h;exact ⟨⟨⟨⟨⟨by omega,h2⟩,h3⟩,h4⟩,h5⟩,h6⟩
theorem fldP {fs : List FlS} {t : Int} {f : FlS} (h : fldOf fs t = some f) : f.tag = t ∧ f ∈ fs := ⟨by simpa using List.find?_some h,List.mem_of_find?_eq_some h⟩
theorem lastP_mem {f : FlS} {l : List Tr} {x : Tr} (h : x ∈ lastP f l) : x ∈ l := by
 unfold lastP at h
 split at h
 ·exact h
 ·exact List.mem_of_mem_drop h
theorem lastP_len {f : FlS} {l : List Tr} (h : 1 ≤ l.length) : 1 ≤ (lastP f l).length ∧ (lastP f l).length ≤ l.length ∧ (f.label ≠ 3 → (lastP f l).length = 1) := by
 unfold lastP
 split
 ·rename_i h3; exact ⟨h,Nat.le_refl _,fun e => absurd h3 e⟩
 ·rw [List.length_drop]; exact ⟨by omega,by omega,fun _ => by omega⟩
theorem entP_some {M : ByteArray → Tr → Tr} {fs : List FlS} {e e' : Int × List Tr} (h : entP M fs e = some e') : ∃ f,fldOf fs e.1 = some f ∧ e.2.all (pfitB f) = true ∧ ¬ (f.label = 1 ∧ zroB (((lastP f e.2).map (oneP M f)).headD tr0) = true) ∧ e' = (f.tag,(lastP f e.2).map (oneP M f)) := by
 unfold entP at h
 cases hf : fldOf fs e.1 with
 | none => rw [hf] at h; cases h
 | some f =>
  rw [hf] at h;simp only at h
  split at h
  ·rename_i h1
   split at h
   ·cases h
   ·rename_i h2
    exact ⟨f,rfl,h1,h2,(Option.some.inj h).symm⟩
  ·cases h
theorem oneP_one {n : Nat} {s : ScS} {f : FlS} {x : Tr} (hk : 1 ≤ f.kind ∧ f.kind ≤ 7) (hp : pfitB f x = true) (hok : okN n x = true) (hsm : SmN n x)
  (IH : x.kind = 3 → FitT n s f.tname (prM n s f.tname x) ∧ bareN n (prM n s f.tname x)) : OneT n s f (oneP (prM n s) f x) ∧ bareN n (oneP (prM n s) f x) := by
 obtain ⟨n,rfl⟩ : ∃ m,n = m + 1 := by cases n with
  | zero => exact hsm.elim
  | succ m => exact ⟨m,rfl⟩
 simp only [pfitB,Bool.and_eq_true,decide_eq_true_eq] at hp;obtain ⟨hk1,hp⟩ := hp;unfold oneP
 by_cases h1 : f.kind = 1
 ·rw [if_pos h1];exact ⟨num_one n s f _ (by rw [h1]; rfl) (by rw [h1,nmr1]; exact clampI_in _) (by rw [h1]; decide),rfl,by simp⟩
 ·rw [if_neg h1]
  by_cases h7 : f.kind = 7
  ·rw [if_pos h7];obtain ⟨q1,q2⟩ := IH (by rw [hk1,h7]; rfl);exact ⟨q1.one h7,q2⟩
  ·rw [if_neg h7]
   have hlv : lvB x = true := by simp only [okN,Bool.and_eq_true] at hok; exact hok.1
   have hkx : x.kind = 1 ∨ x.kind = 2 := by
    rw [hk1]
    have : f.kind = 2 ∨ f.kind = 3 ∨ f.kind = 4 ∨ f.kind = 5 ∨ f.kind = 6 := by omega
    rcases this with e | e | e | e | e <;> rw [e] <;> simp [kindT]
   have hre : x.es = [] ∧ x.rest = [] := by
    unfold lvB at hlv
    rcases hkx with e | e
    ·rw [if_pos e] at hlv; simp at hlv; exact ⟨hlv.1.2,hlv.2⟩
    ·rw [if_neg (by rw [e]; decide),if_pos e] at hlv; simp at hlv; exact ⟨hlv.1.2,hlv.2⟩
   have hba : bareN (n + 1) x := ⟨hre.2,by rw [hre.1]; simp⟩;refine ⟨⟨?_,hok,hsm,hk1,hba⟩,hba⟩;unfold treeV;rw [if_neg (by rw [hk1]; simp)]
   have hn1 : ¬ (x.kind = 1 ∧ nmrB f.kind x.n = false) := by
    rintro ⟨a,b⟩
    have : f.kind = 2 ∨ f.kind = 3 ∨ f.kind = 6 := by
     rw [a] at hk1
     have : f.kind = 2 ∨ f.kind = 3 ∨ f.kind = 4 ∨ f.kind = 5 ∨ f.kind = 6 := by omega
     rcases this with e | e | e | e | e
     ·exact .inl e
     ·exact .inr (.inl e)
     ·rw [e] at hk1; simp [kindT] at hk1
     ·rw [e] at hk1; simp [kindT] at hk1
     ·exact .inr (.inr e)
    rcases this with e | e | e
    ·rw [e] at b; simp [nmrB] at b
    ·rw [if_pos (.inl e)] at hp; rw [hp] at b; cases b
    ·rw [if_pos (.inr e)] at hp; rw [hp] at b; cases b
   rw [if_neg hn1]
   have hn2 : ¬ (f.kind = 4 ∧ validB x.s.data.toList = false) := by
    rintro ⟨a,b⟩;rw [if_neg (by omega),if_pos a] at hp;rw [hp] at b; cases b
   rw [if_neg hn2,if_neg (by omega)]
theorem prM_fit {s : ScS} (hks : ∀ nm m,msgOf s nm = some m → ∀ f ∈ m.fields,1 ≤ f.kind ∧ f.kind ≤ 7) : ∀ (n : Nat) (nm : ByteArray) (t : Tr),t.kind = 3 → okN n t = true → SmN n t → FitT n s nm (prM n s nm t) ∧ bareN n (prM n s nm t)
 | 0,_,_,_,_,h => h.elim
 | n + 1,nm,t,hk,hok,hsm => by
  have hfk : ∀ f ∈ ((msgOf s nm).getD zMs).fields,1 ≤ f.kind ∧ f.kind ≤ 7 := by
   cases hm : msgOf s nm with
   | none => simp [zMs]
   | some m => exact hks nm m hm
  have hok' := hok;simp only [okN,Bool.and_eq_true,if_pos hk] at hok';obtain ⟨hlv,hsub⟩ := hok'
  have hen : entsB 0 t.es = true := by
   unfold lvB at hlv;rw [if_neg (by rw [hk]; decide),if_neg (by rw [hk]; decide),if_pos hk] at hlv;simp only [Bool.and_eq_true] at hlv;exact hlv.1.2
  rw [List.all_eq_true] at hsub;have hsok : ∀ e ∈ t.es,∀ x ∈ e.2,okN n x = true := fun e he x hx => hsub x (mem_subs.2 ⟨e,he,hx⟩)
  obtain ⟨-, -,hsl, -,hse⟩ := hsm
  have HE : ∀ e ∈ t.es,∀ e',entP (prM n s) ((msgOf s nm).getD zMs).fields e = some e' → ∃ f,fldOf ((msgOf s nm).getD zMs).fields e.1 = some f ∧ e' = (f.tag,(lastP f e.2).map (oneP (prM n s) f)) ∧ ¬ (f.label = 1 ∧ zroB (((lastP f e.2).map (oneP (prM n s) f)).headD tr0) = true) ∧ ∀ y ∈ e'.2,OneT n s f y ∧ bareN n y := fun e he e' h => by
   obtain ⟨f,h1,h2,h3,rfl⟩ := entP_some h;refine ⟨f,h1,rfl,h3,fun y hy => ?_⟩;obtain ⟨x,hx,rfl⟩ := List.mem_map.1 hy;have hxe := lastP_mem hx;exact oneP_one (hfk f (fldP h1).2) (List.all_eq_true.1 h2 x hxe) (hsok e he x hxe) ((hse e he).2 x hxe) fun h3 => prM_fit hks n f.tname x h3 (hsok e he x hxe) ((hse e he).2 x hxe)
  have HM : ∀ e' ∈ t.es.filterMap (entP (prM n s) ((msgOf s nm).getD zMs).fields),∃ e ∈ t.es,entP (prM n s) ((msgOf s nm).getD zMs).fields e = some e' := fun e' h => by
   obtain ⟨e,he,h⟩ := List.mem_filterMap.1 h;exact ⟨e,he,h⟩
  have hents : entsB 0 (t.es.filterMap (entP (prM n s) ((msgOf s nm).getD zMs).fields)) = true := by
   have : ∀ (es : List (Int × List Tr)) (a : Int),(∀ e ∈ es,e ∈ t.es) → entsB a es = true → entsB a (es.filterMap (entP (prM n s) ((msgOf s nm).getD zMs).fields)) = true := by
    intro es
    induction es with
    | nil => intro a _ _; rfl
    | cons e l ih =>
     intro a hin h;simp only [entsB,Bool.and_eq_true,decide_eq_true_eq] at h;obtain ⟨⟨⟨⟨⟨h1,h2⟩,h3⟩,h4⟩,h5⟩,h6⟩ := h;have ih' := ih e.1 (fun x hx => hin x (List.mem_cons_of_mem _ hx)) h6
     cases hge : entP (prM n s) ((msgOf s nm).getD zMs).fields e with
     | none => rw [List.filterMap_cons_none hge]; exact entsB_le ih' (by omega)
     | some e' =>
      rw [List.filterMap_cons_some hge];obtain ⟨f,q1,rfl,q3,q4⟩ := HE e (hin e (List.mem_cons_self ..)) e' hge;have hl := lastP_len (f := f) h3;simp only [entsB,Bool.and_eq_true,decide_eq_true_eq,(fldP q1).1,List.length_map];refine ⟨⟨⟨⟨⟨h1,h2⟩,hl.1⟩,by omega⟩,?_⟩,ih'⟩;rw [List.all_eq_true];intro y hy;obtain ⟨z,l',hl'⟩ := List.exists_cons_of_length_pos (l := (lastP f e.2).map (oneP (prM n s) f)) (by rw [List.length_map]; omega);rw [hl'];simp only [List.head?_cons,Option.map_some,Option.getD_some,beq_iff_eq];rw [(q4 y hy).1.kind,(q4 z (by simp only; rw [hl']; simp)).1.kind]
   exact this t.es 0 (fun _ h => h) hen
  have HBA : bareN (n + 1) (prM (n + 1) s nm t) := by
   refine ⟨rfl,fun e' he' y hy => ?_⟩;obtain ⟨e,he,h⟩ := HM e' he';obtain ⟨f,q1,rfl,q3,q4⟩ := HE e he e' h;exact (q4 y hy).2
  refine ⟨⟨rfl,?_,?_,?_,HBA⟩,HBA⟩
  ·refine msgV_zero (t := prM (n + 1) s nm t) ?_ rfl
   show errF ((t.es.filterMap (entP (prM n s) ((msgOf s nm).getD zMs).fields)).map (entV (msgV n s) ((msgOf s nm).getD zMs).fields)) = 0
   rw [errF_all];intro z hz;obtain ⟨e',he',rfl⟩ := List.mem_map.1 hz;obtain ⟨e,he,h⟩ := HM e' he';obtain ⟨f,q1,rfl,q3,q4⟩ := HE e he e' h
   have hft : fldOf ((msgOf s nm).getD zMs).fields f.tag = some f := by rw [(fldP q1).1]; exact q1
   have hlen : 1 ≤ e.2.length := by
    have : ∀ (es : List (Int × List Tr)) (a : Int),entsB a es = true → ∀ e ∈ es,1 ≤ e.2.length := by
     intro es
     induction es with
     | nil => intro a _ e he; cases he
     | cons b l ih =>
      intro a h e he;simp only [entsB,Bool.and_eq_true,decide_eq_true_eq] at h
      rcases List.mem_cons.1 he with rfl | he
      ·exact h.1.1.1.2
      ·exact ih _ h.2 e he
    exact this t.es 0 hen e he
   have hl := lastP_len (f := f) hlen;simp only [entV,hft];rw [if_neg (by rintro ⟨a,b⟩; rw [List.length_map,hl.2.2 a] at b; omega),errF_all];intro z hz;obtain ⟨y,hy,rfl⟩ := List.mem_map.1 hz;unfold oneV;rw [(q4 y hy).1.val,if_neg (by simp),if_neg];rintro ⟨a,b⟩;refine q3 ⟨a,?_⟩
   have h1 : ((lastP f e.2).map (oneP (prM n s) f)).length = 1 := by rw [List.length_map]; exact hl.2.2 (by rw [a]; decide)
   obtain ⟨y',hy'⟩ := List.length_eq_one_iff.1 h1;rw [hy'] at hy ⊢
   obtain rfl : y = y' := by simpa using hy
   exact b
  ·simp only [prM,okN,Bool.and_eq_true];refine ⟨?_,?_⟩
   ·exact lvB_msg hents
   ·rw [if_pos trivial,List.all_eq_true];intro y hy;obtain ⟨e',he',hy'⟩ := mem_subs.1 hy;obtain ⟨e,he,h⟩ := HM e' he';obtain ⟨f,q1,rfl,q3,q4⟩ := HE e he e' h;exact (q4 y hy').1.ok
  ·refine ⟨(by show (0 : Nat) ≤ 5000; omega),by simp [prM],?_,by simp [prM],fun e' he' => ?_⟩
   ·exact Nat.le_trans (List.length_filterMap_le _ _) hsl
   ·obtain ⟨e,he,h⟩ := HM e' he';obtain ⟨f,q1,rfl,q3,q4⟩ := HE e he e' h;refine ⟨?_,fun y hy => (q4 y hy).1.sm⟩;have h7 := (hse e he).1;simp only [List.length_map];unfold lastP
    split
    ·exact h7
    ·rw [List.length_drop]; omega
structure AgrS (s c : ScS) (p : ByteArray → Prop) : Prop where
 same : ∀ nm,p nm → msgOf c nm = msgOf s nm
 cls : ∀ nm m,p nm → msgOf s nm = some m → ∀ f ∈ m.fields,f.kind = 7 → p f.tname
theorem ents_one : ∀ (es : List (Int × List Tr)) (a : Int),entsB a es = true → ∀ e ∈ es,1 ≤ e.2.length
 | [],_,_,e,he => by cases he
 | b :: l,a,h,e,he => by
  simp only [entsB,Bool.and_eq_true,decide_eq_true_eq] at h
  rcases List.mem_cons.1 he with rfl | he
  ·exact h.1.1.1.2
  ·exact ents_one l _ h.2 e he
theorem fit_ents {n : Nat} {s : ScS} {nm : ByteArray} {t : Tr} (h : FitT (n + 1) s nm t) : entsB 0 t.es = true ∧ (∀ e ∈ t.es,∀ x ∈ e.2,okN n x = true ∧ SmN n x) ∧ ∀ e ∈ t.es,entV (msgV n s) ((msgOf s nm).getD zMs).fields e = 0 := by
 have hk : t.kind = 3 := by rw [h.form]
 have h1 := h.ok;simp only [okN,Bool.and_eq_true,if_pos hk] at h1;obtain ⟨h2,h3⟩ := h1;refine ⟨?_,fun e he x hx => ⟨?_,(h.sm.2.2.2.2 e he).2 x hx⟩,?_⟩
 ·unfold lvB at h2;rw [if_neg (by rw [hk]; decide),if_neg (by rw [hk]; decide),if_pos hk] at h2;simp only [Bool.and_eq_true] at h2;exact h2.1.2
 ·exact List.all_eq_true.1 h3 x (mem_subs.2 ⟨e,he,hx⟩)
 ·have h4 := h.val;simp only [msgV] at h4
  by_cases hq : errF (t.es.map (entV (msgV n s) ((msgOf s nm).getD zMs).fields)) = 0
  ·rw [errF_all] at hq;exact fun e he => hq _ (List.mem_map.2 ⟨e,he,rfl⟩)
  ·rw [if_pos hq] at h4; exact absurd h4 hq
theorem entV_zero {M : ByteArray → Tr → Int} {fs : List FlS} {e : Int × List Tr} (h : entV M fs e = 0) : ∃ f,fldOf fs e.1 = some f ∧ (f.label = 3 ∨ e.2.length ≤ 1) ∧ ∀ x ∈ e.2,treeV M f.kind f.tname x = 0 ∧ ¬ (f.label = 1 ∧ zroB x = true) := by
 unfold entV at h
 cases hf : fldOf fs e.1 with
 | none => rw [hf] at h; simp at h
 | some f =>
  rw [hf] at h;simp only at h
  split at h
  ·exact absurd h (by decide)
  ·rename_i h1
   rw [errF_all] at h;refine ⟨f,rfl,by omega,fun x hx => ?_⟩;have h2 := h _ (List.mem_map.2 ⟨x,hx,rfl⟩);unfold oneV at h2
   split at h2
   ·rename_i h3; exact absurd h2 h3
   ·rename_i h3
    split at h2
    ·exact absurd h2 (by decide)
    ·rename_i h4
     exact ⟨by omega,h4⟩
theorem treeV_zero {M : ByteArray → Tr → Int} {k : Int} {tn : ByteArray} {x : Tr} (h : treeV M k tn x = 0) : x.kind = kindT k ∧ (x.kind = 1 → nmrB k x.n = true) ∧ (k = 4 → validB x.s.data.toList = true) ∧ (x.kind = 3 → M tn x = 0) := by
 unfold treeV at h
 split at h
 ·exact absurd h (by decide)
 ·rename_i h1
  split at h
  ·exact absurd h (by decide)
  ·rename_i h2
   split at h
   ·exact absurd h (by decide)
   ·rename_i h3
    refine ⟨by omega,fun e => ?_,fun e => ?_,fun e => ?_⟩
    ·cases hb : nmrB k x.n with
     | true => rfl
     | false => exact absurd ⟨e,hb⟩ h2
    ·cases hb : validB x.s.data.toList with
     | true => rfl
     | false => exact absurd ⟨e,hb⟩ h3
    ·rw [if_pos e] at h; exact h
theorem lastP_all {f : FlS} {l : List Tr} (h : f.label = 3 ∨ l.length ≤ 1) : lastP f l = l := by
 unfold lastP
 split
 ·rfl
 ·rename_i h3
  have : l.length - 1 = 0 := by omega
  rw [this]; rfl
theorem oneP_keep {n : Nat} {s c : ScS} {f : FlS} {x : Tr} (hk : 1 ≤ f.kind ∧ f.kind ≤ 7) (hv : treeV (msgV n s) f.kind f.tname x = 0) (hok : okN n x = true) (hsm : SmN n x) (IH : f.kind = 7 → x.kind = 3 → msgV n s f.tname x = 0 → prM n c f.tname x = x) : pfitB f x = true ∧ oneP (prM n c) f x = x := by
 obtain ⟨n,rfl⟩ : ∃ m,n = m + 1 := by cases n with
  | zero => exact hsm.elim
  | succ m => exact ⟨m,rfl⟩
 obtain ⟨h1,h2,h3,h4⟩ := treeV_zero hv;refine ⟨?_,?_⟩
 ·simp only [pfitB,Bool.and_eq_true,decide_eq_true_eq];refine ⟨h1,?_⟩
  split
  ·rename_i h5
   refine h2 ?_;rw [h1]
   rcases h5 with e | e <;> rw [e] <;> rfl
  ·split
   ·rename_i h6; exact h3 h6
   ·rfl
 ·unfold oneP
  split
  ·rename_i h5
   have hx1 : x.kind = 1 := by rw [h1,h5]; rfl
   have hlv : lvB x = true := by simp only [okN,Bool.and_eq_true] at hok; exact hok.1
   unfold lvB at hlv;rw [if_pos hx1] at hlv
   simp at hlv
   have hn := h2 hx1;rw [h5,nmr1] at hn;obtain ⟨k,m,b,es,rest⟩ := x;simp only at hlv hx1 hn ⊢;obtain ⟨⟨q1,rfl⟩,rfl⟩ := hlv;subst hx1;rw [clampI_of hn,show b = ⟨#[]⟩ from q1]
  ·split
   ·rename_i h6
    have hx3 : x.kind = 3 := by rw [h1,h6]; rfl
    exact IH h6 hx3 (h4 hx3)
   ·rfl
theorem fitT_of {n : Nat} {s : ScS} {nm : ByteArray} {x : Tr} (hk : x.kind = 3) (hv : msgV n s nm x = 0) (hok : okN n x = true) (hsm : SmN n x) (hb : bareN n x) : FitT n s nm x := by
 obtain ⟨n,rfl⟩ : ∃ m,n = m + 1 := by cases n with
  | zero => exact hsm.elim
  | succ m => exact ⟨m,rfl⟩
 refine ⟨?_,hv,hok,hsm,hb⟩
 have hlv : lvB x = true := by simp only [okN,Bool.and_eq_true] at hok; exact hok.1
 unfold lvB at hlv;rw [if_neg (by rw [hk]; decide),if_neg (by rw [hk]; decide),if_pos hk] at hlv;simp only [Bool.and_eq_true,beq_iff_eq] at hlv;have hr := hb.1;obtain ⟨k,m,b,es,rest⟩ := x;simp only at hlv hk hr ⊢;obtain ⟨⟨⟨q1,q2⟩,_⟩,_⟩ := hlv;subst hk;rw [q1,hr]
 have : b = ⟨#[]⟩ := by
  have h0 : b.data.size = 0 := q2;exact ByteArray.ext (Array.eq_empty_of_size_eq_zero h0)
 rw [this]
theorem entP_keep {n : Nat} {c : ScS} {fs : List FlS} {e : Int × List Tr} {f : FlS} (hf : fldOf fs e.1 = some f) (hl : f.label = 3 ∨ e.2.length ≤ 1) (h1 : 1 ≤ e.2.length) (hx : ∀ x ∈ e.2,pfitB f x = true ∧ oneP (prM n c) f x = x ∧ ¬ (f.label = 1 ∧ zroB x = true)) : entP (prM n c) fs e = some e := by
 have hm : (lastP f e.2).map (oneP (prM n c) f) = e.2 := by
  rw [lastP_all hl]
  conv => rhs; rw [← List.map_id e.2]
  exact List.map_congr_left fun x hx' => (hx x hx').2.1
 unfold entP;rw [hf];simp only;rw [if_pos (List.all_eq_true.2 fun x hx' => (hx x hx').1),hm,if_neg]
 ·rw [(fldP hf).1]
 ·rintro ⟨a,b⟩;obtain ⟨x,l,hl'⟩ := List.exists_cons_of_length_pos (show 0 < e.2.length by omega);rw [hl'] at b;exact (hx x (by rw [hl']; simp)).2.2 ⟨a,b⟩
theorem filterMap_id {α : Type} {g : α → Option α} {l : List α} (h : ∀ x ∈ l,g x = some x) : l.filterMap g = l := by
 induction l with
 | nil => rfl
 | cons a l ih => rw [List.filterMap_cons_some (h a (List.mem_cons_self ..)),ih fun x hx => h x (List.mem_cons_of_mem _ hx)]
theorem prM_keep {s c : ScS} {p : ByteArray → Prop} (ha : AgrS s c p) (hks : ∀ nm m,msgOf s nm = some m → ∀ f ∈ m.fields,1 ≤ f.kind ∧ f.kind ≤ 7) : ∀ (n : Nat) (nm : ByteArray) (t : Tr),p nm → FitT n s nm t → bareN n t → prM n c nm t = t
 | 0,_,_,_,h,_ => h.sm.elim
 | n + 1,nm,t,hp,h,hb => by
  obtain ⟨h1,h2,h3⟩ := fit_ents h;rw [h.form];simp only [prM];rw [ha.same nm hp];rw [filterMap_id];intro e he;obtain ⟨f,q1,q2,q3⟩ := entV_zero (h3 e he)
  obtain ⟨m,hm⟩ : ∃ m,msgOf s nm = some m := by
   cases hm : msgOf s nm with
   | none => rw [hm] at q1; simp [zMs,fldOf] at q1
   | some m => exact ⟨m,rfl⟩
  have hfm : f ∈ m.fields := by rw [hm] at q1; exact (fldP q1).2
  refine entP_keep q1 q2 (ents_one _ _ h1 e he) fun x hx => ?_
  obtain ⟨r1,r2⟩ := q3 x hx;obtain ⟨o1,o2⟩ := h2 e he x hx;have hbx := hb.2 e he x hx;obtain ⟨k1,k2⟩ := oneP_keep (c := c) (hks nm m hm f hfm) r1 o1 o2 fun h7 hx3 hv => prM_keep ha hks n f.tname x (ha.cls nm m hp hm f hfm h7) (fitT_of hx3 hv o1 o2 hbx) hbx
  exact ⟨k1,k2,r2⟩
theorem prM_twice {s : ScS} (hks : ∀ nm m,msgOf s nm = some m → ∀ f ∈ m.fields,1 ≤ f.kind ∧ f.kind ≤ 7) {n : Nat} {nm : ByteArray} {t : Tr} (hk : t.kind = 3) (hok : okN n t = true) (hsm : SmN n t) : prM n s nm (prM n s nm t) = prM n s nm t := by
 obtain ⟨h1,h2⟩ := prM_fit hks n nm t hk hok hsm;exact prM_keep (p := fun _ => True) ⟨fun _ _ => rfl,fun _ _ _ _ _ _ _ => trivial⟩ hks n nm _ trivial h1 h2
theorem prM_dp {s : ScS} : ∀ (n : Nat) (nm : ByteArray) (t : Tr),t.kind = 3 → dpN n (prM n s nm t) ≤ dpN n t
 | 0,_,_,_ => Nat.le_refl _
 | n + 1,nm,t,hk => by
  simp only [prM,dpN,if_pos hk];rw [if_pos trivial];refine Nat.add_le_add_left (foldr_max_le fun z hz => ?_) 1;obtain ⟨y,hy,rfl⟩ := List.mem_map.1 hz;obtain ⟨e',he',hy'⟩ := mem_subs.1 hy;obtain ⟨e,he,h⟩ := List.mem_filterMap.1 he';obtain ⟨f,q1,q2,q3,rfl⟩ := entP_some h;obtain ⟨x,hx,rfl⟩ := List.mem_map.1 hy';have hxe := lastP_mem hx;have hle : dpN n x ≤ ((subs t.es).map (dpN n)).foldr max 0 := le_foldr_max (List.mem_map.2 ⟨x,mem_subs.2 ⟨e,he,hxe⟩,rfl⟩);unfold oneP
  split
  ·cases n with
   | zero => exact Nat.zero_le _
   | succ n => simp [dpN]
  ·split
   ·rename_i h7
    have hp := List.all_eq_true.1 q2 x hxe;simp only [pfitB,Bool.and_eq_true,decide_eq_true_eq] at hp;exact Nat.le_trans (prM_dp n f.tname x (by rw [hp.1,h7]; rfl)) hle
   ·exact hle
theorem entP_congr {M M' : ByteArray → Tr → Tr} {fs : List FlS} {e : Int × List Tr} (h : ∀ x ∈ e.2,∀ nm,M nm x = M' nm x) : entP M fs e = entP M' fs e := by
 have h1 : ∀ f,(lastP f e.2).map (oneP M f) = (lastP f e.2).map (oneP M' f) := fun f => List.map_congr_left fun x hx => by
  simp only [oneP,h x (lastP_mem hx)]
 unfold entP
 cases fldOf fs e.1 with
 | none => rfl
 | some f => simp only [h1]
theorem prM_more {s : ScS} : ∀ (n m : Nat) (nm : ByteArray) (t u : Tr),DpN n t → DpN m u → t.es = u.es → prM n s nm t = prM m s nm u
 | 0,_,_,_,_,h,_,_ => h.elim
 | _ + 1,0,_,_,_,_,h,_ => h.elim
 | n + 1,m + 1,nm,t,u,h,k,e => by
  simp only [prM]
  congr 1
  rw [← e];refine filterMap_congrP fun x hx => entP_congr fun y hy nm => ?_
  exact prM_more n m nm y y (h x hx y hy) (k x (e ▸ hx) y hy) rfl
where
 filterMap_congrP {α β : Type} {f g : α → Option β} {l : List α} (h : ∀ x ∈ l,f x = g x) : l.filterMap f = l.filterMap g := by
  induction l with
  | nil => rfl
  | cons a l ih =>
   rw [List.filterMap_cons,List.filterMap_cons,h a (List.mem_cons_self ..),ih fun x hx => h x (List.mem_cons_of_mem _ hx)]
theorem oneP_dpn {n : Nat} {M : ByteArray → Tr → Tr} {f : FlS} {x : Tr} (hx : DpN n x) (h : ∀ nm,DpN n (M nm x)) : DpN n (oneP M f x) := by
 unfold oneP
 split
 ·cases n with
  | zero => exact hx
  | succ n => exact fun e he => by cases he
 ·split
  ·exact h _
  ·exact hx
theorem prM_dpn {s : ScS} : ∀ (n : Nat) (nm : ByteArray) (t : Tr),DpN n t → DpN n (prM n s nm t)
 | 0,_,_,h => h.elim
 | n + 1,nm,t,h => fun e he x hx => by
  simp only [prM,List.mem_filterMap] at he;obtain ⟨e0,h0,h1⟩ := he;obtain ⟨f, -, -, -,rfl⟩ := entP_some h1;simp only [List.mem_map] at hx;obtain ⟨y,hy,rfl⟩ := hx;have hyd := h e0 h0 y (lastP_mem hy);exact oneP_dpn hyd fun nm => prM_dpn n nm y hyd
theorem TrR.fit : ∀ {n m : Nat} {w : World} {r : List Value} {t : Tr},TrR n w r t → DpN m t → TrR m w r t
 | 0,_,_,_,_,h,_ => h.elim
 | _ + 1,0,_,_,_,_,h => h.elim
 | n + 1,m + 1,w,r,t,h,k => by
  obtain ⟨ve,vr,h1,h2,h3,h4,h5,h6,h7,h8,h9⟩ := h;refine ⟨ve,vr,h1,h2,h3,h4,h5,h6,h7.imp fun r e he hp => ?_,h8,h9⟩;obtain ⟨vt,g1,g2,g3⟩ := hp;exact ⟨vt,g1,g2,g3.imp fun r x hx hp => hp.fit (k e he x hx)⟩
end
section
open Go.ChangeShapes Go.WideShapes Go.ChangeAt Go.RowKit
abbrev PId : Type := Pl × Pl
def pidV (x : PId) : Value := .agg #[.pointer x.1.1,.int .i64 (x.1.2 : Int),.pointer x.2.1,.int .i64 (x.2.2 : Int)]
abbrev Vw : Type := ByteArray × PId
def vwC (x : Vw) : List Value := [.string x.1,.pointer x.2.1.1,.int .i64 (x.2.1.2 : Int),.pointer x.2.2.1,.int .i64 (x.2.2.2 : Int)]
def vwV (x : Vw) : Value := .agg (vwC x).toArray
def PIdOk (w : World) (x : PId) : Prop := PlOk w x.1 ∧ PlOk w x.2
theorem vwV_inj {x y : Vw} : vwV x = vwV y ↔ x = y := by
 obtain ⟨s,⟨p1,c1⟩,⟨p2,c2⟩⟩ := x;obtain ⟨s',⟨q1,d1⟩,⟨q2,d2⟩⟩ := y
 simp [vwV,vwC]
 intro _
 constructor
 ·rintro ⟨h4,h5,h6,h7⟩; exact ⟨⟨h4,by omega⟩,h6,by omega⟩
 ·rintro ⟨⟨h4,h5⟩,h6,h7⟩; exact ⟨h4,by omega,h6,by omega⟩
theorem eql_vw (w : World) (x y : Vw) (hx : PIdOk w x.2) (hy : PIdOk w y.2) : (Op.equal 108 (vwV x) (vwV y)).run Tryz.prog w = .ok (decide (x = y)) w := by
 obtain ⟨s,⟨p1,c1⟩,⟨p2,c2⟩⟩ := x;obtain ⟨s',⟨q1,d1⟩,⟨q2,d2⟩⟩ := y;have h1 := fun d => eql_ptr w d p1 q1 hx.1 hy.1
 have h2 := fun d => eql_ptrR w d p2 q2 hx.2 hy.2
 by_cases e4 : s = s'
 ·by_cases e5 : p1 = q1
  ·by_cases e6 : c1 = d1
   ·by_cases e7 : p2 = q2
    ·by_cases e8 : c2 = d2
     ·subst e4 e5 e6 e7 e8
      simp [vwV,vwC,Op.equal,Op.maxDepth,go_sem,h1,h2]
     ·have e9 : ¬ (c2 : Int) = (d2 : Int) := by omega
      subst e4 e5 e6 e7
      simp [vwV,vwC,Op.equal,Op.maxDepth,go_sem,h1,h2,e8,e9]
    ·subst e4 e5 e6
     simp [vwV,vwC,Op.equal,Op.maxDepth,go_sem,h1,h2,e7]
   ·have e9 : ¬ (c1 : Int) = (d1 : Int) := by omega
    subst e4 e5
    simp [vwV,vwC,Op.equal,Op.maxDepth,go_sem,h1,h2,e6,e9]
  ·subst e4
   simp [vwV,vwC,Op.equal,Op.maxDepth,go_sem,h1,h2,e5]
 ·have e9 := toList_ne e4
  simp [vwV,vwC,Op.equal,Op.maxDepth,go_sem,h1,h2,e4,e9]
theorem check_vw (w : World) (b : Bool) (x : Vw) : (Instr.checkKey b 10000 108 (vwV x)).run Tryz.prog w = .ok () w := by kernel_rfl
theorem same_vw (n : Nat) (x : Vw) : Instr.sameBits (n + 1) (vwV x) (vwV x) = true := by
 simp [vwV,vwC,Instr.sameBits]
 have hb : ∀ s : ByteArray,(s == s) = true := fun ⟨d⟩ => by show (d == d) = true; simp
 exact hb _
theorem uSeen : Tryz.prog.underlying 72 = some (.map 108 30) := by kernel_rfl
theorem zeroTrP (w : World) : (zeroValue 30).run Tryz.prog w = .ok (.agg #[.int .i64 0,.int .i64 0,.string ⟨#[]⟩,.slice none 0 0,.slice none 0 0]) w := by kernel_rfl
theorem told_vw {α : Type} {f : α → Vw} {g : α → Value} {w : World} {x : Vw} {L : List α} (hx : PIdOk w x.2) (hL : ∀ y ∈ L,PIdOk w (f y).2) : Told 108 w (vwV x) ((L.map fun y => (vwV (f y),g y)).map Prod.fst) := by
 intro q hq;obtain ⟨p,hp,rfl⟩ := List.mem_map.1 hq;obtain ⟨y,hy,rfl⟩ := List.mem_map.1 hp;have h := eql_vw w x (f y) hx (hL y hy)
 constructor
 ·intro e;rw [h,decide_eq_true (vwV_inj.1 e)]
 ·intro e;rw [h,decide_eq_false];exact fun e' => e (vwV_inj.2 e')
def TrK (n : Nat) (w : World) (x : PId) (t : Tr) : Prop := ∃ ve vr,x = (plOf ve,plOf vr) ∧ TrR n w [.int .i64 t.kind,.int .i64 t.n,.string t.s,ve,vr] t
theorem TrK.cel {n : Nat} {w w1 : World} {x : PId} {t : Tr} (h : TrK n w x t) (hb : Cel w w1) : TrK n w1 x t := by
 obtain ⟨ve,vr,h1,h2⟩ := h;exact ⟨ve,vr,h1,h2.cel hb⟩
theorem TrK.dp {n : Nat} {w : World} {x : PId} {t : Tr} (h : TrK n w x t) : DpN n t := by
 obtain ⟨ve,vr,h1,h2⟩ := h;exact h2.dp
theorem TrK.ok {n : Nat} {w : World} {x : PId} {t : Tr} (h : TrK n w x t) : PIdOk w x := by
 obtain ⟨ve,vr,rfl,h⟩ := h
 cases n with
 | zero => exact h.elim
 | succ n =>
  obtain ⟨ve',vr',e,h2,h3,h4,h5,h6,h7,h8,h9⟩ := h;simp only [List.cons.injEq,and_true] at e;obtain ⟨-, -, -,rfl,rfl⟩ := e;exact ⟨plOf_ok h8 h7,plOf_ok4 h9 h6⟩
theorem TrK.uniq {n m : Nat} {w : World} {x : PId} {t u : Tr} (h : TrK n w x t) (k : TrK m w x u) : t.es = u.es := by
 obtain ⟨ve,vr,e,h⟩ := h;obtain ⟨ve',vr',e',k⟩ := k
 cases n with
 | zero => exact h.elim
 | succ n =>
  cases m with
  | zero => exact k.elim
  | succ m =>
   obtain ⟨q1,q2,e1,_,_,_,_,h6,h7,_,_⟩ := h;obtain ⟨q1',q2',e1',_,_,_,_,k6,k7,_,_⟩ := k;simp only [List.cons.injEq,and_true] at e1 e1';obtain ⟨-, -, -,rfl,rfl⟩ := e1;obtain ⟨-, -, -,rfl,rfl⟩ := e1';rw [e] at e';simp only [Prod.mk.injEq] at e';exact pl_uniq (EnC.trQ h7) (EnC.trQ k7) e'.1
theorem TrW.trK {n : Nat} {w : World} {t : Tr} {K N : Int} {S : ByteArray} {a1 a2 : Option Addr} {n1 c1 n2 c2 : Nat} (h : TrW n w (.agg #[.int .i64 K,.int .i64 N,.string S,.slice a1 n1 c1,.slice a2 n2 c2]) t) : TrK n w (plOf (.slice a1 n1 c1),plOf (.slice a2 n2 c2)) t := by
 obtain ⟨p1,p2,p3,p4,p5⟩ := h.parts;obtain ⟨r,e,h⟩ := h
 have e1 : r = [.int .i64 K,.int .i64 N,.string S,.slice a1 n1 c1,.slice a2 n2 c2] := by simpa using congrArg (fun v => match v with | .agg a => a.toList | _ => []) e.symm
 subst e1;refine ⟨.slice a1 n1 c1,.slice a2 n2 c2,rfl,?_⟩;rw [p1,p2,p3];exact h
def Stay (F : Nat → Prop) (w w' : World) : Prop := ∀ k,F k → w'.heap[k]? = w.heap[k]?
theorem Stay.trans {F : Nat → Prop} {a b c : World} (h : Stay F a b) (k : Stay F b c) : Stay F a c := fun i hi => (k i hi).trans (h i hi)
theorem Stay.less {F G : Nat → Prop} {a b : World} (h : Stay G a b) (hs : ∀ k,F k → G k) : Stay F a b := fun i hi => h i (hs i hi)
theorem Stay.kp {F S : Nat → Prop} {w w' : World} (h : Kp S w w') (h1 : ∀ k,F k → k < w.heap.size) (h2 : ∀ k,F k → ¬ S k) : Stay F w w' := fun k hk => h.block k (h1 k hk) (h2 k hk)
def SeeG (n : Nat) (w : World) (r : List Value) (t : Tr) (F : Nat → Prop) : Prop := ∀ w',Stay F w w' → TrR n w' r t
theorem SeeG.stay {n : Nat} {w w' : World} {r : List Value} {t : Tr} {F : Nat → Prop} (h : SeeG n w r t F) (hs : Stay F w w') : SeeG n w' r t F := fun w'' h2 => h w'' (hs.trans h2)
theorem SeeG.more {n : Nat} {w : World} {r : List Value} {t : Tr} {F G : Nat → Prop} (h : SeeG n w r t F) (hs : ∀ k,F k → G k) : SeeG n w r t G := fun w' h2 => h w' (h2.less hs)
theorem SeeG.now {n : Nat} {w : World} {r : List Value} {t : Tr} {F : Nat → Prop} (h : SeeG n w r t F) : TrR n w r t := h w fun _ _ => rfl
def SeeL (n : Nat) (w : World) (v : Value) (ts : List Tr) (F : Nat → Prop) : Prop := ∀ w',Stay F w w' → TrsR n w' v ts
theorem SeeL.stay {n : Nat} {w w' : World} {v : Value} {t : List Tr} {F : Nat → Prop} (h : SeeL n w v t F) (hs : Stay F w w') : SeeL n w' v t F := fun w'' h2 => h w'' (hs.trans h2)
theorem SeeL.more {n : Nat} {w : World} {v : Value} {t : List Tr} {F G : Nat → Prop} (h : SeeL n w v t F) (hs : ∀ k,F k → G k) : SeeL n w v t G := fun w' h2 => h w' (h2.less hs)
theorem SeeL.now {n : Nat} {w : World} {v : Value} {t : List Tr} {F : Nat → Prop} (h : SeeL n w v t F) : TrsR n w v t := h w fun _ _ => rfl
structure KnP (s : ScS) (W0 w : World) (b : Nat) (F : Nat → Prop) : Prop where
 below : Below W0.heap.size W0 w
 b0 : W0.heap.size ≤ b
 nb : ¬ F b
 new : ∀ k,F k → W0.heap.size ≤ k ∧ k < w.heap.size
 made : ∃ L : List (Vw × List Value),PlMap w b (L.map fun y => (vwV y.1,Value.agg y.2.toArray)) ∧ ∀ y ∈ L,∃ n t,TrK n W0 y.1.2 t ∧ SeeG n w y.2 (prM n s y.1.1 t) F
theorem KnP.neB {s : ScS} {W0 w : World} {b : Nat} {F : Nat → Prop} (h : KnP s W0 w b F) {g : Nat} {cs : Array Value} {t : TypeId} {fz : Nat × Nat} (hc : w.heap[g]? = some (.cells cs t fz)) : g ≠ b := by
 obtain ⟨L,h1,_⟩ := h.made;exact h1.neB hc
theorem KnP.kp {s : ScS} {W0 w w1 : World} {b : Nat} {F S : Nat → Prop} (h : KnP s W0 w b F) (hk : Kp S w w1) (h0 : ∀ k,S k → W0.heap.size ≤ k) (h1 : ¬ S b) (h2 : ∀ k,F k → ¬ S k) : KnP s W0 w1 b F := by
 obtain ⟨L,m1,m2⟩ := h.made;have hst : Stay F w w1 := Stay.kp hk (fun k e => (h.new k e).2) h2
 exact ⟨h.below.trans (hk.toBelow h.below.size h0),h.b0,h.nb,fun k e => ⟨(h.new k e).1,Nat.lt_of_lt_of_le (h.new k e).2 hk.size⟩,L,m1.kp hk h1,fun y hy => by
  obtain ⟨n,t,g1,g2⟩ := m2 y hy
  exact ⟨n,t,g1,g2.stay hst⟩⟩
theorem KnP.mk_below {s : ScS} {W0 w w1 : World} {b : Nat} {F : Nat → Prop} (h : KnP s W0 w b F) (hb : Below w.heap.size w w1) : KnP s W0 w1 b F := h.kp (S := fun _ => False) (Kp.ofBelow hb) (fun _ e => e.elim) (fun e => e) fun _ _ e => e
theorem KnP.more {s : ScS} {W0 w : World} {b : Nat} {F G : Nat → Prop} (h : KnP s W0 w b F) (hs : ∀ k,F k → G k) (hn : ∀ k,G k → W0.heap.size ≤ k ∧ k < w.heap.size) (hb : ¬ G b) : KnP s W0 w b G := by
 obtain ⟨L,m1,m2⟩ := h.made
 exact ⟨h.below,h.b0,hb,hn,L,m1,fun y hy => by
  obtain ⟨n,t,g1,g2⟩ := m2 y hy
  exact ⟨n,t,g1,g2.more hs⟩⟩
theorem KnP.start {s : ScS} {W0 w : World} (h : Below W0.heap.size W0 w) : KnP s W0 (w.alloc (.map #[] 0)) w.heap.size (fun _ => False) := ⟨h.alloc (Nat.le_trans h.size (Nat.le_refl _)) _,h.size,fun e => e,fun _ e => e.elim,[],PlMap.made w,by simp⟩
theorem KnP.told {s : ScS} {W0 w : World} {b : Nat} {F : Nat → Prop} (h : KnP s W0 w b F) {L : List (Vw × List Value)} (m2 : ∀ y ∈ L,∃ n t,TrK n W0 y.1.2 t ∧ SeeG n w y.2 (prM n s y.1.1 t) F) {n : Nat} {x : Vw} {t : Tr} (hx : TrK n W0 x.2 t) : Told 108 w (vwV x) ((L.map fun y => (vwV y.1,Value.agg y.2.toArray)).map Prod.fst) :=
 told_vw (f := fun y : Vw × List Value => y.1) (g := fun y => Value.agg y.2.toArray) (hx.cel (Cel.ofBelow h.below)).ok fun y hy => by
  obtain ⟨n,t,g1,g2⟩ := m2 y hy;exact (g1.cel (Cel.ofBelow h.below)).ok
theorem KnP.look {s : ScS} {W0 w : World} {b n : Nat} {F : Nat → Prop} (h : KnP s W0 w b F) {x : Vw} {t : Tr} (hx : TrK n W0 x.2 t) :
  (∃ r,(Instr.lookup 72 (.map (some b)) (vwV x) true).run Tryz.prog w = .ok (.tuple #[.agg r.toArray,.bool true]) w ∧ SeeG n w r (prM n s x.1 t) F) ∨
  (Instr.lookup 72 (.map (some b)) (vwV x) true).run Tryz.prog w = .ok (.tuple #[.agg #[.int .i64 0,.int .i64 0,.string ⟨#[]⟩,.slice none 0 0,.slice none 0 0],.bool false]) w := by
 obtain ⟨L,m1,m2⟩ := h.made
 rcases look_map (k := vwV x) uSeen zeroTrP Tryz.underlying108 (fun _ _ => rfl) (ks := (vwC x).toArray) rfl (fun e => check_vw w e x) m1 (h.told m2 hx) with ⟨v,hv,hr⟩ | ⟨_,hr⟩
 ·obtain ⟨y,hy,e⟩ := List.mem_map.1 hv;simp only [Prod.mk.injEq] at e;obtain ⟨e1,rfl⟩ := e;obtain ⟨m,u,g1,g2⟩ := m2 y hy;have hyx : y.1 = x := vwV_inj.1 e1;rw [hyx] at g1 g2;have he := hx.uniq g1;refine .inl ⟨y.2,hr,fun w' hw' => ?_⟩;rw [prM_more n m x.1 t u hx.dp g1.dp he];refine (g2 w' hw').fit ?_;rw [← prM_more n m x.1 t u hx.dp g1.dp he];exact prM_dpn n x.1 t hx.dp
 ·exact .inr hr
theorem KnP.update {s : ScS} {W0 w : World} {b n : Nat} {F : Nat → Prop} (h : KnP s W0 w b F) {x : Vw} {t : Tr} {r : List Value} (hx : TrK n W0 x.2 t) (hr : SeeG n w r (prM n s x.1 t) F) :
  ∃ w',(Instr.mapUpdate 72 (.map (some b)) (vwV x) (.agg r.toArray)).run Tryz.prog w = .ok () w' ∧ KnP s W0 w' b F ∧ Kp (fun q => q = b) w w' ∧ Stay F w w' := by
 obtain ⟨L,m1,m2⟩ := h.made;obtain ⟨w',L',e1,e2,e3,_,_,e4,_⟩ := update_map (k := vwV x) uSeen Tryz.underlying108 (fun _ _ => rfl) (ks := (vwC x).toArray) rfl (same_vw 9999 x) (fun e => check_vw w e x) m1 (h.told m2 hx) (.agg r.toArray);have hst : Stay F w w' := Stay.kp e4 (fun k e => (h.new k e).2) fun k hk e => h.nb (e ▸ hk)
 have hall : ∀ p ∈ L',∃ y : Vw × List Value,p = (vwV y.1,Value.agg y.2.toArray) ∧ ∃ n t,TrK n W0 y.1.2 t ∧ SeeG n w y.2 (prM n s y.1.1 t) F := fun p hp => by
  rcases e3 p hp with hp | rfl
  ·obtain ⟨y,hy,rfl⟩ := List.mem_map.1 hp;exact ⟨y,rfl,m2 y hy⟩
  ·exact ⟨(x,r),rfl,n,t,hx,hr⟩
 have hex : ∀ l : List (Value × Value),(∀ p ∈ l,∃ y : Vw × List Value,p = (vwV y.1,Value.agg y.2.toArray) ∧ ∃ n t,TrK n W0 y.1.2 t ∧ SeeG n w y.2 (prM n s y.1.1 t) F) → ∃ M : List (Vw × List Value),l = (M.map fun y => (vwV y.1,Value.agg y.2.toArray)) ∧ ∀ y ∈ M,∃ n t,TrK n W0 y.1.2 t ∧ SeeG n w y.2 (prM n s y.1.1 t) F := fun l => by
  induction l with
  | nil => exact fun _ => ⟨[],rfl,by simp⟩
  | cons p l ih =>
   intro hl;obtain ⟨M,g1,g2⟩ := ih fun p hp => hl p (List.mem_cons_of_mem _ hp)
   obtain ⟨y,g3,g4⟩ := hl p (List.mem_cons_self ..);refine ⟨y :: M,by rw [List.map_cons,← g1,← g3],fun z hz => ?_⟩
   rcases List.mem_cons.1 hz with rfl | hz
   ·exact g4
   ·exact g2 z hz
 obtain ⟨M,g1,g2⟩ := hex L' hall
 exact ⟨w',e1,⟨h.below.trans (e4.toBelow h.below.size fun k e => by rw [e]; exact h.b0),h.b0,h.nb,fun k e => ⟨(h.new k e).1,Nat.lt_of_lt_of_le (h.new k e).2 e4.size⟩,M,g1 ▸ e2,fun y hy => by
  obtain ⟨n,t,k1,k2⟩ := g2 y hy
  exact ⟨n,t,k1,k2.stay hst⟩⟩,e4,hst⟩
end
end Go.Proofs.YtmgbhicogmclgaaGreat

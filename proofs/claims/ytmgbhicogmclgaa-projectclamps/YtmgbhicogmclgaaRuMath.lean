/- Plain facts on runes: which rune the bytes of a list begin with, and that the model's own decoder and encoder agree with it. No condition. -/
import GoSem.Core.Utf8
set_option linter.unusedSimpArgs false
set_option maxRecDepth 20000
namespace Go.Proofs.Ytmgbhicogmclgaa

def ctU (a : UInt8) : Bool := decide (128 ≤ a.toNat) && decide (a.toNat ≤ 191)

def two (a b : UInt8) : Nat := (a.toNat - 192) * 64 + (b.toNat - 128)
def three (a b c : UInt8) : Nat := ((a.toNat - 224) * 64 + (b.toNat - 128)) * 64 + (c.toNat - 128)
def four (a b c d : UInt8) : Nat := (((a.toNat - 240) * 64 + (b.toNat - 128)) * 64 + (c.toNat - 128)) * 64 + (d.toNat - 128)

/-- The rune at a list's head, and its width. -/
def nxL : List UInt8 → Option (Nat × Nat)
  | [] => none
  | a :: r =>
    if a.toNat < 128 then some (a.toNat, 1)
    else if 192 ≤ a.toNat ∧ a.toNat < 224 then
      match r with
      | b :: _ => if ctU b = true ∧ 128 ≤ two a b then some (two a b, 2) else none
      | _ => none
    else if 224 ≤ a.toNat ∧ a.toNat < 240 then
      match r with
      | b :: c :: _ => if ctU b = true ∧ ctU c = true ∧ 2048 ≤ three a b c ∧ ¬ (55296 ≤ three a b c ∧ three a b c ≤ 57343) then some (three a b c, 3) else none
      | _ => none
    else if 240 ≤ a.toNat ∧ a.toNat < 248 then
      match r with
      | b :: c :: d :: _ => if ctU b = true ∧ ctU c = true ∧ ctU d = true ∧ 65536 ≤ four a b c d ∧ four a b c d ≤ 1114111 then some (four a b c d, 4) else none
      | _ => none
    else none

theorem get_list (l : List UInt8) (k : Nat) : (ByteArray.mk l.toArray).get! k = l.getD k default := by
  simp [ByteArray.get!, List.getD_eq_getElem?_getD, getElem!_def]
  cases h : l[k]? <;> simp

theorem decode_drop (s : ByteArray) (i : Nat) (h : i ≤ s.size) :
    Utf8.decode s i = Utf8.decode ⟨(s.data.toList.drop i).toArray⟩ 0 := by
  obtain ⟨⟨l⟩⟩ := s
  have e : ∀ k, (ByteArray.mk l.toArray).get! (i + k) = (ByteArray.mk (l.drop i).toArray).get! (0 + k) := by
    intro k
    rw [get_list, get_list]
    simp [List.getD_eq_getElem?_getD]
  have e2 : ∀ k, (i + k < (ByteArray.mk l.toArray).size) ↔ (0 + k < (ByteArray.mk (l.drop i).toArray).size) := by
    intro k
    simp only [ByteArray.size, List.size_toArray, List.length_drop]
    omega
  simp only [Utf8.decode, e, e2]

def hasErr (l : List UInt8) : Bool := [239, 191, 189].isPrefixOf l

theorem size_list (l : List UInt8) : (ByteArray.mk l.toArray).size = l.length := by simp [ByteArray.size]

theorem dec_1 (a : UInt8) (r : List UInt8) (h : a.toNat < 128) : Utf8.decode ⟨(a :: r).toArray⟩ 0 = (a.toNat, 1) := by
  simp only [Utf8.decode, get_list, size_list]
  simp [h]

theorem cont_of {b : UInt8} (h : ctU b = true) : b.toNat / 64 = 2 := by simp [ctU] at h; omega
theorem cont_not {b : UInt8} (h : ctU b = false) : ¬ b.toNat / 64 = 2 := by simp [ctU] at h; omega

theorem two_eq {a b : UInt8} (h1 : 192 ≤ a.toNat) (h2 : a.toNat < 224) (h : ctU b = true) : a.toNat % 32 * 64 + b.toNat % 64 = two a b := by
  simp [ctU] at h; simp only [two]; omega
theorem three_eq {a b c : UInt8} (h1 : 224 ≤ a.toNat) (h2 : a.toNat < 240) (h : ctU b = true) (hc : ctU c = true) : a.toNat % 16 * 4096 + b.toNat % 64 * 64 + c.toNat % 64 = three a b c := by
  simp [ctU] at h hc; simp only [three]; omega
theorem four_eq {a b c d : UInt8} (h1 : 240 ≤ a.toNat) (h2 : a.toNat < 248) (h : ctU b = true) (hc : ctU c = true) (hd : ctU d = true) : a.toNat % 8 * 262144 + b.toNat % 64 * 4096 + c.toNat % 64 * 64 + d.toNat % 64 = four a b c d := by
  simp [ctU] at h hc hd; simp only [four]; omega

theorem two_lt {a b : UInt8} (h2 : a.toNat < 224) (h : ctU b = true) : two a b < 2048 := by
  simp [ctU] at h; simp only [two]; omega
theorem three_lt {a b c : UInt8} (h2 : a.toNat < 240) (h : ctU b = true) (hc : ctU c = true) : three a b c < 65536 := by
  simp [ctU] at h hc; simp only [three]; omega

theorem dec_2 (a b : UInt8) (r : List UInt8) (h1 : 192 ≤ a.toNat) (h2 : a.toNat < 224) (h : ctU b = true) :
    Utf8.decode ⟨(a :: b :: r).toArray⟩ 0 = if 128 ≤ two a b then (two a b, 2) else (65533, 1) := by
  have e1 : ¬ a.toNat < 128 := by omega
  have e2 : a.toNat / 32 = 6 := by omega
  have e3 := cont_of h
  have e4 := two_eq h1 h2 h
  simp only [Utf8.decode, get_list, size_list]
  simp [e1, e2, e3, e4, Utf8.runeError]
theorem dec_2n (a : UInt8) (r : List UInt8) (h1 : 192 ≤ a.toNat) (h2 : a.toNat < 224) (h : ∀ b r', r = b :: r' → ctU b = false) :
    Utf8.decode ⟨(a :: r).toArray⟩ 0 = (65533, 1) := by
  have e1 : ¬ a.toNat < 128 := by omega
  have e2 : a.toNat / 32 = 6 := by omega
  have e5 : ¬ a.toNat / 16 = 14 := by omega
  have e6 : ¬ a.toNat / 8 = 30 := by omega
  simp only [Utf8.decode, get_list, size_list]
  match r with
  | [] => simp [e1, e2, Utf8.runeError]
  | b :: r' =>
    have e3 := cont_not (h b r' rfl)
    simp [e1, e2, e3, e5, e6, Utf8.runeError]
theorem dec_3 (a b c : UInt8) (r : List UInt8) (h1 : 224 ≤ a.toNat) (h2 : a.toNat < 240) (h : ctU b = true) (hc : ctU c = true) :
    Utf8.decode ⟨(a :: b :: c :: r).toArray⟩ 0 = if 2048 ≤ three a b c ∧ ¬ (55296 ≤ three a b c ∧ three a b c ≤ 57343) then (three a b c, 3) else (65533, 1) := by
  have e1 : ¬ a.toNat < 128 := by omega
  have e2 : ¬ a.toNat / 32 = 6 := by omega
  have e3 : a.toNat / 16 = 14 := by omega
  have e4 := cont_of h
  have e5 := cont_of hc
  have e6 := three_eq h1 h2 h hc
  have e7 := three_lt h2 h hc
  simp only [Utf8.decode, get_list, size_list]
  simp [e1, e2, e3, e4, e5, e6, Utf8.runeError, Utf8.valid]
  generalize three a b c = v at *
  by_cases g1 : 2048 ≤ v
  · by_cases g2 : v < 55296
    · have : ((v : Int) < 55296) := by omega
      simp [g1, g2, this]; omega
    · by_cases g3 : 57344 ≤ v
      · have i1 : ((57344 : Int) ≤ v) := by omega
        have i2 : ((v : Int) ≤ 1114111) := by omega
        simp [g1, i1, i2]; omega
      · have i1 : ¬ ((57344 : Int) ≤ v) := by omega
        have i2 : ¬ ((v : Int) < 55296) := by omega
        have i3 : ¬ (55296 ≤ v → 57343 < v) := by omega
        simp [i1, i2, i3]
  · simp [g1]
theorem dec_3n (a : UInt8) (r : List UInt8) (h1 : 224 ≤ a.toNat) (h2 : a.toNat < 240) (h : ∀ b c r', r = b :: c :: r' → ctU b = false ∨ ctU c = false) :
    Utf8.decode ⟨(a :: r).toArray⟩ 0 = (65533, 1) := by
  have e1 : ¬ a.toNat < 128 := by omega
  have e2 : ¬ a.toNat / 32 = 6 := by omega
  have e3 : a.toNat / 16 = 14 := by omega
  have e6 : ¬ a.toNat / 8 = 30 := by omega
  simp only [Utf8.decode, get_list, size_list]
  match r with
  | [] => simp [e1, e2, e6, Utf8.runeError]
  | [b] => simp [e1, e2, e6, Utf8.runeError]
  | b :: c :: r' =>
    rcases h b c r' rfl with g | g
    · simp [e1, e2, e6, cont_not g, Utf8.runeError]
    · simp [e1, e2, e6, cont_not g, Utf8.runeError]
theorem dec_4 (a b c d : UInt8) (r : List UInt8) (h1 : 240 ≤ a.toNat) (h2 : a.toNat < 248) (h : ctU b = true) (hc : ctU c = true) (hd : ctU d = true) :
    Utf8.decode ⟨(a :: b :: c :: d :: r).toArray⟩ 0 = if 65536 ≤ four a b c d ∧ four a b c d ≤ 1114111 then (four a b c d, 4) else (65533, 1) := by
  have e1 : ¬ a.toNat < 128 := by omega
  have e2 : ¬ a.toNat / 32 = 6 := by omega
  have e3 : ¬ a.toNat / 16 = 14 := by omega
  have e8 : a.toNat / 8 = 30 := by omega
  have e4 := cont_of h
  have e5 := cont_of hc
  have e9 := cont_of hd
  have e6 := four_eq h1 h2 h hc hd
  simp only [Utf8.decode, get_list, size_list]
  simp [e1, e2, e3, e4, e5, e6, e8, e9, Utf8.runeError, Utf8.valid]
  generalize four a b c d = v at *
  by_cases g1 : 65536 ≤ v
  · have i1 : ((57344 : Int) ≤ v) := by omega
    have i4 : ¬ ((v : Int) < 55296) := by omega
    by_cases g3 : v ≤ 1114111
    · have i2 : ((v : Int) ≤ 1114111) := by omega
      simp [g1, i1, i2, i4, g3]
    · have i2 : ¬ ((v : Int) ≤ 1114111) := by omega
      simp [i2, i4, g3]
  · simp [g1]
theorem dec_4n (a : UInt8) (r : List UInt8) (h1 : 240 ≤ a.toNat) (h2 : a.toNat < 248) (h : ∀ b c d r', r = b :: c :: d :: r' → ctU b = false ∨ ctU c = false ∨ ctU d = false) :
    Utf8.decode ⟨(a :: r).toArray⟩ 0 = (65533, 1) := by
  have e1 : ¬ a.toNat < 128 := by omega
  have e2 : ¬ a.toNat / 32 = 6 := by omega
  have e3 : ¬ a.toNat / 16 = 14 := by omega
  simp only [Utf8.decode, get_list, size_list]
  match r with
  | [] => simp [e1, e2, e3, Utf8.runeError]
  | [b] => simp [e1, e2, e3, Utf8.runeError]
  | [b, c] => simp [e1, e2, e3, Utf8.runeError]
  | b :: c :: d :: r' =>
    rcases h b c d r' rfl with g | g | g
    · simp [e1, e2, e3, cont_not g, Utf8.runeError]
    · simp [e1, e2, e3, cont_not g, Utf8.runeError]
    · simp [e1, e2, e3, cont_not g, Utf8.runeError]
theorem dec_0 (a : UInt8) (r : List UInt8) (h : 128 ≤ a.toNat) (h1 : ¬ (192 ≤ a.toNat ∧ a.toNat < 224)) (h2 : ¬ (224 ≤ a.toNat ∧ a.toNat < 240)) (h3 : ¬ (240 ≤ a.toNat ∧ a.toNat < 248)) :
    Utf8.decode ⟨(a :: r).toArray⟩ 0 = (65533, 1) := by
  have e1 : ¬ a.toNat < 128 := by omega
  have e2 : ¬ a.toNat / 32 = 6 := by omega
  have e3 : ¬ a.toNat / 16 = 14 := by omega
  have e4 : ¬ a.toNat / 8 = 30 := by omega
  simp only [Utf8.decode, get_list, size_list]
  simp [e1, e2, e3, e4, Utf8.runeError]

theorem hasErr_three {a b c : UInt8} {r : List UInt8} (h : three a b c = 65533) (h1 : 224 ≤ a.toNat) (h2 : a.toNat < 240) (hb : ctU b = true) (hc : ctU c = true) : hasErr (a :: b :: c :: r) = true := by
  simp [ctU] at hb hc
  simp only [three] at h
  have ea : a = 239 := UInt8.toNat_inj.1 (by show a.toNat = 239; omega)
  have eb : b = 191 := UInt8.toNat_inj.1 (by show b.toNat = 191; omega)
  have ec : c = 189 := UInt8.toNat_inj.1 (by show c.toNat = 189; omega)
  subst ea eb ec
  simp [hasErr, List.isPrefixOf]
theorem hasErr_iff {l : List UInt8} (h : hasErr l = true) : nxL l = some (65533, 3) := by
  match l with
  | [] => simp [hasErr, List.isPrefixOf] at h
  | [a] => simp [hasErr, List.isPrefixOf] at h
  | [a, b] => simp [hasErr, List.isPrefixOf] at h
  | a :: b :: c :: r =>
    simp [hasErr, List.isPrefixOf] at h
    obtain ⟨rfl, rfl, rfl⟩ := h
    rfl

/-- What the model's decoder reads at a list's head, told without it. -/
theorem decode_nx (a : UInt8) (r : List UInt8) :
    nxL (a :: r) = if (Utf8.decode ⟨(a :: r).toArray⟩ 0).1 = 65533 ∧ hasErr (a :: r) = false then none else some (Utf8.decode ⟨(a :: r).toArray⟩ 0) := by
  have ha := a.toNat_lt
  cases he : hasErr (a :: r) with
  | true =>
    rw [hasErr_iff he]
    match r with
    | [] => simp [hasErr, List.isPrefixOf] at he
    | [b] => simp [hasErr, List.isPrefixOf] at he
    | b :: c :: r' =>
      simp [hasErr, List.isPrefixOf] at he
      obtain ⟨rfl, rfl, rfl⟩ := he
      rw [dec_3 _ _ _ _ (by decide) (by decide) (by decide) (by decide)]
      rfl
  | false =>
    by_cases h0 : a.toNat < 128
    · rw [dec_1 a r h0, if_neg (by simp; omega)]
      simp [nxL, h0]
    · by_cases h2 : 192 ≤ a.toNat ∧ a.toNat < 224
      · by_cases hc : ∀ b r', r = b :: r' → ctU b = false
        · rw [dec_2n a r h2.1 h2.2 hc, if_pos ⟨rfl, rfl⟩]
          match r with
          | [] => simp only [nxL]; rw [if_neg h0, if_pos h2]
          | b :: r' => simp only [nxL]; rw [if_neg h0, if_pos h2, if_neg (by rw [hc b r' rfl]; simp)]
        · simp only [Classical.not_forall] at hc
          obtain ⟨b, r', rfl, hb⟩ := hc
          have hb' : ctU b = true := by simpa using hb
          have hl := two_lt h2.2 hb'
          rw [dec_2 a b r' h2.1 h2.2 hb']
          simp only [nxL]
          rw [if_neg h0, if_pos h2]
          by_cases g : 128 ≤ two a b
          · rw [if_pos ⟨hb', g⟩, if_pos g, if_neg (by simp; omega)]
          · rw [if_neg (fun x => g x.2), if_neg g, if_pos (by simp)]
      · by_cases h3 : 224 ≤ a.toNat ∧ a.toNat < 240
        · by_cases hc : ∀ b c r', r = b :: c :: r' → ctU b = false ∨ ctU c = false
          · rw [dec_3n a r h3.1 h3.2 hc, if_pos ⟨rfl, rfl⟩]
            match r with
            | [] => simp only [nxL]; rw [if_neg h0, if_neg h2, if_pos h3]
            | [b] => simp only [nxL]; rw [if_neg h0, if_neg h2, if_pos h3]
            | b :: c :: r' => simp only [nxL]; rw [if_neg h0, if_neg h2, if_pos h3, if_neg (by rcases hc b c r' rfl with g | g <;> rw [g] <;> simp)]
          · simp only [Classical.not_forall, not_or] at hc
            obtain ⟨b, c, r', rfl, hb, hc⟩ := hc
            have hb' : ctU b = true := by simpa using hb
            have hc' : ctU c = true := by simpa using hc
            rw [dec_3 a b c r' h3.1 h3.2 hb' hc']
            simp only [nxL]
            rw [if_neg h0, if_neg h2, if_pos h3]
            by_cases g : 2048 ≤ three a b c ∧ ¬ (55296 ≤ three a b c ∧ three a b c ≤ 57343)
            · rw [if_pos ⟨hb', hc', g⟩, if_pos g, if_neg]
              rintro ⟨g1, _⟩
              rw [hasErr_three g1 h3.1 h3.2 hb' hc'] at he
              cases he
            · rw [if_neg (fun x => g x.2.2), if_neg g, if_pos (by simp)]
        · by_cases h4 : 240 ≤ a.toNat ∧ a.toNat < 248
          · by_cases hc : ∀ b c d r', r = b :: c :: d :: r' → ctU b = false ∨ ctU c = false ∨ ctU d = false
            · rw [dec_4n a r h4.1 h4.2 hc, if_pos ⟨rfl, rfl⟩]
              match r with
              | [] => simp only [nxL]; rw [if_neg h0, if_neg h2, if_neg h3, if_pos h4]
              | [b] => simp only [nxL]; rw [if_neg h0, if_neg h2, if_neg h3, if_pos h4]
              | [b, c] => simp only [nxL]; rw [if_neg h0, if_neg h2, if_neg h3, if_pos h4]
              | b :: c :: d :: r' => simp only [nxL]; rw [if_neg h0, if_neg h2, if_neg h3, if_pos h4, if_neg (by rcases hc b c d r' rfl with g | g | g <;> rw [g] <;> simp)]
            · simp only [Classical.not_forall, not_or] at hc
              obtain ⟨b, c, d, r', rfl, hb, hc, hd⟩ := hc
              have hb' : ctU b = true := by simpa using hb
              have hc' : ctU c = true := by simpa using hc
              have hd' : ctU d = true := by simpa using hd
              rw [dec_4 a b c d r' h4.1 h4.2 hb' hc' hd']
              simp only [nxL]
              rw [if_neg h0, if_neg h2, if_neg h3, if_pos h4]
              by_cases g : 65536 ≤ four a b c d ∧ four a b c d ≤ 1114111
              · rw [if_pos ⟨hb', hc', hd', g⟩, if_pos g, if_neg (by simp; omega)]
              · rw [if_neg (fun x => g x.2.2.2), if_neg g, if_pos (by simp)]
          · rw [dec_0 a r (by omega) h2 h3 h4, if_pos ⟨rfl, rfl⟩]
            simp only [nxL]
            rw [if_neg h0, if_neg h2, if_neg h3, if_neg h4]

theorem decode_nx' (l : List UInt8) (hl : l ≠ []) :
    nxL l = if (Utf8.decode ⟨l.toArray⟩ 0).1 = 65533 ∧ hasErr l = false then none else some (Utf8.decode ⟨l.toArray⟩ 0) := by
  match l with
  | [] => exact absurd rfl hl
  | a :: r => exact decode_nx a r

theorem u8_of {n : Nat} (a : UInt8) (h : n = a.toNat) : UInt8.ofNat n = a := by
  subst h; simp

/-- A rune that was read is one: its bytes are those that were read. -/
theorem nxL_some (l : List UInt8) (c k : Nat) (h : nxL l = some (c, k)) :
    Utf8.valid c = true ∧ (Utf8.encode c).data.toList = l.take k ∧ (Utf8.encode c).size = k ∧ 1 ≤ k ∧ k ≤ l.length ∧ k ≤ 4 ∧ c ≤ 1114111 := by
  match l with
  | [] => simp [nxL] at h
  | a :: r =>
    simp only [nxL] at h
    by_cases h0 : a.toNat < 128
    · rw [if_pos h0] at h
      simp only [Option.some.injEq, Prod.mk.injEq] at h
      obtain ⟨rfl, rfl⟩ := h
      have hv : Utf8.valid (a.toNat : Int) = true := by simp [Utf8.valid]; omega
      have he : Utf8.encode (a.toNat : Int) = ⟨#[a]⟩ := by
        simp [Utf8.encode, hv, h0]
      rw [he]
      exact ⟨hv, by simp, by simp [ByteArray.size], by omega, by simp, by omega, by omega⟩
    · rw [if_neg h0] at h
      by_cases h2 : 192 ≤ a.toNat ∧ a.toNat < 224
      · rw [if_pos h2] at h
        match r with
        | [] => simp at h
        | b :: r' =>
          simp only at h
          by_cases g : ctU b = true ∧ 128 ≤ two a b
          · rw [if_pos g] at h
            simp only [Option.some.injEq, Prod.mk.injEq] at h
            obtain ⟨rfl, rfl⟩ := h
            have hl := two_lt h2.2 g.1
            have hb := g.1
            simp only [ctU, Bool.and_eq_true, decide_eq_true_eq] at hb
            have hv : Utf8.valid (two a b : Int) = true := by simp [Utf8.valid]; omega
            have n1 : ¬ two a b < 128 := by omega
            have he : Utf8.encode (two a b : Int) = ⟨#[a, b]⟩ := by
              simp only [Utf8.encode, hv, if_true, Int.toNat_natCast, if_neg n1, if_pos hl]
              rw [u8_of a (by simp only [two]; omega), u8_of b (by simp only [two]; omega)]
            rw [he]
            exact ⟨hv, by simp, by simp [ByteArray.size], by omega, by simp, by omega, by omega⟩
          · rw [if_neg g] at h; simp at h
      · rw [if_neg h2] at h
        by_cases h3 : 224 ≤ a.toNat ∧ a.toNat < 240
        · rw [if_pos h3] at h
          match r with
          | [] => simp at h
          | [b] => simp at h
          | b :: c' :: r' =>
            simp only at h
            by_cases g : ctU b = true ∧ ctU c' = true ∧ 2048 ≤ three a b c' ∧ ¬ (55296 ≤ three a b c' ∧ three a b c' ≤ 57343)
            · rw [if_pos g] at h
              simp only [Option.some.injEq, Prod.mk.injEq] at h
              obtain ⟨rfl, rfl⟩ := h
              obtain ⟨g1, g2, g3, g4⟩ := g
              have hl := three_lt h3.2 g1 g2
              simp only [ctU, Bool.and_eq_true, decide_eq_true_eq] at g1 g2
              have hv : Utf8.valid (three a b c' : Int) = true := by simp [Utf8.valid]; omega
              have n1 : ¬ three a b c' < 128 := by omega
              have n2 : ¬ three a b c' < 2048 := by omega
              have he : Utf8.encode (three a b c' : Int) = ⟨#[a, b, c']⟩ := by
                simp only [Utf8.encode, hv, if_true, Int.toNat_natCast, if_neg n1, if_neg n2, if_pos hl]
                rw [u8_of a (by simp only [three]; omega), u8_of b (by simp only [three]; omega), u8_of c' (by simp only [three]; omega)]
              rw [he]
              exact ⟨hv, by simp, by simp [ByteArray.size], by omega, by simp, by omega, by omega⟩
            · rw [if_neg g] at h; simp at h
        · rw [if_neg h3] at h
          by_cases h4 : 240 ≤ a.toNat ∧ a.toNat < 248
          · rw [if_pos h4] at h
            match r with
            | [] => simp at h
            | [b] => simp at h
            | [b, c'] => simp at h
            | b :: c' :: d :: r' =>
              simp only at h
              by_cases g : ctU b = true ∧ ctU c' = true ∧ ctU d = true ∧ 65536 ≤ four a b c' d ∧ four a b c' d ≤ 1114111
              · rw [if_pos g] at h
                simp only [Option.some.injEq, Prod.mk.injEq] at h
                obtain ⟨rfl, rfl⟩ := h
                obtain ⟨g1, g2, g3, g4, g5⟩ := g
                simp only [ctU, Bool.and_eq_true, decide_eq_true_eq] at g1 g2 g3
                have hv : Utf8.valid (four a b c' d : Int) = true := by simp [Utf8.valid]; omega
                have n1 : ¬ four a b c' d < 128 := by omega
                have n2 : ¬ four a b c' d < 2048 := by omega
                have n3 : ¬ four a b c' d < 65536 := by omega
                have he : Utf8.encode (four a b c' d : Int) = ⟨#[a, b, c', d]⟩ := by
                  simp only [Utf8.encode, hv, if_true, Int.toNat_natCast, if_neg n1, if_neg n2, if_neg n3]
                  rw [u8_of a (by simp only [four]; omega), u8_of b (by simp only [four]; omega), u8_of c' (by simp only [four]; omega), u8_of d (by simp only [four]; omega)]
                rw [he]
                exact ⟨hv, by simp, by simp [ByteArray.size], by omega, by simp, by omega, by omega⟩
              · rw [if_neg g] at h; simp at h
          · rw [if_neg h4] at h; simp at h

/-- A rune's bytes, whatever stands behind them, are read as that rune. -/
theorem nxL_encode (c : Nat) (h : Utf8.valid c = true) (t : List UInt8) :
    nxL ((Utf8.encode c).data.toList ++ t) = some (c, (Utf8.encode c).size) := by
  have hc : c ≤ 1114111 ∧ ¬ (55296 ≤ c ∧ c ≤ 57343) := by simp [Utf8.valid] at h; omega
  by_cases h1 : c < 128
  · have e : Utf8.encode (c : Int) = ⟨#[UInt8.ofNat c]⟩ := by simp [Utf8.encode, h, h1]
    have n : (UInt8.ofNat c).toNat = c := by simp; omega
    rw [e]
    simp only [List.cons_append, List.nil_append, nxL, n, if_pos h1]
    rfl
  · by_cases h2 : c < 2048
    · have e : Utf8.encode (c : Int) = ⟨#[UInt8.ofNat (192 + c / 64), UInt8.ofNat (128 + c % 64)]⟩ := by simp [Utf8.encode, h, h1, h2]
      have n1 : (UInt8.ofNat (192 + c / 64)).toNat = 192 + c / 64 := by simp; omega
      have n2 : (UInt8.ofNat (128 + c % 64)).toNat = 128 + c % 64 := by simp; omega
      rw [e]
      simp only [List.cons_append, List.nil_append, nxL, n1, n2, ctU, two]
      rw [if_neg (by omega), if_pos (by omega), if_pos (by simp; omega)]
      simp [ByteArray.size]; omega
    · by_cases h3 : c < 65536
      · have e : Utf8.encode (c : Int) = ⟨#[UInt8.ofNat (224 + c / 4096), UInt8.ofNat (128 + c / 64 % 64), UInt8.ofNat (128 + c % 64)]⟩ := by simp [Utf8.encode, h, h1, h2, h3]
        have n1 : (UInt8.ofNat (224 + c / 4096)).toNat = 224 + c / 4096 := by simp; omega
        have n2 : (UInt8.ofNat (128 + c / 64 % 64)).toNat = 128 + c / 64 % 64 := by simp; omega
        have n3 : (UInt8.ofNat (128 + c % 64)).toNat = 128 + c % 64 := by simp; omega
        have hv : ((224 + c / 4096 - 224) * 64 + (128 + c / 64 % 64 - 128)) * 64 + (128 + c % 64 - 128) = c := by omega
        rw [e]
        simp only [List.cons_append, List.nil_append, nxL, n1, n2, n3, ctU, three, hv]
        rw [if_neg (by omega), if_neg (by omega), if_pos (by omega), if_pos (by simp; omega)]
        simp [ByteArray.size]
      · have e : Utf8.encode (c : Int) = ⟨#[UInt8.ofNat (240 + c / 262144), UInt8.ofNat (128 + c / 4096 % 64), UInt8.ofNat (128 + c / 64 % 64), UInt8.ofNat (128 + c % 64)]⟩ := by simp [Utf8.encode, h, h1, h2, h3]
        have n1 : (UInt8.ofNat (240 + c / 262144)).toNat = 240 + c / 262144 := by simp; omega
        have n2 : (UInt8.ofNat (128 + c / 4096 % 64)).toNat = 128 + c / 4096 % 64 := by simp; omega
        have n3 : (UInt8.ofNat (128 + c / 64 % 64)).toNat = 128 + c / 64 % 64 := by simp; omega
        have n4 : (UInt8.ofNat (128 + c % 64)).toNat = 128 + c % 64 := by simp; omega
        have hv : (((240 + c / 262144 - 240) * 64 + (128 + c / 4096 % 64 - 128)) * 64 + (128 + c / 64 % 64 - 128)) * 64 + (128 + c % 64 - 128) = c := by omega
        rw [e]
        simp only [List.cons_append, List.nil_append, nxL, n1, n2, n3, n4, ctU, four, hv]
        rw [if_neg (by omega), if_neg (by omega), if_neg (by omega), if_pos (by omega), if_pos (by simp; omega)]
        simp [ByteArray.size]
end Go.Proofs.Ytmgbhicogmclgaa

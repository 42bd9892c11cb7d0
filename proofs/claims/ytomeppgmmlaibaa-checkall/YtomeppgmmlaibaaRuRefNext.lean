/- What the reference's tail and Next answer, at every input: the rune at the place, its width, true; or nothing. -/
import Derived.Test.YtomeppgmmlaibaaRuStep
set_option linter.unusedSimpArgs false
namespace Go.Proofs.Ytomeppgmmlaibaa
open Go.ChangeShapes Go.WideShapes Go.ChangeAt Go.RowKit
set_option linter.unusedVariables false
set_option maxRecDepth 20000

/-- The six bits of a byte that goes on. -/
def tlL : List UInt8 → Int
  | [] => -1
  | a :: _ => if ctU a = true then (a.toNat : Int) - 128 else -1

theorem tl_in (s : ByteArray) (i : Nat) (h : i < s.size) (a : 128 ≤ (s[i].toNat : Int)) (b : (s[i].toNat : Int) ≤ 191) : (s[i].toNat : Int) - 128 = tlL (s.data.toList.drop i) := by
  rw [drop_cons s i h]; simp only [tlL]; rw [if_pos (by simp [ctU]; omega)]
theorem tl_out (s : ByteArray) (i : Nat) (h : i < s.size) (a : (s[i].toNat : Int) < 128 ∨ 191 < (s[i].toNat : Int)) : -1 = tlL (s.data.toList.drop i) := by
  rw [drop_cons s i h]; simp only [tlL]; rw [if_neg (by simp [ctU]; omega)]
theorem tl_end (s : ByteArray) (i : Nat) (h : s.size ≤ i) : -1 = tlL (s.data.toList.drop i) := by
  rw [drop_none s i h]; rfl

set_option maxHeartbeats 1000000 in
theorem tail_any (s : ByteArray) (i : Int) (w : World) (hs : s.size ≤ 140737488351232) (hi : 0 ≤ i) :
    Calls Try.prog 71 #[.string s, .int .i64 i] w fun e w' => e = .returned (.int .i64 (tlL (s.data.toList.drop i.toNat))) ∧ w' = w := by
  by_cases h : i < s.size
  · have hn : i.toNat < s.size := by omega
    go_enter Try.func71, Try.ntmps71
    go_wp2
    all_goals
      go_ret
      first
      | exact ⟨ret_int (tl_in s i.toNat hn (by omega) (by omega)), rfl⟩
      | exact ⟨ret_int (tl_out s i.toNat hn (by omega)), rfl⟩
  · go_enter Try.func71, Try.ntmps71
    go_wp2
    go_ret
    exact ⟨ret_int (tl_end s i.toNat (by omega)), rfl⟩
set_option maxHeartbeats 1000000 in
theorem rnext_out (s : ByteArray) (i : Int) (w : World) (h : i < 0 ∨ (s.size : Int) ≤ i) :
    Calls Try.prog 66 #[.string s, .int .i64 i] w fun e w' => e = .returned (nxV (nxL (atL s i))) ∧ w' = w := by
  have hx := atL_out s i h
  have HX : Hid (nxL (atL s i) = none) := hx
  clear hx
  rcases h with h | h
  · go_enter Try.func66, Try.ntmps66
    go_wp2
    go_ret3
    exact ⟨ret_none HX.out, rfl⟩
  · by_cases h0 : i < 0
    all_goals
      go_enter Try.func66, Try.ntmps66
      go_wp2
      go_ret3
      exact ⟨ret_none HX.out, rfl⟩

def accv (v0 : Int) (l : List UInt8) : Nat → Int
  | 0 => v0
  | k + 1 => 64 * accv v0 l k + tlL (l.drop (k + 1))

theorem nxL_lead1 (s : ByteArray) (i : Nat) (h : i < s.size) (ha : (s[i].toNat : Int) < 128) : nxL (atL s i) = some (s[i].toNat, 1) := by
  rw [atL_in s i (by omega), Int.toNat_natCast, drop_cons s i h]
  simp only [nxL]; rw [if_pos (by omega)]
theorem nxL_lead0 (s : ByteArray) (i : Nat) (h : i < s.size) (h0 : 128 ≤ (s[i].toNat : Int)) (h1 : (s[i].toNat : Int) < 192 ∨ 248 ≤ (s[i].toNat : Int)) : nxL (atL s i) = none := by
  rw [atL_in s i (by omega), Int.toNat_natCast, drop_cons s i h]
  simp only [nxL]; rw [if_neg (by omega), if_neg (by omega), if_neg (by omega), if_neg (by omega)]

set_option maxHeartbeats 1000000 in
theorem rnext_lead1 (s : ByteArray) (i : Nat) (w : World) (hs : s.size ≤ 140737488351232) (h : i < s.size) (ha : (s[i].toNat : Int) < 128) :
    Calls Try.prog 66 #[.string s, .int .i64 (i : Int)] w fun e w' => e = .returned (nxV (nxL (atL s i))) ∧ w' = w := by
  have HX : Hid (nxL (atL s i) = some (s[i].toNat, 1)) := nxL_lead1 s i h ha
  have hb : 0 ≤ (s[i].toNat : Int) := by omega
  go_enter Try.func66, Try.ntmps66
  go_wp2
  go_ret3
  exact ⟨ret_some _ _ HX.out rfl rfl, rfl⟩
set_option maxHeartbeats 1000000 in
theorem rnext_lead0 (s : ByteArray) (i : Nat) (w : World) (hs : s.size ≤ 140737488351232) (h : i < s.size) (h0 : 128 ≤ (s[i].toNat : Int)) (h1 : (s[i].toNat : Int) < 192 ∨ 248 ≤ (s[i].toNat : Int)) :
    Calls Try.prog 66 #[.string s, .int .i64 (i : Int)] w fun e w' => e = .returned (nxV (nxL (atL s i))) ∧ w' = w := by
  have HX : Hid (nxL (atL s i) = none) := nxL_lead0 s i h h0 h1
  have hb : (s[i].toNat : Int) < 256 := by have := s[i].toNat_lt; omega
  rcases h1 with h1 | h1
  all_goals
    go_enter Try.func66, Try.ntmps66
    go_wp2
    go_ret3
    exact ⟨ret_none HX.out, rfl⟩

theorem tl_neg {r : List UInt8} (h : tlL r < 0) : ∀ b r', r = b :: r' → ctU b = false := by
  rintro b r' rfl
  cases e : ctU b with
  | false => rfl
  | true => simp only [tlL, e, if_true] at h; simp [ctU] at e; omega
theorem tl_pos {r : List UInt8} (h : 0 ≤ tlL r) : ∃ b r', r = b :: r' ∧ ctU b = true ∧ tlL r = (b.toNat : Int) - 128 := by
  match r with
  | [] => simp [tlL] at h
  | b :: r' =>
    cases e : ctU b with
    | false => simp [tlL, e] at h
    | true => exact ⟨b, r', rfl, e, by simp [tlL, e]⟩
theorem tl_bd (r : List UInt8) : -1 ≤ tlL r ∧ tlL r ≤ 63 := by
  match r with
  | [] => simp [tlL]
  | b :: r' =>
    simp only [tlL]
    split
    · rename_i e; simp [ctU] at e; omega
    · omega

def okV (v : Int) : Prop := v ≤ 1114111 ∧ ¬ (55296 ≤ v ∧ v ≤ 57343)

theorem bad_2 {a : UInt8} {r : List UInt8} (h0 : 192 ≤ a.toNat) (h1 : a.toNat < 224) (m : Nat) (hm : 1 ≤ m) (hn : m < 2) (h : tlL ((a :: r).drop m) < 0) : nxL (a :: r) = none := by
  obtain rfl : m = 1 := by omega
  have hc := tl_neg (r := r) h
  simp only [nxL]
  rw [if_neg (by omega), if_pos ⟨h0, h1⟩]
  match r with
  | [] => rfl
  | b :: r' => simp [hc b r' rfl]
theorem bad_3 {a : UInt8} {r : List UInt8} (h0 : 224 ≤ a.toNat) (h1 : a.toNat < 240) (m : Nat) (hm : 1 ≤ m) (hn : m < 3) (h : tlL ((a :: r).drop m) < 0) : nxL (a :: r) = none := by
  simp only [nxL]
  rw [if_neg (by omega), if_neg (by omega), if_pos ⟨h0, h1⟩]
  match r with
  | [] => rfl
  | [b] => rfl
  | b :: c :: r' =>
    obtain rfl | rfl : m = 1 ∨ m = 2 := by omega
    · have hc := tl_neg (r := b :: c :: r') h; simp [hc b _ rfl]
    · have hc := tl_neg (r := c :: r') h; simp [hc c _ rfl]
theorem bad_4 {a : UInt8} {r : List UInt8} (h0 : 240 ≤ a.toNat) (h1 : a.toNat < 248) (m : Nat) (hm : 1 ≤ m) (hn : m < 4) (h : tlL ((a :: r).drop m) < 0) : nxL (a :: r) = none := by
  simp only [nxL]
  rw [if_neg (by omega), if_neg (by omega), if_neg (by omega), if_pos ⟨h0, h1⟩]
  match r with
  | [] => rfl
  | [b] => rfl
  | [b, c] => rfl
  | b :: c :: d :: r' =>
    obtain rfl | rfl | rfl : m = 1 ∨ m = 2 ∨ m = 3 := by omega
    · have hc := tl_neg (r := b :: c :: d :: r') h; simp [hc b _ rfl]
    · have hc := tl_neg (r := c :: d :: r') h; simp [hc c _ rfl]
    · have hc := tl_neg (r := d :: r') h; simp [hc d _ rfl]

theorem good_2 {a : UInt8} {r : List UInt8} (h0 : 192 ≤ a.toNat) (h1 : a.toNat < 224) (h : ∀ m, 1 ≤ m → m < 2 → 0 ≤ tlL ((a :: r).drop m)) :
    ∃ v : Nat, accv ((a.toNat : Int) - 192) (a :: r) 1 = v ∧ v ≤ 1000000000 ∧ (128 ≤ v ∧ okV v → nxL (a :: r) = some (v, 2)) ∧ (¬ (128 ≤ v ∧ okV v) → nxL (a :: r) = none) := by
  obtain ⟨b, r', rfl, hb, eb⟩ := tl_pos (r := r) (h 1 (by omega) (by omega))
  have hl := two_lt h1 hb
  have hb' := hb
  simp only [ctU, Bool.and_eq_true, decide_eq_true_eq] at hb'
  refine ⟨two a b, ?_, by omega, ?_, ?_⟩
  · show 64 * ((a.toNat : Int) - 192) + tlL (b :: r') = _
    rw [eb]; simp only [two]; omega
  · rintro ⟨g, _⟩
    simp only [nxL]
    rw [if_neg (by omega), if_pos ⟨h0, h1⟩, if_pos ⟨hb, g⟩]
  · intro g
    simp only [nxL]
    rw [if_neg (by omega), if_pos ⟨h0, h1⟩, if_neg (fun x => g ⟨x.2, by simp only [okV]; omega⟩)]
theorem good_3 {a : UInt8} {r : List UInt8} (h0 : 224 ≤ a.toNat) (h1 : a.toNat < 240) (h : ∀ m, 1 ≤ m → m < 3 → 0 ≤ tlL ((a :: r).drop m)) :
    ∃ v : Nat, accv ((a.toNat : Int) - 224) (a :: r) 2 = v ∧ v ≤ 1000000000 ∧ (2048 ≤ v ∧ okV v → nxL (a :: r) = some (v, 3)) ∧ (¬ (2048 ≤ v ∧ okV v) → nxL (a :: r) = none) := by
  obtain ⟨b, r1, rfl, hb, eb⟩ := tl_pos (r := r) (h 1 (by omega) (by omega))
  obtain ⟨c, r', rfl, hc, ec⟩ := tl_pos (r := r1) (h 2 (by omega) (by omega))
  have hl := three_lt h1 hb hc
  have hb' := hb
  have hc' := hc
  simp only [ctU, Bool.and_eq_true, decide_eq_true_eq] at hb' hc'
  refine ⟨three a b c, ?_, by omega, ?_, ?_⟩
  · show 64 * (64 * ((a.toNat : Int) - 224) + tlL (b :: c :: r')) + tlL (c :: r') = _
    rw [eb, ec]; simp only [three]; omega
  · rintro ⟨g, g2⟩
    simp only [nxL]
    rw [if_neg (by omega), if_neg (by omega), if_pos ⟨h0, h1⟩, if_pos ⟨hb, hc, g, by simp only [okV] at g2; omega⟩]
  · intro g
    simp only [nxL]
    rw [if_neg (by omega), if_neg (by omega), if_pos ⟨h0, h1⟩, if_neg (fun x => g ⟨x.2.2.1, by simp only [okV]; omega⟩)]
theorem good_4 {a : UInt8} {r : List UInt8} (h0 : 240 ≤ a.toNat) (h1 : a.toNat < 248) (h : ∀ m, 1 ≤ m → m < 4 → 0 ≤ tlL ((a :: r).drop m)) :
    ∃ v : Nat, accv ((a.toNat : Int) - 240) (a :: r) 3 = v ∧ v ≤ 1000000000 ∧ (65536 ≤ v ∧ okV v → nxL (a :: r) = some (v, 4)) ∧ (¬ (65536 ≤ v ∧ okV v) → nxL (a :: r) = none) := by
  obtain ⟨b, r1, rfl, hb, eb⟩ := tl_pos (r := r) (h 1 (by omega) (by omega))
  obtain ⟨c, r2, rfl, hc, ec⟩ := tl_pos (r := r1) (h 2 (by omega) (by omega))
  obtain ⟨d, r', rfl, hd, ed⟩ := tl_pos (r := r2) (h 3 (by omega) (by omega))
  have hb' := hb
  have hc' := hc
  have hd' := hd
  simp only [ctU, Bool.and_eq_true, decide_eq_true_eq] at hb' hc' hd'
  refine ⟨four a b c d, ?_, by simp only [four]; omega, ?_, ?_⟩
  · show 64 * (64 * (64 * ((a.toNat : Int) - 240) + tlL (b :: c :: d :: r')) + tlL (c :: d :: r')) + tlL (d :: r') = _
    rw [eb, ec, ed]; simp only [four]; omega
  · rintro ⟨g, g2⟩
    simp only [nxL]
    rw [if_neg (by omega), if_neg (by omega), if_neg (by omega), if_pos ⟨h0, h1⟩, if_pos ⟨hb, hc, hd, g, by simp only [okV] at g2; omega⟩]
  · intro g
    simp only [nxL]
    rw [if_neg (by omega), if_neg (by omega), if_neg (by omega), if_pos ⟨h0, h1⟩, if_neg (fun x => g ⟨x.2.2.2.1, by simp only [okV]; omega⟩)]

theorem accv_bd (v0 : Int) (l : List UInt8) (h0 : 0 ≤ v0) (h1 : v0 ≤ 31) (k : Nat) (hk : k ≤ 3) (h : ∀ m, 1 ≤ m → m < k + 1 → 0 ≤ tlL (l.drop m)) : 0 ≤ accv v0 l k ∧ accv v0 l k ≤ 10000000 := by
  have b1 := tl_bd (l.drop 1)
  have b2 := tl_bd (l.drop 2)
  have b3 := tl_bd (l.drop 3)
  obtain rfl | rfl | rfl | rfl : k = 0 ∨ k = 1 ∨ k = 2 ∨ k = 3 := by omega
  · simp only [accv]; omega
  · have := h 1 (by omega) (by omega); simp only [accv, Nat.zero_add, Nat.reduceAdd]; omega
  · have := h 1 (by omega) (by omega); have := h 2 (by omega) (by omega); simp only [accv, Nat.zero_add, Nat.reduceAdd]; omega
  · have := h 1 (by omega) (by omega); have := h 2 (by omega) (by omega); have := h 3 (by omega) (by omega); simp only [accv, Nat.zero_add, Nat.reduceAdd]; omega

theorem rest_at (s : ByteArray) (i m : Nat) : s.data.toList.drop ((i : Int) + (m : Int)).toNat = (s.data.toList.drop i).drop m := by
  rw [List.drop_drop]; congr 1

set_option maxHeartbeats 2000000 in
theorem rnext_lead2 (s : ByteArray) (i : Nat) (w : World) (hs : s.size ≤ 140737488351232) (h : i < s.size) (h0 : 192 ≤ (s[i].toNat : Int)) (h1 : (s[i].toNat : Int) < 224) :
    Calls Try.prog 66 #[.string s, .int .i64 (i : Int)] w fun e w' => e = .returned (nxV (nxL (atL s i))) ∧ w' = w := by
  have hl0 : Hid (atL s i = s[i] :: s.data.toList.drop (i + 1)) := by rw [atL_in s i (by omega), Int.toNat_natCast, drop_cons s i h]; rfl
  have hl1 : Hid (atL s i = s.data.toList.drop i) := by rw [atL_in s i (by omega), Int.toNat_natCast]; rfl
  generalize atL s i = l at *
  have hd1 : decide (s.size ≤ i) = false := by simp; omega
  have hd2 : decide ((i : Int) < 0) = false := by simp
  have hd3 : decide ((s[i].toNat : Int) < 128) = false := by simp; omega
  go_enter Try.func66, Try.ntmps66
  go_wp2
  go_loop [9, 11] (fun v j => ∃ m : Nat, 1 ≤ m ∧ m ≤ 2 ∧ j = .int .i64 m ∧ v = .int .i64 (accv ((s[i].toNat : Int) - 192) l (m - 1)) ∧ Hid (∀ q, 1 ≤ q → q < m → 0 ≤ tlL (l.drop q))) (fun _ j => 2 - (intOf j).toNat)
  case atStart => exact ⟨1, by omega, by omega, rfl, rfl, by intro q; omega⟩
  case round =>
    obtain ⟨m, hm1, hm2, rfl, rfl, H⟩ := hrel
    have hbd := accv_bd ((s[i].toNat : Int) - 192) l (by omega) (by omega) (m - 1) (by omega) (fun q a b => H.out q a (by omega))
    by_cases hlt : m < 2
    · have ht := tl_bd (l.drop m)
      have HT : Hid (tlL (s.data.toList.drop ((i : Int) + (m : Int)).toNat) = tlL (l.drop m)) := by rw [rest_at, ← hl1.out]; rfl
      have HS : Hid (64 * accv ((s[i].toNat : Int) - 192) l (m - 1) + tlL (l.drop m) = accv ((s[i].toNat : Int) - 192) l m) := by
        obtain ⟨k, rfl⟩ : ∃ k, m = k + 1 := ⟨m - 1, by omega⟩
        rfl
      have HB : Hid (tlL (l.drop m) < 0 → nxL l = none) := fun hh => by
        have hx := hh
        rw [hl0.out] at hx ⊢
        exact bad_2 (by omega) (by omega) m hm1 hlt hx
      have HN : Hid (0 ≤ tlL (l.drop m) → ∀ q, 1 ≤ q → q < m + 1 → 0 ≤ tlL (l.drop q)) := fun hh q a b => by
        by_cases e : q = m
        · rw [e]; exact hh
        · exact H.out q a (by omega)
      generalize accv ((s[i].toNat : Int) - 192) l (m - 1) = v at *
      go_wp2_with fail
      refine (tail_any s _ _ hs (by omega)).mono ?_
      rintro e w' ⟨rfl, rfl⟩
      rw [HT.out]
      generalize tlL (l.drop m) = t at *
      by_cases hneg : t < 0
      · go_wp2
        go_ret3
        exact ⟨ret_none (HB.out hneg), rfl⟩
      · go_wp2
        go_round
        case rel => exact ⟨m + 1, by omega, by omega, by go_num, by rw [HS.out]; rfl, HN.out (by omega)⟩
        case measure => simp [intOf]; omega
    · obtain rfl : m = 2 := by omega
      obtain ⟨v, ev, hv, hyes, hno⟩ : ∃ v : Nat, accv ((s[i].toNat : Int) - 192) l (2 - 1) = v ∧ v ≤ 1000000000 ∧ (128 ≤ v ∧ okV v → nxL l = some (v, 2)) ∧ (¬ (128 ≤ v ∧ okV v) → nxL l = none) := by
        have hg := H.out
        rw [hl0.out] at hg ⊢
        exact good_2 (by omega) (by omega) hg
      rw [ev]
      have HY : Hid (128 ≤ v ∧ okV v → nxL l = some (v, 2)) := hyes
      have HNO : Hid (¬ (128 ≤ v ∧ okV v) → nxL l = none) := hno
      clear hyes hno ev hbd H
      go_wp2
      all_goals
        go_ret3
        first
        | exact ⟨ret_none (HNO.out (by simp only [okV]; omega)), rfl⟩
        | exact ⟨ret_some _ _ (HY.out (by simp only [okV]; omega)) rfl rfl, rfl⟩

set_option maxHeartbeats 2000000 in
theorem rnext_lead3 (s : ByteArray) (i : Nat) (w : World) (hs : s.size ≤ 140737488351232) (h : i < s.size) (h0 : 224 ≤ (s[i].toNat : Int)) (h1 : (s[i].toNat : Int) < 240) :
    Calls Try.prog 66 #[.string s, .int .i64 (i : Int)] w fun e w' => e = .returned (nxV (nxL (atL s i))) ∧ w' = w := by
  have hl0 : Hid (atL s i = s[i] :: s.data.toList.drop (i + 1)) := by rw [atL_in s i (by omega), Int.toNat_natCast, drop_cons s i h]; rfl
  have hl1 : Hid (atL s i = s.data.toList.drop i) := by rw [atL_in s i (by omega), Int.toNat_natCast]; rfl
  generalize atL s i = l at *
  have hd1 : decide (s.size ≤ i) = false := by simp; omega
  have hd2 : decide ((i : Int) < 0) = false := by simp
  have hd3 : decide ((s[i].toNat : Int) < 128) = false := by simp; omega
  go_enter Try.func66, Try.ntmps66
  go_wp2
  go_loop [9, 11] (fun v j => ∃ m : Nat, 1 ≤ m ∧ m ≤ 3 ∧ j = .int .i64 m ∧ v = .int .i64 (accv ((s[i].toNat : Int) - 224) l (m - 1)) ∧ Hid (∀ q, 1 ≤ q → q < m → 0 ≤ tlL (l.drop q))) (fun _ j => 3 - (intOf j).toNat)
  case atStart => exact ⟨1, by omega, by omega, rfl, rfl, by intro q; omega⟩
  case round =>
    obtain ⟨m, hm1, hm2, rfl, rfl, H⟩ := hrel
    have hbd := accv_bd ((s[i].toNat : Int) - 224) l (by omega) (by omega) (m - 1) (by omega) (fun q a b => H.out q a (by omega))
    by_cases hlt : m < 3
    · have ht := tl_bd (l.drop m)
      have HT : Hid (tlL (s.data.toList.drop ((i : Int) + (m : Int)).toNat) = tlL (l.drop m)) := by rw [rest_at, ← hl1.out]; rfl
      have HS : Hid (64 * accv ((s[i].toNat : Int) - 224) l (m - 1) + tlL (l.drop m) = accv ((s[i].toNat : Int) - 224) l m) := by
        obtain ⟨k, rfl⟩ : ∃ k, m = k + 1 := ⟨m - 1, by omega⟩
        rfl
      have HB : Hid (tlL (l.drop m) < 0 → nxL l = none) := fun hh => by
        have hx := hh
        rw [hl0.out] at hx ⊢
        exact bad_3 (by omega) (by omega) m hm1 hlt hx
      have HN : Hid (0 ≤ tlL (l.drop m) → ∀ q, 1 ≤ q → q < m + 1 → 0 ≤ tlL (l.drop q)) := fun hh q a b => by
        by_cases e : q = m
        · rw [e]; exact hh
        · exact H.out q a (by omega)
      generalize accv ((s[i].toNat : Int) - 224) l (m - 1) = v at *
      go_wp2_with fail
      refine (tail_any s _ _ hs (by omega)).mono ?_
      rintro e w' ⟨rfl, rfl⟩
      rw [HT.out]
      generalize tlL (l.drop m) = t at *
      by_cases hneg : t < 0
      · go_wp2
        go_ret3
        exact ⟨ret_none (HB.out hneg), rfl⟩
      · go_wp2
        go_round
        case rel => exact ⟨m + 1, by omega, by omega, by go_num, by rw [HS.out]; rfl, HN.out (by omega)⟩
        case measure => simp [intOf]; omega
    · obtain rfl : m = 3 := by omega
      obtain ⟨v, ev, hv, hyes, hno⟩ : ∃ v : Nat, accv ((s[i].toNat : Int) - 224) l (3 - 1) = v ∧ v ≤ 1000000000 ∧ (2048 ≤ v ∧ okV v → nxL l = some (v, 3)) ∧ (¬ (2048 ≤ v ∧ okV v) → nxL l = none) := by
        have hg := H.out
        rw [hl0.out] at hg ⊢
        exact good_3 (by omega) (by omega) hg
      rw [ev]
      have HY : Hid (2048 ≤ v ∧ okV v → nxL l = some (v, 3)) := hyes
      have HNO : Hid (¬ (2048 ≤ v ∧ okV v) → nxL l = none) := hno
      clear hyes hno ev hbd H
      go_wp2
      all_goals
        go_ret3
        first
        | exact ⟨ret_none (HNO.out (by simp only [okV]; omega)), rfl⟩
        | exact ⟨ret_some _ _ (HY.out (by simp only [okV]; omega)) rfl rfl, rfl⟩

set_option maxHeartbeats 2000000 in
theorem rnext_lead4 (s : ByteArray) (i : Nat) (w : World) (hs : s.size ≤ 140737488351232) (h : i < s.size) (h0 : 240 ≤ (s[i].toNat : Int)) (h1 : (s[i].toNat : Int) < 248) :
    Calls Try.prog 66 #[.string s, .int .i64 (i : Int)] w fun e w' => e = .returned (nxV (nxL (atL s i))) ∧ w' = w := by
  have hl0 : Hid (atL s i = s[i] :: s.data.toList.drop (i + 1)) := by rw [atL_in s i (by omega), Int.toNat_natCast, drop_cons s i h]; rfl
  have hl1 : Hid (atL s i = s.data.toList.drop i) := by rw [atL_in s i (by omega), Int.toNat_natCast]; rfl
  generalize atL s i = l at *
  have hd1 : decide (s.size ≤ i) = false := by simp; omega
  have hd2 : decide ((i : Int) < 0) = false := by simp
  have hd3 : decide ((s[i].toNat : Int) < 128) = false := by simp; omega
  go_enter Try.func66, Try.ntmps66
  go_wp2
  go_loop [9, 11] (fun v j => ∃ m : Nat, 1 ≤ m ∧ m ≤ 4 ∧ j = .int .i64 m ∧ v = .int .i64 (accv ((s[i].toNat : Int) - 240) l (m - 1)) ∧ Hid (∀ q, 1 ≤ q → q < m → 0 ≤ tlL (l.drop q))) (fun _ j => 4 - (intOf j).toNat)
  case atStart => exact ⟨1, by omega, by omega, rfl, rfl, by intro q; omega⟩
  case round =>
    obtain ⟨m, hm1, hm2, rfl, rfl, H⟩ := hrel
    have hbd := accv_bd ((s[i].toNat : Int) - 240) l (by omega) (by omega) (m - 1) (by omega) (fun q a b => H.out q a (by omega))
    by_cases hlt : m < 4
    · have ht := tl_bd (l.drop m)
      have HT : Hid (tlL (s.data.toList.drop ((i : Int) + (m : Int)).toNat) = tlL (l.drop m)) := by rw [rest_at, ← hl1.out]; rfl
      have HS : Hid (64 * accv ((s[i].toNat : Int) - 240) l (m - 1) + tlL (l.drop m) = accv ((s[i].toNat : Int) - 240) l m) := by
        obtain ⟨k, rfl⟩ : ∃ k, m = k + 1 := ⟨m - 1, by omega⟩
        rfl
      have HB : Hid (tlL (l.drop m) < 0 → nxL l = none) := fun hh => by
        have hx := hh
        rw [hl0.out] at hx ⊢
        exact bad_4 (by omega) (by omega) m hm1 hlt hx
      have HN : Hid (0 ≤ tlL (l.drop m) → ∀ q, 1 ≤ q → q < m + 1 → 0 ≤ tlL (l.drop q)) := fun hh q a b => by
        by_cases e : q = m
        · rw [e]; exact hh
        · exact H.out q a (by omega)
      generalize accv ((s[i].toNat : Int) - 240) l (m - 1) = v at *
      go_wp2_with fail
      refine (tail_any s _ _ hs (by omega)).mono ?_
      rintro e w' ⟨rfl, rfl⟩
      rw [HT.out]
      generalize tlL (l.drop m) = t at *
      by_cases hneg : t < 0
      · go_wp2
        go_ret3
        exact ⟨ret_none (HB.out hneg), rfl⟩
      · go_wp2
        go_round
        case rel => exact ⟨m + 1, by omega, by omega, by go_num, by rw [HS.out]; rfl, HN.out (by omega)⟩
        case measure => simp [intOf]; omega
    · obtain rfl : m = 4 := by omega
      obtain ⟨v, ev, hv, hyes, hno⟩ : ∃ v : Nat, accv ((s[i].toNat : Int) - 240) l (4 - 1) = v ∧ v ≤ 1000000000 ∧ (65536 ≤ v ∧ okV v → nxL l = some (v, 4)) ∧ (¬ (65536 ≤ v ∧ okV v) → nxL l = none) := by
        have hg := H.out
        rw [hl0.out] at hg ⊢
        exact good_4 (by omega) (by omega) hg
      rw [ev]
      have HY : Hid (65536 ≤ v ∧ okV v → nxL l = some (v, 4)) := hyes
      have HNO : Hid (¬ (65536 ≤ v ∧ okV v) → nxL l = none) := hno
      clear hyes hno ev hbd H
      go_wp2
      all_goals
        go_ret3
        first
        | exact ⟨ret_none (HNO.out (by simp only [okV]; omega)), rfl⟩
        | exact ⟨ret_some _ _ (HY.out (by simp only [okV]; omega)) rfl rfl, rfl⟩

theorem rnext_any (s : ByteArray) (i : Int) (w : World) (hs : s.size ≤ 140737488351232) :
    Calls Try.prog 66 #[.string s, .int .i64 i] w fun e w' => e = .returned (nxV (nxL (atL s i))) ∧ w' = w := by
  by_cases h : i < 0 ∨ (s.size : Int) ≤ i
  · exact rnext_out s i w h
  · obtain ⟨n, rfl⟩ := Int.eq_ofNat_of_zero_le (a := i) (by omega)
    have hn : n < s.size := by omega
    by_cases h1 : (s[n].toNat : Int) < 128
    · exact rnext_lead1 s n w hs hn h1
    · by_cases h2 : (s[n].toNat : Int) < 192 ∨ 248 ≤ (s[n].toNat : Int)
      · exact rnext_lead0 s n w hs hn (by omega) h2
      · by_cases h3 : (s[n].toNat : Int) < 224
        · exact rnext_lead2 s n w hs hn (by omega) h3
        · by_cases h4 : (s[n].toNat : Int) < 240
          · exact rnext_lead3 s n w hs hn (by omega) h4
          · exact rnext_lead4 s n w hs hn (by omega) (by omega)
end Go.Proofs.Ytomeppgmmlaibaa

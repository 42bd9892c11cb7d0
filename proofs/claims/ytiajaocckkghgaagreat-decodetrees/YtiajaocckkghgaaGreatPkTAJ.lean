/- Part 10 of what the proof stands on. -/
import Derived.Test.YtiajaocckkghgaaGreatPkTAI
import Derived.Laws.ResultCell
namespace Go.Proofs.YtiajaocckkghgaaGreat
set_option maxHeartbeats 8000000
set_option linter.unusedSimpArgs false
set_option linter.unusedVariables false
set_option maxRecDepth 20000
section
open Go.ChangeShapes Go.WideShapes Go.ChangeAt Go.RowKit
def tlL : List UInt8 → Int
 | [] => -1
 | a :: _ => if ctU a = true then (a.toNat : Int) - 128 else -1
theorem tl_in (s : ByteArray) (i : Nat) (h : i < s.size) (a : 128 ≤ (s[i].toNat : Int)) (b : (s[i].toNat : Int) ≤ 191) : (s[i].toNat : Int) - 128 = tlL (s.data.toList.drop i) := by
 rw [drop_cons s i h]; simp only [tlL]; rw [if_pos (by simp [ctU]; omega)]
theorem tl_out (s : ByteArray) (i : Nat) (h : i < s.size) (a : (s[i].toNat : Int) < 128 ∨ 191 < (s[i].toNat : Int)) : -1 = tlL (s.data.toList.drop i) := by
 rw [drop_cons s i h]; simp only [tlL]; rw [if_neg (by simp [ctU]; omega)]
theorem tl_end (s : ByteArray) (i : Nat) (h : s.size ≤ i) : -1 = tlL (s.data.toList.drop i) := by
 rw [drop_none s i h]; rfl
theorem tail_any (s : ByteArray) (i : Int) (w : World) (hs : s.size ≤ 140737488351232) (hi : 0 ≤ i) :
  Calls Tryz.prog 152 #[.string s,.int .i64 i] w fun e w' => e = .returned (.int .i64 (tlL (s.data.toList.drop i.toNat))) ∧ w' = w := by
 by_cases h : i < s.size
 ·have hn : i.toNat < s.size := by omega
  go_enter Tryz.func152,Tryz.ntmps152
  go_wp2
  all_goals
   go_ret
   first
   | exact ⟨ret_int (tl_in s i.toNat hn (by omega) (by omega)),rfl⟩
   | exact ⟨ret_int (tl_out s i.toNat hn (by omega)),rfl⟩
 ·go_enter Tryz.func152,Tryz.ntmps152
  go_wp2
  go_ret;exact ⟨ret_int (tl_end s i.toNat (by omega)),rfl⟩
theorem rnext_out (s : ByteArray) (i : Int) (w : World) (h : i < 0 ∨ (s.size : Int) ≤ i) :
  Calls Tryz.prog 120 #[.string s,.int .i64 i] w fun e w' => e = .returned (nxV (nxL (atL s i))) ∧ w' = w := by
 have hx := atL_out s i h;have HX : Hid (nxL (atL s i) = none) := hx;clear hx
 rcases h with h | h
 ·go_enter Tryz.func120,Tryz.ntmps120
  go_wp2
  go_ret3
  exact ⟨ret_none HX.out,rfl⟩
 ·by_cases h0 : i < 0
  all_goals
   go_enter Tryz.func120,Tryz.ntmps120
   go_wp2
   go_ret3
   exact ⟨ret_none HX.out,rfl⟩
def accv (v0 : Int) (l : List UInt8) : Nat → Int
 | 0 => v0
 | k + 1 => 64 * accv v0 l k + tlL (l.drop (k + 1))
theorem nxL_lead1 (s : ByteArray) (i : Nat) (h : i < s.size) (ha : (s[i].toNat : Int) < 128) : nxL (atL s i) = some (s[i].toNat,1) := by
 rw [atL_in s i (by omega),Int.toNat_natCast,drop_cons s i h];simp only [nxL]; rw [if_pos (by omega)]
theorem nxL_lead0 (s : ByteArray) (i : Nat) (h : i < s.size) (h0 : 128 ≤ (s[i].toNat : Int)) (h1 : (s[i].toNat : Int) < 192 ∨ 248 ≤ (s[i].toNat : Int)) : nxL (atL s i) = none := by
 rw [atL_in s i (by omega),Int.toNat_natCast,drop_cons s i h];simp only [nxL]; rw [if_neg (by omega),if_neg (by omega),if_neg (by omega),if_neg (by omega)]
theorem rnext_lead1 (s : ByteArray) (i : Nat) (w : World) (hs : s.size ≤ 140737488351232) (h : i < s.size) (ha : (s[i].toNat : Int) < 128) :
  Calls Tryz.prog 120 #[.string s,.int .i64 (i : Int)] w fun e w' => e = .returned (nxV (nxL (atL s i))) ∧ w' = w := by
 have HX : Hid (nxL (atL s i) = some (s[i].toNat,1)) := nxL_lead1 s i h ha
 have hb : 0 ≤ (s[i].toNat : Int) := by omega
 go_enter Tryz.func120,Tryz.ntmps120
 go_wp2
 go_ret3
 exact ⟨ret_some _ _ HX.out rfl rfl,rfl⟩
theorem rnext_lead0 (s : ByteArray) (i : Nat) (w : World) (hs : s.size ≤ 140737488351232) (h : i < s.size) (h0 : 128 ≤ (s[i].toNat : Int)) (h1 : (s[i].toNat : Int) < 192 ∨ 248 ≤ (s[i].toNat : Int)) :
  Calls Tryz.prog 120 #[.string s,.int .i64 (i : Int)] w fun e w' => e = .returned (nxV (nxL (atL s i))) ∧ w' = w := by
 have HX : Hid (nxL (atL s i) = none) := nxL_lead0 s i h h0 h1
 have hb : (s[i].toNat : Int) < 256 := by have := s[i].toNat_lt; omega
 rcases h1 with h1 | h1
 all_goals
  go_enter Tryz.func120,Tryz.ntmps120
  go_wp2
  go_ret3
  exact ⟨ret_none HX.out,rfl⟩
theorem tl_neg {r : List UInt8} (h : tlL r < 0) : ∀ b r',r = b :: r' → ctU b = false := by
 rintro b r' rfl
 cases e : ctU b with
 | false => rfl
 | true => simp only [tlL,e,if_true] at h; simp [ctU] at e; omega
theorem tl_pos {r : List UInt8} (h : 0 ≤ tlL r) : ∃ b r',r = b :: r' ∧ ctU b = true ∧ tlL r = (b.toNat : Int) - 128 := by
 match r with
 | [] => simp [tlL] at h
 | b :: r' =>
  cases e : ctU b with
  | false => simp [tlL,e] at h
  | true => exact ⟨b,r',rfl,e,by simp [tlL,e]⟩
theorem tl_bd (r : List UInt8) : -1 ≤ tlL r ∧ tlL r ≤ 63 := by
 match r with
 | [] => simp [tlL]
 | b :: r' =>
  simp only [tlL]
  split
  ·rename_i e; simp [ctU] at e; omega
  ·omega
def okVr (v : Int) : Prop := v ≤ 1114111 ∧ ¬ (55296 ≤ v ∧ v ≤ 57343)
theorem bad_2 {a : UInt8} {r : List UInt8} (h0 : 192 ≤ a.toNat) (h1 : a.toNat < 224) (m : Nat) (hm : 1 ≤ m) (hn : m < 2) (h : tlL ((a :: r).drop m) < 0) : nxL (a :: r) = none := by
 obtain rfl : m = 1 := by omega
 have hc := tl_neg (r := r) h;simp only [nxL];rw [if_neg (by omega),if_pos ⟨h0,h1⟩]
 match r with
 | [] => rfl
 | b :: r' => simp [hc b r' rfl]
theorem bad_3 {a : UInt8} {r : List UInt8} (h0 : 224 ≤ a.toNat) (h1 : a.toNat < 240) (m : Nat) (hm : 1 ≤ m) (hn : m < 3) (h : tlL ((a :: r).drop m) < 0) : nxL (a :: r) = none := by
 simp only [nxL];rw [if_neg (by omega),if_neg (by omega),if_pos ⟨h0,h1⟩]
 match r with
 | [] => rfl
 | [b] => rfl
 | b :: c :: r' =>
  obtain rfl | rfl : m = 1 ∨ m = 2 := by omega
  ·have hc := tl_neg (r := b :: c :: r') h; simp [hc b _ rfl]
  ·have hc := tl_neg (r := c :: r') h; simp [hc c _ rfl]
theorem bad_4 {a : UInt8} {r : List UInt8} (h0 : 240 ≤ a.toNat) (h1 : a.toNat < 248) (m : Nat) (hm : 1 ≤ m) (hn : m < 4) (h : tlL ((a :: r).drop m) < 0) : nxL (a :: r) = none := by
 simp only [nxL];rw [if_neg (by omega),if_neg (by omega),if_neg (by omega),if_pos ⟨h0,h1⟩]
 match r with
 | [] => rfl
 | [b] => rfl
 | [b,c] => rfl
 | b :: c :: d :: r' =>
  obtain rfl | rfl | rfl : m = 1 ∨ m = 2 ∨ m = 3 := by omega
  ·have hc := tl_neg (r := b :: c :: d :: r') h; simp [hc b _ rfl]
  ·have hc := tl_neg (r := c :: d :: r') h; simp [hc c _ rfl]
  ·have hc := tl_neg (r := d :: r') h; simp [hc d _ rfl]
theorem good_2 {a : UInt8} {r : List UInt8} (h0 : 192 ≤ a.toNat) (h1 : a.toNat < 224) (h : ∀ m,1 ≤ m → m < 2 → 0 ≤ tlL ((a :: r).drop m)) :
  ∃ v : Nat,accv ((a.toNat : Int) - 192) (a :: r) 1 = v ∧ v ≤ 1000000000 ∧ (128 ≤ v ∧ okVr v → nxL (a :: r) = some (v,2)) ∧ (¬ (128 ≤ v ∧ okVr v) → nxL (a :: r) = none) := by
 obtain ⟨b,r',rfl,hb,eb⟩ := tl_pos (r := r) (h 1 (by omega) (by omega));have hl := two_lt h1 hb;have hb' := hb;simp only [ctU,Bool.and_eq_true,decide_eq_true_eq] at hb';refine ⟨two a b,?_,by omega,?_,?_⟩
 ·show 64 * ((a.toNat : Int) - 192) + tlL (b :: r') = _
  rw [eb]; simp only [two]; omega
 ·rintro ⟨g,_⟩;simp only [nxL];rw [if_neg (by omega),if_pos ⟨h0,h1⟩,if_pos ⟨hb,g⟩]
 ·intro g;simp only [nxL];rw [if_neg (by omega),if_pos ⟨h0,h1⟩,if_neg (fun x => g ⟨x.2,by simp only [okVr]; omega⟩)]
theorem good_3 {a : UInt8} {r : List UInt8} (h0 : 224 ≤ a.toNat) (h1 : a.toNat < 240) (h : ∀ m,1 ≤ m → m < 3 → 0 ≤ tlL ((a :: r).drop m)) :
  ∃ v : Nat,accv ((a.toNat : Int) - 224) (a :: r) 2 = v ∧ v ≤ 1000000000 ∧ (2048 ≤ v ∧ okVr v → nxL (a :: r) = some (v,3)) ∧ (¬ (2048 ≤ v ∧ okVr v) → nxL (a :: r) = none) := by
 obtain ⟨b,r1,rfl,hb,eb⟩ := tl_pos (r := r) (h 1 (by omega) (by omega));obtain ⟨c,r',rfl,hc,ec⟩ := tl_pos (r := r1) (h 2 (by omega) (by omega));have hl := three_lt h1 hb hc;have hb' := hb;have hc' := hc;simp only [ctU,Bool.and_eq_true,decide_eq_true_eq] at hb' hc';refine ⟨three a b c,?_,by omega,?_,?_⟩
 ·show 64 * (64 * ((a.toNat : Int) - 224) + tlL (b :: c :: r')) + tlL (c :: r') = _
  rw [eb,ec]; simp only [three]; omega
 ·rintro ⟨g,g2⟩;simp only [nxL];rw [if_neg (by omega),if_neg (by omega),if_pos ⟨h0,h1⟩,if_pos ⟨hb,hc,g,by simp only [okVr] at g2; omega⟩]
 ·intro g;simp only [nxL];rw [if_neg (by omega),if_neg (by omega),if_pos ⟨h0,h1⟩,if_neg (fun x => g ⟨x.2.2.1,by simp only [okVr]; omega⟩)]
theorem good_4 {a : UInt8} {r : List UInt8} (h0 : 240 ≤ a.toNat) (h1 : a.toNat < 248) (h : ∀ m,1 ≤ m → m < 4 → 0 ≤ tlL ((a :: r).drop m)) :
  ∃ v : Nat,accv ((a.toNat : Int) - 240) (a :: r) 3 = v ∧ v ≤ 1000000000 ∧ (65536 ≤ v ∧ okVr v → nxL (a :: r) = some (v,4)) ∧ (¬ (65536 ≤ v ∧ okVr v) → nxL (a :: r) = none) := by
 obtain ⟨b,r1,rfl,hb,eb⟩ := tl_pos (r := r) (h 1 (by omega) (by omega));obtain ⟨c,r2,rfl,hc,ec⟩ := tl_pos (r := r1) (h 2 (by omega) (by omega));obtain ⟨d,r',rfl,hd,ed⟩ := tl_pos (r := r2) (h 3 (by omega) (by omega));have hb' := hb;have hc' := hc;have hd' := hd;simp only [ctU,Bool.and_eq_true,decide_eq_true_eq] at hb' hc' hd';refine ⟨four a b c d,?_,by simp only [four]; omega,?_,?_⟩
 ·show 64 * (64 * (64 * ((a.toNat : Int) - 240) + tlL (b :: c :: d :: r')) + tlL (c :: d :: r')) + tlL (d :: r') = _
  rw [eb,ec,ed]; simp only [four]; omega
 ·rintro ⟨g,g2⟩;simp only [nxL];rw [if_neg (by omega),if_neg (by omega),if_neg (by omega),if_pos ⟨h0,h1⟩,if_pos ⟨hb,hc,hd,g,by simp only [okVr] at g2; omega⟩]
 ·intro g;simp only [nxL];rw [if_neg (by omega),if_neg (by omega),if_neg (by omega),if_pos ⟨h0,h1⟩,if_neg (fun x => g ⟨x.2.2.2.1,by simp only [okVr]; omega⟩)]
theorem accv_bd (v0 : Int) (l : List UInt8) (h0 : 0 ≤ v0) (h1 : v0 ≤ 31) (k : Nat) (hk : k ≤ 3) (h : ∀ m,1 ≤ m → m < k + 1 → 0 ≤ tlL (l.drop m)) : 0 ≤ accv v0 l k ∧ accv v0 l k ≤ 10000000 := by
 have b1 := tl_bd (l.drop 1);have b2 := tl_bd (l.drop 2);have b3 := tl_bd (l.drop 3)
 obtain rfl | rfl | rfl | rfl : k = 0 ∨ k = 1 ∨ k = 2 ∨ k = 3 := by omega
 ·simp only [accv]; omega
 ·have := h 1 (by omega) (by omega); simp only [accv,Nat.zero_add,Nat.reduceAdd]; omega
 ·have := h 1 (by omega) (by omega); have := h 2 (by omega) (by omega); simp only [accv,Nat.zero_add,Nat.reduceAdd]; omega
 ·have := h 1 (by omega) (by omega); have := h 2 (by omega) (by omega); have := h 3 (by omega) (by omega); simp only [accv,Nat.zero_add,Nat.reduceAdd]; omega
theorem rest_at (s : ByteArray) (i m : Nat) : s.data.toList.drop ((i : Int) + (m : Int)).toNat = (s.data.toList.drop i).drop m := by
 rw [List.drop_drop]; congr 1
theorem rnext_lead2 (s : ByteArray) (i : Nat) (w : World) (hs : s.size ≤ 140737488351232) (h : i < s.size) (h0 : 192 ≤ (s[i].toNat : Int)) (h1 : (s[i].toNat : Int) < 224) :
  Calls Tryz.prog 120 #[.string s,.int .i64 (i : Int)] w fun e w' => e = .returned (nxV (nxL (atL s i))) ∧ w' = w := by
 have hl0 : Hid (atL s i = s[i] :: s.data.toList.drop (i + 1)) := by rw [atL_in s i (by omega),Int.toNat_natCast,drop_cons s i h]; rfl
 have hl1 : Hid (atL s i = s.data.toList.drop i) := by rw [atL_in s i (by omega),Int.toNat_natCast]; rfl
 generalize atL s i = l at *
 have hd1 : decide (s.size ≤ i) = false := by simp; omega
 have hd2 : decide ((i : Int) < 0) = false := by simp
 have hd3 : decide ((s[i].toNat : Int) < 128) = false := by simp; omega
 go_enter Tryz.func120,Tryz.ntmps120
 go_wp2
 go_loop [9,11] (fun v j => ∃ m : Nat,1 ≤ m ∧ m ≤ 2 ∧ j = .int .i64 m ∧ v = .int .i64 (accv ((s[i].toNat : Int) - 192) l (m - 1)) ∧ Hid (∀ q,1 ≤ q → q < m → 0 ≤ tlL (l.drop q))) (fun _ j => 2 - (intOf j).toNat)
 case atStart => exact ⟨1,by omega,by omega,rfl,rfl,by intro q; omega⟩
 case round =>
  obtain ⟨m,hm1,hm2,rfl,rfl,H⟩ := hrel;have hbd := accv_bd ((s[i].toNat : Int) - 192) l (by omega) (by omega) (m - 1) (by omega) (fun q a b => H.out q a (by omega))
  by_cases hlt : m < 2
  ·have ht := tl_bd (l.drop m)
   have HT : Hid (tlL (s.data.toList.drop ((i : Int) + (m : Int)).toNat) = tlL (l.drop m)) := by rw [rest_at,← hl1.out]; rfl
   have HS : Hid (64 * accv ((s[i].toNat : Int) - 192) l (m - 1) + tlL (l.drop m) = accv ((s[i].toNat : Int) - 192) l m) := by
    obtain ⟨k,rfl⟩ : ∃ k,m = k + 1 := ⟨m - 1,by omega⟩
    rfl
   have HB : Hid (tlL (l.drop m) < 0 → nxL l = none) := fun hh => by
    have hx := hh;rw [hl0.out] at hx ⊢;exact bad_2 (by omega) (by omega) m hm1 hlt hx
   have HN : Hid (0 ≤ tlL (l.drop m) → ∀ q,1 ≤ q → q < m + 1 → 0 ≤ tlL (l.drop q)) := fun hh q a b => by
    by_cases e : q = m
    ·rw [e]; exact hh
    ·exact H.out q a (by omega)
   generalize accv ((s[i].toNat : Int) - 192) l (m - 1) = v at *;go_wp2_with fail;refine (tail_any s _ _ hs (by omega)).mono ?_;rintro e w' ⟨rfl,rfl⟩;rw [HT.out];generalize tlL (l.drop m) = t at *
   by_cases hneg : t < 0
   ·go_wp2
    go_ret3
    exact ⟨ret_none (HB.out hneg),rfl⟩
   ·go_wp2
    go_round
    case rel => exact ⟨m + 1,by omega,by omega,by go_num,by rw [HS.out]; rfl,HN.out (by omega)⟩
    case measure => simp [intOf]; omega
  ·obtain rfl : m = 2 := by omega
   obtain ⟨v,ev,hv,hyes,hno⟩ : ∃ v : Nat,accv ((s[i].toNat : Int) - 192) l (2 - 1) = v ∧ v ≤ 1000000000 ∧ (128 ≤ v ∧ okVr v → nxL l = some (v,2)) ∧ (¬ (128 ≤ v ∧ okVr v) → nxL l = none) := by
    have hg := H.out;rw [hl0.out] at hg ⊢;exact good_2 (by omega) (by omega) hg
   rw [ev];have HY : Hid (128 ≤ v ∧ okVr v → nxL l = some (v,2)) := hyes;have HNO : Hid (¬ (128 ≤ v ∧ okVr v) → nxL l = none) := hno;clear hyes hno ev hbd H
   go_wp2
   all_goals
    go_ret3
    first
    | exact ⟨ret_none (HNO.out (by simp only [okVr]; omega)),rfl⟩
    | exact ⟨ret_some _ _ (HY.out (by simp only [okVr]; omega)) rfl rfl,rfl⟩
theorem rnext_lead3 (s : ByteArray) (i : Nat) (w : World) (hs : s.size ≤ 140737488351232) (h : i < s.size) (h0 : 224 ≤ (s[i].toNat : Int)) (h1 : (s[i].toNat : Int) < 240) :
  Calls Tryz.prog 120 #[.string s,.int .i64 (i : Int)] w fun e w' => e = .returned (nxV (nxL (atL s i))) ∧ w' = w := by
 have hl0 : Hid (atL s i = s[i] :: s.data.toList.drop (i + 1)) := by rw [atL_in s i (by omega),Int.toNat_natCast,drop_cons s i h]; rfl
 have hl1 : Hid (atL s i = s.data.toList.drop i) := by rw [atL_in s i (by omega),Int.toNat_natCast]; rfl
 generalize atL s i = l at *
 have hd1 : decide (s.size ≤ i) = false := by simp; omega
 have hd2 : decide ((i : Int) < 0) = false := by simp
 have hd3 : decide ((s[i].toNat : Int) < 128) = false := by simp; omega
 go_enter Tryz.func120,Tryz.ntmps120
 go_wp2
 go_loop [9,11] (fun v j => ∃ m : Nat,1 ≤ m ∧ m ≤ 3 ∧ j = .int .i64 m ∧ v = .int .i64 (accv ((s[i].toNat : Int) - 224) l (m - 1)) ∧ Hid (∀ q,1 ≤ q → q < m → 0 ≤ tlL (l.drop q))) (fun _ j => 3 - (intOf j).toNat)
 case atStart => exact ⟨1,by omega,by omega,rfl,rfl,by intro q; omega⟩
 case round =>
  obtain ⟨m,hm1,hm2,rfl,rfl,H⟩ := hrel;have hbd := accv_bd ((s[i].toNat : Int) - 224) l (by omega) (by omega) (m - 1) (by omega) (fun q a b => H.out q a (by omega))
  by_cases hlt : m < 3
  ·have ht := tl_bd (l.drop m)
   have HT : Hid (tlL (s.data.toList.drop ((i : Int) + (m : Int)).toNat) = tlL (l.drop m)) := by rw [rest_at,← hl1.out]; rfl
   have HS : Hid (64 * accv ((s[i].toNat : Int) - 224) l (m - 1) + tlL (l.drop m) = accv ((s[i].toNat : Int) - 224) l m) := by
    obtain ⟨k,rfl⟩ : ∃ k,m = k + 1 := ⟨m - 1,by omega⟩
    rfl
   have HB : Hid (tlL (l.drop m) < 0 → nxL l = none) := fun hh => by
    have hx := hh;rw [hl0.out] at hx ⊢;exact bad_3 (by omega) (by omega) m hm1 hlt hx
   have HN : Hid (0 ≤ tlL (l.drop m) → ∀ q,1 ≤ q → q < m + 1 → 0 ≤ tlL (l.drop q)) := fun hh q a b => by
    by_cases e : q = m
    ·rw [e]; exact hh
    ·exact H.out q a (by omega)
   generalize accv ((s[i].toNat : Int) - 224) l (m - 1) = v at *;go_wp2_with fail;refine (tail_any s _ _ hs (by omega)).mono ?_;rintro e w' ⟨rfl,rfl⟩;rw [HT.out];generalize tlL (l.drop m) = t at *
   by_cases hneg : t < 0
   ·go_wp2
    go_ret3
    exact ⟨ret_none (HB.out hneg),rfl⟩
   ·go_wp2
    go_round
    case rel => exact ⟨m + 1,by omega,by omega,by go_num,by rw [HS.out]; rfl,HN.out (by omega)⟩
    case measure => simp [intOf]; omega
  ·obtain rfl : m = 3 := by omega
   obtain ⟨v,ev,hv,hyes,hno⟩ : ∃ v : Nat,accv ((s[i].toNat : Int) - 224) l (3 - 1) = v ∧ v ≤ 1000000000 ∧ (2048 ≤ v ∧ okVr v → nxL l = some (v,3)) ∧ (¬ (2048 ≤ v ∧ okVr v) → nxL l = none) := by
    have hg := H.out;rw [hl0.out] at hg ⊢;exact good_3 (by omega) (by omega) hg
   rw [ev];have HY : Hid (2048 ≤ v ∧ okVr v → nxL l = some (v,3)) := hyes;have HNO : Hid (¬ (2048 ≤ v ∧ okVr v) → nxL l = none) := hno;clear hyes hno ev hbd H
   go_wp2
   all_goals
    go_ret3
    first
    | exact ⟨ret_none (HNO.out (by simp only [okVr]; omega)),rfl⟩
    | exact ⟨ret_some _ _ (HY.out (by simp only [okVr]; omega)) rfl rfl,rfl⟩
theorem rnext_lead4 (s : ByteArray) (i : Nat) (w : World) (hs : s.size ≤ 140737488351232) (h : i < s.size) (h0 : 240 ≤ (s[i].toNat : Int)) (h1 : (s[i].toNat : Int) < 248) :
  Calls Tryz.prog 120 #[.string s,.int .i64 (i : Int)] w fun e w' => e = .returned (nxV (nxL (atL s i))) ∧ w' = w := by
 have hl0 : Hid (atL s i = s[i] :: s.data.toList.drop (i + 1)) := by rw [atL_in s i (by omega),Int.toNat_natCast,drop_cons s i h]; rfl
 have hl1 : Hid (atL s i = s.data.toList.drop i) := by rw [atL_in s i (by omega),Int.toNat_natCast]; rfl
 generalize atL s i = l at *
 have hd1 : decide (s.size ≤ i) = false := by simp; omega
 have hd2 : decide ((i : Int) < 0) = false := by simp
 have hd3 : decide ((s[i].toNat : Int) < 128) = false := by simp; omega
 go_enter Tryz.func120,Tryz.ntmps120
 go_wp2
 go_loop [9,11] (fun v j => ∃ m : Nat,1 ≤ m ∧ m ≤ 4 ∧ j = .int .i64 m ∧ v = .int .i64 (accv ((s[i].toNat : Int) - 240) l (m - 1)) ∧ Hid (∀ q,1 ≤ q → q < m → 0 ≤ tlL (l.drop q))) (fun _ j => 4 - (intOf j).toNat)
 case atStart => exact ⟨1,by omega,by omega,rfl,rfl,by intro q; omega⟩
 case round =>
  obtain ⟨m,hm1,hm2,rfl,rfl,H⟩ := hrel;have hbd := accv_bd ((s[i].toNat : Int) - 240) l (by omega) (by omega) (m - 1) (by omega) (fun q a b => H.out q a (by omega))
  by_cases hlt : m < 4
  ·have ht := tl_bd (l.drop m)
   have HT : Hid (tlL (s.data.toList.drop ((i : Int) + (m : Int)).toNat) = tlL (l.drop m)) := by rw [rest_at,← hl1.out]; rfl
   have HS : Hid (64 * accv ((s[i].toNat : Int) - 240) l (m - 1) + tlL (l.drop m) = accv ((s[i].toNat : Int) - 240) l m) := by
    obtain ⟨k,rfl⟩ : ∃ k,m = k + 1 := ⟨m - 1,by omega⟩
    rfl
   have HB : Hid (tlL (l.drop m) < 0 → nxL l = none) := fun hh => by
    have hx := hh;rw [hl0.out] at hx ⊢;exact bad_4 (by omega) (by omega) m hm1 hlt hx
   have HN : Hid (0 ≤ tlL (l.drop m) → ∀ q,1 ≤ q → q < m + 1 → 0 ≤ tlL (l.drop q)) := fun hh q a b => by
    by_cases e : q = m
    ·rw [e]; exact hh
    ·exact H.out q a (by omega)
   generalize accv ((s[i].toNat : Int) - 240) l (m - 1) = v at *;go_wp2_with fail;refine (tail_any s _ _ hs (by omega)).mono ?_;rintro e w' ⟨rfl,rfl⟩;rw [HT.out];generalize tlL (l.drop m) = t at *
   by_cases hneg : t < 0
   ·go_wp2
    go_ret3
    exact ⟨ret_none (HB.out hneg),rfl⟩
   ·go_wp2
    go_round
    case rel => exact ⟨m + 1,by omega,by omega,by go_num,by rw [HS.out]; rfl,HN.out (by omega)⟩
    case measure => simp [intOf]; omega
  ·obtain rfl : m = 4 := by omega
   obtain ⟨v,ev,hv,hyes,hno⟩ : ∃ v : Nat,accv ((s[i].toNat : Int) - 240) l (4 - 1) = v ∧ v ≤ 1000000000 ∧ (65536 ≤ v ∧ okVr v → nxL l = some (v,4)) ∧ (¬ (65536 ≤ v ∧ okVr v) → nxL l = none) := by
    have hg := H.out;rw [hl0.out] at hg ⊢;exact good_4 (by omega) (by omega) hg
   rw [ev];have HY : Hid (65536 ≤ v ∧ okVr v → nxL l = some (v,4)) := hyes;have HNO : Hid (¬ (65536 ≤ v ∧ okVr v) → nxL l = none) := hno;clear hyes hno ev hbd H
   go_wp2
   all_goals
    go_ret3
    first
    | exact ⟨ret_none (HNO.out (by simp only [okVr]; omega)),rfl⟩
    | exact ⟨ret_some _ _ (HY.out (by simp only [okVr]; omega)) rfl rfl,rfl⟩
theorem rnext_any (s : ByteArray) (i : Int) (w : World) (hs : s.size ≤ 140737488351232) :
  Calls Tryz.prog 120 #[.string s,.int .i64 i] w fun e w' => e = .returned (nxV (nxL (atL s i))) ∧ w' = w := by
 by_cases h : i < 0 ∨ (s.size : Int) ≤ i
 ·exact rnext_out s i w h
 ·obtain ⟨n,rfl⟩ := Int.eq_ofNat_of_zero_le (a := i) (by omega)
  have hn : n < s.size := by omega
  by_cases h1 : (s[n].toNat : Int) < 128
  ·exact rnext_lead1 s n w hs hn h1
  ·by_cases h2 : (s[n].toNat : Int) < 192 ∨ 248 ≤ (s[n].toNat : Int)
   ·exact rnext_lead0 s n w hs hn (by omega) h2
   ·by_cases h3 : (s[n].toNat : Int) < 224
    ·exact rnext_lead2 s n w hs hn (by omega) h3
    ·by_cases h4 : (s[n].toNat : Int) < 240
     ·exact rnext_lead3 s n w hs hn (by omega) h4
     ·exact rnext_lead4 s n w hs hn (by omega) (by omega)
theorem rdigit_any (r : Int) (w : World) :
  Calls Tryz.prog 72 #[.int .i32 r] w fun e w' => e = .returned (.bool (digB r)) ∧ w' = w := by
 go_enter Tryz.func72,Tryz.ntmps72
 go_wp2
 all_goals
  go_ret;exact ⟨ret_bool (by simp [digB]; try omega),rfl⟩
theorem rletter_any (r : Int) (w : World) :
  Calls Tryz.prog 70 #[.int .i32 r] w fun e w' => e = .returned (.bool (letB r)) ∧ w' = w := by
 go_enter Tryz.func70,Tryz.ntmps70
 go_wp2
 all_goals
  go_ret;refine ⟨ret_bool ?_,rfl⟩;rw [Bool.eq_iff_iff]
  simp [letB]
  try omega
theorem infoRune : (Tryz.prog.info? 21).map (fun i => (i.zero,i.size,i.bytes)) = some (some (.int .i32 0),1,4) := by kernel_rfl
def runeCells (rs : List Nat) : List Value := rs.map fun (c : Nat) => Value.int .i32 (c : Int)
theorem owns_cast {w : World} {b e : Nat} {v : Value} {n n' : Nat} {xs xs' : List Value} (h : w.ownsRow b e 1 v n xs) (hn : n' = n) (hx : xs' = xs) : w.ownsRow b e 1 v n' xs' := by
 rw [hn,hx]; exact h
theorem all_len {l : List UInt8} {pos c k : Nat} (hn : nxL (l.drop pos) = some (c,k)) (hp : pos ≤ l.length) : pos + k ≤ l.length ∧ 1 ≤ k ∧ k ≤ 4 := by
 obtain ⟨_,_,_,h4,h5,h6,_⟩ := nxL_some _ _ _ hn
 simp at h5
 omega
theorem rall_any (s : ByteArray) (w : World) (hs : s.size ≤ 20000) :
  Calls Tryz.prog 69 #[.string s] w fun e w' => ∃ v,e = .returned (.tuple #[v,.bool (validB s.data.toList)]) ∧
   w'.ownsRow w.heap.size 21 1 v (countN s.data.toList) (runeCells ((runesOf s.data.toList).getD [])) ∧ Below w.heap.size w w' := by
 obtain ⟨i0,hi,hz0,hz1,hz2⟩ := info_parts infoRune
 go_enter Tryz.func69,Tryz.ntmps69
 go_wp2_with fail
 go_loopw [4,5] (fun v at' wr => ∃ (pos : Nat) (acc : List Nat),at' = .int .i64 pos ∧ pos ≤ s.size ∧ acc.length ≤ pos ∧ Hid (Gone s.data.toList pos acc) ∧ wr.ownsRow w.heap.size 21 1 v acc.length (runeCells acc) ∧ Below w.heap.size w wr)
  (fun _ at' _ => s.size - (intOf at').toNat)
 case atStart => exact ⟨0,[],rfl,by omega,by simp,Gone.start _,World.ownsRow_nil _ _ _ _,Below.refl _ _⟩
 case round =>
  obtain ⟨pos,acc,rfl,hps,hap,H,hown,hbel⟩ := hrel
  by_cases hp : pos < s.size
  ·have HA : Hid (atL s pos = s.data.toList.drop pos) := by rw [atL_in s pos (by omega),Int.toNat_natCast]; rfl
   go_wp2_with fail;refine (rnext_any s _ _ (by omega)).mono ?_;rintro e w1 ⟨rfl,rfl⟩;rw [HA.out];generalize hx : nxL (s.data.toList.drop pos) = x
   cases x with
   | none =>
    have HR : Hid (runesOf s.data.toList = none) := H.out.bad (by rw [len_data]; exact hp) hx
    have H1 : Hid (validB s.data.toList = false) := by show _ = _; unfold validB; rw [HR.out]; rfl
    have H2 : Hid (countN s.data.toList = 0) := by show _ = _; unfold countN; rw [HR.out]; rfl
    have H3 : Hid ((runesOf s.data.toList).getD [] = []) := by show _ = _; rw [HR.out]; rfl
    simp only [nxV];clear hx;go_wp2_with fail
    go_ret2
    refine ⟨.slice none 0 0,?_,?_,hbel⟩
    ·rw [H1.out]; rfl
    ·rw [H2.out,H3.out]; exact World.ownsRow_nil _ _ _ _
   | some x =>
    obtain ⟨c,k⟩ := x;obtain ⟨g1,g2,g3⟩ := all_len hx (by rw [len_data]; omega);rw [len_data] at g1;have HG : Hid (Gone s.data.toList (pos + k) (acc ++ [c])) := H.out.step hx;clear hx;simp only [nxV];have hws := hbel.size
    go_wp2_with (first
     | (at_builtin; refine wpList_append_own _ rfl _ _ 120 rfl w.heap.size 21 i0 (.int .i32 0) 1 4 Tryz.underlying120 hi hz0 hz1 hz2 rfl (by decide) _ _ _ rfl (hown.alloc _) ⟨w1.heap.size,0,none⟩ 1 1 [.int .i32 (c : Int)] rfl rfl ?c1 ?c2 ?c3 ?c4 ?c5 ?_)
     | fail)
    case c1 =>
     intro j u hj
     match j,hj with
     | 0,hj => simp at hj; subst hj; simp [Addr.add]
    case c2 => intro u hu; simp at hu; subst hu; rfl
    case c3 => unfold maxLen; omega
    case c4 => omega
    case c5 => simp; omega
    intro v' w2 hown' hgrow _;have hb2 : Below w.heap.size w w2 := (hbel.alloc hws _).grown hgrow (by simp; omega) (fun k hk => (hown.lt k hk).1)
    have HO : Hid (w2.ownsRow w.heap.size 21 1 v' (acc ++ [c]).length (runeCells (acc ++ [c]))) := by
     have e1 : (acc ++ [c]).length = acc.length + 1 := by simp
     have e2 : runeCells (acc ++ [c]) = runeCells acc ++ [.int .i32 (c : Int)] := by simp [runeCells]
     show World.ownsRow _ _ _ _ _ _ _
     rw [e1,e2];exact hown'
    clear hown hown' hgrow;go_wp2_with fail
    go_roundw
    case rel => exact ⟨pos + k,acc ++ [c],by go_num,by omega,by simp; omega,HG,HO.out,hb2⟩
    case measure => simp [intOf]; omega
  ·have HR : Hid (runesOf s.data.toList = some acc) := H.out.done (by rw [len_data]; omega)
   have H1 : Hid (validB s.data.toList = true) := by show _ = _; unfold validB; rw [HR.out]; rfl
   have H2 : Hid (countN s.data.toList = acc.length) := by show _ = _; unfold countN; rw [HR.out]; rfl
   have H3 : Hid ((runesOf s.data.toList).getD [] = acc) := by show _ = _; rw [HR.out]; rfl
   have HO := owns_cast hown H2.out (congrArg runeCells H3.out);clear hown;go_wp2_with fail
   go_ret2
   exact ⟨_,by rw [H1.out]; rfl,HO,hbel⟩
theorem owns_form {w : World} {base e : Nat} {v : Value} {n : Nat} {xs : List Value} (h : w.ownsRow base e 1 v n xs) :
  ∃ a cap,v = .slice a n cap ∧ (0 < n → ∃ g,a = some ⟨g,0,none⟩ ∧ ∀ j,j < n → w.cell? ⟨g,j,none⟩ = xs[j]?) := by
 have h0 := h;obtain ⟨h1,h2⟩ := h
 rcases h2 with ⟨rfl,rfl⟩ | ⟨g,cap,cur,rfl,_⟩
 ·exact ⟨none,0,rfl,by omega⟩
 ·exact ⟨some ⟨g,0,none⟩,cap,rfl,fun _ => ⟨g,rfl,fun j hj => h0.cellAt j (by omega)⟩⟩
theorem rvalidB_any (s : ByteArray) (w : World) (hs : s.size ≤ 6000) :
  Calls Tryz.prog 118 #[.string s] w fun e w' => e = .returned (.bool (validB s.data.toList)) ∧ Below w.heap.size w w' := by
 go_enter Tryz.func118,Tryz.ntmps118
 go_wp2_with fail;refine (rall_any s _ (by omega)).mono ?_;rintro e w1 ⟨v,rfl,_,h1⟩;go_wp2_with fail;go_ret;exact ⟨rfl,h1⟩
end
section
open Go.ChangeShapes Go.WideShapes Go.ChangeAt Go.RowKit Go.Maps
theorem r7messageW_any {w0 w : World} {snm nm : ByteArray} {ae at' : Option Addr} {E ce T ct : Nat} {vm : Value} {ms : List MsS} (hw0 : Below w0.heap.size w0 w) (hr : MsIn w0 vm ms) :
  Calls Tryz.prog 33 #[.agg #[.string snm,vm,.slice ae E ce,.slice at' T ct],.string nm] w fun e w' => ∃ vf vr,e = .returned (.tuple #[.agg #[.string ((ms.find? (fun m => decide (m.name = nm))).getD zeroM).name,vf,vr],.bool (ms.find? (fun m => decide (m.name = nm))).isSome]) ∧ RowG w0 vf 5 (flRows ((ms.find? (fun m => decide (m.name = nm))).getD zeroM).fields) ∧ RowG w0 vr 1 (inRows ((ms.find? (fun m => decide (m.name = nm))).getD zeroM).reserved) ∧ Below w.heap.size w w' := by
 obtain ⟨a,c,rfl,q1,q2⟩ := hr.form2;have HR : Hid (MsIn w0 (.slice a ms.length c) ms) := hr;obtain ⟨N,hN⟩ : ∃ N,ms.length = N := ⟨_,rfl⟩;rw [hN] at HR q1 ⊢;have HN : Hid (ms.length = N) := hN;clear hN hr;obtain ⟨A,hA⟩ : ∃ A,(ms.find? (fun m => decide (m.name = nm))) = A := ⟨_,rfl⟩;rw [hA];have HA : Hid (A = ((ms.drop 0).find? (fun m => decide (m.name = nm)))) := hA.symm;clear hA;have BX0 : Blk ((w.alloc (.cells #[.string snm,.slice a N c,.slice ae E ce,.slice at' T ct] 26)).alloc (.cells #[.string ⟨#[]⟩,.slice none 0 0,.slice none 0 0] 50)) w.heap.size #[.string snm,.slice a N c,.slice ae E ce,.slice at' T ct] 26 := (Blk.new w _ _).below (bra _)
 have BR0 : Blk ((w.alloc (.cells #[.string snm,.slice a N c,.slice ae E ce,.slice at' T ct] 26)).alloc (.cells #[.string ⟨#[]⟩,.slice none 0 0,.slice none 0 0] 50)) (w.heap.size + 1) #[.string ⟨#[]⟩,.slice none 0 0,.slice none 0 0] 50 := by
  have := Blk.new (w.alloc (.cells #[.string snm,.slice a N c,.slice ae E ce,.slice at' T ct] 26)) #[.string ⟨#[]⟩,.slice none 0 0,.slice none 0 0] 50
  rwa [show (w.alloc (.cells #[.string snm,.slice a N c,.slice ae E ce,.slice at' T ct] 26)).heap.size = w.heap.size + 1 by simp] at this
 have hb0 : Below w.heap.size w ((w.alloc (.cells #[.string snm,.slice a N c,.slice ae E ce,.slice at' T ct] 26)).alloc (.cells #[.string ⟨#[]⟩,.slice none 0 0,.slice none 0 0] 50)) := (bra _).alloc (by simp) _
 go_enter Tryz.func33,Tryz.ntmps33
 go_wp2_with fail
 go_loopw [6] (fun iv wr => ∃ k : Nat,iv = .int .i64 (k : Int) ∧ k ≤ N ∧ Hid (A = ((ms.drop k).find? (fun m => decide (m.name = nm)))) ∧ Below w.heap.size w wr ∧ Blk wr (w.heap.size + 1) #[.string ⟨#[]⟩,.slice none 0 0,.slice none 0 0] 50 ∧ Blk wr w.heap.size #[.string snm,.slice a N c,.slice ae E ce,.slice at' T ct] 26) (fun iv _ => N - (intOf iv).toNat)
 case atStart => exact ⟨0,rfl,by omega,HA,hb0,BR0,BX0⟩
 case round =>
  obtain ⟨k,rfl,hk,HAk,hbel,BR,BX⟩ := hrel;clear BX0 BR0 hb0;have hlt2 : w.heap.size + 1 < wr.heap.size := BR.lt;have r0 := (BR.cell 0).trans rfl;have z0 := BR.froz 0;have r1 := (BR.cell 1).trans rfl;have z1 := BR.froz 1;have r2 := (BR.cell 2).trans rfl;have z2 := BR.froz 2;have x1 : wr.cell? ⟨w.heap.size,1,none⟩ = some (.slice a N c) := BX.cell 1
  by_cases hlt : k < N
  ·obtain ⟨f,hf⟩ : ∃ n,ms[k]? = some n := ⟨_,List.getElem?_eq_getElem (by rw [HN.out]; exact hlt)⟩;obtain ⟨g,off,vf,vr,rfl,c0',c1',c2',hrf,hrr⟩ := HR.out.get hf;have c0 := ((hw0.trans (hbel.mono hw0.size)).cell (World.block_lt_of_cell? _ _ c0')).trans c0';have c1 := ((hw0.trans (hbel.mono hw0.size)).cell (World.block_lt_of_cell? _ _ c1')).trans c1';have c2 := ((hw0.trans (hbel.mono hw0.size)).cell (World.block_lt_of_cell? _ _ c2')).trans c2';clear c0' c1' c2';have HF : Hid (RowG w0 vf 5 (flRows f.fields)) := hrf;have HV : Hid (RowG w0 vr 1 (inRows f.reserved)) := hrr;obtain ⟨a3,c3,rfl,_,_⟩ := hrf.form2;obtain ⟨a4,c4,rfl,_,_⟩ := hrr.form2;have HF : Hid (RowG w0 (.slice a3 (flRows f.fields).length c3) 5 (flRows f.fields)) := HF;have HV : Hid (RowG w0 (.slice a4 (inRows f.reserved).length c4) 1 (inRows f.reserved)) := HV
   have HA2 : Hid (A = if decide (f.name = nm) = true then some f else ((ms.drop (k + 1)).find? (fun m => decide (m.name = nm)))) := by
    show _ = _
    rw [HAk.out,drop_at hf,List.find?_cons]
    cases decide (f.name = nm) <;> rfl
   obtain ⟨f0,ff,fr⟩ := f;simp only at c0 c1 c2 HA2 HF HV;generalize hnF : (flRows ff).length = nF at *;generalize hnR : (inRows fr).length = nR at *;clear hrf hrr hf HAk hnF hnR
   by_cases he : f0 = nm
   ·subst he
    have HA3 : Hid (A = some ⟨f0,ff,fr⟩) := by show _ = _; rw [HA2.out,if_pos (by simp)]
    clear HA2;go_wp2_with fail;refine bodyPost_ret (results_two rfl _ _ _ ⟨w.heap.size + 1,0,none⟩ (.agg #[.string f0,.slice a3 nF c3,.slice a4 nR c4]) (by go_simp) (by go_simp)) rfl ?_;refine ⟨.slice a3 nF c3,.slice a4 nR c4,ret_two (by rw [HA3.out]; rfl) (by rw [HA3.out]; rfl),?_,?_,(Below.setCell (Below.setCell (Below.setCell hbel (by simp) _) (by simp) _) (by simp) _)⟩
    ·rw [HA3.out]; exact HF.out
    ·rw [HA3.out]; exact HV.out
   ·have hq := bytes_ne he
    have HA3 : Hid (A = ((ms.drop (k + 1)).find? (fun m => decide (m.name = nm)))) := by show _ = _; rw [HA2.out,if_neg (by simpa using he)]
    go_wp2_with fail
    go_roundw
    case rel => exact ⟨k + 1,by go_num,by omega,HA3,hbel,BR,BX⟩
    case measure => simp [intOf]; omega
  ·have HA2 : Hid (A = none) := by show _ = _; rw [HAk.out,drop_end (by rw [HN.out]; omega)]; rfl
   go_wp2_with fail;refine bodyPost_ret (results_two rfl _ _ _ ⟨w.heap.size + 1,0,none⟩ (.agg #[.string ⟨#[]⟩,.slice none 0 0,.slice none 0 0]) (by go_simp) (by go_simp)) rfl ?_;exact ⟨.slice none 0 0,.slice none 0 0,ret_two (by rw [HA2.out]; rfl) (by rw [HA2.out]; rfl),by rw [HA2.out]; exact RowG.nil _ _,by rw [HA2.out]; exact RowG.nil _ _,(Below.setCell (Below.setCell (Below.setCell hbel (by simp) _) (by simp) _) (by simp) _)⟩
end
section
open Go.ChangeShapes Go.WideShapes Go.ChangeAt Go.RowKit
theorem msgOf_name {s : ScS} {nm : ByteArray} {m : MsS} (h : msgOf s nm = some m) : m.name = nm := by simpa using List.find?_some h
theorem rvalue_step (s : ScS) (sn : ByteArray) (ma ea ta : Option Addr) (mn mc en ec tn tc : Nat) (d n : Nat) (hd : d + n = 10)
  (IH : d < 10 → ∀ (m : MsS) vf vr v ns w,msgOf s m.name = some m → RowG w vf 5 (flRows m.fields) → RowG w vr 1 (inRows m.reserved) → ByS w v ns → ns.length ≤ 6000 → ScIn w (.agg #[.string sn,.slice ma mn mc,.slice ea en ec,.slice ta tn tc]) s → Calls Tryz.prog 34 #[.agg #[.string sn,.slice ma mn mc,.slice ea en ec,.slice ta tn tc],.agg #[.string m.name,vf,vr],v,.int .i64 ((d : Int) + 1)] w (DtrP (n + 1) (decM n s m.name ns) w))
  (f : FlS) (r : Fd) (w : World) (hs : ScIn w (.agg #[.string sn,.slice ma mn mc,.slice ea en ec,.slice ta tn tc]) s) (h64 : Is64 r.n) (hsz : r.b.size ≤ 6000) (hw : r.wire = 0 ∨ r.wire = 1) (hk : 1 ≤ f.kind ∧ f.kind ≤ 7) (hm : f.kind = 7 → (msgOf s f.tname).isSome = true) :
  Calls Tryz.prog 64 #[.agg #[.string sn,.slice ma mn mc,.slice ea en ec,.slice ta tn tc],.agg #[.string f.name,.int .i64 f.tag,.int .i64 f.label,.int .i64 f.kind,.string f.tname],.agg #[.int .i64 r.tag,.int .i64 r.wire,.int .i64 r.n,.string r.b],.int .i64 (d : Int)] w (DtrP (n + 1) (treeD (decM n s) f r) w) := by
 obtain ⟨fn,ft,fl,k,tnm⟩ := f;obtain ⟨rt,rw,rn,rb⟩ := r;obtain ⟨R,hR⟩ : ∃ R,treeD (decM n s) ⟨fn,ft,fl,k,tnm⟩ ⟨rt,rw,rn,rb⟩ = R := ⟨_,rfl⟩
 have HV : Hid ((if rw ≠ wirK k then (tr0,8) else if (k = 3 ∨ k = 6) ∧ nmrB k rn = false then (tr0,11) else if k = 4 ∧ validB rb.data.toList = false then (tr0,9) else if k = 7 then decM n s tnm (bytesN rb) else (leafD ⟨rt,rw,rn,rb⟩,0)) = R) := hid (by
  have := hR; simp only [treeD] at this; exact this)
 rw [hR];clear hR;simp only at hs h64 hsz hw hk hm ⊢;have HS : Hid (ScIn w (.agg #[.string sn,.slice ma mn mc,.slice ea en ec,.slice ta tn tc]) s) := hs;have HI : Hid (d < 10 → ∀ (m : MsS) vf vr v ns w,msgOf s m.name = some m → RowG w vf 5 (flRows m.fields) → RowG w vr 1 (inRows m.reserved) → ByS w v ns → ns.length ≤ 6000 → ScIn w (.agg #[.string sn,.slice ma mn mc,.slice ea en ec,.slice ta tn tc]) s → Calls Tryz.prog 34 #[.agg #[.string sn,.slice ma mn mc,.slice ea en ec,.slice ta tn tc],.agg #[.string m.name,vf,vr],v,.int .i64 ((d : Int) + 1)] w (DtrP (n + 1) (decM n s m.name ns) w)) := IH
 have hd10 : d ≤ 10 := by omega
 have HD : Hid (d + n = 10) := hd;have HSZ : Hid (rb.size ≤ 6000) := hsz;have H64 : Hid (Is64 rn) := h64;have HW : Hid (rw = 0 ∨ rw = 1) := hw;have HK : Hid (1 ≤ k ∧ k ≤ 7) := hk;have HM : Hid (k = 7 → (msgOf s tnm).isSome = true) := hm;clear hs IH h64 hsz hw hk hm hd;obtain ⟨BS,BF,BR,BT,hbw⟩ := dblk4 w #[.string sn,.slice ma mn mc,.slice ea en ec,.slice ta tn tc] #[.string fn,.int .i64 ft,.int .i64 fl,.int .i64 k,.string tnm] #[.int .i64 rt,.int .i64 rw,.int .i64 rn,.string rb] #[.int .i64 0,.int .i64 0,.string ⟨#[]⟩,.slice none 0 0,.slice none 0 0] 26 58 61 33;obtain ⟨K,hK⟩ : ∃ z,kindT k = z := ⟨_,rfl⟩;have HKK : Hid (kindT k = K) := hK
 have HKC : Hid (∀ W,Calls Tryz.prog 116 #[.agg #[.int .i64 k,.string tnm]] W fun e w' => e = .returned (.int .i64 K) ∧ Below W.heap.size W w') := fun W => by
  have h1 := rkind_any k tnm W HK.out;rw [hK] at h1;exact h1
 clear hK
 go_enter Tryz.func64,Tryz.ntmps64
 go_wp2_with fail;obtain ⟨b0,hb0⟩ : ∃ z,w.heap.size = z := ⟨_,rfl⟩;have HBZ : Hid (w.heap.size = b0) := hb0;generalize ((((w.alloc (Obj.cells #[.string sn,.slice ma mn mc,.slice ea en ec,.slice ta tn tc] 26)).alloc (Obj.cells #[.string fn,.int .i64 ft,.int .i64 fl,.int .i64 k,.string tnm] 58)).alloc (Obj.cells #[.int .i64 rt,.int .i64 rw,.int .i64 rn,.string rb] 61)).alloc (Obj.cells #[.int .i64 0,.int .i64 0,.string ⟨#[]⟩,.slice none 0 0,.slice none 0 0] 33)) = WA at *;rw [hb0] at BS BF BR BT
 try simp only [hb0]
 clear hb0;have HBT : Hid (Blk WA (b0 + 3) #[.int .i64 0,.int .i64 0,.string ⟨#[]⟩,.slice none 0 0,.slice none 0 0] 33) := BT
 have FIN : Hid (∀ (W : World) (x0 x1 x2 x3 x4 : Value) (bs : List Nat) (y : Int),Below WA.heap.size WA W → TrO (n + 1) w.heap.size W [x0,x1,x2,x3,x4] R.1 bs → Apt w.heap.size W bs → b0 + 3 ∉ bs → R.2 = y → DtrP (n + 1) R w (.returned (.tuple #[.agg #[x0,x1,x2,x3,x4],.int .i64 y])) (set5 W (b0 + 3) 0 x0 x1 x2 x3 x4)) := fun W x0 x1 x2 x3 x4 bs y hW h1 h2 h3 h4 =>
  DtrP.done (hbw.trans (hW.mono hbw.size)) (by have := HBZ.out; omega) h1 h2 h3 h4
 have ZFIN : Hid (∀ (W : World) (y : Int),Below WA.heap.size WA W → R = (tr0,y) → DtrP (n + 1) R w (.returned (.tuple #[.agg #[.int .i64 0,.int .i64 0,.string ⟨#[]⟩,.slice none 0 0,.slice none 0 0],.int .i64 y])) (set5 W (b0 + 3) 0 (.int .i64 0) (.int .i64 0) (.string ⟨#[]⟩) (.slice none 0 0) (.slice none 0 0))) := fun W y hW hR =>
  FIN.out W _ _ _ _ _ [] y hW (by rw [hR]; exact TrO.zeroO n _ W) (Apt.nil _ _) (by simp) (by rw [hR])
 refine (HKC.out _).mono ?_;rintro e W1 ⟨rfl,hW1⟩;clear HKC;have BS1 := BS.below hW1;obtain ⟨s0,s1,s2,s3⟩ := cl4 BS1;clear BS1;have BF1 := BF.below hW1;obtain ⟨f0,f1,f2,f3,f4⟩ := cl5 BF1;clear BF1;have BR1 := BR.below hW1;obtain ⟨q0,q1,q2,q3⟩ := cl4 BR1;clear BR1;have BT1 := BT.below hW1;obtain ⟨t0,t1,t2,t3,t4⟩ := cl5 BT1;obtain ⟨z0,z1,z2,z3,z4⟩ := fz5 BT1;clear BT1
 have hkc : k = 1 ∨ k = 2 ∨ k = 3 ∨ k = 4 ∨ k = 5 ∨ k = 6 ∨ k = 7 := by have := HK.out; omega
 rcases hkc with rfl | rfl | rfl | rfl | rfl | rfl | rfl
 ·obtain rfl : K = 1 := HKK.out.symm.trans (by decide)
  rcases HW.out with rfl | rfl
  ·have HX : Hid (R = (⟨1,rn,⟨#[]⟩,[],[]⟩,0)) := hid (by rw [← HV.out,if_neg (by decide),if_neg (by simp),if_neg (by simp),if_neg (by decide)]; rfl);go_wp2_with fail;refine bodyPost_ret (results_two rfl _ _ _ ⟨b0 + 3,0,none⟩ (.agg #[.int .i64 1,.int .i64 rn,.string ⟨#[]⟩,.slice none 0 0,.slice none 0 0]) (by go_simp) (by go_simp)) rfl ?_;exact FIN.out W1 _ _ _ _ _ [] _ hW1 (by rw [HX.out]; exact TrO.leafO n _ _ ⟨1,rn,⟨#[]⟩,[],[]⟩ rfl rfl is64_1 H64.out (show (0 : Nat) ≤ 140737488351232 by omega)) (Apt.nil _ _) (by simp) (by rw [HX.out])
  ·have HX : Hid (R = (tr0,8)) := hid (by rw [← HV.out,if_pos (by decide)]);go_wp2_with fail;refine bodyPost_ret (results_two rfl _ _ _ ⟨b0 + 3,0,none⟩ (.agg #[.int .i64 0,.int .i64 0,.string ⟨#[]⟩,.slice none 0 0,.slice none 0 0]) (by go_simp) (by go_simp)) rfl ?_;exact ZFIN.out W1 _ hW1 HX.out
 ·obtain rfl : K = 1 := HKK.out.symm.trans (by decide)
  rcases HW.out with rfl | rfl
  ·have HX : Hid (R = (⟨1,rn,⟨#[]⟩,[],[]⟩,0)) := hid (by rw [← HV.out,if_neg (by decide),if_neg (by simp),if_neg (by simp),if_neg (by decide)]; rfl)
   have hR : nmrB 2 rn = true := by simp [nmrB]
   have HN : Hid (Calls Tryz.prog 117 #[.agg #[.int .i64 2,.string tnm],.int .i64 rn] W1 fun e w' => e = .returned (.bool true) ∧ Below W1.heap.size W1 w') := (by have h1 := rnumber_any 2 rn tnm W1; rw [hR] at h1; exact h1 : Calls Tryz.prog _ _ W1 _);clear hR;go_wp2_with fail;refine HN.out.mono ?_;rintro e W2 ⟨rfl,hb2⟩;have hW2 : Below WA.heap.size WA W2 := hW1.trans (hb2.mono hW1.size);clear HN hb2;clear s0 s1 s2 s3 f0 f1 f2 f3 f4 q0 q1 q2 q3 t0 t1 t2 t3 t4 z0 z1 z2 z3 z4;have BR2 := BR.below hW2;obtain ⟨q0,q1,q2,q3⟩ := cl4 BR2;clear BR2;have BF2 := BF.below hW2;obtain ⟨f0,f1,f2,f3,f4⟩ := cl5 BF2;clear BF2;have BT2 := BT.below hW2;obtain ⟨t0,t1,t2,t3,t4⟩ := cl5 BT2;obtain ⟨z0,z1,z2,z3,z4⟩ := fz5 BT2;clear BT2;go_wp2_with fail;refine bodyPost_ret (results_two rfl _ _ _ ⟨b0 + 3,0,none⟩ (.agg #[.int .i64 1,.int .i64 rn,.string ⟨#[]⟩,.slice none 0 0,.slice none 0 0]) (by go_simp) (by go_simp)) rfl ?_;exact FIN.out W2 _ _ _ _ _ [] _ hW2 (by rw [HX.out]; exact TrO.leafO n _ _ ⟨1,rn,⟨#[]⟩,[],[]⟩ rfl rfl is64_1 H64.out (show (0 : Nat) ≤ 140737488351232 by omega)) (Apt.nil _ _) (by simp) (by rw [HX.out])
  ·have HX : Hid (R = (tr0,8)) := hid (by rw [← HV.out,if_pos (by decide)]);go_wp2_with fail;refine bodyPost_ret (results_two rfl _ _ _ ⟨b0 + 3,0,none⟩ (.agg #[.int .i64 0,.int .i64 0,.string ⟨#[]⟩,.slice none 0 0,.slice none 0 0]) (by go_simp) (by go_simp)) rfl ?_;exact ZFIN.out W1 _ hW1 HX.out
 ·obtain rfl : K = 1 := HKK.out.symm.trans (by decide)
  rcases HW.out with rfl | rfl
  ·cases hR : nmrB 3 rn with
   | false =>
    have HX : Hid (R = (tr0,11)) := hid (by rw [← HV.out,if_neg (by decide),if_pos ⟨by decide,hR⟩]);have HN : Hid (Calls Tryz.prog 117 #[.agg #[.int .i64 3,.string tnm],.int .i64 rn] W1 fun e w' => e = .returned (.bool false) ∧ Below W1.heap.size W1 w') := (by have h1 := rnumber_any 3 rn tnm W1; rw [hR] at h1; exact h1 : Calls Tryz.prog _ _ W1 _);clear hR;go_wp2_with fail;refine HN.out.mono ?_;rintro e W2 ⟨rfl,hb2⟩;have hW2 : Below WA.heap.size WA W2 := hW1.trans (hb2.mono hW1.size);clear HN hb2;clear s0 s1 s2 s3 f0 f1 f2 f3 f4 q0 q1 q2 q3 t0 t1 t2 t3 t4 z0 z1 z2 z3 z4;have BR2 := BR.below hW2;obtain ⟨q0,q1,q2,q3⟩ := cl4 BR2;clear BR2;have BF2 := BF.below hW2;obtain ⟨f0,f1,f2,f3,f4⟩ := cl5 BF2;clear BF2;have BT2 := BT.below hW2;obtain ⟨t0,t1,t2,t3,t4⟩ := cl5 BT2;obtain ⟨z0,z1,z2,z3,z4⟩ := fz5 BT2;clear BT2;go_wp2_with fail;refine bodyPost_ret (results_two rfl _ _ _ ⟨b0 + 3,0,none⟩ (.agg #[.int .i64 0,.int .i64 0,.string ⟨#[]⟩,.slice none 0 0,.slice none 0 0]) (by go_simp) (by go_simp)) rfl ?_;exact ZFIN.out W2 _ hW2 HX.out
   | true =>
    have HX : Hid (R = (⟨1,rn,⟨#[]⟩,[],[]⟩,0)) := hid (by rw [← HV.out,if_neg (by decide),if_neg (by rw [hR]; simp),if_neg (by simp),if_neg (by decide)]; rfl);have HN : Hid (Calls Tryz.prog 117 #[.agg #[.int .i64 3,.string tnm],.int .i64 rn] W1 fun e w' => e = .returned (.bool true) ∧ Below W1.heap.size W1 w') := (by have h1 := rnumber_any 3 rn tnm W1; rw [hR] at h1; exact h1 : Calls Tryz.prog _ _ W1 _);clear hR;go_wp2_with fail;refine HN.out.mono ?_;rintro e W2 ⟨rfl,hb2⟩;have hW2 : Below WA.heap.size WA W2 := hW1.trans (hb2.mono hW1.size);clear HN hb2;clear s0 s1 s2 s3 f0 f1 f2 f3 f4 q0 q1 q2 q3 t0 t1 t2 t3 t4 z0 z1 z2 z3 z4;have BR2 := BR.below hW2;obtain ⟨q0,q1,q2,q3⟩ := cl4 BR2;clear BR2;have BF2 := BF.below hW2;obtain ⟨f0,f1,f2,f3,f4⟩ := cl5 BF2;clear BF2;have BT2 := BT.below hW2;obtain ⟨t0,t1,t2,t3,t4⟩ := cl5 BT2;obtain ⟨z0,z1,z2,z3,z4⟩ := fz5 BT2;clear BT2;go_wp2_with fail;refine bodyPost_ret (results_two rfl _ _ _ ⟨b0 + 3,0,none⟩ (.agg #[.int .i64 1,.int .i64 rn,.string ⟨#[]⟩,.slice none 0 0,.slice none 0 0]) (by go_simp) (by go_simp)) rfl ?_;exact FIN.out W2 _ _ _ _ _ [] _ hW2 (by rw [HX.out]; exact TrO.leafO n _ _ ⟨1,rn,⟨#[]⟩,[],[]⟩ rfl rfl is64_1 H64.out (show (0 : Nat) ≤ 140737488351232 by omega)) (Apt.nil _ _) (by simp) (by rw [HX.out])
  ·have HX : Hid (R = (tr0,8)) := hid (by rw [← HV.out,if_pos (by decide)]);go_wp2_with fail;refine bodyPost_ret (results_two rfl _ _ _ ⟨b0 + 3,0,none⟩ (.agg #[.int .i64 0,.int .i64 0,.string ⟨#[]⟩,.slice none 0 0,.slice none 0 0]) (by go_simp) (by go_simp)) rfl ?_;exact ZFIN.out W1 _ hW1 HX.out
 ·obtain rfl : K = 2 := HKK.out.symm.trans (by decide)
  rcases HW.out with rfl | rfl
  ·have HX : Hid (R = (tr0,8)) := hid (by rw [← HV.out,if_pos (by decide)]);go_wp2_with fail;refine bodyPost_ret (results_two rfl _ _ _ ⟨b0 + 3,0,none⟩ (.agg #[.int .i64 0,.int .i64 0,.string ⟨#[]⟩,.slice none 0 0,.slice none 0 0]) (by go_simp) (by go_simp)) rfl ?_;exact ZFIN.out W1 _ hW1 HX.out
  ·cases hR : validB rb.data.toList with
   | false =>
    have HX : Hid (R = (tr0,9)) := hid (by rw [← HV.out,if_neg (by decide),if_neg (by simp),if_pos ⟨rfl,hR⟩]);have HN : Hid (Calls Tryz.prog 118 #[.string rb] W1 fun e w' => e = .returned (.bool false) ∧ Below W1.heap.size W1 w') := (by have h1 := rvalidB_any rb W1 HSZ.out; rw [hR] at h1; exact h1 : Calls Tryz.prog _ _ W1 _);clear hR;go_wp2_with fail;refine HN.out.mono ?_;rintro e W2 ⟨rfl,hb2⟩;have hW2 : Below WA.heap.size WA W2 := hW1.trans (hb2.mono hW1.size);clear HN hb2;clear s0 s1 s2 s3 f0 f1 f2 f3 f4 q0 q1 q2 q3 t0 t1 t2 t3 t4 z0 z1 z2 z3 z4;have BR2 := BR.below hW2;obtain ⟨q0,q1,q2,q3⟩ := cl4 BR2;clear BR2;have BF2 := BF.below hW2;obtain ⟨f0,f1,f2,f3,f4⟩ := cl5 BF2;clear BF2;have BT2 := BT.below hW2;obtain ⟨t0,t1,t2,t3,t4⟩ := cl5 BT2;obtain ⟨z0,z1,z2,z3,z4⟩ := fz5 BT2;clear BT2;go_wp2_with fail;refine bodyPost_ret (results_two rfl _ _ _ ⟨b0 + 3,0,none⟩ (.agg #[.int .i64 0,.int .i64 0,.string ⟨#[]⟩,.slice none 0 0,.slice none 0 0]) (by go_simp) (by go_simp)) rfl ?_;exact ZFIN.out W2 _ hW2 HX.out
   | true =>
    have HX : Hid (R = (⟨2,0,rb,[],[]⟩,0)) := hid (by rw [← HV.out,if_neg (by decide),if_neg (by simp),if_neg (by rw [hR]; simp),if_neg (by decide)]; rfl);have HN : Hid (Calls Tryz.prog 118 #[.string rb] W1 fun e w' => e = .returned (.bool true) ∧ Below W1.heap.size W1 w') := (by have h1 := rvalidB_any rb W1 HSZ.out; rw [hR] at h1; exact h1 : Calls Tryz.prog _ _ W1 _);clear hR;go_wp2_with fail;refine HN.out.mono ?_;rintro e W2 ⟨rfl,hb2⟩;have hW2 : Below WA.heap.size WA W2 := hW1.trans (hb2.mono hW1.size);clear HN hb2;clear s0 s1 s2 s3 f0 f1 f2 f3 f4 q0 q1 q2 q3 t0 t1 t2 t3 t4 z0 z1 z2 z3 z4;have BR2 := BR.below hW2;obtain ⟨q0,q1,q2,q3⟩ := cl4 BR2;clear BR2;have BF2 := BF.below hW2;obtain ⟨f0,f1,f2,f3,f4⟩ := cl5 BF2;clear BF2;have BT2 := BT.below hW2;obtain ⟨t0,t1,t2,t3,t4⟩ := cl5 BT2;obtain ⟨z0,z1,z2,z3,z4⟩ := fz5 BT2;clear BT2;go_wp2_with fail;refine bodyPost_ret (results_two rfl _ _ _ ⟨b0 + 3,0,none⟩ (.agg #[.int .i64 2,.int .i64 0,.string rb,.slice none 0 0,.slice none 0 0]) (by go_simp) (by go_simp)) rfl ?_;exact FIN.out W2 _ _ _ _ _ [] _ hW2 (by rw [HX.out]; exact TrO.leafO n _ _ ⟨2,0,rb,[],[]⟩ rfl rfl is64_2 is64_0 (Nat.le_trans HSZ.out (by omega))) (Apt.nil _ _) (by simp) (by rw [HX.out])
 ·obtain rfl : K = 2 := HKK.out.symm.trans (by decide)
  rcases HW.out with rfl | rfl
  ·have HX : Hid (R = (tr0,8)) := hid (by rw [← HV.out,if_pos (by decide)]);go_wp2_with fail;refine bodyPost_ret (results_two rfl _ _ _ ⟨b0 + 3,0,none⟩ (.agg #[.int .i64 0,.int .i64 0,.string ⟨#[]⟩,.slice none 0 0,.slice none 0 0]) (by go_simp) (by go_simp)) rfl ?_;exact ZFIN.out W1 _ hW1 HX.out
  ·have HX : Hid (R = (⟨2,0,rb,[],[]⟩,0)) := hid (by rw [← HV.out,if_neg (by decide),if_neg (by simp),if_neg (by simp),if_neg (by decide)]; rfl);go_wp2_with fail;refine bodyPost_ret (results_two rfl _ _ _ ⟨b0 + 3,0,none⟩ (.agg #[.int .i64 2,.int .i64 0,.string rb,.slice none 0 0,.slice none 0 0]) (by go_simp) (by go_simp)) rfl ?_;exact FIN.out W1 _ _ _ _ _ [] _ hW1 (by rw [HX.out]; exact TrO.leafO n _ _ ⟨2,0,rb,[],[]⟩ rfl rfl is64_2 is64_0 (Nat.le_trans HSZ.out (by omega))) (Apt.nil _ _) (by simp) (by rw [HX.out])
 ·obtain rfl : K = 1 := HKK.out.symm.trans (by decide)
  rcases HW.out with rfl | rfl
  ·cases hR : nmrB 6 rn with
   | false =>
    have HX : Hid (R = (tr0,11)) := hid (by rw [← HV.out,if_neg (by decide),if_pos ⟨by decide,hR⟩]);have HN : Hid (Calls Tryz.prog 117 #[.agg #[.int .i64 6,.string tnm],.int .i64 rn] W1 fun e w' => e = .returned (.bool false) ∧ Below W1.heap.size W1 w') := (by have h1 := rnumber_any 6 rn tnm W1; rw [hR] at h1; exact h1 : Calls Tryz.prog _ _ W1 _);clear hR;go_wp2_with fail;refine HN.out.mono ?_;rintro e W2 ⟨rfl,hb2⟩;have hW2 : Below WA.heap.size WA W2 := hW1.trans (hb2.mono hW1.size);clear HN hb2;clear s0 s1 s2 s3 f0 f1 f2 f3 f4 q0 q1 q2 q3 t0 t1 t2 t3 t4 z0 z1 z2 z3 z4;have BR2 := BR.below hW2;obtain ⟨q0,q1,q2,q3⟩ := cl4 BR2;clear BR2;have BF2 := BF.below hW2;obtain ⟨f0,f1,f2,f3,f4⟩ := cl5 BF2;clear BF2;have BT2 := BT.below hW2;obtain ⟨t0,t1,t2,t3,t4⟩ := cl5 BT2;obtain ⟨z0,z1,z2,z3,z4⟩ := fz5 BT2;clear BT2;go_wp2_with fail;refine bodyPost_ret (results_two rfl _ _ _ ⟨b0 + 3,0,none⟩ (.agg #[.int .i64 0,.int .i64 0,.string ⟨#[]⟩,.slice none 0 0,.slice none 0 0]) (by go_simp) (by go_simp)) rfl ?_;exact ZFIN.out W2 _ hW2 HX.out
   | true =>
    have HX : Hid (R = (⟨1,rn,⟨#[]⟩,[],[]⟩,0)) := hid (by rw [← HV.out,if_neg (by decide),if_neg (by rw [hR]; simp),if_neg (by simp),if_neg (by decide)]; rfl);have HN : Hid (Calls Tryz.prog 117 #[.agg #[.int .i64 6,.string tnm],.int .i64 rn] W1 fun e w' => e = .returned (.bool true) ∧ Below W1.heap.size W1 w') := (by have h1 := rnumber_any 6 rn tnm W1; rw [hR] at h1; exact h1 : Calls Tryz.prog _ _ W1 _);clear hR;go_wp2_with fail;refine HN.out.mono ?_;rintro e W2 ⟨rfl,hb2⟩;have hW2 : Below WA.heap.size WA W2 := hW1.trans (hb2.mono hW1.size);clear HN hb2;clear s0 s1 s2 s3 f0 f1 f2 f3 f4 q0 q1 q2 q3 t0 t1 t2 t3 t4 z0 z1 z2 z3 z4;have BR2 := BR.below hW2;obtain ⟨q0,q1,q2,q3⟩ := cl4 BR2;clear BR2;have BF2 := BF.below hW2;obtain ⟨f0,f1,f2,f3,f4⟩ := cl5 BF2;clear BF2;have BT2 := BT.below hW2;obtain ⟨t0,t1,t2,t3,t4⟩ := cl5 BT2;obtain ⟨z0,z1,z2,z3,z4⟩ := fz5 BT2;clear BT2;go_wp2_with fail;refine bodyPost_ret (results_two rfl _ _ _ ⟨b0 + 3,0,none⟩ (.agg #[.int .i64 1,.int .i64 rn,.string ⟨#[]⟩,.slice none 0 0,.slice none 0 0]) (by go_simp) (by go_simp)) rfl ?_;exact FIN.out W2 _ _ _ _ _ [] _ hW2 (by rw [HX.out]; exact TrO.leafO n _ _ ⟨1,rn,⟨#[]⟩,[],[]⟩ rfl rfl is64_1 H64.out (show (0 : Nat) ≤ 140737488351232 by omega)) (Apt.nil _ _) (by simp) (by rw [HX.out])
  ·have HX : Hid (R = (tr0,8)) := hid (by rw [← HV.out,if_pos (by decide)]);go_wp2_with fail;refine bodyPost_ret (results_two rfl _ _ _ ⟨b0 + 3,0,none⟩ (.agg #[.int .i64 0,.int .i64 0,.string ⟨#[]⟩,.slice none 0 0,.slice none 0 0]) (by go_simp) (by go_simp)) rfl ?_;exact ZFIN.out W1 _ hW1 HX.out
 ·obtain rfl : K = 3 := HKK.out.symm.trans (by decide)
  rcases HW.out with rfl | rfl
  ·have HX : Hid (R = (tr0,8)) := hid (by rw [← HV.out,if_pos (by decide)]);go_wp2_with fail;refine bodyPost_ret (results_two rfl _ _ _ ⟨b0 + 3,0,none⟩ (.agg #[.int .i64 0,.int .i64 0,.string ⟨#[]⟩,.slice none 0 0,.slice none 0 0]) (by go_simp) (by go_simp)) rfl ?_;exact ZFIN.out W1 _ hW1 HX.out
  ·have HX : Hid (R = decM n s tnm (bytesN rb)) := hid (by rw [← HV.out,if_neg (by decide),if_neg (by simp),if_neg (by simp),if_pos rfl])
   by_cases hdd : d = 10
   ·subst hdd
    have HX2 : Hid (R = (tr0,10)) := hid (by
     have h1 : n = 0 := by have := HD.out; omega
     rw [HX.out,h1]; rfl)
    clear HX;go_wp2_with fail;refine bodyPost_ret (results_two rfl _ _ _ ⟨b0 + 3,0,none⟩ (.agg #[.int .i64 0,.int .i64 0,.string ⟨#[]⟩,.slice none 0 0,.slice none 0 0]) (by go_simp) (by go_simp)) rfl ?_;exact ZFIN.out W1 _ hW1 HX2.out
   have hdl : d < 10 := by omega
   have dge : ((d : Int) ≥ 10) = False := by simp; omega
   have dgd : decide ((10 : Int) ≤ (d : Int)) = false := by simp; omega
   obtain ⟨m,hmm⟩ := Option.isSome_iff_exists.1 (HM.out rfl);have hnm : m.name = tnm := msgOf_name hmm;have hw1 : Below w.heap.size w W1 := hbw.trans (hW1.mono hbw.size)
   have HMC : Hid (Calls Tryz.prog 33 #[.agg #[.string sn,.slice ma mn mc,.slice ea en ec,.slice ta tn tc],.string tnm] W1 fun e w' => ∃ vf vr,e = .returned (.tuple #[.agg #[.string m.name,vf,vr],.bool true]) ∧ RowG w vf 5 (flRows m.fields) ∧ RowG w vr 1 (inRows m.reserved) ∧ Below W1.heap.size W1 w') := (by
    obtain ⟨vm,ve,vt,e1,e2, -⟩ := HS.out;simp only [Value.agg.injEq,Array.mk.injEq,List.cons.injEq,Value.string.injEq,and_true,true_and] at e1;obtain ⟨-,rfl, -, -⟩ := e1;have h1 := r7messageW_any (snm := sn) (nm := tnm) (ae := ea) (at' := ta) (E := en) (ce := ec) (T := tn) (ct := tc) hw1 e2;have h2 : (s.msgs.find? fun m => decide (m.name = tnm)) = some m := hmm;rw [h2] at h1
    exact h1 : Calls Tryz.prog _ _ W1 _)
   have HMM : Hid (msgOf s m.name = some m) := hid (by rw [hnm]; exact hmm);have HNM : Hid (m.name = tnm) := hnm;clear hmm hnm hdd;go_wp2_with fail;refine HMC.out.mono ?_;rintro e W2 ⟨vf,vr,rfl,hvf,hvr,hb2⟩;have hW2 : Below WA.heap.size WA W2 := hW1.trans (hb2.mono hW1.size);clear HMC;obtain ⟨fa,fc,hvf0,u1,u2, -⟩ := hvf.open;obtain ⟨ra,rc,hvr0,u3,u4, -⟩ := hvr.open;have hw2 : Below w.heap.size w W2 := hbw.trans (hW2.mono hbw.size);have HVF : Hid (RowG W2 vf 5 (flRows m.fields)) := hvf.below hw2;have HVR : Hid (RowG W2 vr 1 (inRows m.reserved)) := hvr.below hw2;obtain ⟨FN,hFN⟩ : ∃ z,(flRows m.fields).length = z := ⟨_,rfl⟩;obtain ⟨RN,hRN⟩ : ∃ z,(inRows m.reserved).length = z := ⟨_,rfl⟩;rw [hFN] at hvf0;rw [hRN] at hvr0;subst hvf0;subst hvr0;clear hFN hRN u1 u2 u3 u4 hvf hvr hb2 hw1;clear s0 s1 s2 s3 f0 f1 f2 f3 f4 q0 q1 q2 q3 t0 t1 t2 t3 t4 z0 z1 z2 z3 z4;have BS2 := BS.below hW2;obtain ⟨s0,s1,s2,s3⟩ := cl4 BS2;clear BS2;have BF2 := BF.below hW2;obtain ⟨f0,f1,f2,f3,f4⟩ := cl5 BF2;clear BF2;have BR2 := BR.below hW2;obtain ⟨q0,q1,q2,q3⟩ := cl4 BR2;clear BR2;have BT2 := BT.below hW2;obtain ⟨t0,t1,t2,t3,t4⟩ := cl5 BT2;obtain ⟨z0,z1,z2,z3,z4⟩ := fz5 BT2;clear BT2;have hW3 : Below WA.heap.size WA (W2.alloc (Obj.cells #[.string m.name,.slice fa FN fc,.slice ra RN rc] 50)) := hW2.trans ((bra _).mono hW2.size);have h23 : Below W2.heap.size W2 (W2.alloc (Obj.cells #[.string m.name,.slice fa FN fc,.slice ra RN rc] 50)) := (Below.refl _ W2).alloc (Nat.le_refl _) _;have BM := Blk.new W2 #[.string m.name,.slice fa FN fc,.slice ra RN rc] 50;obtain ⟨W3,hzz⟩ : ∃ z,W2.alloc (Obj.cells #[.string m.name,.slice fa FN fc,.slice ra RN rc] 50) = z := ⟨_,rfl⟩;rw [hzz] at hW3 h23 BM;obtain ⟨m0,m1,m2⟩ := cl3 BM;clear BM;clear s0 s1 s2 s3 f0 f1 f2 f3 f4 q0 q1 q2 q3 t0 t1 t2 t3 t4 z0 z1 z2 z3 z4;have BS3 := BS.below hW3;obtain ⟨s0,s1,s2,s3⟩ := cl4 BS3;clear BS3;have BR3 := BR.below hW3;obtain ⟨q0,q1,q2,q3⟩ := cl4 BR3;clear BR3;have BT3 := BT.below hW3;obtain ⟨t0,t1,t2,t3,t4⟩ := cl5 BT3;obtain ⟨z0,z1,z2,z3,z4⟩ := fz5 BT3;clear BT3;obtain ⟨cap,WB,hcv,hby,hbB⟩ := conv_bytes W3 rb (Nat.le_trans HSZ.out (by omega));have hWB : Below WA.heap.size WA WB := hW3.trans (hbB.mono hW3.size);have hwB : Below w.heap.size w WB := hbw.trans (hWB.mono hbw.size);have h2B : Below W2.heap.size W2 WB := h23.trans (hbB.mono h23.size)
   have HN : Hid (Calls Tryz.prog 34 #[.agg #[.string sn,.slice ma mn mc,.slice ea en ec,.slice ta tn tc],.agg #[.string m.name,.slice fa FN fc,.slice ra RN rc],.slice (some ⟨W3.heap.size,0,none⟩) rb.size cap,.int .i64 ((d : Int) + 1)] WB (DtrP (n + 1) R WB)) := (by
    have h1 := HI.out hdl m _ _ _ _ WB HMM.out (HVF.out.below h2B) (HVR.out.below h2B) hby (by rw [bytesN_len]; exact HSZ.out) (HS.out.below hwB);rw [HNM.out,← HX.out] at h1;rw [HNM.out]
    exact h1 : Calls Tryz.prog _ _ WB _)
   have hwr : IntKind.i64.wrap ((d : Int) + 1) = (d : Int) + 1 := by rw [IntKind.wrap_i64]; omega
   clear hby hbB hwB h2B h23 HI HX HVF HVR HMM HNM;go_wp2_with fail;refine HN.out.mono ?_;rintro e W4 ⟨r',bs,rfl,ht,hap,hb2⟩;have hW4 : Below WA.heap.size WA W4 := hWB.trans (hb2.mono hWB.size);obtain ⟨a1,n1,c1,a2,n2,c2,rfl⟩ := ht.open;have hle : w.heap.size ≤ WB.heap.size := (hbw.trans (hWB.mono hbw.size)).size;have HTT : Hid (TrO (n + 1) w.heap.size W4 [.int .i64 R.1.kind,.int .i64 R.1.n,.string R.1.s,.slice a1 n1 c1,.slice a2 n2 c2] R.1 bs) := ht.base hle;have HAP : Hid (Apt w.heap.size W4 bs) := ⟨hap.1,fun k hk => ⟨Nat.le_trans hle (hap.2 k hk).1,(hap.2 k hk).2⟩⟩
   have HNB : Hid (b0 + 3 ∉ bs) := fun e => by have h1 := (hap.2 _ e).1; have h2 := hWB.size; have h3 := HBT.out.lt; omega
   clear HN hb2 hcv ht hap hle m0 m1 m2 hzz;clear s0 s1 s2 s3 q0 q1 q2 q3 t0 t1 t2 t3 t4 z0 z1 z2 z3 z4;have BT4 := BT.below hW4;obtain ⟨t0,t1,t2,t3,t4⟩ := cl5 BT4;obtain ⟨z0,z1,z2,z3,z4⟩ := fz5 BT4;clear BT4;obtain ⟨R1,R2⟩ := R;obtain ⟨K,N,S,E,Q⟩ := R1;go_wp2_with fail;refine bodyPost_ret (results_two rfl _ _ _ ⟨b0 + 3,0,none⟩ (.agg #[.int .i64 K,.int .i64 N,.string S,.slice a1 n1 c1,.slice a2 n2 c2]) (by go_simp) (by go_simp)) rfl ?_;exact FIN.out W4 _ _ _ _ _ bs _ hW4 HTT.out HAP.out HNB.out rfl
def nextV (x : Fd × Nat × Nat) : Value := .tuple #[x.1.val,.int .i64 (x.2.1 : Int),.int .i64 (x.2.2 : Int)]
theorem ret_next {x : Fd × Nat × Nat} {r : Fd} {q e : Nat} (hx : x = (r,q,e)) {t k n q' e' : Int} {b : ByteArray} (h1 : t = r.tag) (h2 : k = r.wire) (h3 : n = r.n) (h4 : b = r.b) (h5 : q' = q) (h6 : e' = e) :
  Ending.returned (.tuple #[.agg #[.int .i64 t,.int .i64 k,.int .i64 n,.string b],.int .i64 q',.int .i64 e']) = .returned (nextV x) := by
 subst hx h1 h2 h3 h4 h5 h6; rfl
theorem below_two (w : World) (o1 o2 : Obj) : Below w.heap.size w ((w.alloc o1).alloc o2) := (below_one w o1).alloc (by simp) _
theorem results_next {fn : Func} {p u v : Tmp} {ty : TypeId} (h : fn.results = #[.cell p ty,.tmp u,.tmp v]) (tmps : Array Value) (P : Program) (w : World) (a : Addr) (x : Value) (ha : (asAddr (tmps.getD p undef)).run P w = .ok a w) (hl : (loadVar ty a).run P w = .ok x w) :
  (results fn tmps).run P w = .ok (.tuple #[x,tmps.getD u undef,tmps.getD v undef]) w := by
 simp only [results,h];simp only [Array.getD_eq_getD_getElem?] at ha
 simp [Sem.run_bind,Result.andThen,ha,hl]
theorem next_any (g off : Nat) (ns : List Nat) (N cap p : Nat) (w : World) (hN : ns.length = N) (hh : Holds w (some ⟨g,off,none⟩) ns) (hlt : ∀ n ∈ ns,n < 256) (hc : N ≤ cap) (hm : cap ≤ maxLen) (hl : N ≤ 4096) (hp : p < N) :
  Calls Tryz.prog 106 #[.slice (some ⟨g,off,none⟩) N cap,.int .i64 (p : Int)] w fun e w' => e = .returned (nextV (nextN ns p)) ∧ Below w.heap.size w w' := by
 have HG : Hid (∀ W q,Below w.heap.size w W → q ≤ N → Calls Tryz.prog 144 #[.slice (some ⟨g,off,none⟩) N cap,.int .i64 (q : Int)] W fun e w' => e = .returned (getV (getF (ns.drop q) 0 0 q)) ∧ w' = W) := fun W q hW hq => by
  have := get_any (some ⟨g,off,none⟩) ns cap (q : Int) W (.inr ⟨_,_,rfl⟩) (by omega) hm (by omega) (hh.below hW) hlt;rw [getR_in (by omega),hN] at this;exact this
 have HC : Hid (∀ W q v,Below w.heap.size w W → q + v ≤ N → ∀ c,(convert 27 9 (.slice (some ⟨g,off + q,none⟩) v c)).run Tryz.prog W = .ok (.string (strN ((ns.drop q).take v))) W) := fun W q v hW hq c => by
  have hl' : ((ns.drop q).take v).length = v := by simp; omega
  have := conv_holds W (some ⟨g,off + q,none⟩) ((ns.drop q).take v) c (fun h => by cases h) (Holds.of fun j hj => by
   have := (hh.below hW).at (q + j) (by omega);rw [← Nat.add_assoc] at this;rw [this]
   simp [List.getD_eq_getElem?_getD,List.getElem?_take,List.getElem?_drop,show j < v by omega])
  rw [hl'] at this;exact this
 have HT : Hid (∀ n ∈ ns,n < 256) := hlt;have HN : Hid (ns.length = N) := hN;unfold maxLen at hm;clear hh hlt hN;obtain ⟨⟨h,q1,e1⟩,g1⟩ : ∃ x,getF (ns.drop p) 0 0 p = x := ⟨_,rfl⟩
 have HG1 : Hid (∀ W,Below w.heap.size w W → Calls Tryz.prog 144 #[.slice (some ⟨g,off,none⟩) N cap,.int .i64 (p : Int)] W fun e w' => e = .returned (.tuple #[.int .u64 (h : Int),.int .i64 (q1 : Int),.int .i64 (e1 : Int)]) ∧ w' = W) := fun W hW => by
  have := HG.out W p hW (by omega);rw [g1] at this;exact this
 have G1 : Hid (getF (ns.drop p) 0 0 p = (h,q1,e1)) := g1
 have hh64 : e1 = 0 → p < q1 ∧ q1 ≤ N ∧ h < 18446744073709551616 := by
  rintro rfl;have := getF_at_bd g1 HT.out (by rw [HN.out]; omega);rw [HN.out] at this;exact this
 clear g1
 by_cases he1 : e1 = 0
 ·subst he1;obtain ⟨hq1,hq2,hh64⟩ := hh64 rfl
  by_cases ht : h / 2 = 0 ∨ 500 < h / 2
  ·have HX : Hid (nextN ns p = (fd0,0,7)) := next_tag G1.out ht;clear G1
   by_cases ht0 : h / 2 = 0
   ·have hd : ((h : Int) / 2 == 0) = true := by simp; omega
    go_enter Tryz.func106,Tryz.ntmps106
    go_wp2_with fail;refine (HG1.out _ (below_one _ _)).mono ?_;rintro e w1 ⟨rfl,rfl⟩;go_wp2_with fail;refine bodyPost_ret (results_next rfl _ _ _ ⟨w.heap.size,0,none⟩ (.agg #[.int .i64 0,.int .i64 0,.int .i64 0,.string ⟨#[]⟩]) (by go_simp) (by go_simp)) rfl ?_;exact ⟨ret_next HX.out rfl rfl rfl rfl rfl rfl,below_one _ _⟩
   ·have hd : ((h : Int) / 2 == 0) = false := by simp; omega
    have hd5 : decide (500 < (h : Int) / 2) = true := by simp; omega
    go_enter Tryz.func106,Tryz.ntmps106
    go_wp2_with fail;refine (HG1.out _ (below_one _ _)).mono ?_;rintro e w1 ⟨rfl,rfl⟩;go_wp2_with fail;refine bodyPost_ret (results_next rfl _ _ _ ⟨w.heap.size,0,none⟩ (.agg #[.int .i64 0,.int .i64 0,.int .i64 0,.string ⟨#[]⟩]) (by go_simp) (by go_simp)) rfl ?_;exact ⟨ret_next HX.out rfl rfl rfl rfl rfl rfl,below_one _ _⟩
  ·have hd : ((h : Int) / 2 == 0) = false := by simp; omega
   have hd5 : decide (500 < (h : Int) / 2) = false := by simp; omega
   obtain ⟨⟨v,q2,e2⟩,g2⟩ : ∃ x,getF (ns.drop q1) 0 0 q1 = x := ⟨_,rfl⟩
   have HG2 : Hid (∀ W,Below w.heap.size w W → Calls Tryz.prog 144 #[.slice (some ⟨g,off,none⟩) N cap,.int .i64 (q1 : Int)] W fun e w' => e = .returned (.tuple #[.int .u64 (v : Int),.int .i64 (q2 : Int),.int .i64 (e2 : Int)]) ∧ w' = W) := fun W hW => by
    have := HG.out W q1 hW (by omega);rw [g2] at this;exact this
   have G2 : Hid (getF (ns.drop q1) 0 0 q1 = (v,q2,e2)) := g2
   have hv64 : e2 = 0 → q1 < q2 ∧ q2 ≤ N ∧ v < 18446744073709551616 := by
    rintro rfl;have := getF_at_bd g2 HT.out (by rw [HN.out]; omega);rw [HN.out] at this;exact this
   clear g2
   by_cases he2 : e2 = 0
   ·subst he2;obtain ⟨hq3,hq4,hv64⟩ := hv64 rfl;obtain ⟨m,hm2⟩ : ∃ m,h % 2 = m := ⟨_,rfl⟩
    have hmi : (h : Int) % 2 = (m : Int) := by omega
    obtain ⟨t,ht2⟩ : ∃ t,h / 2 = t := ⟨_,rfl⟩
    have hti : (h : Int) / 2 = (t : Int) := by omega
    have hdt : ((t : Int) == 0) = false := by simp; omega
    have hdt5 : decide (500 < (t : Int)) = false := by simp; omega
    have ht500 : t ≤ 500 := by omega
    clear hd hd5
    by_cases hw : m = 0
    ·subst hw
     have HX : Hid (nextN ns p = (⟨(t : Nat),0,zagN v,⟨#[]⟩⟩,q2,0)) := by
      show _ = _
      rw [next_num G1.out ht G2.out hm2,ht2]
     clear G1 G2 hm2 ht2
     go_enter Tryz.func106,Tryz.ntmps106
     go_wp2_with fail;refine (HG1.out _ (below_one _ _)).mono ?_;rintro e w1 ⟨rfl,rfl⟩;go_wp2_with fail;refine (HG2.out _ (below_one _ _)).mono ?_;rintro e w1 ⟨rfl,rfl⟩;go_wp2_with fail;refine (zag_any v _ (by omega) (by omega)).mono ?_;rintro e w1 ⟨rfl,rfl⟩;have hz := zagN_bd v (by omega) (by omega);generalize zagN v = z at *;go_wp2_with fail;refine bodyPost_ret (results_next rfl _ _ _ ⟨w.heap.size,0,none⟩ (.agg #[.int .i64 (t : Int),.int .i64 0,.int .i64 z,.string ⟨#[]⟩]) (by go_simp) (by go_simp)) rfl ?_;exact ⟨ret_next HX.out rfl rfl rfl rfl rfl rfl,below_two _ _ _⟩
    ·obtain rfl : m = 1 := by omega
     by_cases hs : N - q2 < v
     ·have HX : Hid (nextN ns p = (fd0,0,2)) := next_short G1.out ht G2.out (by omega) (by rw [HN.out]; exact hs);clear G1 G2 hm2 ht2
      have hdv : decide ((N : Int) - (q2 : Int) < (v : Int)) = true := by simp; omega
      go_enter Tryz.func106,Tryz.ntmps106
      go_wp2_with fail;refine (HG1.out _ (below_one _ _)).mono ?_;rintro e w1 ⟨rfl,rfl⟩;go_wp2_with fail;refine (HG2.out _ (below_one _ _)).mono ?_;rintro e w1 ⟨rfl,rfl⟩;go_wp2_with fail;refine bodyPost_ret (results_next rfl _ _ _ ⟨w.heap.size,0,none⟩ (.agg #[.int .i64 0,.int .i64 0,.int .i64 0,.string ⟨#[]⟩]) (by go_simp) (by go_simp)) rfl ?_;exact ⟨ret_next HX.out rfl rfl rfl rfl rfl rfl,below_two _ _ _⟩
     ·have HX : Hid (nextN ns p = (⟨(t : Nat),1,0,strN ((ns.drop q2).take v)⟩,q2 + v,0)) := by
       show _ = _
       rw [next_text G1.out ht G2.out (by omega) (by rw [HN.out]; omega),ht2]
      clear G1 G2 hm2 ht2
      have hdv : decide ((N : Int) - (q2 : Int) < (v : Int)) = false := by simp; omega
      obtain ⟨S,hS⟩ : ∃ S,strN ((ns.drop q2).take v) = S := ⟨_,rfl⟩;rw [hS] at HX
      by_cases hqc : q2 = cap
      ·obtain rfl : v = 0 := by omega
       have hS0 : strN [] = S := by rw [← hS]; simp
       have hcv : ∀ o1 o2 c,(convert 27 9 (.slice (some ⟨g,off,none⟩) 0 c)).run Tryz.prog ((w.alloc o1).alloc o2) = .ok (.string S) ((w.alloc o1).alloc o2) := fun o1 o2 c => by
        have := conv_holds ((w.alloc o1).alloc o2) (some ⟨g,off,none⟩) [] c (fun h => by cases h) Holds.nil;rw [hS0] at this;exact this
       clear hS hS0;subst hqc
       go_enter Tryz.func106,Tryz.ntmps106
       go_wp2_with fail;refine (HG1.out _ (below_one _ _)).mono ?_;rintro e w1 ⟨rfl,rfl⟩;go_wp2_with fail;refine (HG2.out _ (below_one _ _)).mono ?_;rintro e w1 ⟨rfl,rfl⟩;go_wp2_with fail;refine bodyPost_ret (results_next rfl _ _ _ ⟨w.heap.size,0,none⟩ (.agg #[.int .i64 (t : Int),.int .i64 1,.int .i64 0,.string S]) (by go_simp) (by go_simp)) rfl ?_;exact ⟨ret_next HX.out rfl rfl rfl rfl (by simp) rfl,below_two _ _ _⟩
      ·have hcv : ∀ o1 o2 c,(convert 27 9 (.slice (some ⟨g,off + q2,none⟩) v c)).run Tryz.prog ((w.alloc o1).alloc o2) = .ok (.string S) ((w.alloc o1).alloc o2) := fun o1 o2 c => by
        have := HC.out ((w.alloc o1).alloc o2) q2 v (below_two _ _ _) (by omega) c;rw [hS] at this;exact this
       clear hS
       go_enter Tryz.func106,Tryz.ntmps106
       go_wp2_with fail;refine (HG1.out _ (below_one _ _)).mono ?_;rintro e w1 ⟨rfl,rfl⟩;go_wp2_with fail;refine (HG2.out _ (below_one _ _)).mono ?_;rintro e w1 ⟨rfl,rfl⟩;go_wp2_with fail;refine bodyPost_ret (results_next rfl _ _ _ ⟨w.heap.size,0,none⟩ (.agg #[.int .i64 (t : Int),.int .i64 1,.int .i64 0,.string S]) (by go_simp) (by go_simp)) rfl ?_;exact ⟨ret_next HX.out rfl rfl rfl rfl (by simp) rfl,below_two _ _ _⟩
   ·have HX : Hid (nextN ns p = (fd0,0,e2)) := next_e2 G1.out ht G2.out he2;clear G1 G2 hv64
    have hne : ((e2 : Int) != 0) = true := by simp; omega
    go_enter Tryz.func106,Tryz.ntmps106
    go_wp2_with fail;refine (HG1.out _ (below_one _ _)).mono ?_;rintro e w1 ⟨rfl,rfl⟩;go_wp2_with fail;refine (HG2.out _ (below_one _ _)).mono ?_;rintro e w1 ⟨rfl,rfl⟩;go_wp2_with fail;refine bodyPost_ret (results_next rfl _ _ _ ⟨w.heap.size,0,none⟩ (.agg #[.int .i64 0,.int .i64 0,.int .i64 0,.string ⟨#[]⟩]) (by go_simp) (by go_simp)) rfl ?_;exact ⟨ret_next HX.out rfl rfl rfl rfl rfl rfl,below_one _ _⟩
 ·have HX : Hid (nextN ns p = (fd0,0,e1)) := next_e1 G1.out he1;clear G1 hh64
  have hne : ((e1 : Int) != 0) = true := by simp; omega
  go_enter Tryz.func106,Tryz.ntmps106
  go_wp2_with fail;refine (HG1.out _ (below_one _ _)).mono ?_;rintro e w1 ⟨rfl,rfl⟩;go_wp2_with fail;refine bodyPost_ret (results_next rfl _ _ _ ⟨w.heap.size,0,none⟩ (.agg #[.int .i64 0,.int .i64 0,.int .i64 0,.string ⟨#[]⟩]) (by go_simp) (by go_simp)) rfl ?_;exact ⟨ret_next HX.out rfl rfl rfl rfl rfl rfl,below_one _ _⟩
theorem rawCells_snoc (acc : List Fd) (r : Fd) : (acc ++ [r]).length = acc.length + 1 ∧ rawCells (acc ++ [r]) = rawCells acc ++ r.cells := by
 constructor
 ·simp
 ·rw [rawCells_app,rawCells_cons,rawCells_nil,List.append_nil]
theorem wget_any (a : Option Addr) (ns : List Nat) (N cap : Nat) (w : World) (hN : ns.length = N) (hh : Holds w a ns) (hlt : ∀ n ∈ ns,n < 256) (hc : N ≤ cap) (hm : cap ≤ maxLen) (hadr : ns = [] ∨ ∃ g off,a = some ⟨g,off,none⟩) :
  Calls Tryz.prog 56 #[.slice a N cap] w fun e w' => ∃ v,e = .returned (.tuple #[v,.int .i64 ((getL ns).2 : Int)]) ∧ w'.ownsRow w.heap.size 61 4 v (getL ns).1.length (rawCells (getL ns).1) ∧ Below w.heap.size w w' := by
 have HM : Hid (cap ≤ maxLen) := hm;unfold maxLen at hm;obtain ⟨R,hR⟩ : ∃ R,getL ns = R := ⟨_,rfl⟩;rw [hR]
 by_cases hbig : 4096 < N
 ·have : R = ([],4) := by rw [← hR,getL,if_pos (by omega)]
  subst this;clear hR hh hlt
  go_enter Tryz.func56,Tryz.ntmps56
  go_wp2_with fail
  go_ret2
  exact ⟨_,rfl,World.ownsRow_nil _ _ _ _,Below.refl _ _⟩
 ·have HR : Hid (joinA [] (getA ns 0) = R) := by
   show _ = _
   rw [joinA_nil _ (getA_nil ns 0),← hR,getL,if_neg (by omega)]
  have HN : Hid (ns.length = N) := hN;have HH : Hid (Holds w a ns) := hh;have HT : Hid (∀ n ∈ ns,n < 256) := hlt;have HA : Hid (ns = [] ∨ ∃ g off,a = some ⟨g,off,none⟩) := hadr;obtain ⟨i0,hi,hz0,hz1,hz2⟩ := info_parts infoRaw;clear hR hN hh hlt hadr
  go_enter Tryz.func56,Tryz.ntmps56
  go_wp2_with fail
  go_loopw [4,5] (fun out pv wr => ∃ (acc : List Fd) (p : Nat),pv = .int .i64 (p : Int) ∧ p ≤ N ∧ acc.length ≤ p ∧ Hid (joinA acc (getA ns p) = R) ∧ Hid (wr.ownsRow w.heap.size 61 4 out acc.length (rawCells acc)) ∧ Below w.heap.size w wr)
   (fun _ pv _ => N - (intOf pv).toNat)
  case atStart => exact ⟨[],0,rfl,by omega,by simp,HR,World.ownsRow_nil _ _ _ _,Below.refl _ _⟩
  case round =>
   obtain ⟨acc,p,rfl,hp,hacc,HJ,HO,hbel⟩ := hrel;have hws := hbel.size
   by_cases hpn : p < N
   ·rcases HA.out with h0 | ⟨g,off,rfl⟩
    ·exact absurd hpn (by have := HN.out; rw [h0] at this; simp at this; omega)
    have hnx := next_any g off ns N cap p wr HN.out (HH.out.below hbel) HT.out hc HM.out (by omega) hpn;obtain ⟨⟨r,q,e⟩,hx⟩ : ∃ x,nextN ns p = x := ⟨_,rfl⟩;rw [hx] at hnx;have HX : Hid (nextN ns p = (r,q,e)) := hx;clear hx
    by_cases he : e = 0
    ·subst he
     have hq : p < q ∧ q ≤ N := by
      have := nextN_bd HX.out HT.out (by rw [HN.out]; omega);rw [HN.out] at this;exact this
     have HJ2 : Hid (joinA (acc ++ [r]) (getA ns q) = R) := by
      show _ = _
      rw [← joinA_join,← getA_on (by rw [HN.out]; exact hpn) HX.out HT.out];exact HJ.out
     clear HJ HX;obtain ⟨t,k,n,b⟩ := r;simp only [nextV,Fd.val] at hnx;go_wp2_with fail;refine hnx.mono ?_;rintro e w1 ⟨rfl,hb1⟩;have hb1' : Below w.heap.size w w1 := hbel.trans (hb1.mono hws);have hws1 := hb1'.size;have HO1 := own_belowH HO hb1;clear HO hnx
     go_wp2_with (first
      | (at_builtin; refine wpList_append_own _ rfl _ _ 31 rfl w.heap.size 61 i0 _ 4 40 Tryz.underlying31 hi hz0 hz1 hz2 rfl (by decide) _ _ _ rfl ((HO1.out.alloc _).alloc _) ⟨w1.heap.size + 1,0,none⟩ 1 1 (Fd.cells ⟨t,k,n,b⟩) rfl rfl ?c1 ?c2 ?c3 ?c4 ?c5 ?_)
      | fail)
     case c1 =>
      intro j u hj
      match j,hj with
      | 0,hj | 1,hj | 2,hj | 3,hj => simp [Fd.cells] at hj; subst hj; simp [Addr.add]
     case c2 => intro u hu; simp [Fd.cells] at hu; rcases hu with rfl | rfl | rfl | rfl <;> rfl
     case c3 => unfold maxLen; omega
     case c4 => omega
     case c5 => simp; omega
     intro v w2 ho2 hg2 _;have hb2 : Below w.heap.size w w2 := ((hb1'.alloc hws1 _).alloc (by simp; omega) _).grown hg2 (by simp; omega) (fun k hk => (HO1.out.lt k hk).1)
     have HO2 : Hid (w2.ownsRow w.heap.size 61 4 v (acc ++ [(⟨t,k,n,b⟩ : Fd)]).length (rawCells (acc ++ [⟨t,k,n,b⟩]))) := by
      show World.ownsRow _ _ _ _ _ _ _
      rw [(rawCells_snoc acc _).1,(rawCells_snoc acc _).2];exact ho2
     have hlen : (acc ++ [(⟨t,k,n,b⟩ : Fd)]).length ≤ q := by simp; omega
     clear HO1 ho2 hg2 hb1 hb1';go_wp2_with fail
     go_roundw
     case rel => exact ⟨acc ++ [⟨t,k,n,b⟩],q,rfl,hq.2,hlen,HJ2,HO2,hb2⟩
     case measure => simp [intOf]; omega
    ·have hne : ((e : Int) != 0) = true := by simp; omega
     have hR : R = ([],e) := by rw [← HJ.out,getA_err (by rw [HN.out]; exact hpn) HX.out he,joinA,if_neg he]
     subst hR;clear HJ HX HR HO;obtain ⟨t,k,n,b⟩ := r;simp only [nextV,Fd.val] at hnx;go_wp2_with fail;refine hnx.mono ?_;rintro e w1 ⟨rfl,hb1⟩;have hb1' : Below w.heap.size w w1 := hbel.trans (hb1.mono hws);have hb2 : ∀ o,Below w.heap.size w (w1.alloc o) := fun o => hb1'.alloc hb1'.size o
     clear hnx hb1 hb1';go_wp2_with fail
     go_ret2
     exact ⟨_,rfl,World.ownsRow_nil _ _ _ _,hb2 _⟩
   ·have hR : R = (acc,0) := by rw [← HJ.out,getA_end (by rw [HN.out]; omega),joinA,if_pos rfl,List.append_nil]
    subst hR;clear HJ HR;go_wp2_with fail
    go_ret2
    exact ⟨_,rfl,HO.out,hbel⟩
theorem rzag_any (v : Int) (w : World) (h1 : 0 ≤ v) (h2 : v < 18446744073709551616) :
  Calls Tryz.prog 115 #[.int .u64 v] w fun e w' => e = .returned (.int .i64 (zagN v)) ∧ w' = w := by
 go_enter Tryz.func115,Tryz.ntmps115
 go_wp2
 ·go_ret;refine ⟨vret_int ?_,rfl⟩
  have hb' : v % 2 = 0 := by simpa using ‹(v % 2 == 0) = true›
  unfold zagN; rw [if_pos (by omega)]
 ·go_ret;refine ⟨vret_int ?_,rfl⟩
  have hb' : ¬ v % 2 = 0 := by simpa using ‹(v % 2 == 0) = false›
  unfold zagN; rw [if_neg (by omega)]
theorem rget_out (a : Option Addr) (len cap : Nat) (at' : Int) (w : World) (h : at' < 0 ∨ (len : Int) < at') :
  Calls Tryz.prog 114 #[.slice a len cap,.int .i64 at'] w fun e w' => e = .returned (.tuple #[.int .u64 0,.int .i64 0,.int .i64 1]) ∧ w' = w := by
 rcases h with h | h
 ·go_enter Tryz.func114,Tryz.ntmps114
  go_wp2_with fail
  go_ret3
  exact ⟨rfl,rfl⟩
 ·by_cases h0 : at' < 0
  all_goals
   go_enter Tryz.func114,Tryz.ntmps114
   go_wp2_with fail
   go_ret3
   exact ⟨rfl,rfl⟩
theorem add_walk (v d k : Nat) (hv : v < 128 ^ k) (hd : d < 128) (hk : k ≤ 8 ∨ (k = 9 ∧ d ≤ 1)) : IntKind.u64.wrap ((d : Int) * 2 ^ (7 * k)) = ((d * 128 ^ k : Nat) : Int) ∧ v + d * 128 ^ k < 18446744073709551616 := by
 obtain ⟨h1,h2,h3,h4⟩ := or_add v d k hv hd hk
 have e : (d : Int) * 2 ^ (7 * k) = ((d * 128 ^ k : Nat) : Int) := by
  rw [show (128 : Nat) ^ k = 2 ^ (7 * k) by rw [Nat.pow_mul]]
  push_cast
  rfl
 refine ⟨by rw [e,IntKind.wrap_u64,Int.emod_eq_of_lt (by omega) (by omega)],?_⟩
 rcases hk with h | ⟨rfl,h⟩
 ·have := Nat.pow_le_pow_right (n := 128) (by decide) (show k + 1 ≤ 9 by omega)
  have h9 : (128 : Nat) ^ 9 = 9223372036854775808 := by decide
  omega
 ·have h9 : (128 : Nat) ^ 9 = 9223372036854775808 := by decide
  rw [h9] at hv ⊢
  omega
theorem rget_in (g off : Nat) (ns : List Nat) (cap p : Nat) (w : World) (hc : ns.length ≤ cap) (hm : cap ≤ maxLen) (hp : p ≤ ns.length) (hl : ns.length ≤ 140737488355328)
  (hh : ∀ j,j < ns.length → w.cell? ⟨g,off + j,none⟩ = some (.int .u8 ((ns.getD j 0 : Nat) : Int))) (hb : ∀ n ∈ ns,n < 256) :
  Calls Tryz.prog 114 #[.slice (some ⟨g,off,none⟩) ns.length cap,.int .i64 (p : Int)] w fun e w' => e = .returned (getV (getF (ns.drop p) 0 0 p)) ∧ w' = w := by
 have HH : Hid (∀ j,j < ns.length → w.cell? ⟨g,off + j,none⟩ = some (.int .u8 ((ns.getD j 0 : Nat) : Int))) := hh;have HB : Hid (∀ n ∈ ns,n < 256) := hb;unfold maxLen at hm
 have hd0 : decide ((p : Int) < 0) = false := by simp
 clear hh hb
 go_enter Tryz.func114,Tryz.ntmps114
 go_wp2_with fail
 go_loop [7,8] (fun vv iv => ∃ k v : Nat,iv = .int .i64 (k : Int) ∧ vv = .int .u64 (v : Int) ∧ k ≤ 9 ∧ p + k ≤ ns.length ∧ v < 128 ^ k ∧ Hid (getF (ns.drop p) 0 0 p = getF (ns.drop (p + k)) k v p))
  (fun _ iv => ns.length - p - (intOf iv).toNat)
 case atStart => exact ⟨0,0,rfl,rfl,by omega,by omega,by decide,rfl⟩
 case round =>
  obtain ⟨k,v,rfl,rfl,hk,hpk,hv,HG⟩ := hrel
  by_cases hlt : p + k < ns.length
  ·have hcell := HH.out (p + k) hlt;have hc256 : ns.getD (p + k) 0 < 256 := HB.out _ (by rw [List.getD_eq_getElem?_getD,List.getElem?_eq_getElem hlt,Option.getD_some]; exact List.getElem_mem hlt)
   have HD : Hid (ns.drop (p + k) = ns.getD (p + k) 0 :: ns.drop (p + k + 1)) := by show _ = _; rw [List.drop_eq_getElem_cons hlt,List.getD_eq_getElem?_getD,List.getElem?_eq_getElem hlt,Option.getD_some]
   have HG' : Hid (getF (ns.drop p) 0 0 p = getF (ns.getD (p + k) 0 :: ns.drop (p + k + 1)) k v p) := by show _ = _; rw [HG.out,HD.out]
   clear HD HG;generalize ns.getD (p + k) 0 = c at *
   by_cases h9 : k = 9 ∧ 1 < c
   ·have HX : Hid (getF (ns.drop p) 0 0 p = (0,0,3)) := by show _ = _; rw [HG'.out]; exact getF_ten _ _ _ h9.1 h9.2
    obtain ⟨rfl,hc1⟩ := h9;clear HG';go_wp2_with fail
    go_ret3
    exact ⟨ret_get HX.out rfl rfl rfl,rfl⟩
   ·by_cases hk9 : k = 9
    ·subst hk9
     have h9p : (128 : Nat) ^ 9 = 9223372036854775808 := by decide
     rw [h9p] at hv
     obtain rfl | rfl : c = 0 ∨ c = 1 := by omega
     ·have HX : Hid (getF (ns.drop p) 0 0 p = (0,0,3)) := by show _ = _; rw [HG'.out]; exact getF_zero _ _ _ (by omega) rfl (by omega)
      clear HG' h9p;go_wp2_with fail
      go_ret3
      exact ⟨ret_get HX.out rfl rfl rfl,rfl⟩
     ·have HX : Hid (getF (ns.drop p) 0 0 p = (v + 1 * 9223372036854775808,p + 9 + 1,0)) := by show _ = _; rw [HG'.out,← h9p]; exact getF_end _ _ _ (by omega) (by omega) (by omega)
      clear HG' h9p;go_wp2_with fail
      go_ret3
      exact ⟨ret_get HX.out (by omega) (by omega) rfl,rfl⟩
    ·have hk8 : k ≤ 8 := by omega
     obtain ⟨d,hd⟩ : ∃ d,c % 128 = d := ⟨_,rfl⟩
     have hd128 : d < 128 := by omega
     obtain ⟨hsh,hsum⟩ := add_walk v d k hv hd128 (.inl hk8);have hs := (or_add v d k hv hd128 (.inl hk8)).2.2.1
     have h9i : ((k : Int) == 9) = false := by simp; omega
     have hrem : (c : Int) % 128 = (d : Int) := by omega
     by_cases hc128 : 128 ≤ c
     ·have HX : Hid (getF (ns.drop p) 0 0 p = getF (ns.drop (p + (k + 1))) (k + 1) (v + d * 128 ^ k) p) := by show _ = _; rw [HG'.out,← hd,← Nat.add_assoc]; exact getF_on _ _ _ (by omega) hc128
      clear HG' hd;generalize d * 128 ^ k = t at *;have HS : Hid (v + t < 128 ^ (k + 1)) := hs;clear hs;go_wp2_with fail
      go_round
      case rel => exact ⟨k + 1,v + t,by go_num,by go_num,by omega,by omega,HS.out,HX⟩
      case measure => simp [intOf]; omega
     ·by_cases hz : c = 0 ∧ 0 < k
      ·have HX : Hid (getF (ns.drop p) 0 0 p = (0,0,3)) := by show _ = _; rw [HG'.out]; exact getF_zero _ _ _ (by omega) hz.1 hz.2
       obtain ⟨rfl,hk0⟩ := hz
       obtain rfl : d = 0 := by omega
       clear HG' hd hs hrem;generalize 0 * 128 ^ k = t at *;go_wp2_with fail
       go_ret3
       exact ⟨ret_get HX.out rfl rfl rfl,rfl⟩
      ·have HX : Hid (getF (ns.drop p) 0 0 p = (v + d * 128 ^ k,p + k + 1,0)) := by show _ = _; rw [HG'.out,← hd,Nat.mod_eq_of_lt (by omega)]; exact getF_end _ _ _ (by omega) (by omega) hz
       by_cases hc0 : c = 0
       ·subst hc0
        obtain rfl : k = 0 := by omega
        obtain rfl : d = 0 := by omega
        obtain rfl : v = 0 := by simp at hv; omega
        have hcell' : w.cell? ⟨g,off + p,none⟩ = some (.int .u8 0) := hcell;clear HG' hd hs hrem hsh hsum hcell h9i hv hc256;go_wp2_with fail
        go_ret3
        exact ⟨ret_get HX.out rfl (by omega) rfl,rfl⟩
       ·clear HG' hd hs hz;generalize d * 128 ^ k = t at *;go_wp2_with fail
        go_ret3
        exact ⟨ret_get HX.out (by omega) (by omega) rfl,rfl⟩
  ·have HX : Hid (getF (ns.drop p) 0 0 p = (0,0,2)) := by
    show _ = _
    rw [HG.out,List.drop_of_length_le (by omega)]
    rfl
   clear HG;go_wp2_with fail
   go_ret3
   exact ⟨ret_get HX.out rfl rfl rfl,rfl⟩
theorem rget_zero (a : Option Addr) (cap : Nat) (w : World) :
  Calls Tryz.prog 114 #[.slice a 0 cap,.int .i64 0] w fun e w' => e = .returned (getV (0,0,2)) ∧ w' = w := by
 go_enter Tryz.func114,Tryz.ntmps114
 go_wp2_with fail
 go_loop [8] (fun iv => iv = .int .i64 0) (fun _ => 0)
 case atStart => rfl
 case round =>
  subst hrel;go_wp2_with fail
  go_ret3
  exact ⟨rfl,rfl⟩
theorem rget_any (a : Option Addr) (ns : List Nat) (cap : Nat) (at' : Int) (w : World) (ha : ns = [] ∨ ∃ g off,a = some ⟨g,off,none⟩) (hc : ns.length ≤ cap) (hm : cap ≤ maxLen) (hl : ns.length ≤ 140737488355328) (hh : Holds w a ns) (hb : ∀ n ∈ ns,n < 256) :
  Calls Tryz.prog 114 #[.slice a ns.length cap,.int .i64 at'] w fun e w' => e = .returned (getV (getR ns at')) ∧ w' = w := by
 by_cases ho : at' < 0 ∨ (ns.length : Int) < at'
 ·rw [getR_out ho]; exact rget_out a ns.length cap at' w ho
 ·obtain ⟨p,rfl⟩ := Int.eq_ofNat_of_zero_le (a := at') (by omega);rw [getR_in (by omega)]
  rcases ha with rfl | ⟨g,off,rfl⟩
  ·obtain rfl : p = 0 := by simp at ho; omega
   exact rget_zero a cap w
  ·exact rget_in g off ns cap p w hc hm (by omega) hl (fun j hj => hh.at j hj) hb
end
end Go.Proofs.YtiajaocckkghgaaGreat

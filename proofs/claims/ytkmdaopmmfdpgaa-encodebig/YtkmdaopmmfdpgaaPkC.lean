/- What Get answers, at any bytes and any place. -/
import Derived.OwnWalk
import Derived.Lib.AppendStr
import Derived.OrdersHeld
import Derived.Deep.RegionHeld3
import Derived.WalkKit
import Derived.Test.YtkmdaopmmfdpgaaPkB
import Derived.Test.YtkmdaopmmfdpgaaPkA
namespace Go.Proofs.Ytkmdaopmmfdpgaa
open Go.ChangeShapes Go.WideShapes Go.ChangeAt Go.RowKit
set_option linter.unusedVariables false
set_option maxRecDepth 20000

def getV (r : Nat × Nat × Nat) : Value := .tuple #[.int .u64 (r.1 : Int), .int .i64 (r.2.1 : Int), .int .i64 (r.2.2 : Int)]

theorem getR_out {ns : List Nat} {at' : Int} (h : at' < 0 ∨ (ns.length : Int) < at') : getR ns at' = (0, 0, 1) := by rw [getR, if_pos h]
theorem getR_in {ns : List Nat} {p : Nat} (h : p ≤ ns.length) : getR ns (p : Int) = getF (ns.drop p) 0 0 p := by
  rw [getR, if_neg (by omega), Int.toNat_natCast]

theorem and_not (c : Nat) (h : c < 256) : bits .andNot .u8 (c : Int) 128 = ((c % 128 : Nat) : Int) := by
  rw [show (128 : Int) = ((128 : Nat) : Int) from rfl, u8_andNot_nat _ _ h (by decide), show 255 - 128 = 127 from rfl, nat_mask7]

theorem or_add (v d k : Nat) (hv : v < 128 ^ k) (hd : d < 128) (hk : k ≤ 8 ∨ (k = 9 ∧ d ≤ 1)) : d * 128 ^ k < 18446744073709551616 ∧ v < 18446744073709551616 ∧ v + d * 128 ^ k < 128 ^ (k + 1) ∧ bits .or .u64 (v : Int) ((d * 128 ^ k : Nat) : Int) = ((v + d * 128 ^ k : Nat) : Int) := by
  have h9 : (128 : Nat) ^ 9 = 9223372036854775808 := by decide
  have hp : 128 ^ k ≤ 128 ^ 9 := Nat.pow_le_pow_right (by decide) (by omega)
  have h1 : d * 128 ^ k < 18446744073709551616 := by
    rcases hk with h | ⟨rfl, h⟩
    · have hp8 : 128 ^ k ≤ 128 ^ 8 := Nat.pow_le_pow_right (by decide) (by omega)
      have := Nat.mul_le_mul (show d ≤ 127 by omega) hp8
      have h8 : (127 : Nat) * 128 ^ 8 = 9151314442816847872 := by decide
      omega
    · have := Nat.mul_le_mul_right (128 ^ 9) h
      omega
  have h2 : v < 18446744073709551616 := by omega
  refine ⟨h1, h2, ?_, ?_⟩
  · rw [Nat.pow_succ]
    have := Nat.mul_le_mul_right (128 ^ k) (show d + 1 ≤ 128 by omega)
    rw [Nat.add_mul] at this
    omega
  · rw [u64_or_nat _ _ h2 h1]
    have e : 128 ^ k = 2 ^ (7 * k) := by rw [Nat.pow_mul]
    have := nat_join (7 * k) (d * 128 ^ k) v (by rw [e]; exact Nat.mul_mod_left _ _) (by rw [← e]; exact hv)
    rw [Nat.or_comm, this]
    congr 1
    omega
theorem or_walk (v d k : Nat) (hv : v < 128 ^ k) (hd : d < 128) (hk : k ≤ 8) : bits .or .u64 (v : Int) (IntKind.u64.wrap ((d : Int) * 2 ^ (7 * k))) = ((v + d * 128 ^ k : Nat) : Int) := by
  obtain ⟨h1, h2, _, h4⟩ := or_add v d k hv hd (.inl hk)
  have e : (d : Int) * 2 ^ (7 * k) = ((d * 128 ^ k : Nat) : Int) := by
    rw [show (128 : Nat) ^ k = 2 ^ (7 * k) by rw [Nat.pow_mul]]
    push_cast
    rfl
  rw [e, IntKind.wrap_u64, Int.emod_eq_of_lt (by omega) (by omega), h4]
theorem or_walk9 (v d : Nat) (hv : v < 128 ^ 9) (hd : d ≤ 1) : bits .or .u64 (v : Int) ((d : Int) * 9223372036854775808) = ((v + d * 128 ^ 9 : Nat) : Int) := by
  obtain ⟨h1, h2, _, h4⟩ := or_add v d 9 hv (by omega) (.inr ⟨rfl, hd⟩)
  rw [← h4]
  congr 1

theorem ret_get {x y e : Int} {r : Nat × Nat × Nat} {a b c : Nat} (hr : r = (a, b, c)) (h1 : x = a) (h2 : y = b) (h3 : e = c) : Ending.returned (.tuple #[.int .u64 x, .int .i64 y, .int .i64 e]) = .returned (getV r) := by
  subst hr h1 h2 h3; rfl

set_option maxHeartbeats 1000000 in
theorem get_out (a : Option Addr) (len cap : Nat) (at' : Int) (w : World) (h : at' < 0 ∨ (len : Int) < at') :
    Calls Try.prog 46 #[.slice a len cap, .int .i64 at'] w fun e w' => e = .returned (.tuple #[.int .u64 0, .int .i64 0, .int .i64 1]) ∧ w' = w := by
  rcases h with h | h
  · go_enter Try.func46, Try.ntmps46
    go_wp2_with fail
    go_ret3
    exact ⟨rfl, rfl⟩
  · by_cases h0 : at' < 0
    all_goals
      go_enter Try.func46, Try.ntmps46
      go_wp2_with fail
      go_ret3
      exact ⟨rfl, rfl⟩

set_option maxHeartbeats 1000000 in
theorem get_in (g off : Nat) (ns : List Nat) (cap p : Nat) (w : World) (hc : ns.length ≤ cap) (hm : cap ≤ maxLen) (hp : p ≤ ns.length) (hpc : p < cap) (hl : ns.length ≤ 140737488355328)
    (hh : ∀ j, j < ns.length → w.cell? ⟨g, off + j, none⟩ = some (.int .u8 ((ns.getD j 0 : Nat) : Int))) (hb : ∀ n ∈ ns, n < 256) :
    Calls Try.prog 46 #[.slice (some ⟨g, off, none⟩) ns.length cap, .int .i64 (p : Int)] w fun e w' => e = .returned (getV (getF (ns.drop p) 0 0 p)) ∧ w' = w := by
  have HH : Hid (∀ j, j < ns.length → w.cell? ⟨g, off + j, none⟩ = some (.int .u8 ((ns.getD j 0 : Nat) : Int))) := hh
  have HB : Hid (∀ n ∈ ns, n < 256) := hb
  unfold maxLen at hm
  have hd0 : decide ((p : Int) < 0) = false := by simp
  have hpc2 : ¬ p = cap := by omega
  clear hh hb
  go_enter Try.func46, Try.ntmps46
  go_wp2_with fail
  go_loop [7, 22] (fun vv iv => ∃ k v : Nat, iv = .int .i64 (k : Int) ∧ vv = .int .u64 (v : Int) ∧ k ≤ 9 ∧ p + k ≤ ns.length ∧ v < 128 ^ k ∧ Hid (getF (ns.drop p) 0 0 p = getF (ns.drop (p + k)) k v p))
    (fun _ iv => ns.length - p - (intOf iv).toNat)
  case atStart => exact ⟨0, 0, rfl, rfl, by omega, by omega, by decide, rfl⟩
  case round =>
    obtain ⟨k, v, rfl, rfl, hk, hpk, hv, HG⟩ := hrel
    by_cases hlt : p + k < ns.length
    · have hcell := HH.out (p + k) hlt
      have hc256 : ns.getD (p + k) 0 < 256 := HB.out _ (by rw [List.getD_eq_getElem?_getD, List.getElem?_eq_getElem hlt, Option.getD_some]; exact List.getElem_mem hlt)
      have HD : Hid (ns.drop (p + k) = ns.getD (p + k) 0 :: ns.drop (p + k + 1)) := by show _ = _; rw [List.drop_eq_getElem_cons hlt, List.getD_eq_getElem?_getD, List.getElem?_eq_getElem hlt, Option.getD_some]
      have HG' : Hid (getF (ns.drop p) 0 0 p = getF (ns.getD (p + k) 0 :: ns.drop (p + k + 1)) k v p) := by show _ = _; rw [HG.out, HD.out]
      clear HD HG
      generalize ns.getD (p + k) 0 = c at *
      have han := and_not c hc256
      have hdv : c % 128 < 128 := by omega
      rw [← Nat.add_assoc] at hcell
      by_cases h9 : k = 9
      · subst h9
        by_cases hc1 : 1 < c
        · have HX : Hid (getF (ns.drop p) 0 0 p = (0, 0, 3)) := by show _ = _; rw [HG'.out]; exact getF_ten _ _ _ rfl hc1
          clear HG' han
          go_wp2_with fail
          go_ret3
          exact ⟨ret_get HX.out rfl rfl rfl, rfl⟩
        · obtain ⟨d, hd⟩ : ∃ d, c % 128 = d := ⟨_, rfl⟩
          have hor := or_walk9 v d hv (by omega)
          have hd1 : d ≤ 1 := by omega
          by_cases hc0 : c = 0
          · have HX : Hid (getF (ns.drop p) 0 0 p = (0, 0, 3)) := by show _ = _; rw [HG'.out]; exact getF_zero _ _ _ (by omega) hc0 (by omega)
            clear HG'
            rw [hd] at han
            clear hd
            go_wp2_with fail
            go_ret3
            exact ⟨ret_get HX.out rfl rfl rfl, rfl⟩
          · have HX : Hid (getF (ns.drop p) 0 0 p = (v + d * 128 ^ 9, p + 9 + 1, 0)) := by show _ = _; rw [HG'.out, ← hd, Nat.mod_eq_of_lt (by omega)]; exact getF_end _ _ _ (by omega) (by omega) (by omega)
            clear HG'
            rw [hd] at han
            clear hd
            generalize v + d * 128 ^ 9 = s at *
            go_wp2_with fail
            go_ret3
            exact ⟨ret_get HX.out rfl (by omega) rfl, rfl⟩
      · have hk8 : k ≤ 8 := by omega
        obtain ⟨d, hd⟩ : ∃ d, c % 128 = d := ⟨_, rfl⟩
        have hd128 : d < 128 := by omega
        have hor := or_walk v d k hv (by omega) hk8
        have hs := (or_add v d k hv (by omega) (.inl hk8)).2.2.1
        have h9i : ((k : Int) == 9) = false := by simp; omega
        by_cases hc128 : 128 ≤ c
        · have HX : Hid (getF (ns.drop p) 0 0 p = getF (ns.drop (p + (k + 1))) (k + 1) (v + d * 128 ^ k) p) := by show _ = _; rw [HG'.out, ← hd, ← Nat.add_assoc]; exact getF_on _ _ _ (by omega) hc128
          clear HG'
          rw [hd] at han
          clear hd
          generalize v + d * 128 ^ k = s at *
          have HS : Hid (s < 128 ^ (k + 1)) := hs
          clear hs
          go_wp2_with fail
          go_round
          case rel => exact ⟨k + 1, s, by go_num, rfl, by omega, by omega, HS.out, HX⟩
          case measure => simp [intOf]; omega
        · by_cases hc0 : c = 0
          · by_cases hk0 : k = 0
            · subst hk0
              obtain rfl : v = 0 := by simp at hv; omega
              subst hc0
              have HX : Hid (getF (ns.drop p) 0 0 p = (0, p + 0 + 1, 0)) := by show _ = _; rw [HG'.out]; exact getF_end _ _ _ (by omega) (by omega) (by omega)
              have hcell' : w.cell? ⟨g, off + p, none⟩ = some (.int .u8 0) := hcell
              clear HG' hd hs hor hcell han h9i hdv hv hc256
              go_wp2_with fail
              go_ret3
              exact ⟨ret_get HX.out rfl (by omega) rfl, rfl⟩
            · have HX : Hid (getF (ns.drop p) 0 0 p = (0, 0, 3)) := by show _ = _; rw [HG'.out]; exact getF_zero _ _ _ (by omega) hc0 (by omega)
              clear HG'
              rw [hd] at han
              clear hd hs
              generalize v + d * 128 ^ k = s at *
              have hz : decide (0 < (k : Int)) = true := by simp; omega
              go_wp2_with fail
              go_ret3
              exact ⟨ret_get HX.out rfl rfl rfl, rfl⟩
          · have HX : Hid (getF (ns.drop p) 0 0 p = (v + d * 128 ^ k, p + k + 1, 0)) := by show _ = _; rw [HG'.out, ← hd, Nat.mod_eq_of_lt (by omega)]; exact getF_end _ _ _ (by omega) (by omega) (by omega)
            clear HG'
            rw [hd] at han
            clear hd hs
            generalize v + d * 128 ^ k = s at *
            go_wp2_with fail
            go_ret3
            exact ⟨ret_get HX.out rfl (by omega) rfl, rfl⟩
    · have HX : Hid (getF (ns.drop p) 0 0 p = (0, 0, 2)) := by
        show _ = _
        rw [HG.out, List.drop_of_length_le (by omega)]
        rfl
      clear HG
      go_wp2_with fail
      go_ret3
      exact ⟨ret_get HX.out rfl rfl rfl, rfl⟩

set_option maxHeartbeats 1000000 in
theorem get_full (a : Option Addr) (p : Nat) (w : World) (ha : a = none → p = 0) (hm : p ≤ maxLen) :
    Calls Try.prog 46 #[.slice a p p, .int .i64 (p : Int)] w fun e w' => e = .returned (getV (0, 0, 2)) ∧ w' = w := by
  unfold maxLen at hm
  have hd0 : decide ((p : Int) < 0) = false := by simp
  go_enter Try.func46, Try.ntmps46
  go_wp2_with fail
  go_loop [22] (fun iv => iv = .int .i64 0) (fun _ => 0)
  case atStart => rfl
  case round =>
    subst hrel
    go_wp2_with fail
    go_ret3
    exact ⟨rfl, rfl⟩
end Go.Proofs.Ytkmdaopmmfdpgaa

/- Rows of bytes: what Get answers of one, its text, and the document's examples. -/
namespace Go.Proofs.Ytkmdaopmmfdpgaa
open Go.ChangeShapes Go.WideShapes Go.ChangeAt Go.RowKit
set_option linter.unusedVariables false
set_option maxRecDepth 20000

theorem get_any (a : Option Addr) (ns : List Nat) (cap : Nat) (at' : Int) (w : World) (ha : (a = none ∧ ns = [] ∧ cap = 0) ∨ ∃ g off, a = some ⟨g, off, none⟩) (hc : ns.length ≤ cap) (hm : cap ≤ maxLen) (hl : ns.length ≤ 140737488355328) (hh : Holds w a ns) (hb : ∀ n ∈ ns, n < 256) :
    Calls Try.prog 46 #[.slice a ns.length cap, .int .i64 at'] w fun e w' => e = .returned (getV (getR ns at')) ∧ w' = w := by
  by_cases ho : at' < 0 ∨ (ns.length : Int) < at'
  · rw [getR_out ho]; exact get_out a ns.length cap at' w ho
  · obtain ⟨p, rfl⟩ := Int.eq_ofNat_of_zero_le (a := at') (by omega)
    rw [getR_in (by omega)]
    by_cases hp : p < cap
    · rcases ha with ⟨rfl, rfl, rfl⟩ | ⟨g, off, rfl⟩
      · omega
      · exact get_in g off ns cap p w hc hm (by omega) hp hl (fun j hj => hh.at j hj) hb
    · obtain rfl : p = cap := by omega
      obtain rfl : p = ns.length := by omega
      rw [List.drop_of_length_le (Nat.le_refl _)]
      refine get_full a _ w ?_ hm
      intro h
      rcases ha with ⟨_, h, _⟩ | ⟨g, off, rfl⟩
      · simp [h]
      · cases h

end Go.Proofs.Ytkmdaopmmfdpgaa

/- Put behind nil. -/
namespace Go.Proofs.Ytkmdaopmmfdpgaa
open Go.ChangeShapes Go.WideShapes Go.ChangeAt Go.RowKit
set_option linter.unusedVariables false
set_option maxRecDepth 20000

theorem put_nil (v : Nat) (z : Int) (hz : z = (v : Int)) (w : World) (hv : v < 18446744073709551616) :
    Calls Try.prog 48 #[.slice none 0 0, .int .u64 z] w fun e w' => ∃ g cap, e = .returned (.slice (some ⟨g, 0, none⟩) (digs v).length cap) ∧ w.heap.size ≤ g ∧ g < w'.heap.size ∧ (digs v).length ≤ cap ∧ cap ≤ maxLen ∧ Holds w' (some ⟨g, 0, none⟩) (digs v) ∧ Below w.heap.size w w' := by
  subst hz
  refine (put_any none [] 0 v w (fun _ => ⟨rfl, rfl⟩) (Nat.le_refl _) (by decide) (by decide) Holds.nil hv).mono ?_
  rintro e w' ⟨r, rfl, ho, hb⟩
  rw [List.nil_append] at ho
  obtain ⟨a, cap, rfl, _, h1 | ⟨g, rfl, h2, h3⟩, h4, h5, h6⟩ := own_open ho
  · exact absurd h1.2.1 (digs_ne v)
  · exact ⟨g, cap, rfl, h2, h3, h4, h5, h6, hb⟩

theorem digs_300 : digs 300 = [172, 2] := by rw [digs_big (by decide), digs_small (by decide)]
end Go.Proofs.Ytkmdaopmmfdpgaa

/- Bytes that were just laid; what Get answers of a number that was put. -/
namespace Go.Proofs.Ytkmdaopmmfdpgaa
open Go.ChangeShapes Go.WideShapes Go.ChangeAt Go.RowKit
set_option linter.unusedVariables false
set_option maxRecDepth 20000

theorem getR_put (ns : List Nat) (v : Nat) (rest : List Nat) (hv : v < 18446744073709551616) : getR (ns ++ digs v ++ rest) ((ns.length : Nat) : Int) = (v, ns.length + (digs v).length, 0) := by
  rw [getR_in (by simp), List.append_assoc, List.drop_left, getF_digs v 0 0 _ rest (by omega) (by omega) (by omega)]
  simp
theorem getR_put0 (v : Nat) (hv : v < 18446744073709551616) : getR (digs v) 0 = (v, (digs v).length, 0) := by
  have := getR_put [] v [] hv
  simpa using this

/-- Get at bytes that were just laid, in the words of the walk. -/
theorem get_made (w : World) (g : Nat) (ns : List Nat) (xs : Array Value) (n : Nat) (at' : Int) (r : Nat × Nat × Nat) (hg : g = w.heap.size) (hx : xs = (byteCells ns).toArray) (hn : n = ns.length) (hr : getR ns at' = r) (hl : ns.length ≤ 1000) (hb : ∀ n ∈ ns, n < 256) :
    Calls Try.prog 46 #[.slice (some ⟨g, 0, none⟩) n n, .int .i64 at'] (w.alloc (.cells xs 5)) fun e w' => e = .returned (getV r) ∧ w' = w.alloc (.cells xs 5) := by
  subst hg hx hn hr
  exact get_any _ ns ns.length at' _ (.inr ⟨_, _, rfl⟩) (Nat.le_refl _) (by unfold maxLen; omega) (by omega) (holds_made w ns) hb
end Go.Proofs.Ytkmdaopmmfdpgaa

/- Fields on the wire, in plain mathematics: which may be, their bytes, and how bytes are read as fields. -/
namespace Go.Proofs.Ytkmdaopmmfdpgaa
open Go.ChangeShapes Go.WideShapes Go.ChangeAt Go.RowKit
set_option linter.unusedVariables false
set_option maxRecDepth 20000

/-- A text's bytes. -/
def bytesN (b : ByteArray) : List Nat := b.data.toList.map UInt8.toNat
theorem bytesN_len (b : ByteArray) : (bytesN b).length = b.size := by
  rw [bytesN, List.length_map, Array.length_toList]
  rfl
theorem bytesN_lt (b : ByteArray) : ∀ n ∈ bytesN b, n < 256 := by
  intro n hn
  simp only [bytesN, List.mem_map] at hn
  obtain ⟨u, _, rfl⟩ := hn
  exact u.toNat_lt
theorem strN_bytesN (b : ByteArray) : strN (bytesN b) = b := by
  apply ByteArray.ext
  apply Array.ext'
  simp only [strN, bytesN, List.map_map]
  conv => rhs; rw [← List.map_id b.data.toList]
  apply List.map_congr_left
  intro u _
  simp
theorem bytesN_strN (ns : List Nat) (h : ∀ n ∈ ns, n < 256) : bytesN (strN ns) = ns := by
  simp only [strN, bytesN, List.map_map]
  conv => rhs; rw [← List.map_id ns]
  apply List.map_congr_left
  intro n hn
  have := h n hn
  simp [UInt8.toNat_ofNat']
  omega
theorem strCells_bytes (b : ByteArray) : Lib.strCells b = byteCells (bytesN b) := by
  simp [Lib.strCells, byteCells, bytesN]

/-- A field's bytes. -/
def fieldN (r : Fd) : List Nat := digs (2 * r.tag + r.wire).toNat ++ if r.wire = 0 then digs (zigN r.n).toNat else digs r.b.size ++ bytesN r.b
theorem fieldN_num (t : Nat) (n : Int) (b : ByteArray) : fieldN ⟨t, 0, n, b⟩ = digs (2 * t) ++ digs (zigN n).toNat := by
  simp only [fieldN, if_pos]; congr 2
theorem fieldN_text (t : Nat) (n : Int) (b : ByteArray) : fieldN ⟨t, 1, n, b⟩ = digs (2 * t + 1) ++ (digs b.size ++ bytesN b) := by
  simp only [fieldN]; rw [if_neg (by decide)]; congr 2
def flatN (rs : List Fd) : List Nat := rs.flatMap fieldN
theorem flatN_app (a b : List Fd) : flatN (a ++ b) = flatN a ++ flatN b := by simp [flatN]
theorem flatN_nil : flatN [] = [] := rfl
theorem flatN_cons (r : Fd) (l : List Fd) : flatN (r :: l) = fieldN r ++ flatN l := by simp [flatN]
theorem fieldN_lt (r : Fd) : ∀ n ∈ fieldN r, n < 256 := by
  intro n hn
  simp only [fieldN, List.mem_append] at hn
  rcases hn with hn | hn
  · exact digs_lt _ _ hn
  · split at hn
    · exact digs_lt _ _ hn
    · rcases List.mem_append.1 hn with hn | hn
      · exact digs_lt _ _ hn
      · exact bytesN_lt _ _ hn
theorem flatN_lt (rs : List Fd) : ∀ n ∈ flatN rs, n < 256 := by
  intro n hn
  simp only [flatN, List.mem_flatMap] at hn
  obtain ⟨r, _, h⟩ := hn
  exact fieldN_lt r n h
theorem fieldN_len {r : Fd} (h : okF r = true) (hn : Is64 r.n) : 2 ≤ (fieldN r).length ∧ (fieldN r).length ≤ 4116 := by
  rcases ok_cases h hn with ⟨t, n, rfl, h1, h2, h3⟩ | ⟨t, b, rfl, h1, h2, h3⟩
  · have hz := zigN_bd n h3.1 h3.2
    have l1 := digs_len64 (2 * t) (by omega)
    have l2 := digs_len64 (zigN n).toNat (by omega)
    rw [fieldN_num, List.length_append]; omega
  · have l1 := digs_len64 (2 * t + 1) (by omega)
    have l2 := digs_len64 b.size (by omega)
    rw [fieldN_text, List.length_append, List.length_append, bytesN_len]; omega

/-- All fields' bytes, and how it ends. -/
def putL (rs : List Fd) : List Nat × Nat := if rs.all okF = true then if (flatN rs).length ≤ 4096 then (flatN rs, 0) else ([], 4) else ([], 1)
theorem putL_bad {rs : List Fd} (h : rs.all okF = false) : putL rs = ([], 1) := by rw [putL, if_neg (by simp [h])]
theorem putL_big {rs : List Fd} (h : rs.all okF = true) (hb : 4096 < (flatN rs).length) : putL rs = ([], 4) := by rw [putL, if_pos h, if_neg (by omega)]
theorem putL_ok {rs : List Fd} (h : rs.all okF = true) (hb : (flatN rs).length ≤ 4096) : putL rs = (flatN rs, 0) := by rw [putL, if_pos h, if_pos hb]

/-- The field that stands at a place. -/
def nextN (ns : List Nat) (p : Nat) : Fd × Nat × Nat :=
  let h := getF (ns.drop p) 0 0 p
  if h.2.2 ≠ 0 then (fd0, 0, h.2.2) else
  if h.1 / 2 = 0 ∨ 500 < h.1 / 2 then (fd0, 0, 7) else
  let v := getF (ns.drop h.2.1) 0 0 h.2.1
  if v.2.2 ≠ 0 then (fd0, 0, v.2.2) else
  if h.1 % 2 = 0 then (⟨(h.1 / 2 : Nat), 0, zagN v.1, ⟨#[]⟩⟩, v.2.1, 0) else
  if ns.length - v.2.1 < v.1 then (fd0, 0, 2) else (⟨(h.1 / 2 : Nat), 1, 0, strN ((ns.drop v.2.1).take v.1)⟩, v.2.1 + v.1, 0)

theorem next_e1 {ns : List Nat} {p h q e : Nat} (g : getF (ns.drop p) 0 0 p = (h, q, e)) (he : e ≠ 0) : nextN ns p = (fd0, 0, e) := by
  simp only [nextN, g]; rw [if_pos he]
theorem next_tag {ns : List Nat} {p h q : Nat} (g : getF (ns.drop p) 0 0 p = (h, q, 0)) (ht : h / 2 = 0 ∨ 500 < h / 2) : nextN ns p = (fd0, 0, 7) := by
  simp only [nextN, g]; rw [if_neg (by simp), if_pos ht]
theorem next_e2 {ns : List Nat} {p h q v q2 e : Nat} (g : getF (ns.drop p) 0 0 p = (h, q, 0)) (ht : ¬ (h / 2 = 0 ∨ 500 < h / 2)) (g2 : getF (ns.drop q) 0 0 q = (v, q2, e)) (he : e ≠ 0) : nextN ns p = (fd0, 0, e) := by
  simp only [nextN, g, g2]; rw [if_neg (by simp), if_neg ht, if_pos he]
theorem next_num {ns : List Nat} {p h q v q2 : Nat} (g : getF (ns.drop p) 0 0 p = (h, q, 0)) (ht : ¬ (h / 2 = 0 ∨ 500 < h / 2)) (g2 : getF (ns.drop q) 0 0 q = (v, q2, 0)) (hw : h % 2 = 0) :
    nextN ns p = (⟨(h / 2 : Nat), 0, zagN v, ⟨#[]⟩⟩, q2, 0) := by
  simp only [nextN, g, g2]; rw [if_neg (by simp), if_neg ht, if_neg (by simp), if_pos hw]
theorem next_short {ns : List Nat} {p h q v q2 : Nat} (g : getF (ns.drop p) 0 0 p = (h, q, 0)) (ht : ¬ (h / 2 = 0 ∨ 500 < h / 2)) (g2 : getF (ns.drop q) 0 0 q = (v, q2, 0)) (hw : h % 2 ≠ 0) (hv : ns.length - q2 < v) :
    nextN ns p = (fd0, 0, 2) := by
  simp only [nextN, g, g2]; rw [if_neg (by simp), if_neg ht, if_neg (by simp), if_neg hw, if_pos hv]
theorem next_text {ns : List Nat} {p h q v q2 : Nat} (g : getF (ns.drop p) 0 0 p = (h, q, 0)) (ht : ¬ (h / 2 = 0 ∨ 500 < h / 2)) (g2 : getF (ns.drop q) 0 0 q = (v, q2, 0)) (hw : h % 2 ≠ 0) (hv : v ≤ ns.length - q2) :
    nextN ns p = (⟨(h / 2 : Nat), 1, 0, strN ((ns.drop q2).take v)⟩, q2 + v, 0) := by
  simp only [nextN, g, g2]; rw [if_neg (by simp), if_neg ht, if_neg (by simp), if_neg hw, if_neg (by omega)]

/-- What is read of a number: where it ends, and that it is one of 64 bits. -/
theorem getF_end_bd : ∀ (l : List Nat) (i v p h q : Nat), getF l i v p = (h, q, 0) → (∀ n ∈ l, n < 256) → i ≤ 9 → v < 128 ^ i → p + i < q ∧ q ≤ p + i + l.length ∧ h < 18446744073709551616
  | [], i, v, p, h, q, hg, _, _, _ => by simp [getF] at hg
  | c :: r, i, v, p, h, q, hg, hb, hi, hv => by
    have hc := hb c (by simp)
    by_cases h9 : i = 9 ∧ 1 < c
    · rw [getF_ten r v p h9.1 h9.2] at hg; simp at hg
    · by_cases h1 : 128 ≤ c
      · rw [getF_on r v p h9 h1] at hg
        have hi8 : i ≤ 8 := by omega
        have hs : v + c % 128 * 128 ^ i < 128 ^ (i + 1) := by
          rw [Nat.pow_succ]
          have := Nat.mul_le_mul_right (128 ^ i) (show c % 128 + 1 ≤ 128 by omega)
          rw [Nat.add_mul] at this
          omega
        have := getF_end_bd r (i + 1) _ p h q hg (fun n hn => hb n (by simp [hn])) (by omega) hs
        simp only [List.length_cons]
        omega
      · by_cases h0 : c = 0 ∧ 0 < i
        · rw [getF_zero r v p h9 h0.1 h0.2] at hg; simp at hg
        · rw [getF_end r v p h9 (by omega) h0] at hg
          simp only [Prod.mk.injEq, and_true] at hg
          obtain ⟨rfl, rfl⟩ := hg
          simp only [List.length_cons]
          refine ⟨by omega, by omega, ?_⟩
          have hp9 : (128 : Nat) ^ 9 = 9223372036854775808 := by decide
          by_cases hi9 : i = 9
          · subst hi9
            have := Nat.mul_le_mul_right (128 ^ 9) (show c ≤ 1 by omega)
            omega
          · have hp8 : 128 ^ i ≤ 128 ^ 8 := Nat.pow_le_pow_right (by decide) (by omega)
            have := Nat.mul_le_mul (show c ≤ 127 by omega) hp8
            have h8 : (127 : Nat) * 128 ^ 8 = 9151314442816847872 := by decide
            have h88 : (128 : Nat) ^ 8 = 72057594037927936 := by decide
            omega
theorem getF_at_bd {ns : List Nat} {p h q : Nat} (hg : getF (ns.drop p) 0 0 p = (h, q, 0)) (hb : ∀ n ∈ ns, n < 256) (hp : p ≤ ns.length) : p < q ∧ q ≤ ns.length ∧ h < 18446744073709551616 := by
  have := getF_end_bd _ 0 0 p h q hg (fun n hn => hb n (List.mem_of_mem_drop hn)) (by omega) (by decide)
  rw [List.length_drop] at this
  omega
theorem getF_err : ∀ (l : List Nat) (i v p : Nat), (getF l i v p).2.2 ≤ 3
  | [], i, v, p => by simp [getF]
  | c :: r, i, v, p => by
    rw [getF]
    split
    · simp
    · split
      · exact getF_err r _ _ _
      · split <;> simp
theorem nextN_bd {ns : List Nat} {p q : Nat} {r : Fd} (hx : nextN ns p = (r, q, 0)) (hb : ∀ n ∈ ns, n < 256) (hp : p ≤ ns.length) : p < q ∧ q ≤ ns.length := by
  obtain ⟨⟨h, q1, e1⟩, g1⟩ : ∃ x, getF (ns.drop p) 0 0 p = x := ⟨_, rfl⟩
  by_cases he1 : e1 = 0
  · subst he1
    by_cases ht : h / 2 = 0 ∨ 500 < h / 2
    · rw [next_tag g1 ht] at hx; simp at hx
    · have b1 := getF_at_bd g1 hb hp
      obtain ⟨⟨v, q2, e2⟩, g2⟩ : ∃ x, getF (ns.drop q1) 0 0 q1 = x := ⟨_, rfl⟩
      by_cases he2 : e2 = 0
      · subst he2
        have b2 := getF_at_bd g2 hb (by omega)
        by_cases hw : h % 2 = 0
        · rw [next_num g1 ht g2 hw] at hx; simp at hx; omega
        · by_cases hv : ns.length - q2 < v
          · rw [next_short g1 ht g2 hw hv] at hx; simp at hx
          · rw [next_text g1 ht g2 hw (by omega)] at hx; simp at hx; omega
      · rw [next_e2 g1 ht g2 he2] at hx; simp at hx; omega
  · rw [next_e1 g1 he1] at hx; simp at hx; omega

/-- The fields from a place on, at most so many, and how it ends. -/
def getAF : Nat → List Nat → Nat → List Fd × Nat
  | 0, ns, p => if p < ns.length then ([], (nextN ns p).2.2) else ([], 0)
  | f + 1, ns, p =>
    if p < ns.length ∧ p < (nextN ns p).2.1 ∧ (nextN ns p).2.2 = 0 then
      let x := getAF f ns (nextN ns p).2.1
      if x.2 = 0 then ((nextN ns p).1 :: x.1, 0) else ([], x.2)
    else if p < ns.length then ([], (nextN ns p).2.2) else ([], 0)
/-- The fields from a place on, and how it ends. -/
def getA (ns : List Nat) (p : Nat) : List Fd × Nat := getAF (ns.length - p) ns p
theorem getAF_fuel (f : Nat) : ∀ (g : Nat) (ns : List Nat) (p : Nat), ns.length - p ≤ f → ns.length - p ≤ g → getAF f ns p = getAF g ns p := by
  induction f with
  | zero =>
    intro g ns p h1 _
    have h : ¬ p < ns.length := by omega
    cases g with
    | zero => rfl
    | succ g => simp only [getAF]; rw [if_neg h, if_neg (fun x => h x.1)]
  | succ f ih =>
    intro g ns p h1 h2
    cases g with
    | zero =>
      have h : ¬ p < ns.length := by omega
      simp only [getAF]; rw [if_neg (fun x => h x.1), if_neg h]
    | succ g =>
      simp only [getAF]
      by_cases h : p < ns.length ∧ p < (nextN ns p).2.1 ∧ (nextN ns p).2.2 = 0
      · rw [if_pos h, if_pos h, ih g ns (nextN ns p).2.1 (by omega) (by omega)]
      · rw [if_neg h, if_neg h]
theorem getA_eq (ns : List Nat) (p : Nat) : getA ns p = if p < ns.length ∧ p < (nextN ns p).2.1 ∧ (nextN ns p).2.2 = 0 then
    let x := getA ns (nextN ns p).2.1
    if x.2 = 0 then ((nextN ns p).1 :: x.1, 0) else ([], x.2)
  else if p < ns.length then ([], (nextN ns p).2.2) else ([], 0) := by
  unfold getA
  cases e : ns.length - p with
  | zero =>
    have h : ¬ p < ns.length := by omega
    simp only [getAF]; rw [if_neg h, if_neg (fun x => h x.1)]
  | succ f =>
    simp only [getAF]
    by_cases h : p < ns.length ∧ p < (nextN ns p).2.1 ∧ (nextN ns p).2.2 = 0
    · rw [if_pos h, if_pos h, getAF_fuel f (ns.length - (nextN ns p).2.1) ns (nextN ns p).2.1 (by omega) (Nat.le_refl _)]
    · rw [if_neg h, if_neg h]
/-- With fields ahead. -/
def joinA (acc : List Fd) (x : List Fd × Nat) : List Fd × Nat := if x.2 = 0 then (acc ++ x.1, 0) else ([], x.2)
theorem getA_end {ns : List Nat} {p : Nat} (h : ns.length ≤ p) : getA ns p = ([], 0) := by
  rw [getA_eq, if_neg (by omega), if_neg (by omega)]
theorem getA_err {ns : List Nat} {p q e : Nat} {r : Fd} (h : p < ns.length) (hx : nextN ns p = (r, q, e)) (he : e ≠ 0) : getA ns p = ([], e) := by
  rw [getA_eq, if_neg (by rw [hx]; simp; omega), if_pos h, hx]
theorem getA_on {ns : List Nat} {p q : Nat} {r : Fd} (h : p < ns.length) (hx : nextN ns p = (r, q, 0)) (hb : ∀ n ∈ ns, n < 256) : getA ns p = joinA [r] (getA ns q) := by
  have := (nextN_bd hx hb (by omega)).1
  rw [getA_eq, if_pos (by rw [hx]; exact ⟨h, this, rfl⟩), hx]
  simp only [joinA, List.singleton_append]
theorem joinA_join (a b : List Fd) (x : List Fd × Nat) : joinA a (joinA b x) = joinA (a ++ b) x := by
  unfold joinA
  by_cases h : x.2 = 0
  · simp [h]
  · simp [h]
theorem joinA_nil (x : List Fd × Nat) (h : x.2 ≠ 0 → x.1 = []) : joinA [] x = x := by
  unfold joinA
  split <;> rename_i h2
  · rw [List.nil_append]; exact Prod.ext rfl h2.symm
  · exact Prod.ext (h h2).symm rfl
theorem getA_nil (ns : List Nat) (p : Nat) : (getA ns p).2 ≠ 0 → (getA ns p).1 = [] := by
  rw [getA_eq]
  split
  · dsimp only
    split
    · intro h; exact absurd rfl h
    · intro _; rfl
  · split <;> intro _ <;> rfl
theorem getA_len {ns : List Nat} (hb : ∀ n ∈ ns, n < 256) : ∀ k p, ns.length - p ≤ k → (getA ns p).1.length ≤ ns.length - p
  | 0, p, h => by rw [getA_end (by omega)]; simp
  | k + 1, p, h => by
    by_cases hp : p < ns.length
    · obtain ⟨⟨r, q, e⟩, hx⟩ : ∃ x, nextN ns p = x := ⟨_, rfl⟩
      by_cases he : e = 0
      · subst he
        have hq := nextN_bd hx hb (by omega)
        have ih := getA_len hb k q (by omega)
        rw [getA_on hp hx hb, joinA]
        split
        · simp; omega
        · simp
      · rw [getA_err hp hx he]; simp
    · rw [getA_end (by omega)]; simp
/-- All fields that bytes are. -/
def getL (ns : List Nat) : List Fd × Nat := if 4096 < ns.length then ([], 4) else getA ns 0
theorem getL_len {ns : List Nat} (hb : ∀ n ∈ ns, n < 256) : (getL ns).1.length ≤ 4096 := by
  rw [getL]
  split
  · simp
  · have := getA_len hb ns.length 0 (by omega); omega
end Go.Proofs.Ytkmdaopmmfdpgaa

/- Values as bytes, in plain words. -/
namespace Go.Proofs.Ytkmdaopmmfdpgaa
set_option linter.unusedVariables false
set_option linter.unusedSimpArgs false

/-- A tree as a field: the field, or an error. -/
def flE (B : Tr → List Nat × Nat) (tag : Int) (x : Tr) : Fd × Nat :=
  if x.kind = 1 then (⟨tag, 0, x.n, ⟨#[]⟩⟩, 0)
  else if x.kind = 2 then (if 4096 < x.s.size then (fd0, 4) else (⟨tag, 1, 0, x.s⟩, 0))
  else if (B x).2 ≠ 0 then (fd0, (B x).2) else (⟨tag, 1, 0, strN (B x).1⟩, 0)
/-- The first error. -/
def errE : List (Fd × Nat) → Nat
  | [] => 0
  | p :: l => if p.2 = 0 then errE l else p.2
def enE (B : Tr → List Nat × Nat) (e : Int × List Tr) : List (Fd × Nat) := e.2.map (flE B e.1)
def fsE (B : Tr → List Nat × Nat) (es : List (Int × List Tr)) : List (Fd × Nat) := es.flatMap (enE B)
/-- A message's fields, or an error. -/
def rwE (B : Tr → List Nat × Nat) (t : Tr) : List Fd × Nat :=
  if errE (fsE B t.es) ≠ 0 then ([], errE (fsE B t.es)) else (sortF ((fsE B t.es).map (·.1) ++ t.rest), 0)
def ofR (r : List Fd × Nat) : List Nat × Nat := if r.2 ≠ 0 then ([], r.2) else putL r.1
/-- A message's bytes, or an error (down to n). -/
def bytE : Nat → Tr → List Nat × Nat
  | 0, _ => ([], 0)
  | n + 1, t => ofR (rwE (bytE n) t)
/-- What Raws and Encode answer. -/
def rawsA (n : Nat) (t : Tr) : List Fd × Nat := if t.kind = 3 ∧ chkN n t = true then rwE (bytE (n - 1)) t else ([], 1)
def encA (n : Nat) (t : Tr) : List Nat × Nat := ofR (rawsA n t)

theorem flE_congr {B B' : Tr → List Nat × Nat} {tag : Int} {x : Tr} (h : B x = B' x) : flE B tag x = flE B' tag x := by
  unfold flE; rw [h]
theorem fsE_congr {B B' : Tr → List Nat × Nat} {es : List (Int × List Tr)} (h : ∀ e ∈ es, ∀ x ∈ e.2, B x = B' x) : fsE B es = fsE B' es := by
  unfold fsE
  induction es with
  | nil => rfl
  | cons e l ih =>
    rw [List.flatMap_cons, List.flatMap_cons, ih fun e' he => h e' (List.mem_cons_of_mem _ he)]
    congr 1
    unfold enE
    exact List.map_congr_left fun x hx => flE_congr (h e (List.mem_cons_self ..) x hx)
theorem rwE_congr {B B' : Tr → List Nat × Nat} {t : Tr} (h : ∀ e ∈ t.es, ∀ x ∈ e.2, B x = B' x) : rwE B t = rwE B' t := by
  unfold rwE; rw [fsE_congr h]
theorem bytE_more : ∀ (n m : Nat) (t : Tr), DpN n t → DpN m t → bytE n t = bytE m t
  | 0, _, _, h, _ => h.elim
  | _ + 1, 0, _, _, h => h.elim
  | n + 1, m + 1, t, h, k => by
    simp only [bytE]
    rw [rwE_congr fun e he x hx => bytE_more n m x (h e he x hx) (k e he x hx)]
theorem bytE_parts {n : Nat} {t u : Tr} (h1 : t.es = u.es) (h2 : t.rest = u.rest) : bytE n t = bytE n u := by
  cases n with
  | zero => rfl
  | succ n => simp only [bytE, rwE, h1, h2]
theorem DpN.parts {n : Nat} {t u : Tr} (h1 : t.es = u.es) (h : DpN n t) : DpN n u := by
  cases n with
  | zero => exact h
  | succ n =>
    intro e he
    rw [← h1] at he
    exact h e he
theorem errE_app (a b : List (Fd × Nat)) : errE (a ++ b) = if errE a = 0 then errE b else errE a := by
  induction a with
  | nil => rfl
  | cons p a ih =>
    have h1 : ∀ l, errE (p :: l) = if p.2 = 0 then errE l else p.2 := fun _ => rfl
    rw [List.cons_append, h1, h1]
    by_cases h : p.2 = 0
    · simp [h, ih]
    · simp [h]
theorem errE_one (p : Fd × Nat) : errE [p] = p.2 := by
  simp only [errE]; split <;> simp_all
theorem errE_all {l : List (Fd × Nat)} (h : errE l = 0) : ∀ p ∈ l, p.2 = 0 := by
  induction l with
  | nil => intro p hp; cases hp
  | cons q l ih =>
    intro p hp
    simp only [errE] at h
    split at h
    · rcases List.mem_cons.1 hp with rfl | hp
      · assumption
      · exact ih h p hp
    · exact absurd h (by assumption)
theorem fsE_app (B : Tr → List Nat × Nat) (a b : List (Int × List Tr)) : fsE B (a ++ b) = fsE B a ++ fsE B b := by simp [fsE]
theorem fsE_one (B : Tr → List Nat × Nat) (e : Int × List Tr) : fsE B [e] = enE B e := by simp [fsE]
theorem fsE_len (B : Tr → List Nat × Nat) (es : List (Int × List Tr)) : (fsE B es).length = (subs es).length := by
  induction es with
  | nil => rfl
  | cons e l ih =>
    unfold fsE subs at *
    rw [List.flatMap_cons, List.flatMap_cons, List.length_append, List.length_append, ih]
    simp [enE]
/-- What has been read of the entries up to one's tree. -/
def uptE (B : Tr → List Nat × Nat) (es : List (Int × List Tr)) (i k : Nat) : List (Fd × Nat) := fsE B (es.take i) ++ ((es[i]?.map fun e => (e.2.take k).map (flE B e.1)).getD [])
theorem uptE_zero (B : Tr → List Nat × Nat) (es : List (Int × List Tr)) (i : Nat) : uptE B es i 0 = fsE B (es.take i) := by
  unfold uptE; cases es[i]? <;> simp
theorem uptE_step {B : Tr → List Nat × Nat} {es : List (Int × List Tr)} {i k : Nat} {e : Int × List Tr} {x : Tr} (hi : es[i]? = some e) (hk : e.2[k]? = some x) : uptE B es i (k + 1) = uptE B es i k ++ [flE B e.1 x] := by
  obtain ⟨hl, rfl⟩ := List.getElem?_eq_some_iff.1 hk
  unfold uptE
  rw [hi]
  simp only [Option.map_some, Option.getD_some, List.append_assoc]
  rw [List.take_succ_eq_append_getElem hl, List.map_append]
  rfl
theorem uptE_end {B : Tr → List Nat × Nat} {es : List (Int × List Tr)} {i : Nat} {e : Int × List Tr} (hi : es[i]? = some e) : uptE B es i e.2.length = fsE B (es.take (i + 1)) := by
  obtain ⟨hl, rfl⟩ := List.getElem?_eq_some_iff.1 hi
  unfold uptE
  rw [hi, List.take_succ_eq_append_getElem hl, fsE_app, fsE_one]
  simp only [Option.map_some, Option.getD_some, List.take_length, enE]
/-- Where the rest does not matter: an error. -/
theorem errE_hit {B : Tr → List Nat × Nat} {es : List (Int × List Tr)} {i k : Nat} {e : Int × List Tr} {x : Tr} (hi : es[i]? = some e) (hk : e.2[k]? = some x) (h0 : errE (uptE B es i k) = 0) (hx : (flE B e.1 x).2 ≠ 0) : errE (fsE B es) = (flE B e.1 x).2 := by
  have h1 : fsE B es = fsE B (es.take i) ++ enE B e ++ fsE B (es.drop (i + 1)) := by
    obtain ⟨hl, rfl⟩ := List.getElem?_eq_some_iff.1 hi
    rw [← fsE_one, ← fsE_app, ← fsE_app]
    congr 1
    rw [List.append_assoc, List.singleton_append, ← List.drop_eq_getElem_cons hl, List.take_append_drop]
  have h2 : enE B e = (e.2.take k).map (flE B e.1) ++ flE B e.1 x :: (e.2.drop (k + 1)).map (flE B e.1) := by
    obtain ⟨hl, rfl⟩ := List.getElem?_eq_some_iff.1 hk
    have h3 : e.2 = e.2.take k ++ (e.2[k] :: e.2.drop (k + 1)) := by rw [← List.drop_eq_getElem_cons hl, List.take_append_drop]
    unfold enE
    conv => lhs; rw [h3]
    rw [List.map_append, List.map_cons]
  have h3 : fsE B es = uptE B es i k ++ (flE B e.1 x :: ((e.2.drop (k + 1)).map (flE B e.1) ++ fsE B (es.drop (i + 1)))) := by
    rw [h1, h2]
    unfold uptE
    rw [hi]
    simp
  rw [h3, errE_app, if_pos h0, errE, if_neg hx]
theorem rwE_ok {B : Tr → List Nat × Nat} {t : Tr} (h : errE (fsE B t.es) = 0) : rwE B t = (sortF ((fsE B t.es).map (·.1) ++ t.rest), 0) := by
  unfold rwE; rw [if_neg (by omega)]
theorem rwE_no {B : Tr → List Nat × Nat} {t : Tr} (h : errE (fsE B t.es) ≠ 0) : rwE B t = ([], errE (fsE B t.es)) := by
  unfold rwE; rw [if_pos h]
theorem putL_none {rs : List Fd} (h : (putL rs).2 ≠ 0) : (putL rs).1 = [] := by
  unfold putL at h ⊢
  split
  · split
    · rename_i h1 h2; rw [if_pos h1, if_pos h2] at h; exact absurd rfl h
    · rfl
  · rfl
theorem ofR_none {r : List Fd × Nat} (h : (ofR r).2 ≠ 0) : (ofR r).1 = [] := by
  unfold ofR at h ⊢
  split
  · rfl
  · rename_i h1; rw [if_neg h1] at h; exact putL_none h
theorem bytE_none {n : Nat} {t : Tr} (h : (bytE n t).2 ≠ 0) : (bytE n t).1 = [] := by
  cases n with
  | zero => rfl
  | succ n => exact ofR_none h
theorem putL_le (rs : List Fd) : (putL rs).1.length ≤ 4096 := by
  unfold putL
  split
  · split
    · assumption
    · simp
  · simp
theorem bytE_le (n : Nat) (t : Tr) : (bytE n t).1.length ≤ 4096 := by
  cases n with
  | zero => simp [bytE]
  | succ n =>
    simp only [bytE, ofR]
    split
    · simp
    · exact putL_le _
theorem flE_64 {B : Tr → List Nat × Nat} {tag : Int} {x : Tr} (h : Is64 x.n) : Is64 (flE B tag x).1.n := by
  unfold flE
  split
  · exact h
  · split
    · split <;> (unfold Is64; simp [fd0])
    · split <;> (unfold Is64; simp [fd0])
end Go.Proofs.Ytkmdaopmmfdpgaa

/- What has been encoded: a map by what a message is known again. -/
namespace Go.Proofs.Ytkmdaopmmfdpgaa
open Go.ChangeShapes Go.WideShapes Go.ChangeAt Go.RowKit
set_option linter.unusedVariables false
set_option linter.unusedSimpArgs false
set_option maxRecDepth 20000

abbrev Id2 : Type := Pl × Pl
def idV (x : Id2) : Value := .agg #[.pointer x.1.1, .int .i64 (x.1.2 : Int), .pointer x.2.1, .int .i64 (x.2.2 : Int)]
def IdOk2 (w : World) (x : Id2) : Prop := PlOk w x.1 ∧ PlOk w x.2
theorem idV_inj {x y : Id2} : idV x = idV y ↔ x = y := by
  obtain ⟨⟨p1, c1⟩, ⟨p2, c2⟩⟩ := x
  obtain ⟨⟨q1, d1⟩, ⟨q2, d2⟩⟩ := y
  simp [idV]
  constructor
  · rintro ⟨h4, h5, h6, h7⟩; exact ⟨⟨h4, by omega⟩, h6, by omega⟩
  · rintro ⟨⟨h4, h5⟩, h6, h7⟩; exact ⟨h4, by omega, h6, by omega⟩
set_option maxHeartbeats 1000000 in
theorem eql_id (w : World) (x y : Id2) (hx : IdOk2 w x) (hy : IdOk2 w y) : (Op.equal 98 (idV x) (idV y)).run Try.prog w = .ok (decide (x = y)) w := by
  obtain ⟨⟨p1, c1⟩, ⟨p2, c2⟩⟩ := x
  obtain ⟨⟨q1, d1⟩, ⟨q2, d2⟩⟩ := y
  have h1 := fun d => eql_ptr w d p1 q1 hx.1 hy.1
  have h2 := fun d => eql_ptrR w d p2 q2 hx.2 hy.2
  by_cases e5 : p1 = q1
  · by_cases e6 : c1 = d1
    · by_cases e7 : p2 = q2
      · by_cases e8 : c2 = d2
        · subst e5 e6 e7 e8
          simp [idV, Op.equal, Op.maxDepth, go_sem, h1, h2]
        · have e9 : ¬ (c2 : Int) = (d2 : Int) := by omega
          subst e5 e6 e7
          simp [idV, Op.equal, Op.maxDepth, go_sem, h1, h2, e8, e9]
      · subst e5 e6
        simp [idV, Op.equal, Op.maxDepth, go_sem, h1, h2, e7]
    · have e9 : ¬ (c1 : Int) = (d1 : Int) := by omega
      subst e5
      simp [idV, Op.equal, Op.maxDepth, go_sem, h1, h2, e6, e9]
  · simp [idV, Op.equal, Op.maxDepth, go_sem, h1, h2, e5]
theorem check_id (w : World) (b : Bool) (x : Id2) : (Instr.checkKey b 10000 98 (idV x)).run Try.prog w = .ok () w := by kernel_rfl
theorem same_id (n : Nat) (x : Id2) : Instr.sameBits (n + 1) (idV x) (idV x) = true := by
  simp [idV, Instr.sameBits]
theorem uMade : Try.prog.underlying 51 = some (.map 98 101) := by kernel_rfl
theorem zeroEd (w : World) : (zeroValue 101).run Try.prog w = .ok (.agg #[.string ⟨#[]⟩]) w := by kernel_rfl
theorem told_id {w : World} {x : Id2} {L : List (Id2 × ByteArray)} (hx : IdOk2 w x) (hL : ∀ y ∈ L, IdOk2 w y.1) : Told 98 w (idV x) ((L.map fun y => (idV y.1, Value.agg #[.string y.2])).map Prod.fst) := by
  intro q hq
  obtain ⟨p, hp, rfl⟩ := List.mem_map.1 hq
  obtain ⟨y, hy, rfl⟩ := List.mem_map.1 hp
  have h := eql_id w x y.1 hx (hL y hy)
  constructor
  · intro e
    rw [h, decide_eq_true (idV_inj.1 e)]
  · intro e
    rw [h, decide_eq_false]
    exact fun e' => e (idV_inj.2 e')
/-- A tree with its identity. -/
def TrJ (n : Nat) (w : World) (x : Id2) (t : Tr) : Prop := ∃ ve vr, x = (plOf ve, plOf vr) ∧ TrR n w [.int .i64 t.kind, .int .i64 t.n, .string t.s, ve, vr] t
theorem TrJ.cel {n : Nat} {w w1 : World} {x : Id2} {t : Tr} (h : TrJ n w x t) (hb : Cel w w1) : TrJ n w1 x t := by
  obtain ⟨ve, vr, h1, h2⟩ := h
  exact ⟨ve, vr, h1, h2.cel hb⟩
theorem TrJ.dp {n : Nat} {w : World} {x : Id2} {t : Tr} (h : TrJ n w x t) : DpN n t := by
  obtain ⟨ve, vr, h1, h2⟩ := h
  exact h2.dp
theorem TrJ.ok {n : Nat} {w : World} {x : Id2} {t : Tr} (h : TrJ n w x t) : IdOk2 w x := by
  obtain ⟨ve, vr, rfl, h⟩ := h
  cases n with
  | zero => exact h.elim
  | succ n =>
    obtain ⟨ve', vr', e, h2, h3, h4, h5, h6, h7, h8, h9⟩ := h
    simp only [List.cons.injEq, and_true] at e
    obtain ⟨-, -, -, rfl, rfl⟩ := e
    exact ⟨plOf_ok h8 h7, plOf_ok4 h9 h6⟩
/-- One identity, the same entries and rest. -/
theorem TrJ.uniq {n m : Nat} {w : World} {x : Id2} {t u : Tr} (h : TrJ n w x t) (k : TrJ m w x u) : t.es = u.es ∧ t.rest = u.rest := by
  obtain ⟨ve, vr, e, h⟩ := h
  obtain ⟨ve', vr', e', k⟩ := k
  cases n with
  | zero => exact h.elim
  | succ n =>
    cases m with
    | zero => exact k.elim
    | succ m =>
      obtain ⟨q1, q2, e1, _, _, _, _, h6, h7, _, _⟩ := h
      obtain ⟨q1', q2', e1', _, _, _, _, k6, k7, _, _⟩ := k
      simp only [List.cons.injEq, and_true] at e1 e1'
      obtain ⟨-, -, -, rfl, rfl⟩ := e1
      obtain ⟨-, -, -, rfl, rfl⟩ := e1'
      rw [e] at e'
      simp only [Prod.mk.injEq] at e'
      exact ⟨pl_uniq (EnC.trQ h7) (EnC.trQ k7) e'.1, pl_uniq4 h6 k6 e'.2⟩
theorem TrW.trJ {n : Nat} {w : World} {t : Tr} {K N : Int} {S : ByteArray} {a1 a2 : Option Addr} {n1 c1 n2 c2 : Nat} (h : TrW n w (.agg #[.int .i64 K, .int .i64 N, .string S, .slice a1 n1 c1, .slice a2 n2 c2]) t) : TrJ n w (plOf (.slice a1 n1 c1), plOf (.slice a2 n2 c2)) t := by
  obtain ⟨p1, p2, p3, p4, p5⟩ := h.parts
  obtain ⟨r, e, h⟩ := h
  have e1 : r = [.int .i64 K, .int .i64 N, .string S, .slice a1 n1 c1, .slice a2 n2 c2] := by simpa using congrArg (fun v => match v with | .agg a => a.toList | _ => []) e.symm
  subst e1
  refine ⟨.slice a1 n1 c1, .slice a2 n2 c2, rfl, ?_⟩
  rw [p1, p2, p3]
  exact h
/-- What is known, in block b: messages' bytes; all of them were there in W0. -/
def KnE (W0 w : World) (b : Nat) : Prop := W0.heap.size ≤ b ∧ ∃ L : List (Id2 × ByteArray), PlMap w b (L.map fun y => (idV y.1, Value.agg #[.string y.2])) ∧ ∀ y ∈ L, ∃ n t ns, TrJ n W0 y.1 t ∧ bytE n t = (ns, 0) ∧ y.2 = strN ns
theorem KnE.lt {W0 w : World} {b : Nat} (h : KnE W0 w b) : b < w.heap.size := by
  obtain ⟨_, L, h1, _⟩ := h
  exact h1.lt
theorem KnE.kp {S : Nat → Prop} {W0 w w1 : World} {b : Nat} (h : KnE W0 w b) (hk : Kp S w w1) (hs : ¬ S b) : KnE W0 w1 b := by
  obtain ⟨h0, L, h1, h2⟩ := h
  exact ⟨h0, L, h1.kp hk hs, h2⟩
theorem KnE.below {W0 w w1 : World} {b : Nat} (h : KnE W0 w b) (hb : Below w.heap.size w w1) : KnE W0 w1 b := h.kp (S := fun _ => False) (Kp.ofBelow hb) (fun e => e)
theorem KnE.neB {W0 w : World} {b : Nat} (h : KnE W0 w b) {g : Nat} {cs : Array Value} {t : TypeId} {fz : Nat × Nat} (hc : w.heap[g]? = some (.cells cs t fz)) : g ≠ b := by
  obtain ⟨_, L, h1, _⟩ := h
  exact h1.neB hc
theorem KnE.made {W0 w : World} (h : W0.heap.size ≤ w.heap.size) : KnE W0 (w.alloc (.map #[] 0)) w.heap.size := ⟨h, [], PlMap.made w, by simp⟩
theorem KnE.frame {W0 w w1 : World} {b : Nat} (h : KnE W0 w b) (h0 : Below W0.heap.size W0 w) (hk : Kp (fun q => q = b) w w1) : Below W0.heap.size W0 w1 :=
  h0.trans (hk.toBelow h0.size fun k e => by rw [e]; exact h.1)
/-- A look at what is known. -/
theorem KnE.look {W0 w : World} {b n : Nat} (h : KnE W0 w b) (h0 : Below W0.heap.size W0 w) {x : Id2} {t : Tr} (hx : TrJ n W0 x t) :
    (∃ ns, (Instr.lookup 51 (.map (some b)) (idV x) true).run Try.prog w = .ok (.tuple #[.agg #[.string (strN ns)], .bool true]) w ∧ bytE n t = (ns, 0)) ∨
    (Instr.lookup 51 (.map (some b)) (idV x) true).run Try.prog w = .ok (.tuple #[.agg #[.string ⟨#[]⟩], .bool false]) w := by
  obtain ⟨_, L, h1, h2⟩ := h
  have hT := told_id (L := L) (hx.cel (Cel.ofBelow h0)).ok fun y hy => by
    obtain ⟨n, t, ns, g1, g2⟩ := h2 y hy
    exact (g1.cel (Cel.ofBelow h0)).ok
  rcases look_map (k := idV x) uMade zeroEd Try.underlying98 (fun _ _ => rfl) (ks := #[.pointer x.1.1, .int .i64 (x.1.2 : Int), .pointer x.2.1, .int .i64 (x.2.2 : Int)]) rfl (fun e => check_id w e x) h1 hT with ⟨v, hv, hr⟩ | ⟨_, hr⟩
  · obtain ⟨y, hy, e⟩ := List.mem_map.1 hv
    simp only [Prod.mk.injEq] at e
    obtain ⟨e1, rfl⟩ := e
    obtain ⟨m, u, ns, g1, g2, g3⟩ := h2 y hy
    rw [idV_inj.1 e1] at g1
    obtain ⟨u1, u2⟩ := hx.uniq g1
    refine .inl ⟨ns, by rw [hr, g3], ?_⟩
    rw [bytE_more n m t hx.dp (g1.dp.parts u1.symm), bytE_parts u1 u2]
    exact g2
  · exact .inr hr
/-- A message more. -/
theorem KnE.update {W0 w : World} {b n : Nat} (h : KnE W0 w b) (h0 : Below W0.heap.size W0 w) {x : Id2} {t : Tr} {ns : List Nat} (hx : TrJ n W0 x t) (hv : bytE n t = (ns, 0)) :
    ∃ w', (Instr.mapUpdate 51 (.map (some b)) (idV x) (.agg #[.string (strN ns)])).run Try.prog w = .ok () w' ∧ KnE W0 w' b ∧ Kp (fun q => q = b) w w' := by
  have hK := h
  obtain ⟨hz, L, h1, h2⟩ := h
  have hT := told_id (L := L) (hx.cel (Cel.ofBelow h0)).ok fun y hy => by
    obtain ⟨n, t, ns, g1, g2⟩ := h2 y hy
    exact (g1.cel (Cel.ofBelow h0)).ok
  obtain ⟨w', L', e1, e2, e3, _, _, e4, _⟩ := update_map (k := idV x) uMade Try.underlying98 (fun _ _ => rfl) (ks := #[.pointer x.1.1, .int .i64 (x.1.2 : Int), .pointer x.2.1, .int .i64 (x.2.2 : Int)]) rfl (same_id 9999 x) (fun e => check_id w e x) h1 hT (.agg #[.string (strN ns)])
  refine ⟨w', e1, ?_, e4⟩
  have hall : ∀ p ∈ L', ∃ y : Id2 × ByteArray, p = (idV y.1, Value.agg #[.string y.2]) ∧ ∃ n t ns, TrJ n W0 y.1 t ∧ bytE n t = (ns, 0) ∧ y.2 = strN ns := fun p hp => by
    rcases e3 p hp with hp | rfl
    · obtain ⟨y, hy, rfl⟩ := List.mem_map.1 hp
      exact ⟨y, rfl, h2 y hy⟩
    · exact ⟨(x, strN ns), rfl, n, t, ns, hx, hv, rfl⟩
  have hex : ∀ l : List (Value × Value), (∀ p ∈ l, ∃ y : Id2 × ByteArray, p = (idV y.1, Value.agg #[.string y.2]) ∧ ∃ n t ns, TrJ n W0 y.1 t ∧ bytE n t = (ns, 0) ∧ y.2 = strN ns) → ∃ M : List (Id2 × ByteArray), l = (M.map fun y => (idV y.1, Value.agg #[.string y.2])) ∧ ∀ y ∈ M, ∃ n t ns, TrJ n W0 y.1 t ∧ bytE n t = (ns, 0) ∧ y.2 = strN ns := fun l => by
    induction l with
    | nil => exact fun _ => ⟨[], rfl, by simp⟩
    | cons p l ih =>
      intro hl
      obtain ⟨M, g1, g2⟩ := ih fun p hp => hl p (List.mem_cons_of_mem _ hp)
      obtain ⟨y, g3, g4⟩ := hl p (List.mem_cons_self ..)
      refine ⟨y :: M, by rw [List.map_cons, ← g1, ← g3], fun z hz => ?_⟩
      rcases List.mem_cons.1 hz with rfl | hz
      · exact g4
      · exact g2 z hz
  obtain ⟨M, g1, g2⟩ := hex L' hall
  exact ⟨hz, M, g1 ▸ e2, g2⟩
end Go.Proofs.Ytkmdaopmmfdpgaa

/- A region that draws its order, walked by hand: operations taken first under a condition on the world that may be made stronger on the way. -/
namespace Go.Proofs.Ytkmdaopmmfdpgaa
set_option linter.unusedVariables false
set_option linter.unusedSimpArgs false

theorem rg_weaken {P : Program} {md : Region.Mode} {ops : Array Oper} {Q : Exit → Act → World → Prop} {S S' : World → Prop} (hS : ∀ w, S' w → S w) :
    ∀ (fuel : Nat) (listed : Array Bool) (a : Act) (w : World), wpAnyH P md ops Q S' fuel listed a w → wpAnyH P md ops Q S fuel listed a w
  | 0, _, _, _, h => h
  | fuel + 1, _, _, _, h => ⟨h.1, fun i hi => wpOp_mono (fun a' w' h' => ⟨hS _ h'.1, rg_weaken hS fuel _ a' w' h'.2⟩) (h.2 i hi)⟩

theorem rg_take {P : Program} {md : Region.Mode} {ops : Array Oper} {Q : Exit → Act → World → Prop} {S : World → Prop} {oi : Oper} {fuel : Nat} {listed listed' : Array Bool} {a : Act} {w : World} (i d : Nat) (v : Value) (tmps' : Array Value) (hi : ops[i]? = some oi) (hd : oi.dst = some d)
    (hs : Region.noSelect ops = true) (hf : Region.free md ops listed i = true) (hr : (Region.ready md ops listed).contains i = true)
    (hQ : ∀ c a w, Q (.panic c) (a.put oi.dst v) w → Q (.panic c) a w) (hwt : Region.wanted oi (yielded ops a.tmps) = true) (hy : ∀ w, S w → (execOp a.eval oi).run P w = .ok (.value v) w) (hS : S w)
    (hl : listed.setIfInBounds i true = listed') (ht : a.tmps.setIfInBounds d v = tmps')
    (h : wpAnyH P md ops Q S fuel listed' { a with tmps := tmps' } w) : wpAnyH P md ops Q S (fuel + 1) listed a w := by
  subst hl ht
  refine wpAnyH_take hi hs hf hr hQ (.inl ⟨hwt, hy⟩) hS ?_
  rw [hd]
  exact h

theorem rg_call {P : Program} {md : Region.Mode} {ops : Array Oper} {Q : Exit → Act → World → Prop} {S : World → Prop} {oi : Oper} {fuel : Nat} {listed listed' : Array Bool} {a : Act} {w : World} (i d f : Nat) (vals : Array Value) (hi : ops[i]? = some oi) (hd : oi.dst = some d)
    (hr : Region.ready md ops listed = [i]) (hwt : Region.wanted oi (yielded ops a.tmps) = true) (hl : listed.setIfInBounds i true = listed') (hx : ∀ w, (execOp a.eval oi).run P w = .ok (.enter f vals) w)
    (h : Calls P f vals w fun e w' => ∃ v, e = .returned v ∧ S w' ∧ wpAnyH P md ops Q S fuel listed' { a with tmps := a.tmps.setIfInBounds d v } w') : wpAnyH P md ops Q S (fuel + 1) listed a w := by
  subst hl
  refine wpAnyH_ready (rs := [i]) hr (by simp) (AllReadyH.cons hi (fun K hK => ?_) AllReadyH.nil)
  rw [if_pos hwt]
  unfold Oper.wp
  rw [hx]
  refine Calls.mono h ?_
  rintro e w' ⟨v, rfl, hS, h'⟩
  refine hK.out _ _ hS (fun _ => ?_)
  rw [hd]
  exact h'

/-- One operation alone is ready, and is carried out: it may turn the world. -/
theorem rg_run {P : Program} {md : Region.Mode} {ops : Array Oper} {Q : Exit → Act → World → Prop} {S : World → Prop} {oi : Oper} {fuel : Nat} {listed listed' : Array Bool} {a : Act} {w : World} (i d : Nat) (v : Value) (w' : World) (hi : ops[i]? = some oi) (hd : oi.dst = some d)
    (hr : Region.ready md ops listed = [i]) (hwt : Region.wanted oi (yielded ops a.tmps) = true) (hl : listed.setIfInBounds i true = listed') (hx : (execOp a.eval oi).run P w = .ok (.value v) w') (hS : S w')
    (h : wpAnyH P md ops Q S fuel listed' { a with tmps := a.tmps.setIfInBounds d v } w') : wpAnyH P md ops Q S (fuel + 1) listed a w := by
  subst hl
  refine wpAnyH_ready (rs := [i]) hr (by simp) (AllReadyH.cons hi (fun K hK => ?_) AllReadyH.nil)
  rw [if_pos hwt]
  unfold Oper.wp
  rw [hx]
  refine hK.out _ _ hS (fun _ => ?_)
  rw [hd]
  exact h

/-- What an append does, as the operation of a region. -/
theorem append_run {P : Program} {a : Act} {w w' : World} {o : Oper} {s x : Operand} {t u : TypeId} {v y v' : Value} (ho : o.op = .call { callee := .builtin .append, args := #[s, x], argTypes := #[t, u] }) (hs : a.eval s = v) (hx : a.eval x = y)
    (hr : (Builtin.append_ #[t, u] o.type #[v, y]).run P w = .ok v' w') : (execOp a.eval o).run P w = .ok (.value v') w' := by
  unfold execOp
  simp only [ho, resolve, invoke, builtin, Sem.run_bind, Sem.run_pure, Result.andThen_ok, List.map_toArray, List.map_cons, List.map_nil, hs, hx, hr]
end Go.Proofs.Ytkmdaopmmfdpgaa

/- A region that draws its order in which a load, a call and a new block come before an append: all its orders come to one. -/
namespace Go.Proofs.Ytkmdaopmmfdpgaa
set_option linter.unusedVariables false
set_option linter.unusedSimpArgs false

theorem set_comm2 {α : Type} (a : Array α) {i j : Nat} (h : i ≠ j) (x y : α) : (a.setIfInBounds i x).setIfInBounds j y = (a.setIfInBounds j y).setIfInBounds i x := by
  apply Array.ext_getElem?
  intro k
  simp only [Array.getElem?_setIfInBounds, Array.size_setIfInBounds]
  by_cases h1 : i = k
  · subst h1
    by_cases h2 : j = i
    · exact absurd h2.symm h
    · simp [h2]
  · by_cases h2 : j = k <;> simp [h1, h2]

theorem rg_lcb {P : Program} {md : Region.Mode} {ops : Array Oper} {Q : Exit → Act → World → Prop} {fuel : Nat} {listed : Array Bool} {a : Act} {w : World} (i j k di dj dk : Nat) {oi oj ok : Oper} (vi : Value) (f : Nat) (vals : Array Value) (LD : World → Prop)
    (hi : ops[i]? = some oi) (hj : ops[j]? = some oj) (hk : ops[k]? = some ok) (hdi : oi.dst = some di) (hdj : oj.dst = some dj) (hdk : ok.dst = some dk)
    (hr0 : Region.ready md ops listed = [i, j]) (hri : Region.ready md ops (listed.setIfInBounds i true) = [j]) (hrj : Region.ready md ops (listed.setIfInBounds j true) = [i, k])
    (hrij : Region.ready md ops ((listed.setIfInBounds i true).setIfInBounds j true) = [k]) (hrjk : Region.ready md ops ((listed.setIfInBounds j true).setIfInBounds k true) = [i])
    (hwi : ∀ t, Region.wanted oi t = true) (hwj : ∀ t, Region.wanted oj t = true) (hwk : ∀ t, Region.wanted ok t = true) (hij : i ≠ j) (hik : i ≠ k) (dij : di ≠ dj) (dik : di ≠ dk)
    (hx0 : (execOp a.eval oi).run P w = .ok (.value vi) w) (hx1 : ∀ v W, LD W → (execOp ({ a with tmps := a.tmps.setIfInBounds dj v } : Act).eval oi).run P W = .ok (.value vi) W)
    (hx2 : ∀ v s W, LD W → (execOp ({ a with tmps := (a.tmps.setIfInBounds dj v).setIfInBounds dk s } : Act).eval oi).run P W = .ok (.value vi) W)
    (hxj0 : (execOp a.eval oj).run P w = .ok (.enter f vals) w) (hxj1 : ∀ W, (execOp ({ a with tmps := a.tmps.setIfInBounds di vi } : Act).eval oj).run P W = .ok (.enter f vals) W)
    (h : Calls P f vals w fun e w' => ∃ v, e = .returned v ∧ LD w' ∧ ∃ s w'', LD w'' ∧ (execOp ({ a with tmps := a.tmps.setIfInBounds dj v } : Act).eval ok).run P w' = .ok (.value s) w'' ∧
      (execOp ({ a with tmps := (a.tmps.setIfInBounds di vi).setIfInBounds dj v } : Act).eval ok).run P w' = .ok (.value s) w'' ∧
      wpAnyH P md ops Q (fun _ => True) fuel (((listed.setIfInBounds i true).setIfInBounds j true).setIfInBounds k true) { a with tmps := ((a.tmps.setIfInBounds di vi).setIfInBounds dj v).setIfInBounds dk s } w'') :
    wpAnyH P md ops Q (fun _ => True) (fuel + 3) listed a w := by
  refine wpAnyH_ready (rs := [i, j]) hr0 (by simp) (AllReadyH.cons hi (fun K hK => ?_) (AllReadyH.cons hj (fun K hK => ?_) AllReadyH.nil))
  · rw [if_pos (hwi _)]
    unfold Oper.wp
    rw [hx0]
    refine hK.out _ _ trivial (fun _ => ?_)
    rw [hdi]
    refine rg_call j dj f vals hj hdj hri (hwj _) rfl (fun W => ?_) ?_
    · exact hxj1 W
    · refine h.mono ?_
      rintro e w' ⟨v, rfl, l1, s, w'', l2, b1, b2, h3⟩
      refine ⟨v, rfl, trivial, ?_⟩
      exact rg_run k dk s w'' hk hdk hrij (hwk _) rfl b2 trivial h3
  · rw [if_pos (hwj _)]
    unfold Oper.wp
    rw [hxj0]
    refine Calls.mono h ?_
    rintro e w' ⟨v, rfl, l1, s, w'', l2, b1, b2, h3⟩
    refine hK.out _ _ trivial (fun _ => ?_)
    rw [hdj]
    refine wpAnyH_ready (rs := [i, k]) hrj (by simp) (AllReadyH.cons hi (fun K hK => ?_) (AllReadyH.cons hk (fun K hK => ?_) AllReadyH.nil))
    · rw [if_pos (hwi _)]
      unfold Oper.wp
      have hh : (execOp (Act.put a (some dj) v).eval oi).run P w' = .ok (.value vi) w' := hx1 v w' l1
      rw [hh]
      refine hK.out _ _ trivial (fun _ => ?_)
      rw [hdi, set_comm2 listed (Ne.symm hij)]
      show wpAnyH P md ops Q _ _ _ ({ a with tmps := (a.tmps.setIfInBounds dj v).setIfInBounds di vi } : Act) w'
      rw [set_comm2 a.tmps (Ne.symm dij)]
      exact rg_run k dk s w'' hk hdk hrij (hwk _) rfl b2 trivial h3
    · rw [if_pos (hwk _)]
      unfold Oper.wp
      have hh : (execOp (Act.put a (some dj) v).eval ok).run P w' = .ok (.value s) w'' := b1
      rw [hh]
      refine hK.out _ _ trivial (fun _ => ?_)
      rw [hdk]
      refine rg_run i di vi w'' hi hdi hrjk (hwi _) rfl (hx2 v s w'' l2) trivial ?_
      rw [set_comm2 _ (Ne.symm hik), set_comm2 listed (Ne.symm hij)]
      show wpAnyH P md ops Q _ _ _ ({ a with tmps := ((a.tmps.setIfInBounds dj v).setIfInBounds dk s).setIfInBounds di vi } : Act) w''
      rw [set_comm2 _ (Ne.symm dik), set_comm2 a.tmps (Ne.symm dij)]
      exact h3
/-- One operation alone is ready, and is carried out: a store. -/
theorem rg_store {P : Program} {md : Region.Mode} {ops : Array Oper} {Q : Exit → Act → World → Prop} {S : World → Prop} {oi : Oper} {fuel : Nat} {listed listed' : Array Bool} {a : Act} {w : World} (i : Nat) (w' : World) (hi : ops[i]? = some oi) (hd : oi.dst = none)
    (hr : Region.ready md ops listed = [i]) (hwt : Region.wanted oi (yielded ops a.tmps) = true) (hl : listed.setIfInBounds i true = listed') (hx : (execOp a.eval oi).run P w = .ok .skip w') (hS : S w')
    (h : wpAnyH P md ops Q S fuel listed' a w') : wpAnyH P md ops Q S (fuel + 1) listed a w := by
  subst hl
  refine wpAnyH_ready (rs := [i]) hr (by simp) (AllReadyH.cons hi (fun K hK => ?_) AllReadyH.nil)
  rw [if_pos hwt]
  unfold Oper.wp
  rw [hx]
  refine hK.out _ _ hS (fun _ => ?_)
  rw [hd]
  exact h
/-- A call and another operation are ready: each may come first. -/
theorem rg_pair {P : Program} {md : Region.Mode} {ops : Array Oper} {Q : Exit → Act → World → Prop} {fuel : Nat} {listed : Array Bool} {a : Act} {w : World} (i j di dj f : Nat) (vals : Array Value) {oi oj : Oper} (v : Value) (w1 : World)
    (hi : ops[i]? = some oi) (hj : ops[j]? = some oj) (hdi : oi.dst = some di) (hdj : oj.dst = some dj) (hr : Region.ready md ops listed = [i, j]) (hwi : ∀ t, Region.wanted oi t = true) (hwj : ∀ t, Region.wanted oj t = true)
    (hxi : (execOp a.eval oi).run P w = .ok (.enter f vals) w) (hxj : (execOp a.eval oj).run P w = .ok (.value v) w1)
    (h1 : Calls P f vals w fun e w' => ∃ u, e = .returned u ∧ wpAnyH P md ops Q (fun _ => True) fuel (listed.setIfInBounds i true) { a with tmps := a.tmps.setIfInBounds di u } w')
    (h2 : wpAnyH P md ops Q (fun _ => True) fuel (listed.setIfInBounds j true) { a with tmps := a.tmps.setIfInBounds dj v } w1) : wpAnyH P md ops Q (fun _ => True) (fuel + 1) listed a w := by
  refine wpAnyH_ready (rs := [i, j]) hr (by simp) (AllReadyH.cons hi (fun K hK => ?_) (AllReadyH.cons hj (fun K hK => ?_) AllReadyH.nil))
  · rw [if_pos (hwi _)]
    unfold Oper.wp
    rw [hxi]
    refine Calls.mono h1 ?_
    rintro e w' ⟨u, rfl, h⟩
    refine hK.out _ _ trivial (fun _ => ?_)
    rw [hdi]
    exact h
  · rw [if_pos (hwj _)]
    unfold Oper.wp
    rw [hxj]
    refine hK.out _ _ trivial (fun _ => ?_)
    rw [hdj]
    exact h2
end Go.Proofs.Ytkmdaopmmfdpgaa

/- A region that draws its order in which two loads and a call of the first's value come ahead of all else: its orders come to one. -/
namespace Go.Proofs.Ytkmdaopmmfdpgaa
set_option linter.unusedVariables false
set_option linter.unusedSimpArgs false

theorem rg_llc {P : Program} {md : Region.Mode} {ops : Array Oper} {Q : Exit → Act → World → Prop} {fuel : Nat} {listed : Array Bool} {a : Act} {w : World} (i1 i4 j d1 d4 dj : Nat) {o1 o4 oj : Oper} (v1 v4 : Value) (f : Nat) (vals : Array Value) (LD : World → Prop)
    (h1 : ops[i1]? = some o1) (h4 : ops[i4]? = some o4) (hj : ops[j]? = some oj) (hd1 : o1.dst = some d1) (hd4 : o4.dst = some d4) (hdj : oj.dst = some dj)
    (hr0 : Region.ready md ops listed = [i1, i4]) (hr1 : Region.ready md ops (listed.setIfInBounds i1 true) = [j, i4]) (hr4 : Region.ready md ops (listed.setIfInBounds i4 true) = [i1])
    (hr14 : Region.ready md ops ((listed.setIfInBounds i1 true).setIfInBounds i4 true) = [j]) (hr1j : Region.ready md ops ((listed.setIfInBounds i1 true).setIfInBounds j true) = [i4])
    (hw1 : ∀ t, Region.wanted o1 t = true) (hw4 : ∀ t, Region.wanted o4 t = true) (hwj : ∀ t, Region.wanted oj t = true) (h14 : i1 ≠ i4) (hj4 : j ≠ i4) (d14 : d1 ≠ d4) (dj4 : dj ≠ d4)
    (hx1 : (execOp a.eval o1).run P w = .ok (.value v1) w) (hx1' : (execOp ({ a with tmps := a.tmps.setIfInBounds d4 v4 } : Act).eval o1).run P w = .ok (.value v1) w)
    (hx4 : (execOp a.eval o4).run P w = .ok (.value v4) w) (hx41 : (execOp ({ a with tmps := a.tmps.setIfInBounds d1 v1 } : Act).eval o4).run P w = .ok (.value v4) w)
    (hx4j : ∀ v W, LD W → (execOp ({ a with tmps := (a.tmps.setIfInBounds d1 v1).setIfInBounds dj v } : Act).eval o4).run P W = .ok (.value v4) W)
    (hxj : ∀ W, (execOp ({ a with tmps := a.tmps.setIfInBounds d1 v1 } : Act).eval oj).run P W = .ok (.enter f vals) W) (hxj' : ∀ W, (execOp ({ a with tmps := (a.tmps.setIfInBounds d1 v1).setIfInBounds d4 v4 } : Act).eval oj).run P W = .ok (.enter f vals) W)
    (h : Calls P f vals w fun e w' => ∃ v, e = .returned v ∧ LD w' ∧ wpAnyH P md ops Q (fun _ => True) fuel (((listed.setIfInBounds i1 true).setIfInBounds i4 true).setIfInBounds j true) { a with tmps := ((a.tmps.setIfInBounds d1 v1).setIfInBounds d4 v4).setIfInBounds dj v } w') :
    wpAnyH P md ops Q (fun _ => True) (fuel + 3) listed a w := by
  have main : wpAnyH P md ops Q (fun _ => True) (fuel + 1) ((listed.setIfInBounds i1 true).setIfInBounds i4 true) { a with tmps := (a.tmps.setIfInBounds d1 v1).setIfInBounds d4 v4 } w := by
    refine rg_call j dj f vals hj hdj hr14 (hwj _) rfl (fun W => hxj' W) ?_
    refine h.mono ?_
    rintro e w' ⟨v, rfl, _, h3⟩
    exact ⟨v, rfl, trivial, h3⟩
  refine wpAnyH_ready (rs := [i1, i4]) hr0 (by simp) (AllReadyH.cons h1 (fun K hK => ?_) (AllReadyH.cons h4 (fun K hK => ?_) AllReadyH.nil))
  · rw [if_pos (hw1 _)]
    unfold Oper.wp
    rw [hx1]
    refine hK.out _ _ trivial (fun _ => ?_)
    rw [hd1]
    refine wpAnyH_ready (rs := [j, i4]) hr1 (by simp) (AllReadyH.cons hj (fun K hK => ?_) (AllReadyH.cons h4 (fun K hK => ?_) AllReadyH.nil))
    · rw [if_pos (hwj _)]
      unfold Oper.wp
      have hh : (execOp (Act.put a (some d1) v1).eval oj).run P w = .ok (.enter f vals) w := hxj w
      rw [hh]
      refine Calls.mono h ?_
      rintro e w' ⟨v, rfl, l1, h3⟩
      refine hK.out _ _ trivial (fun _ => ?_)
      rw [hdj]
      refine rg_run i4 d4 v4 w' h4 hd4 hr1j (hw4 _) rfl ?_ trivial ?_
      · exact hx4j v w' l1
      · rw [set_comm2 _ hj4]
        show wpAnyH P md ops Q _ _ _ ({ a with tmps := ((a.tmps.setIfInBounds d1 v1).setIfInBounds dj v).setIfInBounds d4 v4 } : Act) w'
        rw [set_comm2 _ dj4]
        exact h3
    · rw [if_pos (hw4 _)]
      unfold Oper.wp
      have hh : (execOp (Act.put a (some d1) v1).eval o4).run P w = .ok (.value v4) w := hx41
      rw [hh]
      refine hK.out _ _ trivial (fun _ => ?_)
      rw [hd4]
      exact main
  · rw [if_pos (hw4 _)]
    unfold Oper.wp
    rw [hx4]
    refine hK.out _ _ trivial (fun _ => ?_)
    rw [hd4]
    refine rg_run i1 d1 v1 w h1 hd1 hr4 (hw1 _) rfl ?_ trivial ?_
    · exact hx1'
    · rw [set_comm2 listed (Ne.symm h14)]
      show wpAnyH P md ops Q _ _ _ ({ a with tmps := (a.tmps.setIfInBounds d4 v4).setIfInBounds d1 v1 } : Act) w
      rw [set_comm2 a.tmps (Ne.symm d14)]
      exact main
end Go.Proofs.Ytkmdaopmmfdpgaa

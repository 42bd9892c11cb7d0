/- What HasPrefix and stands answer, at every input. -/
import Derived.Test.YtmgbhicogmclgaaRuLeaf
namespace Go.Proofs.Ytmgbhicogmclgaa
open Go.ChangeShapes Go.WideShapes Go.ChangeAt Go.RowKit
set_option linter.unusedVariables false
set_option maxRecDepth 20000

theorem prefix_eq (s p : ByteArray) (h : p.size ≤ s.size) : ((s.extract 0 p.size).toList == p.toList) = p.toList.isPrefixOf s.toList := by
  obtain ⟨⟨l⟩⟩ := s
  obtain ⟨⟨q⟩⟩ := p
  simp only [ByteArray.toList_eq, ByteArray.data_extract, ByteArray.size, List.size_toArray, List.extract_toArray, List.extract_eq_take_drop, List.drop_zero, Nat.sub_zero] at *
  rw [Bool.eq_iff_iff, List.isPrefixOf_iff_prefix, List.prefix_iff_eq_take, beq_iff_eq]
  exact eq_comm
theorem prefix_short (s p : ByteArray) (h : ¬ p.size ≤ s.size) : false = p.toList.isPrefixOf s.toList := by
  obtain ⟨⟨l⟩⟩ := s
  obtain ⟨⟨q⟩⟩ := p
  simp only [ByteArray.toList_eq, ByteArray.size, List.size_toArray] at *
  cases e : q.isPrefixOf l with
  | false => rfl
  | true =>
    rw [List.isPrefixOf_iff_prefix] at e
    exact absurd e.length_le h

set_option maxHeartbeats 1000000 in
theorem hasPrefix_any (s p : ByteArray) (w : World) (hs : s.size ≤ 140737488351232) (hp : p.size ≤ 140737488351232) :
    Calls Try.prog 118 #[.string s, .string p] w fun e w' => e = .returned (.bool (p.toList.isPrefixOf s.toList)) ∧ w' = w := by
  go_enter Try.func118, Try.ntmps118
  go_wp2
  · go_ret
    exact ⟨ret_bool (prefix_eq s p ‹_›), rfl⟩
  · go_ret
    exact ⟨ret_bool (prefix_short s p ‹_›), rfl⟩

def standsB (l : List UInt8) (r : Int) : Bool := decide (r ≠ 65533) || hasErr l

theorem extract_drop (s : ByteArray) (i : Nat) : (s.extract i s.size).data.toList = s.data.toList.drop i := by
  obtain ⟨⟨l⟩⟩ := s
  simp [ByteArray.data_extract, ByteArray.size]
  exact List.take_of_length_le (by simp)

theorem hasErr_extract (s : ByteArray) (i : Nat) : [239, 191, 189].isPrefixOf (s.extract i s.size).toList = hasErr (s.data.toList.drop i) := by
  rw [ByteArray.toList_eq, extract_drop]; rfl
theorem extract_size_le (s : ByteArray) (i : Nat) (h : s.size ≤ 140737488351232) : (s.extract i s.size).size ≤ 140737488351232 := by
  simp [ByteArray.size_extract]; omega

set_option maxHeartbeats 1000000 in
theorem stands_any (s : ByteArray) (i : Int) (r : Int) (w : World) (hs : s.size ≤ 140737488351232) (hi : 0 ≤ i) (hj : i ≤ s.size) :
    Calls Try.prog 111 #[.string s, .int .i64 i, .int .i32 r] w fun e w' => e = .returned (.bool (standsB (s.data.toList.drop i.toNat) r)) ∧ w' = w := by
  by_cases h : r = 65533
  · subst h
    go_enter Try.func111, Try.ntmps111
    go_wp2_with (go_at_call 118; refine (hasPrefix_any _ _ _ (extract_size_le s _ hs) (by decide)).mono ?_; rintro e w' ⟨rfl, rfl⟩)
    go_ret
    refine ⟨ret_bool ?_, rfl⟩
    simp [standsB, ← hasErr_extract]
  · have hne : (r != 65533) = true := by simp [h]
    go_enter Try.func111, Try.ntmps111
    go_wp2_with fail
    go_ret
    refine ⟨ret_bool ?_, rfl⟩
    simp [standsB, h]

theorem drop_cons (s : ByteArray) (i : Nat) (h : i < s.size) : s.data.toList.drop i = s[i] :: s.data.toList.drop (i + 1) := by
  rw [List.drop_eq_getElem_cons (by simpa using h)]; rfl
theorem drop_none (s : ByteArray) (i : Nat) (h : s.size ≤ i) : s.data.toList.drop i = [] := by
  apply List.drop_eq_nil_of_le; simpa using h

def nxV : Option (Nat × Nat) → Value
  | none => .tuple #[.int .i32 0, .int .i64 0, .bool false]
  | some x => .tuple #[.int .i32 (x.1 : Int), .int .i64 (x.2 : Int), .bool true]
def atL (s : ByteArray) (i : Int) : List UInt8 := if i < 0 then [] else s.data.toList.drop i.toNat

theorem ret_none {x : Option (Nat × Nat)} (h : x = none) : Ending.returned (.tuple #[.int .i32 0, .int .i64 0, .bool false]) = .returned (nxV x) := by rw [h]; rfl
theorem ret_some {x : Option (Nat × Nat)} {c k : Int} (c' k' : Nat) (h : x = some (c', k')) (hc : c = c') (hk : k = k') : Ending.returned (.tuple #[.int .i32 c, .int .i64 k, .bool true]) = .returned (nxV x) := by rw [h, hc, hk]; rfl

theorem atL_out (s : ByteArray) (i : Int) (h : i < 0 ∨ (s.size : Int) ≤ i) : nxL (atL s i) = none := by
  unfold atL
  by_cases g : i < 0
  · rw [if_pos g]; rfl
  · rw [if_neg g, drop_none s _ (by omega)]; rfl
theorem atL_in (s : ByteArray) (i : Int) (h : 0 ≤ i) : atL s i = s.data.toList.drop i.toNat := by
  unfold atL; rw [if_neg (by omega)]

theorem below_iter (w : World) (s : ByteArray) (p : Nat) : Below w.heap.size w (w.iter s p) := (Below.refl _ _).alloc (Nat.le_refl _) _

theorem nx_stands {l : List UInt8} {c k : Nat} (hl : l ≠ []) (hd : Utf8.decode ⟨l.toArray⟩ 0 = (c, k)) :
    (standsB l c = true → nxL l = some (c, k)) ∧ (standsB l c = false → nxL l = none) := by
  have h := decode_nx' l hl
  rw [hd] at h
  unfold standsB
  constructor
  · intro g
    rw [h, if_neg]
    rintro ⟨g1, g2⟩
    simp only at g1
    rw [g2, g1] at g
    simp at g
  · intro g
    rw [h, if_pos]
    simp only [Bool.or_eq_false_iff, decide_eq_false_iff_not, ne_eq, Decidable.not_not] at g
    exact ⟨by show c = 65533; omega, g.2⟩

end Go.Proofs.Ytmgbhicogmclgaa

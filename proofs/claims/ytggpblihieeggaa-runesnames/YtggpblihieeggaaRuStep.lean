/- What HasPrefix, stands and tail answer, at every input. -/
import Derived.Test.YtggpblihieeggaaRuLeaf
namespace Go.Proofs.Ytggpblihieeggaa
open Go.ChangeShapes Go.WideShapes Go.ChangeAt Go.RowKit
set_option linter.unusedVariables false
set_option maxRecDepth 20000

theorem prefix_eq (s p : ByteArray) (h : p.size ≤ s.size) : ((s.extract 0 p.size).toList == p.toList) = p.toList.isPrefixOf s.toList := by
  obtain ⟨⟨l⟩⟩ := s
  obtain ⟨⟨q⟩⟩ := p
  simp only [ByteArray.toList_eq, ByteArray.data_extract, ByteArray.size, List.size_toArray, List.extract_toArray, List.extract_eq_take_drop, List.drop_zero, Nat.sub_zero] at *
  rw [Bool.eq_iff_iff, List.isPrefixOf_iff_prefix, List.prefix_iff_eq_take, beq_iff_eq]
  exact eq_comm
theorem prefix_short (s p : ByteArray) (h : ¬ p.size ≤ s.size) : false = p.toList.isPrefixOf s.toList := by
  obtain ⟨⟨l⟩⟩ := s
  obtain ⟨⟨q⟩⟩ := p
  simp only [ByteArray.toList_eq, ByteArray.size, List.size_toArray] at *
  cases e : q.isPrefixOf l with
  | false => rfl
  | true =>
    rw [List.isPrefixOf_iff_prefix] at e
    exact absurd e.length_le h

set_option maxHeartbeats 1000000 in
theorem hasPrefix_any (s p : ByteArray) (w : World) (hs : s.size ≤ 140737488351232) (hp : p.size ≤ 140737488351232) :
    Calls Try.prog 29 #[.string s, .string p] w fun e w' => e = .returned (.bool (p.toList.isPrefixOf s.toList)) ∧ w' = w := by
  go_enter Try.func29, Try.ntmps29
  go_wp2
  · go_ret
    exact ⟨ret_bool (prefix_eq s p ‹_›), rfl⟩
  · go_ret
    exact ⟨ret_bool (prefix_short s p ‹_›), rfl⟩

def standsB (l : List UInt8) (r : Int) : Bool := decide (r ≠ 65533) || hasErr l

theorem extract_drop (s : ByteArray) (i : Nat) : (s.extract i s.size).data.toList = s.data.toList.drop i := by
  obtain ⟨⟨l⟩⟩ := s
  simp [ByteArray.data_extract, ByteArray.size]
  exact List.take_of_length_le (by simp)

theorem hasErr_extract (s : ByteArray) (i : Nat) : [239, 191, 189].isPrefixOf (s.extract i s.size).toList = hasErr (s.data.toList.drop i) := by
  rw [ByteArray.toList_eq, extract_drop]; rfl
theorem extract_size_le (s : ByteArray) (i : Nat) (h : s.size ≤ 140737488351232) : (s.extract i s.size).size ≤ 140737488351232 := by
  simp [ByteArray.size_extract]; omega

set_option maxHeartbeats 1000000 in
theorem stands_any (s : ByteArray) (i : Int) (r : Int) (w : World) (hs : s.size ≤ 140737488351232) (hi : 0 ≤ i) (hj : i ≤ s.size) :
    Calls Try.prog 26 #[.string s, .int .i64 i, .int .i32 r] w fun e w' => e = .returned (.bool (standsB (s.data.toList.drop i.toNat) r)) ∧ w' = w := by
  by_cases h : r = 65533
  · subst h
    go_enter Try.func26, Try.ntmps26
    go_wp2_with (go_at_call 29; refine (hasPrefix_any _ _ _ (extract_size_le s _ hs) (by decide)).mono ?_; rintro e w' ⟨rfl, rfl⟩)
    go_ret
    refine ⟨ret_bool ?_, rfl⟩
    simp [standsB, ← hasErr_extract]
  · have hne : (r != 65533) = true := by simp [h]
    go_enter Try.func26, Try.ntmps26
    go_wp2_with fail
    go_ret
    refine ⟨ret_bool ?_, rfl⟩
    simp [standsB, h]

/-- The six bits of a byte that goes on. -/
def tlL : List UInt8 → Int
  | [] => -1
  | a :: _ => if ctU a = true then (a.toNat : Int) - 128 else -1

theorem drop_cons (s : ByteArray) (i : Nat) (h : i < s.size) : s.data.toList.drop i = s[i] :: s.data.toList.drop (i + 1) := by
  rw [List.drop_eq_getElem_cons (by simpa using h)]; rfl
theorem drop_none (s : ByteArray) (i : Nat) (h : s.size ≤ i) : s.data.toList.drop i = [] := by
  apply List.drop_eq_nil_of_le; simpa using h

theorem tl_in (s : ByteArray) (i : Nat) (h : i < s.size) (a : 128 ≤ (s[i].toNat : Int)) (b : (s[i].toNat : Int) ≤ 191) : (s[i].toNat : Int) - 128 = tlL (s.data.toList.drop i) := by
  rw [drop_cons s i h]; simp only [tlL]; rw [if_pos (by simp [ctU]; omega)]
theorem tl_out (s : ByteArray) (i : Nat) (h : i < s.size) (a : (s[i].toNat : Int) < 128 ∨ 191 < (s[i].toNat : Int)) : -1 = tlL (s.data.toList.drop i) := by
  rw [drop_cons s i h]; simp only [tlL]; rw [if_neg (by simp [ctU]; omega)]
theorem tl_end (s : ByteArray) (i : Nat) (h : s.size ≤ i) : -1 = tlL (s.data.toList.drop i) := by
  rw [drop_none s i h]; rfl

set_option maxHeartbeats 1000000 in
theorem tail_any (s : ByteArray) (i : Int) (w : World) (hs : s.size ≤ 140737488351232) (hi : 0 ≤ i) :
    Calls Try.prog 27 #[.string s, .int .i64 i] w fun e w' => e = .returned (.int .i64 (tlL (s.data.toList.drop i.toNat))) ∧ w' = w := by
  by_cases h : i < s.size
  · have hn : i.toNat < s.size := by omega
    go_enter Try.func27, Try.ntmps27
    go_wp2
    all_goals
      go_ret
      first
      | exact ⟨ret_int (tl_in s i.toNat hn (by omega) (by omega)), rfl⟩
      | exact ⟨ret_int (tl_out s i.toNat hn (by omega)), rfl⟩
  · go_enter Try.func27, Try.ntmps27
    go_wp2
    go_ret
    exact ⟨ret_int (tl_end s i.toNat (by omega)), rfl⟩
end Go.Proofs.Ytggpblihieeggaa

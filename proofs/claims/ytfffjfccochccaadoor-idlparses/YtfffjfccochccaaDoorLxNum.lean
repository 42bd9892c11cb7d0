/- What the program's Number answers, at every text. -/
import Derived.Test.YtfffjfccochccaaDoorLxLeaf
import Derived.OwnWalk
namespace Go.Proofs.YtfffjfccochccaaDoor
open Go.ChangeShapes Go.WideShapes Go.ChangeAt Go.RowKit
set_option linter.unusedVariables false
set_option linter.unusedSimpArgs false
set_option maxRecDepth 20000

theorem nx_small {a : UInt8} {r : List UInt8} {c m : Nat} (h : nxL (a :: r) = some (c, m)) : (a.toNat < 128 ∧ c = a.toNat ∧ m = 1) ∨ (128 ≤ a.toNat ∧ 128 ≤ c) := by
  simp only [nxL] at h
  by_cases h0 : a.toNat < 128
  · rw [if_pos h0] at h
    simp only [Option.some.injEq, Prod.mk.injEq] at h
    exact .inl ⟨h0, h.1.symm, h.2.symm⟩
  · right
    refine ⟨by omega, ?_⟩
    rw [if_neg h0] at h
    split at h
    · split at h
      · split at h
        · rename_i g; simp only [Option.some.injEq, Prod.mk.injEq] at h; omega
        · cases h
      · cases h
    · split at h
      · split at h
        · split at h
          · rename_i g; simp only [Option.some.injEq, Prod.mk.injEq] at h; omega
          · cases h
        · cases h
      · split at h
        · split at h
          · split at h
            · rename_i g; simp only [Option.some.injEq, Prod.mk.injEq] at h; omega
            · cases h
          · cases h
        · cases h

def digU (a : UInt8) : Bool := decide (48 ≤ a.toNat ∧ a.toNat ≤ 57)
def numV : List UInt8 → Nat → Nat
  | [], n => n
  | a :: r, n => numV r (10 * n + (a.toNat - 48))
/-- What Number answers. -/
def numA (l : List UInt8) : Nat × Bool := if l.length < 1 ∨ 10 < l.length ∨ (1 < l.length ∧ headN l = 48) then (0, false) else if l.all digU = true then (numV l 0, true) else (0, false)
theorem numA_none {l : List UInt8} (h : l.length < 1 ∨ 10 < l.length ∨ (1 < l.length ∧ headN l = 48)) : numA l = (0, false) := by unfold numA; rw [if_pos h]
/-- The number so far; and what is left. -/
structure NumAt (l : List UInt8) (pos v : Nat) : Prop where
  sum : numV (l.drop pos) v = numV l 0
  all : l.all digU = (l.drop pos).all digU
  lt : v < 10 ^ pos
theorem NumAt.start (l : List UInt8) : NumAt l 0 0 := ⟨by simp, by simp, by decide⟩
theorem NumAt.step {s : ByteArray} {pos v : Nat} (h : NumAt s.data.toList pos v) (hp : pos < s.size) (hd : digU s[pos] = true) : NumAt s.data.toList (pos + 1) (10 * v + (s[pos].toNat - 48)) := by
  have e := drop_cons s pos hp
  obtain ⟨h1, h2, h3⟩ := h
  refine ⟨?_, ?_, ?_⟩
  · rw [← h1, e]; rfl
  · rw [h2, e]; simp [hd]
  · rw [Nat.pow_succ]
    unfold digU at hd
    simp only [decide_eq_true_eq] at hd
    omega
theorem NumAt.bd {l : List UInt8} {pos v : Nat} (h : NumAt l pos v) (hp : pos ≤ 10) : v < 10000000000 := by
  have h1 := h.lt
  have h2 := Nat.pow_le_pow_right (n := 10) (by omega) hp
  have : (10 : Nat) ^ 10 = 10000000000 := by decide
  omega
theorem NumAt.bad {s : ByteArray} {pos v : Nat} (h : NumAt s.data.toList pos v) (hp : pos < s.size) (hd : digU s[pos] = false) : numA s.data.toList = (0, false) := by
  have e := drop_cons s pos hp
  unfold numA
  split
  · rfl
  · rw [if_neg]
    rw [h.all, e]; simp [hd]
theorem NumAt.done {s : ByteArray} {pos v : Nat} (h : NumAt s.data.toList pos v) (hp : s.size ≤ pos) (hn : ¬ (s.size < 1 ∨ 10 < s.size ∨ (1 < s.size ∧ headN s.data.toList = 48))) : numA s.data.toList = (v, true) := by
  have e := drop_none s pos hp
  have h1 := h.sum
  have h2 := h.all
  rw [e] at h1 h2
  unfold numA
  rw [if_neg (by rw [len_data]; exact hn), if_pos (by rw [h2]; rfl), ← h1]; rfl
theorem dig_dec {s : ByteArray} {pos c k : Nat} (hp : pos < s.size) (h1 : standsB (s.data.toList.drop pos) c = true → nxL (s.data.toList.drop pos) = some (c, k)) (h2 : standsB (s.data.toList.drop pos) c = false → nxL (s.data.toList.drop pos) = none) :
    digB c = digU s[pos] ∧ (digU s[pos] = true → c = s[pos].toNat ∧ k = 1) := by
  have e := drop_cons s pos hp
  cases hst : standsB (s.data.toList.drop pos) c with
  | true =>
    have h3 := h1 hst
    rw [e] at h3
    rcases nx_small h3 with ⟨g1, g2, g3⟩ | ⟨g1, g2⟩
    · rw [← g2]
      refine ⟨?_, fun _ => ⟨rfl, g3⟩⟩
      unfold digB digU
      rw [← g2]
      congr 1; apply propext; omega
    · constructor
      · unfold digB digU
        rw [decide_eq_false (by omega), decide_eq_false (by omega)]
      · unfold digU; simp only [decide_eq_true_eq]; omega
  | false =>
    have h3 := h2 hst
    have hc : c = 65533 := by unfold standsB at hst; simp at hst; omega
    rw [e] at h3
    have ha : 128 ≤ s[pos].toNat := by
      by_cases h : s[pos].toNat < 128
      · simp [nxL, h] at h3
      · omega
    constructor
    · unfold digB digU
      rw [hc, decide_eq_false (by omega), decide_eq_false (by omega)]
    · unfold digU; simp only [decide_eq_true_eq]; omega
theorem head_byte (s : ByteArray) (h : 0 < s.size) : headN s.data.toList = s[0].toNat := by
  have := drop_cons s 0 h
  rw [List.drop_zero] at this
  rw [this]; rfl

set_option maxHeartbeats 1000000 in
theorem number_any (s : ByteArray) (w : World) (hs : s.size ≤ 140737488351232) :
    Calls Tryd.prog 76 #[.string s] w fun e w' => e = .returned (.tuple #[.int .i64 ((numA s.data.toList).1 : Int), .bool (numA s.data.toList).2]) ∧ Below w.heap.size w w' := by
  obtain ⟨R, hR⟩ : ∃ R, numA s.data.toList = R := ⟨_, rfl⟩
  rw [hR]
  have HR : Hid (numA s.data.toList = R) := hR
  clear hR
  by_cases h1 : s.size < 1
  · have : R = (0, false) := by rw [← HR.out]; exact numA_none (.inl (by rw [len_data]; exact h1))
    subst this
    have hz : s = ⟨#[]⟩ := by
      obtain ⟨⟨l⟩⟩ := s
      have : l.length = 0 := by have := h1; rw [size_list] at this; omega
      rw [List.length_eq_zero_iff.1 this]
    clear HR
    subst hz
    go_enter Tryd.func76, Tryd.ntmps76
    go_wp2_with fail
    go_ret2
    exact ⟨rfl, Below.refl _ _⟩
  · have hne : (s.toList == ([] : List UInt8)) = false := by
      rw [beq_eq_false_iff_ne, ByteArray.toList_eq]
      intro e
      have := congrArg List.length e
      rw [len_data, List.length_nil] at this; omega
    by_cases h2 : 10 < s.size
    · have : R = (0, false) := by rw [← HR.out]; exact numA_none (.inr (.inl (by rw [len_data]; exact h2)))
      subst this
      have hd2 : decide (10 < (s.size : Int)) = true := by simp; omega
      clear HR
      go_enter Tryd.func76, Tryd.ntmps76
      go_wp2_with fail
      go_ret2
      exact ⟨rfl, Below.refl _ _⟩
    · have hd2 : decide (10 < (s.size : Int)) = false := by simp; omega
      have hb0 : 0 < s.size := by omega
      by_cases h3 : 1 < s.size ∧ headN s.data.toList = 48
      · have : R = (0, false) := by rw [← HR.out]; exact numA_none (.inr (.inr (by rw [len_data]; exact h3)))
        subst this
        have hd3 : decide (1 < (s.size : Int)) = true := by simp; omega
        have hb : ((s[0].toNat : Int) == 48) = true := by rw [beq_iff_eq, ← head_byte s hb0, h3.2]; rfl
        clear HR h3
        go_enter Tryd.func76, Tryd.ntmps76
        go_wp2_with fail
        go_ret2
        exact ⟨rfl, Below.refl _ _⟩
      · have HN : Hid (¬ (s.size < 1 ∨ 10 < s.size ∨ (1 < s.size ∧ headN s.data.toList = 48))) := by
          rintro (h | h | h)
          · exact h1 h
          · exact h2 h
          · exact h3 h
        have hgo : (decide (1 < (s.size : Int)) = false) ∨ (decide (1 < (s.size : Int)) = true ∧ ((s[0].toNat : Int) == 48) = false) := by
          by_cases h : 1 < s.size
          · right
            refine ⟨by simp; omega, ?_⟩
            rw [beq_eq_false_iff_ne, ← head_byte s hb0]
            intro e
            exact h3 ⟨h, by omega⟩
          · left; simp; omega
        have hle : s.size ≤ 10 := by omega
        clear h3 h2
        rcases hgo with hd3 | ⟨hd3, hb⟩
        all_goals
          go_enter Tryd.func76, Tryd.ntmps76
          go_wp2_with fail
          go_loopw [4] (fun nv wr => ∃ (pos v : Nat), nv = .int .i64 (v : Int) ∧ wr = w.iter s pos ∧ pos ≤ s.size ∧ v < 10000000000 ∧ Hid (NumAt s.data.toList pos v)) (fun _ wr => s.size - wr.iterPos w.heap.size)
          case atStart => exact ⟨0, 0, rfl, rfl, by omega, by omega, NumAt.start _⟩
          case round =>
            obtain ⟨pos, v, rfl, rfl, hps, hv, H⟩ := hrel
            by_cases hlt : pos < s.size
            · obtain ⟨c, k, hdc, g1, g2⟩ := dec_at s pos hlt
              have hnx : ∀ ty, (Instr.next (.pointer (some ⟨w.heap.size, 0, none⟩)) true ty).run Tryd.prog (w.iter s pos) = .ok (.tuple #[.bool true, .int .i64 (pos : Int), .int .i32 (c : Int)]) (w.iter s (pos + k)) := by
                intro ty
                have := run_next_any (P := Tryd.prog) w s pos ty hlt
                rw [hdc] at this
                exact this
              obtain ⟨q1, q2⟩ := dig_dec hlt g1 g2
              have Q1 : Hid (digB c = digU s[pos]) := q1
              cases hdu : digU s[pos] with
              | false =>
                have : R = (0, false) := by rw [← HR.out]; exact H.out.bad hlt hdu
                subst this
                have HF : Hid (digB c = false) := by show _ = _; rw [q1]; exact hdu
                clear hdc g1 g2 q1 q2 Q1 HR hdu H
                go_wp2_with fail
                refine (digit_any _ _).mono ?_
                rintro e w1 ⟨rfl, rfl⟩
                rw [HF.out]
                go_wp2_with fail
                go_ret2
                exact ⟨rfl, below_iter _ _ _⟩
              | true =>
                obtain ⟨q3, q4⟩ := q2 hdu
                have HF : Hid (digB c = true) := by show _ = _; rw [q1]; exact hdu
                have hstep := H.out.step hlt hdu
                rw [← q3] at hstep
                have HS : Hid (NumAt s.data.toList (pos + k) (10 * v + (c - 48))) := by rw [q4]; exact hstep
                have hvb := hstep.bd (by omega)
                have hcb : 48 ≤ c ∧ c ≤ 57 := by
                  unfold digU at hdu
                  simp only [decide_eq_true_eq] at hdu
                  omega
                have hk : 1 ≤ k ∧ pos + k ≤ s.size := by omega
                have hv2 : v < 1000000000 := by omega
                clear hdc g1 g2 q1 q2 Q1 hdu H q3 q4 hstep
                go_wp2_with fail
                refine (digit_any _ _).mono ?_
                rintro e w1 ⟨rfl, rfl⟩
                rw [HF.out]
                go_wp2_with fail
                go_roundw
                case rel => exact ⟨pos + k, 10 * v + (c - 48), by congr 1; omega, rfl, hk.2, hvb, HS⟩
                case measure => simp; omega
            · have hnx : ∀ ty, (Instr.next (.pointer (some ⟨w.heap.size, 0, none⟩)) true ty).run Tryd.prog (w.iter s pos) = _ := fun ty => run_next_end w s pos ty hlt
              have : R = (v, true) := by rw [← HR.out]; exact H.out.done (by omega) HN.out
              subst this
              clear HR
              go_wp2_with fail
              go_ret2
              exact ⟨rfl, below_iter _ _ _⟩
end Go.Proofs.YtfffjfccochccaaDoor

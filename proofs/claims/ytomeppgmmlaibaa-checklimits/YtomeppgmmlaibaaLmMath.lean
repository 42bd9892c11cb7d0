/- Schemas with so many things of each kind. -/
import Derived.Test.YtomeppgmmlaibaaScRow
import Derived.Test.YtomeppgmmlaibaaCkRow
import Derived.Test.YtomeppgmmlaibaaCkCheck
namespace Go.Proofs.Ytomeppgmmlaibaa
open Go.ChangeShapes Go.WideShapes Go.ChangeAt Go.RowKit
set_option linter.unusedVariables false
set_option linter.unusedSimpArgs false
set_option maxRecDepth 20000

def nmB (i : Nat) : ByteArray := ⟨#[110, UInt8.ofNat (97 + i / 26), UInt8.ofNat (97 + i % 26)]⟩
def zB : ByteArray := ⟨#[122]⟩
def aB : ByteArray := ⟨#[97]⟩
def flL (b : Nat) : List FlS := (List.range b).map fun i => ⟨nmB i, 1 + (i : Int), 1, 1, ⟨#[]⟩⟩
def inL (c : Nat) : List Int := (List.range c).map fun (i : Nat) => 100 + (i : Int)
def msL (a b c : Nat) : List MsS := (List.range a).map fun i => if i = 0 then ⟨nmB 0, flL b, inL c⟩ else ⟨nmB i, [], []⟩
/-- e values and one more. -/
def vlL (e : Nat) : List NmS := ⟨zB, 0⟩ :: (List.range e).map fun i => ⟨nmB (1 + i), 1 + (i : Int)⟩
def enL (d e : Nat) : List EnS := (List.range d).map fun i => if i = 0 then ⟨nmB 100, vlL e⟩ else ⟨nmB (100 + i), [⟨zB, 0⟩]⟩
def mtL (f : Nat) : List MtS := (List.range f).map fun i => ⟨nmB i, nmB 0, nmB 0⟩
def lmS (a b c d e f : Nat) : ScS := ⟨aB, msL a b c, enL d e, mtL f⟩
theorem flL_len (b : Nat) : (flL b).length = b := by simp [flL]
theorem inL_len (b : Nat) : (inL b).length = b := by simp [inL]
theorem msL_len (a b c : Nat) : (msL a b c).length = a := by simp [msL]
theorem vlL_len (e : Nat) : (vlL e).length = e + 1 := by simp [vlL]
theorem enL_len (d e : Nat) : (enL d e).length = d := by simp [enL]
theorem mtL_len (f : Nat) : (mtL f).length = f := by simp [mtL]
theorem flL_succ (b : Nat) : flL (b + 1) = flL b ++ [⟨nmB b, 1 + (b : Int), 1, 1, ⟨#[]⟩⟩] := by simp [flL, List.range_succ]
theorem inL_succ (b : Nat) : inL (b + 1) = inL b ++ [100 + (b : Int)] := by simp [inL, List.range_succ]
theorem mtL_succ (b : Nat) : mtL (b + 1) = mtL b ++ [⟨nmB b, nmB 0, nmB 0⟩] := by simp [mtL, List.range_succ]
theorem vlL_succ (b : Nat) : vlL (b + 1) = vlL b ++ [⟨nmB (1 + b), 1 + (b : Int)⟩] := by simp [vlL, List.range_succ]
theorem msL_succ (a : Nat) : msL (a + 1) 0 0 = msL a 0 0 ++ [⟨nmB a, [], []⟩] := by
  unfold msL
  rw [List.range_succ, List.map_append, List.map_singleton]
  by_cases h : a = 0
  · subst h; rfl
  · rw [if_neg h]
theorem enL_succ (a : Nat) : enL (a + 1) 0 = enL a 0 ++ [⟨nmB (100 + a), [⟨zB, 0⟩]⟩] := by
  unfold enL
  rw [List.range_succ, List.map_append, List.map_singleton]
  by_cases h : a = 0
  · subst h; rfl
  · rw [if_neg h]
theorem lm_over0 : checkA (lmS 11 0 0 0 0 0) = 4 := by decide +kernel
theorem lm_over1 : checkA (lmS 1 17 0 0 0 0) = 4 := by decide +kernel
theorem lm_over2 : checkA (lmS 1 0 33 0 0 0) = 4 := by decide +kernel
theorem lm_over3 : checkA (lmS 1 0 0 7 0 0) = 4 := by decide +kernel
theorem lm_over4 : checkA (lmS 1 0 0 1 16 0) = 4 := by decide +kernel
theorem lm_over5 : checkA (lmS 1 0 0 0 0 7) = 4 := by decide +kernel
theorem lm_over6 : checkA (lmS 0 0 0 0 0 0) = 12 := by decide +kernel
theorem lm_most : checkA (lmS 10 16 32 6 15 6) = 0 := by decide +kernel
theorem nmB_size (i : Nat) : (nmB i).size = 3 := rfl
theorem lm_few {a b c d e f : Nat} (ha : a ≤ 14) (hb : b ≤ 20) (hc : c ≤ 40) (hd : d ≤ 10) (he : e ≤ 20) (hf : f ≤ 10) : FewL (lmS a b c d e f) := by
  refine ⟨by show (msL a b c).length ≤ _; rw [msL_len]; exact ha, by show (enL d e).length ≤ _; rw [enL_len]; exact hd, by show (mtL f).length ≤ _; rw [mtL_len]; exact hf, fun m hm => ?_, fun m hm => ?_⟩
  · obtain ⟨i, _, rfl⟩ := List.mem_map.1 (show m ∈ msL a b c from hm)
    split
    · exact ⟨by rw [flL_len]; exact hb, by rw [inL_len]; exact hc⟩
    · exact ⟨by simp, by simp⟩
  · obtain ⟨i, _, rfl⟩ := List.mem_map.1 (show m ∈ enL d e from hm)
    split
    · show (vlL e).length ≤ _; rw [vlL_len]; omega
    · simp
theorem lm_wide {a b c d e f : Nat} (ha : a ≤ 14) (hb : b ≤ 20) (hc : c ≤ 40) (hd : d ≤ 10) (he : e ≤ 20) (hf : f ≤ 10) : ScW (lmS a b c d e f) := by
  have hz : zB.size ≤ 140737488351232 := by decide
  refine ⟨by show aB.size ≤ _; decide, fun m hm => ?_, fun m hm => ?_, fun m hm => ?_⟩
  · obtain ⟨i, _, rfl⟩ := List.mem_map.1 (show m ∈ msL a b c from hm)
    split
    · refine ⟨by rw [nmB_size]; omega, fun f hf => ?_, fun n hn => ?_⟩
      · obtain ⟨k, hk, rfl⟩ := List.mem_map.1 (show f ∈ flL b from hf)
        have := List.mem_range.1 hk
        exact ⟨by rw [nmB_size]; omega, by show (⟨#[]⟩ : ByteArray).size ≤ _; decide, by unfold I64; constructor <;> (try simp only) <;> omega, by show I64 1; unfold I64; decide, by show I64 1; unfold I64; decide⟩
      · obtain ⟨k, hk, rfl⟩ := List.mem_map.1 (show n ∈ inL c from hn)
        have := List.mem_range.1 hk
        unfold I64; constructor <;> omega
    · exact ⟨by rw [nmB_size]; omega, fun f hf => by simp at hf, fun n hn => by simp at hn⟩
  · obtain ⟨i, _, rfl⟩ := List.mem_map.1 (show m ∈ enL d e from hm)
    split
    · refine ⟨by rw [nmB_size]; omega, fun f hf => ?_⟩
      rcases List.mem_cons.1 (show f ∈ vlL e from hf) with rfl | hf
      · exact ⟨hz, by unfold I64; decide⟩
      · obtain ⟨k, hk, rfl⟩ := List.mem_map.1 hf
        have := List.mem_range.1 hk
        exact ⟨by rw [nmB_size]; omega, by unfold I64; constructor <;> (try simp only) <;> omega⟩
    · refine ⟨by rw [nmB_size]; omega, fun f hf => ?_⟩
      simp only [List.mem_singleton] at hf
      subst hf
      exact ⟨hz, by unfold I64; decide⟩
  · obtain ⟨i, _, rfl⟩ := List.mem_map.1 (show m ∈ mtL f from hm)
    exact ⟨by rw [nmB_size]; omega, by rw [nmB_size]; omega, by rw [nmB_size]; omega⟩
end Go.Proofs.Ytomeppgmmlaibaa

/- A row of any width that is appended whole to a row of one's own. -/
import Derived.Test.YtiiegphbhfiffaaScRow
import Derived.Test.YtiiegphbhfiffaaJoinR
import Derived.Laws.AppendOwnNone
import Derived.OwnWalk
namespace Go.Proofs.Ytiiegphbhfiffaa
open Go.ChangeShapes Go.WideShapes Go.ChangeAt Go.RowKit
set_option linter.unusedVariables false
set_option linter.unusedSimpArgs false
set_option maxRecDepth 20000

theorem infoFl : (Try.prog.info? 49).map (fun i => (i.zero, i.size, i.bytes)) = some (some (.agg #[.string ⟨#[]⟩, .int .i64 0, .int .i64 0, .int .i64 0, .string ⟨#[]⟩]), 5, 56) := by kernel_rfl
theorem infoIn : (Try.prog.info? 3).map (fun i => (i.zero, i.size, i.bytes)) = some (some (.int .i64 0), 1, 8) := by kernel_rfl
theorem infoNm : (Try.prog.info? 54).map (fun i => (i.zero, i.size, i.bytes)) = some (some (.agg #[.string ⟨#[]⟩, .int .i64 0]), 2, 24) := by kernel_rfl
theorem infoMs : (Try.prog.info? 47).map (fun i => (i.zero, i.size, i.bytes)) = some (some (.agg #[.string ⟨#[]⟩, .slice none 0 0, .slice none 0 0]), 3, 64) := by kernel_rfl
theorem infoEn : (Try.prog.info? 52).map (fun i => (i.zero, i.size, i.bytes)) = some (some (.agg #[.string ⟨#[]⟩, .slice none 0 0]), 2, 40) := by kernel_rfl
theorem infoMt : (Try.prog.info? 56).map (fun i => (i.zero, i.size, i.bytes)) = some (some (.agg #[.string ⟨#[]⟩, .string ⟨#[]⟩, .string ⟨#[]⟩]), 3, 48) := by kernel_rfl
theorem flr_len (fs : List FlS) : ∀ r ∈ flRows fs, r.length = 5 := fun r hr => by simp only [flRows, List.mem_map] at hr; obtain ⟨_, _, rfl⟩ := hr; rfl
theorem inr_len (fs : List Int) : ∀ r ∈ inRows fs, r.length = 1 := fun r hr => by simp only [inRows, List.mem_map] at hr; obtain ⟨_, _, rfl⟩ := hr; rfl
theorem nmr_len (fs : List NmS) : ∀ r ∈ nmRows fs, r.length = 2 := fun r hr => by simp only [nmRows, List.mem_map] at hr; obtain ⟨_, _, rfl⟩ := hr; rfl
theorem mtr_len (fs : List MtS) : ∀ r ∈ mtRows fs, r.length = 3 := fun r hr => by simp only [mtRows, List.mem_map] at hr; obtain ⟨_, _, rfl⟩ := hr; rfl
theorem flr_one (fs : List FlS) : ∀ u ∈ (flRows fs).flatten, u.oneCell' = true := by
  intro u hu
  simp only [List.mem_flatten, flRows, List.mem_map] at hu
  obtain ⟨l, ⟨f, _, rfl⟩, hu⟩ := hu
  simp only [FlS.cells, List.mem_cons, List.not_mem_nil, or_false] at hu
  rcases hu with rfl | rfl | rfl | rfl | rfl <;> rfl
theorem inr_one (fs : List Int) : ∀ u ∈ (inRows fs).flatten, u.oneCell' = true := by
  intro u hu
  simp only [List.mem_flatten, inRows, List.mem_map] at hu
  obtain ⟨l, ⟨f, _, rfl⟩, hu⟩ := hu
  simp only [List.mem_cons, List.not_mem_nil, or_false] at hu
  subst hu; rfl
theorem nmr_one (fs : List NmS) : ∀ u ∈ (nmRows fs).flatten, u.oneCell' = true := by
  intro u hu
  simp only [List.mem_flatten, nmRows, List.mem_map] at hu
  obtain ⟨l, ⟨f, _, rfl⟩, hu⟩ := hu
  simp only [NmS.cells, List.mem_cons, List.not_mem_nil, or_false] at hu
  rcases hu with rfl | rfl <;> rfl
theorem mtr_one (fs : List MtS) : ∀ u ∈ (mtRows fs).flatten, u.oneCell' = true := by
  intro u hu
  simp only [List.mem_flatten, mtRows, List.mem_map] at hu
  obtain ⟨l, ⟨f, _, rfl⟩, hu⟩ := hu
  simp only [MtS.cells, List.mem_cons, List.not_mem_nil, or_false] at hu
  rcases hu with rfl | rfl | rfl <;> rfl
theorem own_rowF {w : World} {B n : Nat} {v : Value} {fs : List FlS} (h : w.ownsRow B 49 5 v n (flRows fs).flatten) : RowG w v 5 (flRows fs) := (RowG.own (flr_len fs) (by decide) h).1
theorem own_rowI {w : World} {B n : Nat} {v : Value} {fs : List Int} (h : w.ownsRow B 3 1 v n (inRows fs).flatten) : RowG w v 1 (inRows fs) := (RowG.own (inr_len fs) (by decide) h).1
theorem own_rowN {w : World} {B n : Nat} {v : Value} {fs : List NmS} (h : w.ownsRow B 54 2 v n (nmRows fs).flatten) : RowG w v 2 (nmRows fs) := (RowG.own (nmr_len fs) (by decide) h).1
theorem own_rowT {w : World} {B n : Nat} {v : Value} {fs : List MtS} (h : w.ownsRow B 56 3 v n (mtRows fs).flatten) : RowG w v 3 (mtRows fs) := (RowG.own (mtr_len fs) (by decide) h).1
end Go.Proofs.Ytiiegphbhfiffaa

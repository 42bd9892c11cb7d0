/- value's leaves as trees; the document's examples. -/
import Derived.Test.YtgedelgdjcnogabVaPan
import Derived.Test.YtgedelgdjcnogabBlkT
namespace Go.Proofs.Ytgedelgdjcnogab
open Go.ChangeShapes Go.WideShapes Go.ChangeAt Go.RowKit
set_option linter.unusedVariables false
set_option linter.unusedSimpArgs false
set_option maxRecDepth 20000

abbrev trNum (n : Int) : Value := .agg #[.int .i64 1, .int .i64 n, .string ⟨#[]⟩, .slice none 0 0, .slice none 0 0]
abbrev trStr (s : ByteArray) : Value := .agg #[.int .i64 2, .int .i64 0, .string s, .slice none 0 0, .slice none 0 0]
theorem blk_new2 (w : World) (o : Obj) (cs : Array Value) (t : TypeId) : Blk ((w.alloc o).alloc (.cells cs t)) (w.heap.size + 1) cs t := by
  have := Blk.new (w.alloc o) cs t
  rwa [show (w.alloc o).heap.size = w.heap.size + 1 from by simp] at this
theorem numTree_any (n : Int) (w : World) : Calls Try.prog 49 #[.int .i64 n] w fun e w' => e = .returned (trNum n) ∧ Below w.heap.size w w' := by
  go_enter Try.func49, Try.ntmps49
  go_wp2
  exact bodyPost_ret (v := trNum n) (by simp [results, Try.results49, go_sem]) rfl ⟨rfl, (Below.refl _ _).alloc (Nat.le_refl _) _⟩
theorem strTree_any (s : ByteArray) (w : World) : Calls Try.prog 50 #[.string s] w fun e w' => e = .returned (trStr s) ∧ Below w.heap.size w w' := by
  go_enter Try.func50, Try.ntmps50
  go_wp2
  exact bodyPost_ret (v := trStr s) (by simp [results, Try.results50, go_sem]) rfl ⟨rfl, (Below.refl _ _).alloc (Nat.le_refl _) _⟩
theorem run_treeNum (v : Value) (W : World) : (method 201 71 v "concordat/value.tree").run Try.prog W = .ok (49, v) W := by kernel_rfl
theorem run_treeStr (v : Value) (W : World) : (method 201 72 v "concordat/value.tree").run Try.prog W = .ok (50, v) W := by kernel_rfl
theorem run_treeNode (v : Value) (W : World) : (method 201 48 v "concordat/value.tree").run Try.prog W = .ok (46, v) W := by kernel_rfl
theorem treeNum (n : Int) (w : World) : Calls Try.prog 19 #[vNum n] w fun e w' => e = .returned (trNum n) ∧ Below w.heap.size w w' := by
  have hm := run_treeNum (.int .i64 n)
  go_enter Try.func19, Try.ntmps19
  go_wp2_with fail
  refine (numTree_any n _).mono ?_
  rintro e w1 ⟨rfl, hb⟩
  have hB1 : Blk w1 (w.heap.size + 1) #[.int .i64 0, .int .i64 0, .string ⟨#[]⟩, .slice none 0 0, .slice none 0 0] 25 := Blk.below (blk_new2 w _ _ _) hb
  have hb1 : Below w.heap.size w w1 := (((Below.refl _ _).alloc (Nat.le_refl _) _).alloc (by simp) _).trans (hb.mono (by simp; omega))
  obtain ⟨R, hR⟩ : ∃ R, w.heap.size + 1 = R := ⟨_, rfl⟩
  have hRl : w.heap.size ≤ R := by omega
  rw [hR] at hB1
  simp only [hR]
  clear hb hR
  have q0 := hB1.cell 0
  have q1 := hB1.cell 1
  have q2 := hB1.cell 2
  have q3 := hB1.cell 3
  have q4 := hB1.cell 4
  have z0 := hB1.froz 0
  have z1 := hB1.froz 1
  have z2 := hB1.froz 2
  have z3 := hB1.froz 3
  have z4 := hB1.froz 4
  simp at q0 q1 q2 q3 q4
  clear hB1
  go_wp2_with fail
  refine bodyPost_ret (results_cell rfl _ _ _ ⟨R, 0, none⟩ (trNum n) (by go_simp) (by go_simp)) rfl ⟨rfl, ?_⟩
  exact ((((hb1.setCell hRl _).setCell hRl _).setCell hRl _).setCell hRl _).setCell hRl _
theorem treeStr (s : ByteArray) (w : World) : Calls Try.prog 19 #[vStr s] w fun e w' => e = .returned (trStr s) ∧ Below w.heap.size w w' := by
  have hm := run_treeStr (.string s)
  go_enter Try.func19, Try.ntmps19
  go_wp2_with fail
  refine (strTree_any s _).mono ?_
  rintro e w1 ⟨rfl, hb⟩
  have hB1 : Blk w1 (w.heap.size + 1) #[.int .i64 0, .int .i64 0, .string ⟨#[]⟩, .slice none 0 0, .slice none 0 0] 25 := Blk.below (blk_new2 w _ _ _) hb
  have hb1 : Below w.heap.size w w1 := (((Below.refl _ _).alloc (Nat.le_refl _) _).alloc (by simp) _).trans (hb.mono (by simp; omega))
  obtain ⟨R, hR⟩ : ∃ R, w.heap.size + 1 = R := ⟨_, rfl⟩
  have hRl : w.heap.size ≤ R := by omega
  rw [hR] at hB1
  simp only [hR]
  clear hb hR
  have q0 := hB1.cell 0
  have q1 := hB1.cell 1
  have q2 := hB1.cell 2
  have q3 := hB1.cell 3
  have q4 := hB1.cell 4
  have z0 := hB1.froz 0
  have z1 := hB1.froz 1
  have z2 := hB1.froz 2
  have z3 := hB1.froz 3
  have z4 := hB1.froz 4
  simp at q0 q1 q2 q3 q4
  clear hB1
  go_wp2_with fail
  refine bodyPost_ret (results_cell rfl _ _ _ ⟨R, 0, none⟩ (trStr s) (by go_simp) (by go_simp)) rfl ⟨rfl, ?_⟩
  exact ((((hb1.setCell hRl _).setCell hRl _).setCell hRl _).setCell hRl _).setCell hRl _
theorem awake_any (w : World) : Calls Try.prog 6 #[] w fun e w' => e = .returned (.bool true) ∧ Below w.heap.size w w' := by
  go_enter Try.func6, Try.ntmps6
  go_wp2_with fail
  refine (num_any 1 _).mono ?_
  rintro e w1 ⟨rfl, h1⟩
  go_wp2_with fail
  refine (asStr_no (.iface 71 (.int .i64 1)) _ (.inr ⟨_, _, rfl, by decide⟩)).mono ?_
  rintro e w2 ⟨rfl, h2⟩
  have hb2 : Below w.heap.size w w2 := h1.trans (h2.mono h1.size)
  clear h1 h2
  go_wp2_with fail
  refine (num_any 7 _).mono ?_
  rintro e w3 ⟨rfl, h3⟩
  have hb3 : Below w.heap.size w w3 := hb2.trans (h3.mono hb2.size)
  clear h3 hb2
  go_wp2_with fail
  refine (asNum_yes _ _).mono ?_
  rintro e w4 ⟨rfl, h4⟩
  have hb4 : Below w.heap.size w w4 := hb3.trans (h4.mono hb3.size)
  clear h4 hb3
  go_wp2_with fail
  refine (num_any 1 _).mono ?_
  rintro e w5 ⟨rfl, h5⟩
  have hb5 : Below w.heap.size w w5 := hb4.trans (h5.mono hb4.size)
  clear h5 hb4
  go_wp2_with fail
  refine (panics_yes (.iface 71 (.int .i64 1)) 1 _ (.inr (.inl rfl)) fun W => mustStr_no _ W (.inr ⟨_, _, rfl, by decide⟩)).mono ?_
  rintro e w6 ⟨rfl, h6⟩
  have hb6 : Below w.heap.size w w6 := hb5.trans (h6.mono hb5.size)
  clear h6 hb5
  go_wp2_with fail
  refine (str_any _ _).mono ?_
  rintro e w7 ⟨rfl, h7⟩
  have hb7 : Below w.heap.size w w7 := hb6.trans (h7.mono hb6.size)
  clear h7 hb6
  go_wp2_with fail
  refine (panics_no (.iface 72 (.string ⟨#[97]⟩)) 1 _ (.inr (.inl rfl)) fun W => (mustStr_yes _ W).mono fun _ _ h => ⟨⟨_, h.1⟩, h.2⟩).mono ?_
  rintro e w8 ⟨rfl, h8⟩
  have hb8 : Below w.heap.size w w8 := hb7.trans (h8.mono hb7.size)
  clear h8 hb7
  go_wp2_with fail
  go_ret
  exact ⟨rfl, hb8⟩
end Go.Proofs.Ytgedelgdjcnogab

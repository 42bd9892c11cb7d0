/- Whether an assertion of one value panics. -/
import Derived.Test.YtgedelgdjcnogabVaLeaf
import Derived.Defers
import Derived.Recover
import Derived.Laws.Pointers
namespace Go.Proofs.Ytgedelgdjcnogab
open Go.ChangeShapes Go.WideShapes Go.ChangeAt Go.RowKit
set_option linter.unusedVariables false
set_option linter.unusedSimpArgs false
set_option maxRecDepth 20000

theorem catch_panicking (p : Addr) (x : Bool) (u : TypeId) (pv : Value) (older : List PanicEntry) (w : World) (hc : w.cell? p = some (.bool x)) (hz : w.frozen? p = false) :
    CallsD Try.prog 25 #[.pointer (some p)] (.panicking ({ v := .iface u pv, recovered := false } :: older)) w fun e u' w' =>
      e = .returned (.tuple #[]) ∧ u' = .panicking ({ v := .iface u pv, recovered := true } :: older) ∧ w' = w.setCell p (.bool true) := by
  refine callsD_of_wpS Try.func25 rfl fun c₀ cs hu => ?_
  apply wpS_seq
  apply wpS_region
  simp [wpOpsS, go_sem, recoverD, hu, Try.ntmps25, Exit.thenS]
  refine wpS_cond (t := true) (by simp [Act.eval, Array.replicate]) ?_
  simp only [if_true]
  apply wpS_region
  simp [wpOpsS, go_sem, hc, hz, bodyPostS, results, Try.results25]

theorem catch_idle (p : Addr) (w : World) :
    CallsD Try.prog 25 #[.pointer (some p)] .returning w fun e u' w' => e = .returned (.tuple #[]) ∧ u' = .returning ∧ w' = w := by
  refine callsD_of_wpS Try.func25 rfl fun c₀ cs hu => ?_
  apply wpS_seq
  apply wpS_region
  simp [wpOpsS, go_sem, recoverD, hu, Try.ntmps25, Exit.thenS]
  refine wpS_cond (t := false) (by simp [Act.eval, Array.replicate]) ?_
  simp only [Bool.false_eq_true, if_false]
  refine wpS_of_wp (wp_skip ?_)
  cases c₀
  simp_all [bodyPostS, results, Try.results25]

/-- The assertion's function, by its number in panics. -/
def mustF (k : Int) : FuncId := if k = 0 then 16 else if k = 1 then 17 else 26

theorem panics_yes (x : Value) (k : Int) (w : World) (hk : k = 0 ∨ k = 1 ∨ k = 2)
    (hm : ∀ W, Calls Try.prog (mustF k) #[.agg #[x]] W fun e w' => (∃ p, e = .panicked [{ v := .iface 15 p, recovered := false }]) ∧ Below W.heap.size W w') :
    Calls Try.prog 18 #[.agg #[x], .int .i64 k] w fun e w' => e = .returned (.bool true) ∧ Below w.heap.size w w' := by
  have hmf : ∀ (fn : Fn) (first cap : Array Value) (w : World), (Instr.makeFunc fn first cap).run Try.prog w = .ok (.func fn first cap) w := fun _ _ _ _ => rfl
  have HM : Hid (∀ W, Calls Try.prog (mustF k) #[.agg #[x]] W fun e w' => (∃ p, e = .panicked [{ v := .iface 15 p, recovered := false }]) ∧ Below W.heap.size W w') := hm
  clear hm
  rcases hk with rfl | rfl | rfl
  all_goals
    go_enter_defers Try.func18, Try.ntmps18
    go_wp2_with fail
    refine (HM.out _).mono ?_
    rintro e w' ⟨⟨p, rfl⟩, hb⟩
    go_wp2_with fail
    have hb' : Below w.heap.size w w' := (((Below.refl _ _).alloc (Nat.le_refl _) _).alloc (by simp) _).trans (hb.mono (by simp; omega))
    have hcell : w'.cell? ⟨w.heap.size + 1, 0, none⟩ = some (.bool false) := by rw [hb.cell (p := ⟨w.heap.size + 1, 0, none⟩) (by simp)]; simp [go_sem]
    have hfroz : w'.frozen? ⟨w.heap.size + 1, 0, none⟩ = false := by rw [hb.frozen (p := ⟨w.heap.size + 1, 0, none⟩) (by simp)]; simp [go_sem]
    have hz : w.heap.size + 1 < w'.heap.size := by have := hb.size; simp at this; omega
    refine leaves_cons (f := 25) (args := #[.pointer (some ⟨w.heap.size + 1, 0, none⟩)]) (by simp) (by simp [go_sem]) ?_
    refine (catch_panicking ⟨w.heap.size + 1, 0, none⟩ false 15 p [] w' hcell hfroz).mono ?_
    rintro e u' w'' ⟨rfl, rfl, rfl⟩
    have hc2 : ∀ b, (w'.setCell ⟨w.heap.size + 1, 0, none⟩ b).cell? ⟨w.heap.size + 1, 0, none⟩ = some b := fun b => World.cell?_setCell_same' _ _ _ (by rw [hcell]; rfl)
    simp [Leaves, settle, results, Try.results18, go_sem, hz, hc2]
    exact Below.setCell (p := ⟨w.heap.size + 1, 0, none⟩) hb' (Nat.le_succ _) _

theorem panics_no (x : Value) (k : Int) (w : World) (hk : k = 0 ∨ k = 1 ∨ k = 2)
    (hm : ∀ W, Calls Try.prog (mustF k) #[.agg #[x]] W fun e w' => (∃ v, e = .returned v) ∧ Below W.heap.size W w') :
    Calls Try.prog 18 #[.agg #[x], .int .i64 k] w fun e w' => e = .returned (.bool false) ∧ Below w.heap.size w w' := by
  have hmf : ∀ (fn : Fn) (first cap : Array Value) (w : World), (Instr.makeFunc fn first cap).run Try.prog w = .ok (.func fn first cap) w := fun _ _ _ _ => rfl
  have HM : Hid (∀ W, Calls Try.prog (mustF k) #[.agg #[x]] W fun e w' => (∃ v, e = .returned v) ∧ Below W.heap.size W w') := hm
  clear hm
  rcases hk with rfl | rfl | rfl
  all_goals
    go_enter_defers Try.func18, Try.ntmps18
    go_wp2_with fail
    refine (HM.out _).mono ?_
    rintro e w' ⟨⟨p, rfl⟩, hb⟩
    have hb' : Below w.heap.size w w' := (((Below.refl _ _).alloc (Nat.le_refl _) _).alloc (by simp) _).trans (hb.mono (by simp; omega))
    have hcell : w'.cell? ⟨w.heap.size + 1, 0, none⟩ = some (.bool false) := by rw [hb.cell (p := ⟨w.heap.size + 1, 0, none⟩) (by simp)]; simp [go_sem]
    have hfroz : w'.frozen? ⟨w.heap.size + 1, 0, none⟩ = false := by rw [hb.frozen (p := ⟨w.heap.size + 1, 0, none⟩) (by simp)]; simp [go_sem]
    have hz : w.heap.size + 1 < w'.heap.size := by have := hb.size; simp at this; omega
    clear hb
    go_wp2_with fail
    refine leaves_cons (f := 25) (args := #[.pointer (some ⟨w.heap.size + 1, 0, none⟩)]) (by simp) (by simp [go_sem]) ?_
    refine (catch_idle ⟨w.heap.size + 1, 0, none⟩ _).mono ?_
    rintro e u' w'' ⟨rfl, rfl, rfl⟩
    have hc2 : ∀ b, (w'.setCell ⟨w.heap.size + 1, 0, none⟩ b).cell? ⟨w.heap.size + 1, 0, none⟩ = some b := fun b => World.cell?_setCell_same' _ _ _ (by rw [hcell]; rfl)
    simp [Leaves, settle, results, Try.results18, go_sem, hz, hc2]
    exact Below.setCell (p := ⟨w.heap.size + 1, 0, none⟩) hb' (Nat.le_succ _) _
end Go.Proofs.Ytgedelgdjcnogab

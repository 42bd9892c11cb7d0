/- Five keys that are laid into a set in whatever order: a map's literal. -/
import Derived.Test.YtomeppgmmlaibaaCkRow
import Derived.Test.YtomeppgmmlaibaaRg
namespace Go.Proofs.Ytomeppgmmlaibaa
open Go.ChangeShapes Go.WideShapes Go.ChangeAt Go.RowKit Go.Maps
set_option linter.unusedVariables false
set_option linter.unusedSimpArgs false
set_option maxRecDepth 20000

theorem SetK.perm {k : TypeId} {w : World} {b n : Nat} {L L' : List Value} (h : SetK k w b n L) (hp : ∀ v, v ∈ L ↔ v ∈ L') : SetK k w b n L' := by
  obtain ⟨D, h1, h2⟩ := h
  exact ⟨D, h1, fun v kl hv => (h2 v kl hv).trans (hp v)⟩
/-- A key is laid into a set, as an operation of a region. -/
theorem ins_wp {ops : Array Oper} {Q : Exit → Act → World → Prop} {K : Act → World → Prop} {a : Act} {w : World} {i : Nat} {o : Oper} {m kt vt b n : Nat} {L : List (Int × ByteArray)} {p : Int × ByteArray} (hi : ops[i]? = some o) (hg : o.guard = none) (hd : o.dst = none)
    (hop : o.op = .insert 70 (.tmp m) (.tmp kt) (.tmp vt)) (hm : a.eval (.tmp m) = .map (some b)) (hk : a.eval (.tmp kt) = tyV p) (hv : a.eval (.tmp vt) = .agg #[]) (hp : I64 p.1) (hps : p.2.size ≤ 140737488351232)
    (hS : SetT w b n L) (hn : n < 1000) (hK : ∀ w', SetT w' b (n + 1) (L ++ [p]) → w.grownBy w' (some b) → K a w') : wpOp Try.prog ops Q i K a w := by
  obtain ⟨D, hown, h2⟩ := hS
  obtain ⟨kl, hkey⟩ := key_ty hp hps
  obtain ⟨w', hrun, r1, r2⟩ := hown.update lawT Try.underlying70 (by unfold maxLen; omega) hkey (unitElem_mk (H := Unit))
  have hS' : SetT w' b (n + 1) (L ++ [p]) := by
    have := SetK.put lawT hown.isMap h2 hkey r1
    unfold SetT
    rw [List.map_append]
    exact this
  unfold wpOp
  simp only [hi]
  have hwt : Region.wanted o (yielded ops a.tmps) = true := by unfold Region.wanted; rw [hg]
  rw [if_pos hwt]
  refine .inl ?_
  unfold Oper.wp
  simp [execOp, hop, hm, hk, hv, hrun, Result.andThen, hd]
  rw [Oper.upon_skip, hd]
  exact hK w' hS' r2
def five (b1 b2 b3 b4 b5 : Bool) : List (Int × ByteArray) := (if b1 then [(1, ⟨#[]⟩)] else []) ++ (if b2 then [(2, ⟨#[]⟩)] else []) ++ (if b3 then [(3, ⟨#[]⟩)] else []) ++ (if b4 then [(4, ⟨#[]⟩)] else []) ++ (if b5 then [(5, ⟨#[]⟩)] else [])
def lst5 (b1 b2 b3 b4 b5 : Bool) : Array Bool := #[true, true, true, b1, true, true, b2, true, true, b3, true, true, b4, true, true, b5, false, false]
def rd5 (b1 b2 b3 b4 b5 : Bool) : List Nat := if b1 && b2 && b3 && b4 && b5 then [16] else (if b1 then [] else [3]) ++ (if b2 then [] else [6]) ++ (if b3 then [] else [9]) ++ (if b4 then [] else [12]) ++ (if b5 then [] else [15])
def cnt5 (b1 b2 b3 b4 b5 : Bool) : Nat := (if b1 then 0 else 1) + (if b2 then 0 else 1) + (if b3 then 0 else 1) + (if b4 then 0 else 1) + (if b5 then 0 else 1)
theorem rd5_mem : ∀ (b1 b2 b3 b4 b5 : Bool), cnt5 b1 b2 b3 b4 b5 ≠ 0 → ∀ i ∈ rd5 b1 b2 b3 b4 b5, (i = 3 ∧ b1 = false) ∨ (i = 6 ∧ b2 = false) ∨ (i = 9 ∧ b3 = false) ∨ (i = 12 ∧ b4 = false) ∨ (i = 15 ∧ b5 = false) := by
  intro b1 b2 b3 b4 b5
  cases b1 <;> cases b2 <;> cases b3 <;> cases b4 <;> cases b5 <;> simp [rd5, cnt5]
theorem rd5_ne : ∀ (b1 b2 b3 b4 b5 : Bool), rd5 b1 b2 b3 b4 b5 ≠ [] := by decide
theorem mem5 {p : Int × ByteArray} {b1 b2 b3 b4 b5 : Bool} : p ∈ five b1 b2 b3 b4 b5 ↔ (b1 = true ∧ p = (1, ⟨#[]⟩)) ∨ (b2 = true ∧ p = (2, ⟨#[]⟩)) ∨ (b3 = true ∧ p = (3, ⟨#[]⟩)) ∨ (b4 = true ∧ p = (4, ⟨#[]⟩)) ∨ (b5 = true ∧ p = (5, ⟨#[]⟩)) := by
  cases b1 <;> cases b2 <;> cases b3 <;> cases b4 <;> cases b5 <;> simp [five]
theorem setT_perm {w : World} {b n : Nat} {L L' : List (Int × ByteArray)} (h : SetT w b n L) (hp : ∀ v, v ∈ L ↔ v ∈ L') : SetT w b n L' := by
  refine SetK.perm h fun v => ?_
  simp only [List.mem_map]
  constructor
  · rintro ⟨p, h1, h2⟩; exact ⟨p, (hp p).1 h1, h2⟩
  · rintro ⟨p, h1, h2⟩; exact ⟨p, (hp p).2 h1, h2⟩
/-- The five, in whatever order. -/
theorem rg_five {ops : Array Oper} {Q : Exit → Act → World → Prop} {a : Act} {b B : Nat} {w0 : World} {o3 o6 o9 o12 o15 : Oper} (hB : B ≤ b)
    (h3 : ops[3]? = some o3) (g3 : o3.guard = none) (d3 : o3.dst = none) (p3 : o3.op = .insert 70 (.tmp 8) (.tmp 9) (.tmp 10))
    (h6 : ops[6]? = some o6) (g6 : o6.guard = none) (d6 : o6.dst = none) (p6 : o6.op = .insert 70 (.tmp 8) (.tmp 11) (.tmp 12))
    (h9 : ops[9]? = some o9) (g9 : o9.guard = none) (d9 : o9.dst = none) (p9 : o9.op = .insert 70 (.tmp 8) (.tmp 13) (.tmp 14))
    (h12 : ops[12]? = some o12) (g12 : o12.guard = none) (d12 : o12.dst = none) (p12 : o12.op = .insert 70 (.tmp 8) (.tmp 15) (.tmp 16))
    (h15 : ops[15]? = some o15) (g15 : o15.guard = none) (d15 : o15.dst = none) (p15 : o15.op = .insert 70 (.tmp 8) (.tmp 17) (.tmp 18))
    (hm : a.eval (.tmp 8) = .map (some b)) (k1 : a.eval (.tmp 9) = tyV (1, ⟨#[]⟩)) (v1 : a.eval (.tmp 10) = .agg #[]) (k2 : a.eval (.tmp 11) = tyV (2, ⟨#[]⟩)) (v2 : a.eval (.tmp 12) = .agg #[]) (k3 : a.eval (.tmp 13) = tyV (3, ⟨#[]⟩)) (v3 : a.eval (.tmp 14) = .agg #[])
    (k4 : a.eval (.tmp 15) = tyV (4, ⟨#[]⟩)) (v4 : a.eval (.tmp 16) = .agg #[]) (k5 : a.eval (.tmp 17) = tyV (5, ⟨#[]⟩)) (v5 : a.eval (.tmp 18) = .agg #[])
    (hrd : ∀ b1 b2 b3 b4 b5, Region.ready .any ops (lst5 b1 b2 b3 b4 b5) = rd5 b1 b2 b3 b4 b5)
    (fin : ∀ w n, n ≤ 5 → Below B w0 w → SetT w b n (five true true true true true) → wpAnyH Try.prog .any ops Q (fun _ => True) 2 (lst5 true true true true true) a w) :
    ∀ (n m : Nat) (b1 b2 b3 b4 b5 : Bool), cnt5 b1 b2 b3 b4 b5 = n → m + n ≤ 5 → ∀ w, B ≤ w.heap.size → Below B w0 w → SetT w b m (five b1 b2 b3 b4 b5) → wpAnyH Try.prog .any ops Q (fun _ => True) (n + 2) (lst5 b1 b2 b3 b4 b5) a w
  | 0, m, b1, b2, b3, b4, b5, hc, hmn, w, hw, hbel, hS => by
    have : b1 = true ∧ b2 = true ∧ b3 = true ∧ b4 = true ∧ b5 = true := by
      revert hc; cases b1 <;> cases b2 <;> cases b3 <;> cases b4 <;> cases b5 <;> simp [cnt5]
    obtain ⟨rfl, rfl, rfl, rfl, rfl⟩ := this
    exact fin w m (by omega) hbel hS
  | n + 1, m, b1, b2, b3, b4, b5, hc, hmn, w, hw, hbel, hS => by
    have ih := rg_five hB h3 g3 d3 p3 h6 g6 d6 p6 h9 g9 d9 p9 h12 g12 d12 p12 h15 g15 d15 p15 hm k1 v1 k2 v2 k3 v3 k4 v4 k5 v5 hrd fin n (m + 1)
    refine ⟨fun h => absurd ((hrd b1 b2 b3 b4 b5).symm.trans h) (rd5_ne b1 b2 b3 b4 b5), fun i hi => ?_⟩
    rw [hrd] at hi
    have hgb : ∀ w', w.grownBy w' (some b) → Below B w0 w' := fun w' hg => hbel.grown hg hw (fun j hj => by cases hj; exact hB)
    have hgs : ∀ w', w.grownBy w' (some b) → B ≤ w'.heap.size := fun w' hg => Nat.le_trans hw hg.size
    rcases rd5_mem b1 b2 b3 b4 b5 (by omega) i hi with ⟨rfl, rfl⟩ | ⟨rfl, rfl⟩ | ⟨rfl, rfl⟩ | ⟨rfl, rfl⟩ | ⟨rfl, rfl⟩
    · refine ins_wp (p := (1, ⟨#[]⟩)) h3 g3 d3 p3 hm k1 v1 ⟨by decide, by decide⟩ (by decide) hS (by omega) (fun w' hS' hg => ⟨trivial, ?_⟩)
      exact ih true b2 b3 b4 b5 (by revert hc; unfold cnt5; simp only [if_true, if_false, Bool.false_eq_true]; omega) (by omega) w' (hgs w' hg) (hgb w' hg) (setT_perm hS' (fun v => by rw [List.mem_append, mem5, mem5]; simp [or_comm, or_left_comm, or_assoc]))
    · refine ins_wp (p := (2, ⟨#[]⟩)) h6 g6 d6 p6 hm k2 v2 ⟨by decide, by decide⟩ (by decide) hS (by omega) (fun w' hS' hg => ⟨trivial, ?_⟩)
      exact ih b1 true b3 b4 b5 (by revert hc; unfold cnt5; simp only [if_true, if_false, Bool.false_eq_true]; omega) (by omega) w' (hgs w' hg) (hgb w' hg) (setT_perm hS' (fun v => by rw [List.mem_append, mem5, mem5]; simp [or_comm, or_left_comm, or_assoc]))
    · refine ins_wp (p := (3, ⟨#[]⟩)) h9 g9 d9 p9 hm k3 v3 ⟨by decide, by decide⟩ (by decide) hS (by omega) (fun w' hS' hg => ⟨trivial, ?_⟩)
      exact ih b1 b2 true b4 b5 (by revert hc; unfold cnt5; simp only [if_true, if_false, Bool.false_eq_true]; omega) (by omega) w' (hgs w' hg) (hgb w' hg) (setT_perm hS' (fun v => by rw [List.mem_append, mem5, mem5]; simp [or_comm, or_left_comm, or_assoc]))
    · refine ins_wp (p := (4, ⟨#[]⟩)) h12 g12 d12 p12 hm k4 v4 ⟨by decide, by decide⟩ (by decide) hS (by omega) (fun w' hS' hg => ⟨trivial, ?_⟩)
      exact ih b1 b2 b3 true b5 (by revert hc; unfold cnt5; simp only [if_true, if_false, Bool.false_eq_true]; omega) (by omega) w' (hgs w' hg) (hgb w' hg) (setT_perm hS' (fun v => by rw [List.mem_append, mem5, mem5]; simp [or_comm, or_left_comm, or_assoc]))
    · refine ins_wp (p := (5, ⟨#[]⟩)) h15 g15 d15 p15 hm k5 v5 ⟨by decide, by decide⟩ (by decide) hS (by omega) (fun w' hS' hg => ⟨trivial, ?_⟩)
      exact ih b1 b2 b3 b4 true (by revert hc; unfold cnt5; simp only [if_true, if_false, Bool.false_eq_true]; omega) (by omega) w' (hgs w' hg) (hgb w' hg) (setT_perm hS' (fun v => by rw [List.mem_append, mem5, mem5]; simp [or_comm, or_left_comm, or_assoc]))
end Go.Proofs.Ytomeppgmmlaibaa

/- What Reserved answers. -/
import Derived.Test.YtomeppgmmlaibaaCkFind
namespace Go.Proofs.Ytomeppgmmlaibaa
open Go.ChangeShapes Go.WideShapes Go.ChangeAt Go.RowKit Go.Maps
set_option linter.unusedVariables false
set_option linter.unusedSimpArgs false
set_option maxRecDepth 20000

theorem memI_cons (x y : Int) (l : List Int) : memI x (y :: l) = (decide (x = y) || memI x l) := by simp [memI, Bool.decide_or]
set_option maxHeartbeats 2000000 in
theorem index_any {w : World} {v : Value} {ns : List Int} (t : Int) (hr : RowG w v 1 (inRows ns)) :
    Calls Try.prog 57 #[v, .int .i64 t] w fun e w' => (∃ n : Int, e = .returned (.int .i64 n) ∧ decide (0 ≤ n) = memI t ns) ∧ Below w.heap.size w w' := by
  obtain ⟨a, c, rfl, q1, q2⟩ := hr.form2
  have hN : (inRows ns).length = ns.length := by simp [inRows]
  rw [hN] at hr q1 ⊢
  clear hN
  obtain ⟨N, hN⟩ : ∃ N, ns.length = N := ⟨_, rfl⟩
  rw [hN] at hr q1 ⊢
  have HN : Hid (ns.length = N) := hN
  have HR : Hid (RowG w (.slice a N c) 1 (inRows ns)) := hr
  clear hN hr
  obtain ⟨A, hA⟩ : ∃ A, memI t ns = A := ⟨_, rfl⟩
  rw [hA]
  have HA : Hid (A = memI t ns) := hA.symm
  clear hA
  go_enter Try.func57, Try.ntmps57
  go_wp2_with fail
  go_loopw [8] (fun iv wr => ∃ k : Nat, iv = .int .i64 (k : Int) ∧ k ≤ N ∧ Hid (A = memI t (ns.drop k)) ∧ Below w.heap.size w wr) (fun iv _ => N - (intOf iv).toNat)
  case atStart => exact ⟨0, rfl, by omega, HA, Below.refl _ _⟩
  case round =>
    obtain ⟨k, rfl, hk, HAk, hbel⟩ := hrel
    by_cases hlt : k < N
    · obtain ⟨f, hf⟩ : ∃ n, ns[k]? = some n := ⟨_, List.getElem?_eq_getElem (by rw [HN.out]; exact hlt)⟩
      have hrr : (inRows ns)[k]? = some [.int .i64 f] := by simp [inRows, hf]
      obtain ⟨g, off, rfl, c1⟩ := (HR.out.below hbel).get hrr
      have HA2 : Hid (A = (decide (t = f) || memI t (ns.drop (k + 1)))) := by
        show _ = _
        rw [HAk.out, drop_at hf, memI_cons]
      have p0 := c1 0 _ rfl
      simp only [Nat.mul_one, Nat.add_zero] at p0
      clear c1 hrr hf HAk
      by_cases he : t = f
      · subst he
        have HA3 : Hid (A = true) := by show _ = _; rw [HA2.out, decide_eq_true rfl]; rfl
        clear HA2
        go_wp2_with fail
        go_ret
        exact ⟨⟨(k : Int), rfl, by rw [HA3.out, decide_eq_true (by omega)]⟩, hbel⟩
      · have hq : (t == f) = false := by simpa using he
        have HA3 : Hid (A = memI t (ns.drop (k + 1))) := by show _ = _; rw [HA2.out, decide_eq_false he]; rfl
        go_wp2_with fail
        go_roundw
        case rel => exact ⟨k + 1, by go_num, by omega, HA3, hbel⟩
        case measure => simp [intOf]; omega
    · go_wp2_with fail
      go_ret
      exact ⟨⟨-1, rfl, by rw [HAk.out, drop_end (by rw [HN.out]; omega)]; rfl⟩, hbel⟩
set_option maxHeartbeats 2000000 in
theorem contains_any {w : World} {v : Value} {ns : List Int} (t : Int) (hr : RowG w v 1 (inRows ns)) :
    Calls Try.prog 41 #[v, .int .i64 t] w fun e w' => e = .returned (.bool (memI t ns)) ∧ Below w.heap.size w w' := by
  have HC := index_any t hr
  clear hr
  go_enter Try.func41, Try.ntmps41
  go_wp2_with fail
  refine HC.mono ?_
  rintro e w1 ⟨⟨n, rfl, hn⟩, hb1⟩
  have HN : Hid _ := hn
  clear hn
  go_wp2_with fail
  go_ret
  exact ⟨ret_bool HN.out, hb1⟩
set_option maxHeartbeats 2000000 in
theorem creserved_any {w : World} {v : Value} {ns : List Int} {snm : ByteArray} {af : Option Addr} {F cf : Nat} (t : Int) (hr : RowG w v 1 (inRows ns)) :
    Calls Try.prog 23 #[.agg #[.string snm, .slice af F cf, v], .int .i64 t] w fun e w' => e = .returned (.bool (memI t ns)) ∧ Below w.heap.size w w' := by
  obtain ⟨a, c, rfl, q1, q2⟩ := hr.form2
  have HR : Hid (RowG w (.slice a (inRows ns).length c) 1 (inRows ns)) := hr
  clear hr
  generalize (inRows ns).length = N at *
  have hba : Below w.heap.size w (w.alloc (.cells #[.string snm, .slice af F cf, .slice a N c] 35)) := (Below.refl _ _).alloc (Nat.le_refl _) _
  go_enter Try.func23, Try.ntmps23
  go_wp2_with fail
  refine (contains_any t (HR.out.below hba)).mono ?_
  rintro e w1 ⟨rfl, hb1⟩
  go_wp2_with fail
  go_ret
  exact ⟨rfl, hba.trans (hb1.mono hba.size)⟩
end Go.Proofs.Ytomeppgmmlaibaa

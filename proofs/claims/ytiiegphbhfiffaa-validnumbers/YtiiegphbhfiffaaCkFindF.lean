/- What Field answers. -/
import Derived.Test.YtiiegphbhfiffaaCkFindB
namespace Go.Proofs.Ytiiegphbhfiffaa
open Go.ChangeShapes Go.WideShapes Go.ChangeAt Go.RowKit Go.Maps
set_option linter.unusedVariables false
set_option linter.unusedSimpArgs false
set_option maxRecDepth 20000

set_option maxHeartbeats 2000000 in
theorem cfield_any {w : World} {snm : ByteArray} {nm : Int} {am : Option Addr} {M cm : Nat} {vt : Value} {ts : List FlS} (hr : RowG w vt 5 (flRows ts)) :
    Calls Try.prog 47 #[.agg #[.string snm, vt, .slice am M cm], .int .i64 nm] w fun e w' => e = .returned (.tuple #[flV ((ts.find? fun m => decide (m.tag = nm)).getD zeroF), .bool (ts.find? fun m => decide (m.tag = nm)).isSome]) ∧ Below w.heap.size w w' := by
  obtain ⟨a, c, rfl, q1, q2⟩ := hr.form2
  have hN : (flRows ts).length = ts.length := by simp [flRows]
  rw [hN] at hr q1 ⊢
  clear hN
  obtain ⟨N, hN⟩ : ∃ N, ts.length = N := ⟨_, rfl⟩
  rw [hN] at hr q1 ⊢
  have HN : Hid (ts.length = N) := hN
  have HR : Hid (RowG w (.slice a N c) 5 (flRows ts)) := hr
  clear hN hr
  obtain ⟨A, hA⟩ : ∃ A, (ts.find? fun m => decide (m.tag = nm)) = A := ⟨_, rfl⟩
  rw [hA]
  have HA : Hid (A = ((ts.drop 0).find? fun m => decide (m.tag = nm))) := hA.symm
  clear hA
  have BX0 : Blk ((w.alloc (.cells #[.string snm, .slice a N c, .slice am M cm] 47)).alloc (.cells #[.string ⟨#[]⟩, .int .i64 0, .int .i64 0, .int .i64 0, .string ⟨#[]⟩] 49)) w.heap.size #[.string snm, .slice a N c, .slice am M cm] 47 := (Blk.new w _ _).below ((Below.refl _ _).alloc (Nat.le_refl _) _)
  have BR0 : Blk ((w.alloc (.cells #[.string snm, .slice a N c, .slice am M cm] 47)).alloc (.cells #[.string ⟨#[]⟩, .int .i64 0, .int .i64 0, .int .i64 0, .string ⟨#[]⟩] 49)) (w.heap.size + 1) #[.string ⟨#[]⟩, .int .i64 0, .int .i64 0, .int .i64 0, .string ⟨#[]⟩] 49 := by
    have := Blk.new (w.alloc (.cells #[.string snm, .slice a N c, .slice am M cm] 47)) #[.string ⟨#[]⟩, .int .i64 0, .int .i64 0, .int .i64 0, .string ⟨#[]⟩] 49
    rwa [show (w.alloc (.cells #[.string snm, .slice a N c, .slice am M cm] 47)).heap.size = w.heap.size + 1 by simp] at this
  have hb0 : Below w.heap.size w ((w.alloc (.cells #[.string snm, .slice a N c, .slice am M cm] 47)).alloc (.cells #[.string ⟨#[]⟩, .int .i64 0, .int .i64 0, .int .i64 0, .string ⟨#[]⟩] 49)) := ((Below.refl _ _).alloc (Nat.le_refl _) _).alloc (by simp) _
  go_enter Try.func47, Try.ntmps47
  go_wp2_with fail
  go_loopw [11] (fun iv wr => ∃ k : Nat, iv = .int .i64 (k : Int) ∧ k ≤ N ∧ Hid (A = ((ts.drop k).find? fun m => decide (m.tag = nm))) ∧ Below w.heap.size w wr ∧ Blk wr (w.heap.size + 1) #[.string ⟨#[]⟩, .int .i64 0, .int .i64 0, .int .i64 0, .string ⟨#[]⟩] 49) (fun iv _ => N - (intOf iv).toNat)
  case atStart => exact ⟨0, rfl, by omega, HA, hb0, BR0⟩
  case round =>
    obtain ⟨k, rfl, hk, HAk, hbel, BR⟩ := hrel
    clear BX0 BR0 hb0
    have hlt2 : w.heap.size + 1 < wr.heap.size := BR.lt
    have r0 := (BR.cell 0).trans rfl
    have z0 := BR.froz 0
    have r1 := (BR.cell 1).trans rfl
    have z1 := BR.froz 1
    have r2 := (BR.cell 2).trans rfl
    have z2 := BR.froz 2
    have r3 := (BR.cell 3).trans rfl
    have z3 := BR.froz 3
    have r4 := (BR.cell 4).trans rfl
    have z4 := BR.froz 4
    by_cases hlt : k < N
    · obtain ⟨f, hf⟩ : ∃ n, ts[k]? = some n := ⟨_, List.getElem?_eq_getElem (by rw [HN.out]; exact hlt)⟩
      have hrr : (flRows ts)[k]? = some f.cells := by simp [flRows, hf]
      obtain ⟨g, off, rfl, c1⟩ := (HR.out.below hbel).get hrr
      obtain ⟨f0, f1, f2, f3, f4⟩ := f
      have HA2 : Hid (A = if decide (f1 = nm) = true then some ⟨f0, f1, f2, f3, f4⟩ else ((ts.drop (k + 1)).find? fun m => decide (m.tag = nm))) := by
        show _ = _
        rw [HAk.out, drop_at hf, List.find?_cons]
        cases decide (f1 = nm) <;> rfl
      have p0 := c1 0 _ rfl
      have p1 := c1 1 _ rfl
      have p2 := c1 2 _ rfl
      have p3 := c1 3 _ rfl
      have p4 := c1 4 _ rfl
      simp only [Nat.add_zero] at p0 p1 p2 p3 p4
      clear c1 hrr hf HAk
      by_cases he : f1 = nm
      · subst he
        go_wp2_with fail
        refine bodyPost_ret (results_two rfl _ _ _ ⟨w.heap.size + 1, 0, none⟩ (.agg #[.string f0, .int .i64 f1, .int .i64 f2, .int .i64 f3, .string f4]) (by go_simp) (by go_simp)) rfl ?_
        exact ⟨ret_two (by rw [HA2.out, if_pos (by simp)]; rfl) (by rw [HA2.out, if_pos (by simp)]; rfl), (Below.alloc (Below.setCell (Below.setCell (Below.setCell (Below.setCell (Below.setCell hbel (by simp) _) (by simp) _) (by simp) _) (by simp) _) (by simp) _) (by simp; omega) _)⟩
      · have hq : (f1 == nm) = false := by simpa using he
        have HA3 : Hid (A = ((ts.drop (k + 1)).find? fun m => decide (m.tag = nm))) := by show _ = _; rw [HA2.out, if_neg (by simpa using he)]
        have hb2 : Below w.heap.size w (wr.alloc (.cells #[.string f0, .int .i64 f1, .int .i64 f2, .int .i64 f3, .string f4] 49)) := hbel.alloc (by omega) _
        have BR2 : Blk (wr.alloc (.cells #[.string f0, .int .i64 f1, .int .i64 f2, .int .i64 f3, .string f4] 49)) (w.heap.size + 1) #[.string ⟨#[]⟩, .int .i64 0, .int .i64 0, .int .i64 0, .string ⟨#[]⟩] 49 := BR.below ((Below.refl _ _).alloc (Nat.le_refl _) _)
        go_wp2_with fail
        go_roundw
        case rel => exact ⟨k + 1, by go_num, by omega, HA3, hb2, BR2⟩
        case measure => simp [intOf]; omega
    · have HA2 : Hid (A = none) := by show _ = _; rw [HAk.out, drop_end (by rw [HN.out]; omega)]; rfl
      go_wp2_with fail
      refine bodyPost_ret (results_two rfl _ _ _ ⟨w.heap.size + 1, 0, none⟩ (.agg #[.string ⟨#[]⟩, .int .i64 0, .int .i64 0, .int .i64 0, .string ⟨#[]⟩]) (by go_simp) (by go_simp)) rfl ?_
      exact ⟨ret_two (by rw [HA2.out]; rfl) (by rw [HA2.out]; rfl), (Below.setCell (Below.setCell (Below.setCell (Below.setCell (Below.setCell hbel (by simp) _) (by simp) _) (by simp) _) (by simp) _) (by simp) _)⟩
end Go.Proofs.Ytiiegphbhfiffaa

/- What the reference's fresh and kind answer. -/
import Derived.Test.YtomeppgmmlaibaaCrFindM
import Derived.Test.YtomeppgmmlaibaaIxName
import Derived.Test.YtomeppgmmlaibaaCkMath
namespace Go.Proofs.Ytomeppgmmlaibaa
open Go.ChangeShapes Go.WideShapes Go.ChangeAt Go.RowKit Go.Maps
set_option linter.unusedVariables false
set_option linter.unusedSimpArgs false
set_option maxRecDepth 20000

def stRows (ns : List ByteArray) : List (List Value) := ns.map fun n => [.string n]
theorem memB_cons (x y : ByteArray) (l : List ByteArray) : memB x (y :: l) = (decide (x = y) || memB x l) := by simp [memB]
set_option maxHeartbeats 2000000 in
theorem rfresh_any {w : World} {v : Value} {ns : List ByteArray} (nm : ByteArray) (hs : nm.size ≤ 20000) (hr : RowG w v 1 (stRows ns)) :
    Calls Try.prog 36 #[.string nm, v] w fun e w' => e = .returned (.bool (freshB nm ns)) ∧ Below w.heap.size w w' := by
  obtain ⟨a, c, rfl, q1, q2⟩ := hr.form2
  have hN : (stRows ns).length = ns.length := by simp [stRows]
  rw [hN] at hr q1 ⊢
  clear hN
  obtain ⟨N, hN⟩ : ∃ N, ns.length = N := ⟨_, rfl⟩
  rw [hN] at hr q1 ⊢
  have HN : Hid (ns.length = N) := hN
  have HR : Hid (RowG w (.slice a N c) 1 (stRows ns)) := hr
  clear hN hr
  obtain ⟨A, hA⟩ : ∃ A, freshB nm ns = A := ⟨_, rfl⟩
  rw [hA]
  have HA : Hid (A = (nameB nm && !memB nm (ns.drop 0))) := hA.symm
  clear hA
  go_enter Try.func36, Try.ntmps36
  go_wp2_with fail
  go_loopw [5] (fun iv wr => ∃ k : Nat, iv = .int .i64 (k : Int) ∧ k ≤ N ∧ Hid (A = (nameB nm && !memB nm (ns.drop k))) ∧ Below w.heap.size w wr) (fun iv _ => N - (intOf iv).toNat)
  case atStart => exact ⟨0, rfl, by omega, HA, Below.refl _ _⟩
  case round =>
    obtain ⟨k, rfl, hk, HAk, hbel⟩ := hrel
    by_cases hlt : k < N
    · obtain ⟨f, hf⟩ : ∃ n, ns[k]? = some n := ⟨_, List.getElem?_eq_getElem (by rw [HN.out]; exact hlt)⟩
      have hrr : (stRows ns)[k]? = some [.string f] := by simp [stRows, hf]
      obtain ⟨g, off, rfl, c1⟩ := (HR.out.below hbel).get hrr
      have HA2 : Hid (A = (nameB nm && !(decide (nm = f) || memB nm (ns.drop (k + 1))))) := by
        show _ = _
        rw [HAk.out, drop_at hf, memB_cons]
      have p0 := c1 0 _ rfl
      simp only [Nat.mul_one, Nat.add_zero] at p0
      clear c1 hrr hf HAk
      by_cases he : f = nm
      · subst he
        have HA3 : Hid (A = false) := by show _ = _; rw [HA2.out, decide_eq_true rfl]; simp
        clear HA2
        go_wp2_with fail
        go_ret
        exact ⟨ret_bool HA3.out.symm, hbel⟩
      · have hq := bytes_ne he
        have HA3 : Hid (A = (nameB nm && !memB nm (ns.drop (k + 1)))) := by show _ = _; rw [HA2.out, decide_eq_false (Ne.symm he)]; rfl
        go_wp2_with fail
        go_roundw
        case rel => exact ⟨k + 1, by go_num, by omega, HA3, hbel⟩
        case measure => simp [intOf]; omega
    · have HA2 : Hid (A = nameB nm) := by show _ = _; rw [HAk.out, drop_end (by rw [HN.out]; omega), memB_nil]; simp
      clear HAk
      go_wp2_with fail
      refine (rfname_any nm _ hs).mono ?_
      rintro e w1 ⟨rfl, hb⟩
      go_wp2_with fail
      go_ret
      exact ⟨ret_bool HA2.out.symm, hbel.trans (hb.mono hbel.size)⟩
theorem find_mn (ms : List MsS) (t : ByteArray) : (ms.find? fun m => decide (m.name = t)).isSome = memB t (ms.map MsS.name) := by
  rw [Bool.eq_iff_iff, List.find?_isSome, memB_iff, List.mem_map]
  simp
theorem find_en (ms : List EnS) (t : ByteArray) : (ms.find? fun m => decide (m.name = t)).isSome = memB t (ms.map EnS.name) := by
  rw [Bool.eq_iff_iff, List.find?_isSome, memB_iff, List.mem_map]
  simp
set_option maxHeartbeats 2000000 in
theorem rkind_any {w : World} {snm t : ByteArray} {am ae at' : Option Addr} {M cm E ce T ct : Nat} {ms : List MsS} {es : List EnS} (k : Int) (hm : MsIn w (.slice am M cm) ms) (he : EnIn w (.slice ae E ce) es) :
    Calls Try.prog 67 #[.agg #[.string snm, .slice am M cm, .slice ae E ce, .slice at' T ct], .agg #[.int .i64 k, .string t]] w fun e w' => e = .returned (.bool (typeB (ms.map MsS.name) (es.map EnS.name) k t)) ∧ Below w.heap.size w w' := by
  have HM : Hid (MsIn w (.slice am M cm) ms) := hm
  have HE : Hid (EnIn w (.slice ae E ce) es) := he
  clear hm he
  have hb0 : Below w.heap.size w ((w.alloc (.cells #[.string snm, .slice am M cm, .slice ae E ce, .slice at' T ct] 26)).alloc (.cells #[.int .i64 k, .string t] 50)) := ((Below.refl _ _).alloc (Nat.le_refl _) _).alloc (by simp) _
  obtain ⟨A, hA⟩ : ∃ A, typeB (ms.map MsS.name) (es.map EnS.name) k t = A := ⟨_, rfl⟩
  rw [hA]
  have HA : Hid (A = typeB (ms.map MsS.name) (es.map EnS.name) k t) := hA.symm
  clear hA
  by_cases hk : 1 ≤ k ∧ k ≤ 5
  · have HA2 : Hid (A = decide (t = ⟨#[]⟩)) := by
      show _ = _
      rw [HA.out]
      unfold typeB
      rw [decide_eq_true hk, decide_eq_false (by omega : ¬ k = 6), decide_eq_false (by omega : ¬ k = 7)]
      simp
    clear HA
    have hc : k = 1 ∨ k = 2 ∨ k = 3 ∨ k = 4 ∨ k = 5 := by omega
    clear hk
    by_cases ht : t = ⟨#[]⟩
    · have HA3 : Hid (A = true) := by show _ = _; rw [HA2.out]; simp [ht]
      clear HA2
      subst ht
      rcases hc with rfl | rfl | rfl | rfl | rfl
      all_goals
        go_enter Try.func67, Try.ntmps67
        go_wp2_with fail
        go_ret
        exact ⟨ret_bool HA3.out.symm, hb0⟩
    · have HA3 : Hid (A = false) := by show _ = _; rw [HA2.out]; simp [ht]
      have hq : Hid (t.toList.isEmpty = false) := by
        show _ = _
        cases h : t.toList.isEmpty with
        | false => rfl
        | true =>
          rw [List.isEmpty_iff] at h
          refine absurd ((bytes_eq_iff _ _).2 ?_) ht
          rw [← ByteArray.toList_eq, h]
      clear HA2 ht
      rcases hc with rfl | rfl | rfl | rfl | rfl
      all_goals
        go_enter Try.func67, Try.ntmps67
        go_wp2_with fail
        go_ret
        exact ⟨ret_bool (hq.out.trans HA3.out.symm), hb0⟩
  by_cases hk6 : k = 6
  · subst hk6
    have HA2 : Hid (A = (es.find? fun m => decide (m.name = t)).isSome) := by
      show _ = _
      rw [HA.out, find_en]
      unfold typeB
      simp
    clear HA hk
    go_enter Try.func67, Try.ntmps67
    go_wp2_with fail
    refine (renum_any (HE.out.below hb0)).mono ?_
    rintro e w1 ⟨vv, rfl, h1, hb⟩
    obtain ⟨xa, xc, rfl, _, _⟩ := h1.form2
    rw [← HA2.out]
    generalize ((es.find? fun m => decide (m.name = t)).getD zeroN).name = xn at *
    generalize (nmRows ((es.find? fun m => decide (m.name = t)).getD zeroN).values).length = xl at *
    have hb1 : Below w.heap.size w (w1.alloc (.cells #[.string xn, .slice xa xl xc] 40)) := (hb0.trans (hb.mono hb0.size)).alloc (hb0.trans (hb.mono hb0.size)).size _
    clear h1 hb
    go_wp2_with fail
    go_ret
    exact ⟨rfl, hb1⟩
  by_cases hk7 : k = 7
  · subst hk7
    have HA2 : Hid (A = (ms.find? fun m => decide (m.name = t)).isSome) := by
      show _ = _
      rw [HA.out, find_mn]
      unfold typeB
      simp
    clear HA hk hk6
    go_enter Try.func67, Try.ntmps67
    go_wp2_with fail
    refine (rmessage_any (HM.out.below hb0)).mono ?_
    rintro e w1 ⟨vf, vr, rfl, h1, h2, hb⟩
    obtain ⟨xa, xc, rfl, _, _⟩ := h1.form2
    obtain ⟨ya, yc, rfl, _, _⟩ := h2.form2
    rw [← HA2.out]
    generalize ((ms.find? fun m => decide (m.name = t)).getD zeroM).name = xn at *
    generalize (flRows ((ms.find? fun m => decide (m.name = t)).getD zeroM).fields).length = xl at *
    generalize (inRows ((ms.find? fun m => decide (m.name = t)).getD zeroM).reserved).length = yl at *
    have hb1 : Below w.heap.size w (w1.alloc (.cells #[.string xn, .slice xa xl xc, .slice ya yl yc] 35)) := (hb0.trans (hb.mono hb0.size)).alloc (hb0.trans (hb.mono hb0.size)).size _
    clear h1 h2 hb
    go_wp2_with fail
    go_ret
    exact ⟨rfl, hb1⟩
  have HA2 : Hid (A = false) := by
    show _ = _
    rw [HA.out]
    unfold typeB
    rw [decide_eq_false hk, decide_eq_false hk6, decide_eq_false hk7]
    simp
  have k1 : (k == 1) = false := by rw [beq_eq_false_iff_ne]; omega
  have k2 : (k == 2) = false := by rw [beq_eq_false_iff_ne]; omega
  have k3 : (k == 3) = false := by rw [beq_eq_false_iff_ne]; omega
  have k4 : (k == 4) = false := by rw [beq_eq_false_iff_ne]; omega
  have k5 : (k == 5) = false := by rw [beq_eq_false_iff_ne]; omega
  have k6 : (k == 6) = false := by rw [beq_eq_false_iff_ne]; omega
  have k7 : (k == 7) = false := by rw [beq_eq_false_iff_ne]; omega
  clear HA hk hk6 hk7
  go_enter Try.func67, Try.ntmps67
  go_wp2_with fail
  go_ret
  exact ⟨ret_bool HA2.out.symm, hb0⟩
end Go.Proofs.Ytomeppgmmlaibaa

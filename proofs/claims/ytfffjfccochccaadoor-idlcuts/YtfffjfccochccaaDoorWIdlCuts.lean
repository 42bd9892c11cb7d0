/- IdlCuts answers true at every text and number. -/
import Derived.Test.YtfffjfccochccaaDoorIdAwake
import Derived.Test.YtfffjfccochccaaDoorSchSame
import Derived.Test.YtfffjfccochccaaDoorLwPlace
namespace Go.Proofs.YtfffjfccochccaaDoor
open Go.ChangeShapes Go.WideShapes Go.ChangeAt Go.RowKit
set_option linter.unusedVariables false
set_option linter.unusedSimpArgs false
set_option maxRecDepth 20000

set_option maxHeartbeats 4000000 in
theorem idlCuts_walk (s : ByteArray) (v : Int) (hs : s.size ≤ 140737488351232) (hv : (Lit.int .i64 v).wf = true) (w : World) (hG : Glob w) :
    Calls Tryd.prog 5 #[.string s, .int .i64 v] w fun e w' => e = .returned (.bool true) ∧ Below w.heap.size w w' := by
  have hv' := bounds_i64 hv
  clear hv
  by_cases hbig : 5000 < s.size
  · have hd : decide (5000 < (s.size : Int)) = true := by simp; omega
    go_enter Tryd.func5, Tryd.ntmps5
    go_wp2_with fail
    refine (iawake_any _ hG).mono ?_
    rintro e w1 ⟨rfl, hb1⟩
    go_wp2_with fail
    go_ret
    exact ⟨rfl, hb1⟩
  · have hd : decide (5000 < (s.size : Int)) = false := by simp; omega
    go_enter Tryd.func5, Tryd.ntmps5
    go_wp2_with fail
    refine (place_any v ((s.size : Int) + 1) _ hv'.1 hv'.2 (by omega) (by omega)).mono ?_
    rintro e w1 ⟨k, rfl, hk, rfl⟩
    have hks : k ≤ s.size := by omega
    clear hk hv' hd
    have hsz : (s.extract 0 k).size = k := by rw [ByteArray.size_extract]; omega
    obtain ⟨⟨sc, p, e⟩, hA⟩ : ∃ A, parseA (s.extract 0 k) = A := ⟨_, rfl⟩
    have hlike := parse_like (s.extract 0 k) (by rw [hsz]; omega)
    rw [hA, hsz] at hlike
    simp only at hlike
    have HP : Hid (Calls Tryd.prog 10 #[.string (s.extract 0 k)] w1 fun x w' => ∃ vm ve vt, x = .returned (.tuple #[.agg #[.string sc.name, vm, ve, vt], .int .i64 (p : Int), .int .i64 (e : Int)]) ∧ MsIn w' vm sc.msgs ∧ EnIn w' ve sc.enums ∧ RowG w' vt 3 (mtRows sc.methods) ∧ Below w1.heap.size w1 w') := parse_row _ _ (by rw [hsz]; omega) hG _ _ _ hA
    clear hA hsz
    rcases hlike with ⟨rfl, rfl, hn⟩ | ⟨he, hp, rfl⟩
    · go_wp2_with fail
      refine HP.out.mono ?_
      rintro x w2 ⟨vm, ve, vt, rfl, h1, h2, h3, hb⟩
      obtain ⟨a1, c1, rfl⟩ := ms_form h1
      obtain ⟨a2, c2, rfl⟩ := en_form h2
      obtain ⟨a3, c3, rfl⟩ := row_form h3
      have hne : (sc.name.toList == []) = false := by
        rw [ByteArray.toList_eq, beq_eq_false_iff_ne]
        intro e
        have := len_data sc.name
        rw [e] at this
        simp at this
        omega
      obtain ⟨nm, ms, es, mt⟩ := sc
      simp only at h1 h2 h3 hne ⊢
      generalize ms.length = n1 at *
      generalize es.length = n2 at *
      generalize (mtRows mt).length = n3 at *
      have hbA : Below w1.heap.size w1 (w2.alloc (.cells #[.string nm, .slice a1 n1 c1, .slice a2 n2 c2, .slice a3 n3 c3] 27)) := hb.alloc hb.size _
      have hGA := hG.below hbA
      clear h1 h2 h3 HP hn
      go_wp2_with fail
      refine (iawake_any _ hGA).mono ?_
      rintro e w3 ⟨rfl, hb3⟩
      go_wp2_with fail
      go_ret
      exact ⟨rfl, hbA.trans (hb3.mono hbA.size)⟩
    · have he0 : ((e : Int) == 0) = false := by rw [beq_eq_false_iff_ne]; omega
      have hpk : decide ((p : Int) ≤ (k : Int)) = true := by simp; omega
      go_wp2_with fail
      refine HP.out.mono ?_
      rintro x w2 ⟨vm, ve, vt, rfl, h1, h2, h3, hb⟩
      obtain ⟨a1, c1, rfl⟩ := ms_form h1
      obtain ⟨a2, c2, rfl⟩ := en_form h2
      obtain ⟨a3, c3, rfl⟩ := row_form h3
      simp only [zeroS, List.length_nil, mtRows, List.map_nil] at h1 h2 h3 ⊢
      have hbA : Below w1.heap.size w1 (w2.alloc (.cells #[.string ⟨#[]⟩, .slice a1 0 c1, .slice a2 0 c2, .slice a3 0 c3] 27)) := hb.alloc hb.size _
      have hbB : Below w2.heap.size w2 (w2.alloc (.cells #[.string ⟨#[]⟩, .slice a1 0 c1, .slice a2 0 c2, .slice a3 0 c3] 27)) := (Below.refl _ _).alloc (Nat.le_refl _) _
      have HS : Hid (ScIn (w2.alloc (.cells #[.string ⟨#[]⟩, .slice a1 0 c1, .slice a2 0 c2, .slice a3 0 c3] 27)) (.agg #[.string ⟨#[]⟩, .slice a1 0 c1, .slice a2 0 c2, .slice a3 0 c3]) zeroS) := ⟨_, _, _, rfl, h1.below hbB, h2.below hbB, h3.below hbB⟩
      clear h1 h2 h3 HP hbB
      go_wp2_with fail
      refine (sschemas_any HS.out (ScIn.zero _)).mono ?_
      rintro x w3 ⟨rfl, hb3⟩
      have hb3' := hbA.trans (hb3.mono hbA.size)
      have hG3 := hG.below hb3'
      clear HS hbA hb3
      rcases he with rfl | rfl
      · go_wp2_with fail
        refine (iawake_any _ hG3).mono ?_
        rintro e w4 ⟨rfl, hb4⟩
        go_wp2_with fail
        go_ret
        exact ⟨rfl, hb3'.trans (hb4.mono hb3'.size)⟩
      · go_wp2_with fail
        refine (iawake_any _ hG3).mono ?_
        rintro e w4 ⟨rfl, hb4⟩
        go_wp2_with fail
        go_ret
        exact ⟨rfl, hb3'.trans (hb4.mono hb3'.size)⟩
end Go.Proofs.YtfffjfccochccaaDoor

/- What the reference answers of rising fields. -/
import Derived.Test.YtgedelgdjcnogaaSoMath
import Derived.Test.YtgedelgdjcnogaaRwRow
import Derived.BigQuiet
namespace Go.Proofs.Ytgedelgdjcnogaa
open Go.ChangeShapes Go.WideShapes Go.ChangeAt Go.RowKit
set_option linter.unusedVariables false
set_option linter.unusedSimpArgs false
set_option maxRecDepth 20000

set_option maxHeartbeats 1000000 in
theorem rrising_any (a : Option Addr) (rs : List Fd) (N cap : Nat) (w : World) (hN : rs.length = N) (hadr : rs = [] ∨ ∃ g off, a = some ⟨g, off, none⟩) (hc : N ≤ cap) (hm : cap ≤ maxLen) (hh : HoldsR w a rs) :
    Calls Try.prog 64 #[.slice a N cap] w fun e w' => e = .returned (.bool (risesB rs)) ∧ Below w.heap.size w w' := by
  have HN : Hid (rs.length = N) := hN
  have HA : Hid (rs = [] ∨ ∃ g off, a = some ⟨g, off, none⟩) := hadr
  have HH : Hid (HoldsR w a rs) := hh
  obtain ⟨R, hR⟩ : ∃ R, risesB rs = R := ⟨_, rfl⟩
  rw [hR]
  have HR : Hid (risesB rs = R) := hR
  unfold maxLen at hm
  clear hN hadr hh hR
  go_enter Try.func64, Try.ntmps64
  go_wp2_with fail
  go_loopw [3] (fun iv wr => ∃ i : Nat, iv = .int .i64 ((i : Int) + 1) ∧ i ≤ N ∧ Hid (∀ j x y, j < i → rs[j]? = some x → rs[j + 1]? = some y → x.tag ≤ y.tag) ∧ Below w.heap.size w wr) (fun iv _ => N + 1 - (intOf iv).toNat)
  case atStart => exact ⟨0, rfl, by omega, (fun j x y hj => absurd hj (by omega) : ∀ j x y, j < 0 → rs[j]? = some x → rs[j + 1]? = some y → x.tag ≤ y.tag), Below.refl _ _⟩
  case round =>
    obtain ⟨i, rfl, hi, HT, hbel⟩ := hrel
    by_cases hlt : i + 1 < N
    · have hr : rs[i]? = some (rs[i]'(by rw [HN.out]; omega)) := List.getElem?_eq_getElem _
      generalize rs[i]'(by rw [HN.out]; omega) = r at hr
      have hs : rs[i + 1]? = some (rs[i + 1]'(by rw [HN.out]; exact hlt)) := List.getElem?_eq_getElem _
      generalize rs[i + 1]'(by rw [HN.out]; exact hlt) = s at hs
      rcases HA.out with h0 | ⟨g, off, rfl⟩
      · exact absurd hlt (by have := HN.out; rw [h0] at this; simp at this; omega)
      obtain ⟨p0, -, -, -⟩ := (HH.out.below hbel).at hr
      obtain ⟨q0, -, -, -⟩ := (HH.out.below hbel).at hs
      have HK : Hid (rs[i]? = some r) := hr
      have HK2 : Hid (rs[i + 1]? = some s) := hs
      obtain ⟨x, hx⟩ : ∃ q, r.tag = q := ⟨_, rfl⟩
      obtain ⟨y, hy⟩ : ∃ q, s.tag = q := ⟨_, rfl⟩
      rw [hx] at p0
      rw [hy] at q0
      have HX : Hid (r.tag = x) := hx
      have HY : Hid (s.tag = y) := hy
      have hlti : (i : Int) + 1 < (N : Int) := by omega
      clear hr hs hx hy
      by_cases hle : y < x
      · have hd : decide (y < x) = true := by simp [hle]
        obtain rfl : R = false := by rw [← HR.out]; exact rises_break i r s HK.out HK2.out (by rw [HX.out, HY.out]; exact hle)
        clear HT HK HK2 HX HY HR
        go_wp2_with fail
        go_quiet (fail)
        have hbn := below_drewN nq hbel
        clear p0 q0 hbel
        go_wp2_with fail
        go_ret
        exact ⟨rfl, hbn⟩
      · have hd : decide (y < x) = false := by simp; omega
        have HT2 : Hid (∀ j u v, j < i + 1 → rs[j]? = some u → rs[j + 1]? = some v → u.tag ≤ v.tag) := fun j u v hj hu hv => by
          by_cases hji : j = i
          · subst hji
            rw [HK.out] at hu
            rw [HK2.out] at hv
            obtain rfl : r = u := by simpa using hu
            obtain rfl : s = v := by simpa using hv
            rw [HX.out, HY.out]; omega
          · exact HT.out j u v (by omega) hu hv
        clear HT HK HK2 HX HY
        go_wp2_with fail
        go_quiet (fail)
        have hbn := below_drewN nq hbel
        clear p0 q0 hbel
        go_wp2_with fail
        go_roundw
        case rel => exact ⟨i + 1, by go_num, by omega, HT2, hbn⟩
        case measure => simp [intOf]; omega
    · obtain rfl : R = true := by
        rw [← HR.out]
        refine rises_steps fun j x y hx hy => HT.out j x y ?_ hx hy
        have := (List.getElem?_eq_some_iff.1 hy).1
        rw [HN.out] at this
        omega
      have hnl : ¬ (i : Int) + 1 < (N : Int) := by omega
      clear HT HR
      go_wp2_with fail
      go_ret
      exact ⟨rfl, hbel⟩

end Go.Proofs.Ytgedelgdjcnogaa

/- What the statements' own small and Raws answer. -/
import Derived.Test.YtfbekeebllcdbaaRwRow
import Derived.Laws.AppendOwnNone
namespace Go.Proofs.Ytfbekeebllcdbaa
open Go.ChangeShapes Go.WideShapes Go.ChangeAt Go.RowKit
set_option linter.unusedVariables false
set_option linter.unusedSimpArgs false
set_option maxRecDepth 20000

def smallB (rs : List Fd) : Bool := (rs.all fun r => decide (r.b.size ≤ 5000)) && decide (rs.length ≤ 60)

theorem wpList_joinR {w : World} {ops : Array Oper} {rest : List Oper} {o : Oper} {a : Act} {Q : Exit → Act → World → Prop} (hgd : o.guard = none) (s x : Operand)
    (ho : o.op = .call { callee := .builtin .append, args := #[s, x], argTypes := #[25, 25] }) (base : Nat) (v : Value) (n : Nat) (ns : List Fd) (hs : a.eval s = v) (hown : w.ownsRow base 24 4 v n (rawCells ns))
    (ao : Option Addr) (ms : List Fd) (m c : Nat) (hx : a.eval x = .slice ao m c) (hm : m = ms.length) (hao : ao = none → ms = [] ∧ c = 0) (hh : HoldsR w ao ms) (hb : ns.length + ms.length ≤ 1000000) (hbase : base ≤ w.heap.size)
    (h : ∀ v' w', w'.ownsRow base 24 4 v' (ns ++ ms).length (rawCells (ns ++ ms)) → w.grownBy w' v.ownBlock → wpList Try.prog ops Q rest (a.put o.dst v') w') : wpList Try.prog ops Q (o :: rest) a w := by
  obtain ⟨i0, hi, hz0, hz1, hz2⟩ := info_parts infoRaw
  have hn : n = ns.length := by have := hown.1; rw [rawCells_len] at this; omega
  subst hm hn
  cases ao with
  | none =>
    obtain ⟨rfl, rfl⟩ := hao rfl
    refine wpList_append_own_none hgd s x 25 ho base 24 i0 4 Try.underlying25 hi v _ _ hs hown hx ?_
    refine h v w ?_ ⟨rfl, rfl, rfl, Nat.le_refl _, fun _ _ _ => rfl⟩
    rw [List.append_nil]
    exact hown
  | some ad =>
    refine wpList_append_own w hgd s x 25 ho base 24 i0 _ 4 40 Try.underlying25 hi hz0 hz1 hz2 rfl (by decide) v _ _ hs hown ad ms.length c (rawCells ms) hx (by rw [rawCells_len]) (hh ad rfl) (rawCells_one ms) (by unfold maxLen; omega) (by omega) hbase ?_
    intro v' w' h1 h2 _
    refine h v' w' ?_ h2
    rw [rawCells_app, List.length_append]
    exact h1

set_option maxHeartbeats 1000000 in
theorem small_any (a : Option Addr) (rs : List Fd) (N cap : Nat) (w : World) (hN : rs.length = N) (hadr : rs = [] ∨ ∃ g off, a = some ⟨g, off, none⟩) (hc : N ≤ cap) (hm : cap ≤ maxLen) (hh : HoldsR w a rs) :
    Calls Try.prog 9 #[.slice a N cap] w fun e w' => e = .returned (.bool (smallB rs)) ∧ w' = w := by
  have HN : Hid (rs.length = N) := hN
  have HA : Hid (rs = [] ∨ ∃ g off, a = some ⟨g, off, none⟩) := hadr
  have HH : Hid (HoldsR w a rs) := hh
  obtain ⟨R, hR⟩ : ∃ R, smallB rs = R := ⟨_, rfl⟩
  rw [hR]
  have HR : Hid (smallB rs = R) := hR
  unfold maxLen at hm
  clear hN hadr hh hR
  go_enter Try.func9, Try.ntmps9
  go_wp2_with fail
  go_loop [3] (fun iv => ∃ i : Nat, iv = .int .i64 (i : Int) ∧ i ≤ N ∧ Hid (((rs.take i).all fun r => decide (r.b.size ≤ 5000)) = true)) (fun iv => N - (intOf iv).toNat)
  case atStart => exact ⟨0, rfl, by omega, (by rfl : (((rs.take 0).all fun r => decide (r.b.size ≤ 5000)) = true))⟩
  case round =>
    obtain ⟨i, rfl, hi, HT⟩ := hrel
    by_cases hlt : i < N
    · have hr : rs[i]? = some (rs[i]'(by rw [HN.out]; exact hlt)) := List.getElem?_eq_getElem _
      generalize rs[i]'(by rw [HN.out]; exact hlt) = r at hr
      rcases HA.out with h0 | ⟨g, off, rfl⟩
      · exact absurd hlt (by have := HN.out; rw [h0] at this; simp at this; omega)
      obtain ⟨-, -, -, p3⟩ := HH.out.at hr
      have HK : Hid (rs[i]? = some r) := hr
      obtain ⟨b, hb⟩ : ∃ b, r.b = b := ⟨_, rfl⟩
      rw [hb] at p3
      have HB : Hid (r.b = b) := hb
      clear hr hb
      by_cases hs : b.size ≤ 5000
      · have HT2 : Hid (((rs.take (i + 1)).all fun r => decide (r.b.size ≤ 5000)) = true) := by
          show _ = _
          rw [List.take_add_one, HK.out, List.all_append, HT.out]
          simp [HB.out, hs]
        clear HT HK HB
        go_wp2_with fail
        go_round
        case rel => exact ⟨i + 1, by go_num, by omega, HT2⟩
        case measure => simp [intOf]; omega
      · have hR : R = false := by
          rw [← HR.out, smallB, Bool.and_eq_false_iff]
          left
          rw [List.all_eq_false]
          exact ⟨r, List.mem_of_getElem? HK.out, by rw [HB.out]; simp; omega⟩
        subst hR
        clear HT HK HB HR
        go_wp2_with fail
        go_ret
        exact ⟨rfl, rfl⟩
    · obtain rfl : i = N := by omega
      have hR : R = decide (i ≤ 60) := by
        have := HT.out
        rw [List.take_of_length_le (by rw [HN.out]; exact Nat.le_refl _)] at this
        rw [← HR.out, smallB, this, HN.out, Bool.true_and]
      subst hR
      clear HT HR
      go_wp2_with fail
      go_ret
      exact ⟨by congr 2; simp; omega, rfl⟩
end Go.Proofs.Ytfbekeebllcdbaa

/- What Get answers: the fields that bytes are. -/
import Derived.Test.YtfbekeebllcdbaaWrNext
import Derived.Test.YtfbekeebllcdbaaRwRow
namespace Go.Proofs.Ytfbekeebllcdbaa
open Go.ChangeShapes Go.WideShapes Go.ChangeAt Go.RowKit
set_option linter.unusedVariables false
set_option linter.unusedSimpArgs false
set_option maxRecDepth 20000

theorem rawCells_snoc (acc : List Fd) (r : Fd) : (acc ++ [r]).length = acc.length + 1 ∧ rawCells (acc ++ [r]) = rawCells acc ++ r.cells := by
  constructor
  · simp
  · rw [rawCells_app, rawCells_cons, rawCells_nil, List.append_nil]

set_option maxHeartbeats 4000000 in
theorem wget_any (a : Option Addr) (ns : List Nat) (N cap : Nat) (w : World) (hN : ns.length = N) (hh : Holds w a ns) (hlt : ∀ n ∈ ns, n < 256) (hc : N ≤ cap) (hm : cap ≤ maxLen) (hadr : ns = [] ∨ ∃ g off, a = some ⟨g, off, none⟩) :
    Calls Try.prog 18 #[.slice a N cap] w fun e w' => ∃ v, e = .returned (.tuple #[v, .int .i64 ((getL ns).2 : Int)]) ∧ w'.ownsRow w.heap.size 24 4 v (getL ns).1.length (rawCells (getL ns).1) ∧ Below w.heap.size w w' := by
  have HM : Hid (cap ≤ maxLen) := hm
  unfold maxLen at hm
  obtain ⟨R, hR⟩ : ∃ R, getL ns = R := ⟨_, rfl⟩
  rw [hR]
  by_cases hbig : 4096 < N
  · have : R = ([], 4) := by rw [← hR, getL, if_pos (by omega)]
    subst this
    clear hR hh hlt
    go_enter Try.func18, Try.ntmps18
    go_wp2_with fail
    go_ret2
    exact ⟨_, rfl, World.ownsRow_nil _ _ _ _, Below.refl _ _⟩
  · have HR : Hid (joinA [] (getA ns 0) = R) := by
      show _ = _
      rw [joinA_nil _ (getA_nil ns 0), ← hR, getL, if_neg (by omega)]
    have HN : Hid (ns.length = N) := hN
    have HH : Hid (Holds w a ns) := hh
    have HT : Hid (∀ n ∈ ns, n < 256) := hlt
    have HA : Hid (ns = [] ∨ ∃ g off, a = some ⟨g, off, none⟩) := hadr
    obtain ⟨i0, hi, hz0, hz1, hz2⟩ := info_parts infoRaw
    clear hR hN hh hlt hadr
    go_enter Try.func18, Try.ntmps18
    go_wp2_with fail
    go_loopw [4, 5] (fun out pv wr => ∃ (acc : List Fd) (p : Nat), pv = .int .i64 (p : Int) ∧ p ≤ N ∧ acc.length ≤ p ∧ Hid (joinA acc (getA ns p) = R) ∧ Hid (wr.ownsRow w.heap.size 24 4 out acc.length (rawCells acc)) ∧ Below w.heap.size w wr)
      (fun _ pv _ => N - (intOf pv).toNat)
    case atStart => exact ⟨[], 0, rfl, by omega, by simp, HR, World.ownsRow_nil _ _ _ _, Below.refl _ _⟩
    case round =>
      obtain ⟨acc, p, rfl, hp, hacc, HJ, HO, hbel⟩ := hrel
      have hws := hbel.size
      by_cases hpn : p < N
      · rcases HA.out with h0 | ⟨g, off, rfl⟩
        · exact absurd hpn (by have := HN.out; rw [h0] at this; simp at this; omega)
        have hnx := next_any g off ns N cap p wr HN.out (HH.out.below hbel) HT.out hc HM.out (by omega) hpn
        obtain ⟨⟨r, q, e⟩, hx⟩ : ∃ x, nextN ns p = x := ⟨_, rfl⟩
        rw [hx] at hnx
        have HX : Hid (nextN ns p = (r, q, e)) := hx
        clear hx
        by_cases he : e = 0
        · subst he
          have hq : p < q ∧ q ≤ N := by
            have := nextN_bd HX.out HT.out (by rw [HN.out]; omega)
            rw [HN.out] at this
            exact this
          have HJ2 : Hid (joinA (acc ++ [r]) (getA ns q) = R) := by
            show _ = _
            rw [← joinA_join, ← getA_on (by rw [HN.out]; exact hpn) HX.out HT.out]
            exact HJ.out
          clear HJ HX
          obtain ⟨t, k, n, b⟩ := r
          simp only [nextV, Fd.val] at hnx
          go_wp2_with fail
          refine hnx.mono ?_
          rintro e w1 ⟨rfl, hb1⟩
          have hb1' : Below w.heap.size w w1 := hbel.trans (hb1.mono hws)
          have hws1 := hb1'.size
          have HO1 := own_belowH HO hb1
          clear HO hnx
          go_wp2_with (first
            | (at_builtin; refine wpList_append_own _ rfl _ _ 25 rfl w.heap.size 24 i0 _ 4 40 Try.underlying25 hi hz0 hz1 hz2 rfl (by decide) _ _ _ rfl ((HO1.out.alloc _).alloc _) ⟨w1.heap.size + 1, 0, none⟩ 1 1 (Fd.cells ⟨t, k, n, b⟩) rfl rfl ?c1 ?c2 ?c3 ?c4 ?c5 ?_)
            | fail)
          case c1 =>
            intro j u hj
            match j, hj with
            | 0, hj | 1, hj | 2, hj | 3, hj => simp [Fd.cells] at hj; subst hj; simp [Addr.add]
          case c2 => intro u hu; simp [Fd.cells] at hu; rcases hu with rfl | rfl | rfl | rfl <;> rfl
          case c3 => unfold maxLen; omega
          case c4 => omega
          case c5 => simp; omega
          intro v w2 ho2 hg2 _
          have hb2 : Below w.heap.size w w2 := ((hb1'.alloc hws1 _).alloc (by simp; omega) _).grown hg2 (by simp; omega) (fun k hk => (HO1.out.lt k hk).1)
          have HO2 : Hid (w2.ownsRow w.heap.size 24 4 v (acc ++ [(⟨t, k, n, b⟩ : Fd)]).length (rawCells (acc ++ [⟨t, k, n, b⟩]))) := by
            show World.ownsRow _ _ _ _ _ _ _
            rw [(rawCells_snoc acc _).1, (rawCells_snoc acc _).2]
            exact ho2
          have hlen : (acc ++ [(⟨t, k, n, b⟩ : Fd)]).length ≤ q := by simp; omega
          clear HO1 ho2 hg2 hb1 hb1'
          go_wp2_with fail
          go_roundw
          case rel => exact ⟨acc ++ [⟨t, k, n, b⟩], q, rfl, hq.2, hlen, HJ2, HO2, hb2⟩
          case measure => simp [intOf]; omega
        · have hne : ((e : Int) != 0) = true := by simp; omega
          have hR : R = ([], e) := by rw [← HJ.out, getA_err (by rw [HN.out]; exact hpn) HX.out he, joinA, if_neg he]
          subst hR
          clear HJ HX HR HO
          obtain ⟨t, k, n, b⟩ := r
          simp only [nextV, Fd.val] at hnx
          go_wp2_with fail
          refine hnx.mono ?_
          rintro e w1 ⟨rfl, hb1⟩
          have hb1' : Below w.heap.size w w1 := hbel.trans (hb1.mono hws)
          have hb2 : ∀ o, Below w.heap.size w (w1.alloc o) := fun o => hb1'.alloc hb1'.size o
          clear hnx hb1 hb1'
          go_wp2_with fail
          go_ret2
          exact ⟨_, rfl, World.ownsRow_nil _ _ _ _, hb2 _⟩
      · have hR : R = (acc, 0) := by rw [← HJ.out, getA_end (by rw [HN.out]; omega), joinA, if_pos rfl, List.append_nil]
        subst hR
        clear HJ HR
        go_wp2_with fail
        go_ret2
        exact ⟨_, rfl, HO.out, hbel⟩
end Go.Proofs.Ytfbekeebllcdbaa

/- What the reference's Get answers: the fields that bytes are. -/
import Derived.Test.YtfbekeebllcdbaaWrGet
import Derived.Test.YtfbekeebllcdbaaVnRef
namespace Go.Proofs.Ytfbekeebllcdbaa
open Go.ChangeShapes Go.WideShapes Go.ChangeAt Go.RowKit
set_option linter.unusedVariables false
set_option linter.unusedSimpArgs false
set_option maxRecDepth 20000

set_option maxHeartbeats 8000000 in
theorem rrget_any (a : Option Addr) (ns : List Nat) (N cap : Nat) (w : World) (hN : ns.length = N) (hh : Holds w a ns) (hlt : ∀ n ∈ ns, n < 256) (hc : N ≤ cap) (hm : cap ≤ maxLen) (hadr : ns = [] ∨ ∃ g off, a = some ⟨g, off, none⟩) :
    Calls Try.prog 20 #[.slice a N cap] w fun e w' => ∃ v, e = .returned (.tuple #[v, .int .i64 ((getL ns).2 : Int)]) ∧ w'.ownsRow w.heap.size 24 4 v (getL ns).1.length (rawCells (getL ns).1) ∧ Below w.heap.size w w' := by
  have HM : Hid (cap ≤ maxLen) := hm
  unfold maxLen at hm
  obtain ⟨R, hR⟩ : ∃ R, getL ns = R := ⟨_, rfl⟩
  rw [hR]
  by_cases hbig : 4096 < N
  · have : R = ([], 4) := by rw [← hR, getL, if_pos (by omega)]
    subst this
    clear hR hh hlt
    go_enter Try.func20, Try.ntmps20
    go_wp2_with fail
    go_ret2
    exact ⟨_, rfl, World.ownsRow_nil _ _ _ _, Below.refl _ _⟩
  · have HR : Hid (joinA [] (getA ns 0) = R) := by
      show _ = _
      rw [joinA_nil _ (getA_nil ns 0), ← hR, getL, if_neg (by omega)]
    have HN : Hid (ns.length = N) := hN
    have HH : Hid (Holds w a ns) := hh
    have HT : Hid (∀ n ∈ ns, n < 256) := hlt
    have HA : Hid (ns = [] ∨ ∃ g off, a = some ⟨g, off, none⟩) := hadr
    obtain ⟨i0, hi, hz0, hz1, hz2⟩ := info_parts infoRaw
    clear hR hN hh hlt hadr
    go_enter Try.func20, Try.ntmps20
    go_wp2_with fail
    go_loopw [4, 5] (fun out pv wr => ∃ (acc : List Fd) (p : Nat), pv = .int .i64 (p : Int) ∧ p ≤ N ∧ acc.length ≤ p ∧ Hid (joinA acc (getA ns p) = R) ∧ Hid (wr.ownsRow w.heap.size 24 4 out acc.length (rawCells acc)) ∧ Below w.heap.size w wr)
      (fun _ pv _ => N - (intOf pv).toNat)
    case atStart => exact ⟨[], 0, rfl, by omega, by simp, HR, World.ownsRow_nil _ _ _ _, Below.refl _ _⟩
    case round =>
      obtain ⟨acc, p, rfl, hp, hacc, HJ, HO, hbel⟩ := hrel
      have hws := hbel.size
      by_cases hpn : p < N
      · rcases HA.out with h0 | ⟨g, off, rfl⟩
        · exact absurd hpn (by have := HN.out; rw [h0] at this; simp at this; omega)
        have HG : Hid (∀ W q, Below w.heap.size w W → q ≤ N → Calls Try.prog 31 #[.slice (some ⟨g, off, none⟩) N cap, .int .i64 (q : Int)] W fun e w' => e = .returned (getV (getF (ns.drop q) 0 0 q)) ∧ w' = W) := fun W q hW hq => by
          have := rget_any (some ⟨g, off, none⟩) ns cap (q : Int) W (.inr ⟨_, _, rfl⟩) (by rw [HN.out]; exact hc) HM.out (by rw [HN.out]; omega) (HH.out.below hW) HT.out
          rw [getR_in (by rw [HN.out]; exact hq), HN.out] at this
          exact this
        have HC : Hid (∀ W q v, Below w.heap.size w W → q + v ≤ N → ∀ c, (convert 22 9 (.slice (some ⟨g, off + q, none⟩) v c)).run Try.prog W = .ok (.string (strN ((ns.drop q).take v))) W) := fun W q v hW hq c => by
          have hl' : ((ns.drop q).take v).length = v := by have := HN.out; simp; omega
          have := conv_holds W (some ⟨g, off + q, none⟩) ((ns.drop q).take v) c (fun h => by cases h) (Holds.of fun j hj => by
            have := (HH.out.below hW).at (q + j) (by rw [HN.out]; omega)
            rw [← Nat.add_assoc] at this
            rw [this]
            simp [List.getD_eq_getElem?_getD, List.getElem?_take, List.getElem?_drop, show j < v by omega])
          rw [hl'] at this
          exact this
        obtain ⟨⟨h, q1, e1⟩, g1⟩ : ∃ x, getF (ns.drop p) 0 0 p = x := ⟨_, rfl⟩
        have hg1 := HG.out wr p hbel (by omega)
        rw [g1] at hg1
        simp only [getV] at hg1
        have G1 : Hid (getF (ns.drop p) 0 0 p = (h, q1, e1)) := g1
        have hh64 : e1 = 0 → p < q1 ∧ q1 ≤ N ∧ h < 18446744073709551616 := by
          rintro rfl
          have := getF_at_bd g1 HT.out (by rw [HN.out]; omega)
          rw [HN.out] at this
          exact this
        clear g1
        by_cases he1 : e1 = 0
        · subst he1
          obtain ⟨hq1, hq2, hh64⟩ := hh64 rfl
          by_cases ht : h / 2 = 0 ∨ 500 < h / 2
          · have HX : Hid (nextN ns p = (fd0, 0, 7)) := next_tag G1.out ht
            clear G1
            have hR : R = ([], 7) := by rw [← HJ.out, getA_err (by rw [HN.out]; exact hpn) HX.out (by omega), joinA, if_neg (by first | (simp; done) | (simp; omega))]
            subst hR
            clear HJ HX HR HO
            by_cases ht0 : h / 2 = 0
            · have hd : decide ((h : Int) / 2 < 1) = true := by simp; omega
              go_wp2_with fail
              refine hg1.mono ?_
              rintro e w1 ⟨rfl, rfl⟩
              clear hg1
              go_wp2_with fail
              go_ret2
              exact ⟨_, rfl, World.ownsRow_nil _ _ _ _, hbel⟩
            · have hd : decide ((h : Int) / 2 < 1) = false := by simp; omega
              have hd5 : decide (500 < (h : Int) / 2) = true := by simp; omega
              go_wp2_with fail
              refine hg1.mono ?_
              rintro e w1 ⟨rfl, rfl⟩
              clear hg1
              go_wp2_with fail
              go_ret2
              exact ⟨_, rfl, World.ownsRow_nil _ _ _ _, hbel⟩
          · have hd : decide ((h : Int) / 2 < 1) = false := by simp; omega
            have hd5 : decide (500 < (h : Int) / 2) = false := by simp; omega
            obtain ⟨⟨v, q2, e2⟩, g2⟩ : ∃ x, getF (ns.drop q1) 0 0 q1 = x := ⟨_, rfl⟩
            have hg2 := HG.out wr q1 hbel (by omega)
            rw [g2] at hg2
            simp only [getV] at hg2
            have G2 : Hid (getF (ns.drop q1) 0 0 q1 = (v, q2, e2)) := g2
            have hv64 : e2 = 0 → q1 < q2 ∧ q2 ≤ N ∧ v < 18446744073709551616 := by
              rintro rfl
              have := getF_at_bd g2 HT.out (by rw [HN.out]; omega)
              rw [HN.out] at this
              exact this
            clear g2
            by_cases he2 : e2 = 0
            · subst he2
              obtain ⟨hq3, hq4, hv64⟩ := hv64 rfl
              obtain ⟨m, hm2⟩ : ∃ m, h % 2 = m := ⟨_, rfl⟩
              have hmi : (h : Int) % 2 = (m : Int) := by omega
              obtain ⟨t, ht2⟩ : ∃ t, h / 2 = t := ⟨_, rfl⟩
              have hti : (h : Int) / 2 = (t : Int) := by omega
              have hdt : decide ((t : Int) < 1) = false := by simp; omega
              have hdt5 : decide (500 < (t : Int)) = false := by simp; omega
              have ht500 : t ≤ 500 := by omega
              clear hd hd5
              by_cases hw : m = 0
              · subst hw
                have HX : Hid (nextN ns p = (⟨(t : Nat), 0, zagN v, ⟨#[]⟩⟩, q2, 0)) := by
                  show _ = _
                  rw [next_num G1.out ht G2.out hm2, ht2]
                clear G1 G2 hm2 ht2
                have HJ2 : Hid (joinA (acc ++ [⟨(t : Nat), 0, zagN v, ⟨#[]⟩⟩]) (getA ns (q2)) = R) := by
                  show _ = _
                  rw [← joinA_join, ← getA_on (by rw [HN.out]; exact hpn) HX.out HT.out]
                  exact HJ.out
                clear HJ HX
                go_wp2_with fail
                refine hg1.mono ?_
                rintro e w1 ⟨rfl, rfl⟩
                clear hg1
                go_wp2_with fail
                refine hg2.mono ?_
                rintro e w1 ⟨rfl, rfl⟩
                clear hg2
                go_wp2_with fail
                refine (rzag_any v _ (by omega) (by omega)).mono ?_
                rintro e w1 ⟨rfl, rfl⟩
                have hz := zagN_bd v (by omega) (by omega)
                generalize zagN v = z at *
                have hcv := hz
                go_wp2_with (first
                  | (at_builtin; refine wpList_append_own _ rfl _ _ 25 rfl w.heap.size 24 i0 _ 4 40 Try.underlying25 hi hz0 hz1 hz2 rfl (by decide) _ _ _ rfl ((HO.out.alloc _).alloc _) ⟨w1.heap.size + 1, 0, none⟩ 1 1 (Fd.cells ⟨(t : Int), 0, z, ⟨#[]⟩⟩) rfl rfl ?c1 ?c2 ?c3 ?c4 ?c5 ?_)
                  | fail)
                case c1 =>
                  intro j u hj
                  match j, hj with
                  | 0, hj | 1, hj | 2, hj | 3, hj => simp [Fd.cells] at hj; subst hj; simp [Addr.add]
                case c2 => intro u hu; simp [Fd.cells] at hu; rcases hu with rfl | rfl | rfl | rfl <;> rfl
                case c3 => unfold maxLen; omega
                case c4 => omega
                case c5 => simp; omega
                intro vv w2 ho2 hg2 _
                have hb2 : Below w.heap.size w w2 := ((hbel.alloc hws _).alloc (by simp; omega) _).grown hg2 (by simp; omega) (fun k hk => (HO.out.lt k hk).1)
                have HO2 : Hid (w2.ownsRow w.heap.size 24 4 vv (acc ++ [(⟨(t : Int), 0, z, ⟨#[]⟩⟩ : Fd)]).length (rawCells (acc ++ [⟨(t : Int), 0, z, ⟨#[]⟩⟩]))) := by
                  show World.ownsRow _ _ _ _ _ _ _
                  rw [(rawCells_snoc acc _).1, (rawCells_snoc acc _).2]
                  exact ho2
                have hlen : (acc ++ [(⟨(t : Int), 0, z, ⟨#[]⟩⟩ : Fd)]).length ≤ q2 := by simp; omega
                clear HO ho2 hg2 hbel hcv
                go_wp2_with fail
                go_roundw
                case rel => exact ⟨acc ++ [⟨(t : Int), 0, z, ⟨#[]⟩⟩], q2, by first | rfl | go_num, by omega, hlen, HJ2, HO2, hb2⟩
                case measure => simp [intOf]; omega
              · obtain rfl : m = 1 := by omega
                by_cases hs : N - q2 < v
                · have HX : Hid (nextN ns p = (fd0, 0, 2)) := next_short G1.out ht G2.out (by omega) (by rw [HN.out]; exact hs)
                  clear G1 G2 hm2 ht2
                  have hR : R = ([], 2) := by rw [← HJ.out, getA_err (by rw [HN.out]; exact hpn) HX.out (by omega), joinA, if_neg (by first | (simp; done) | (simp; omega))]
                  subst hR
                  clear HJ HX HR HO
                  have hdv : decide ((N : Int) - (q2 : Int) < (v : Int)) = true := by simp; omega
                  have hb2 : ∀ o, Below w.heap.size w (wr.alloc o) := fun o => hbel.alloc hws o
                  go_wp2_with fail
                  refine hg1.mono ?_
                  rintro e w1 ⟨rfl, rfl⟩
                  clear hg1
                  go_wp2_with fail
                  refine hg2.mono ?_
                  rintro e w1 ⟨rfl, rfl⟩
                  clear hg2
                  go_wp2_with fail
                  go_ret2
                  exact ⟨_, rfl, World.ownsRow_nil _ _ _ _, hb2 _⟩
                · have HX : Hid (nextN ns p = (⟨(t : Nat), 1, 0, strN ((ns.drop q2).take v)⟩, q2 + v, 0)) := by
                    show _ = _
                    rw [next_text G1.out ht G2.out (by omega) (by rw [HN.out]; omega), ht2]
                  clear G1 G2 hm2 ht2
                  have hdv : decide ((N : Int) - (q2 : Int) < (v : Int)) = false := by simp; omega
                  obtain ⟨S, hS⟩ : ∃ S, strN ((ns.drop q2).take v) = S := ⟨_, rfl⟩
                  rw [hS] at HX
                  have HJ2 : Hid (joinA (acc ++ [⟨(t : Nat), 1, 0, S⟩]) (getA ns (q2 + v)) = R) := by
                    show _ = _
                    rw [← joinA_join, ← getA_on (by rw [HN.out]; exact hpn) HX.out HT.out]
                    exact HJ.out
                  clear HJ HX
                  by_cases hqc : q2 = cap
                  · obtain rfl : v = 0 := by omega
                    have hS0 : strN [] = S := by rw [← hS]; simp
                    have hcv : ∀ o1 c, (convert 22 9 (.slice (some ⟨g, off, none⟩) 0 c)).run Try.prog (wr.alloc o1) = .ok (.string S) (wr.alloc o1) := fun o1 c => by
                      have := conv_holds (wr.alloc o1) (some ⟨g, off, none⟩) [] c (fun h => by cases h) Holds.nil
                      rw [hS0] at this
                      exact this
                    clear hS hS0
                    subst hqc
                    go_wp2_with fail
                    refine hg1.mono ?_
                    rintro e w1 ⟨rfl, rfl⟩
                    clear hg1
                    go_wp2_with fail
                    refine hg2.mono ?_
                    rintro e w1 ⟨rfl, rfl⟩
                    clear hg2
                    go_wp2_with (first
                      | (at_builtin; refine wpList_append_own _ rfl _ _ 25 rfl w.heap.size 24 i0 _ 4 40 Try.underlying25 hi hz0 hz1 hz2 rfl (by decide) _ _ _ rfl ((HO.out.alloc _).alloc _) ⟨w1.heap.size + 1, 0, none⟩ 1 1 (Fd.cells ⟨(t : Int), 1, 0, S⟩) rfl rfl ?c1 ?c2 ?c3 ?c4 ?c5 ?_)
                      | fail)
                    case c1 =>
                      intro j u hj
                      match j, hj with
                      | 0, hj | 1, hj | 2, hj | 3, hj => simp [Fd.cells] at hj; subst hj; simp [Addr.add]
                    case c2 => intro u hu; simp [Fd.cells] at hu; rcases hu with rfl | rfl | rfl | rfl <;> rfl
                    case c3 => unfold maxLen; omega
                    case c4 => omega
                    case c5 => simp; omega
                    intro vv w2 ho2 hg2 _
                    have hb2 : Below w.heap.size w w2 := ((hbel.alloc hws _).alloc (by simp; omega) _).grown hg2 (by simp; omega) (fun k hk => (HO.out.lt k hk).1)
                    have HO2 : Hid (w2.ownsRow w.heap.size 24 4 vv (acc ++ [(⟨(t : Int), 1, 0, S⟩ : Fd)]).length (rawCells (acc ++ [⟨(t : Int), 1, 0, S⟩]))) := by
                      show World.ownsRow _ _ _ _ _ _ _
                      rw [(rawCells_snoc acc _).1, (rawCells_snoc acc _).2]
                      exact ho2
                    have hlen : (acc ++ [(⟨(t : Int), 1, 0, S⟩ : Fd)]).length ≤ q2 + 0 := by simp; omega
                    clear HO ho2 hg2 hbel hcv
                    go_wp2_with fail
                    go_roundw
                    case rel => exact ⟨acc ++ [⟨(t : Int), 1, 0, S⟩], q2 + 0, by first | rfl | go_num, by omega, hlen, HJ2, HO2, hb2⟩
                    case measure => simp [intOf]; omega
                  · have hcv : ∀ o1 c, (convert 22 9 (.slice (some ⟨g, off + q2, none⟩) v c)).run Try.prog (wr.alloc o1) = .ok (.string S) (wr.alloc o1) := fun o1 c => by
                      have := HC.out (wr.alloc o1) q2 v (hbel.alloc hws o1) (by omega) c
                      rw [hS] at this
                      exact this
                    clear hS
                    go_wp2_with fail
                    refine hg1.mono ?_
                    rintro e w1 ⟨rfl, rfl⟩
                    clear hg1
                    go_wp2_with fail
                    refine hg2.mono ?_
                    rintro e w1 ⟨rfl, rfl⟩
                    clear hg2
                    go_wp2_with (first
                      | (at_builtin; refine wpList_append_own _ rfl _ _ 25 rfl w.heap.size 24 i0 _ 4 40 Try.underlying25 hi hz0 hz1 hz2 rfl (by decide) _ _ _ rfl ((HO.out.alloc _).alloc _) ⟨w1.heap.size + 1, 0, none⟩ 1 1 (Fd.cells ⟨(t : Int), 1, 0, S⟩) rfl rfl ?c1 ?c2 ?c3 ?c4 ?c5 ?_)
                      | fail)
                    case c1 =>
                      intro j u hj
                      match j, hj with
                      | 0, hj | 1, hj | 2, hj | 3, hj => simp [Fd.cells] at hj; subst hj; simp [Addr.add]
                    case c2 => intro u hu; simp [Fd.cells] at hu; rcases hu with rfl | rfl | rfl | rfl <;> rfl
                    case c3 => unfold maxLen; omega
                    case c4 => omega
                    case c5 => simp; omega
                    intro vv w2 ho2 hg2 _
                    have hb2 : Below w.heap.size w w2 := ((hbel.alloc hws _).alloc (by simp; omega) _).grown hg2 (by simp; omega) (fun k hk => (HO.out.lt k hk).1)
                    have HO2 : Hid (w2.ownsRow w.heap.size 24 4 vv (acc ++ [(⟨(t : Int), 1, 0, S⟩ : Fd)]).length (rawCells (acc ++ [⟨(t : Int), 1, 0, S⟩]))) := by
                      show World.ownsRow _ _ _ _ _ _ _
                      rw [(rawCells_snoc acc _).1, (rawCells_snoc acc _).2]
                      exact ho2
                    have hlen : (acc ++ [(⟨(t : Int), 1, 0, S⟩ : Fd)]).length ≤ q2 + v := by simp; omega
                    clear HO ho2 hg2 hbel hcv
                    go_wp2_with fail
                    go_roundw
                    case rel => exact ⟨acc ++ [⟨(t : Int), 1, 0, S⟩], q2 + v, by first | rfl | go_num, by omega, hlen, HJ2, HO2, hb2⟩
                    case measure => simp [intOf]; omega
            · have HX : Hid (nextN ns p = (fd0, 0, e2)) := next_e2 G1.out ht G2.out he2
              clear G1 G2 hv64
              have hR : R = ([], e2) := by rw [← HJ.out, getA_err (by rw [HN.out]; exact hpn) HX.out (by omega), joinA, if_neg (by first | (simp; done) | (simp; omega))]
              subst hR
              clear HJ HX HR HO
              have hne : ((e2 : Int) != 0) = true := by simp; omega
              go_wp2_with fail
              refine hg1.mono ?_
              rintro e w1 ⟨rfl, rfl⟩
              clear hg1
              go_wp2_with fail
              refine hg2.mono ?_
              rintro e w1 ⟨rfl, rfl⟩
              clear hg2
              go_wp2_with fail
              go_ret2
              exact ⟨_, rfl, World.ownsRow_nil _ _ _ _, hbel⟩
        · have HX : Hid (nextN ns p = (fd0, 0, e1)) := next_e1 G1.out he1
          clear G1 hh64
          have hR : R = ([], e1) := by rw [← HJ.out, getA_err (by rw [HN.out]; exact hpn) HX.out (by omega), joinA, if_neg (by first | (simp; done) | (simp; omega))]
          subst hR
          clear HJ HX HR HO
          have hne : ((e1 : Int) != 0) = true := by simp; omega
          go_wp2_with fail
          refine hg1.mono ?_
          rintro e w1 ⟨rfl, rfl⟩
          clear hg1
          go_wp2_with fail
          go_ret2
          exact ⟨_, rfl, World.ownsRow_nil _ _ _ _, hbel⟩
      · have hR : R = (acc, 0) := by rw [← HJ.out, getA_end (by rw [HN.out]; omega), joinA, if_pos rfl, List.append_nil]
        subst hR
        clear HJ HR
        go_wp2_with fail
        go_ret2
        exact ⟨_, rfl, HO.out, hbel⟩
end Go.Proofs.Ytfbekeebllcdbaa

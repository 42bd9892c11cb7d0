/- What next answers: the field that stands at a place. -/
import Derived.Laws.ResultCell
import Derived.BigQuiet
import Derived.Laws.OwnMore
import Derived.RegionTactic
import Derived.ChangeAlike
import Derived.WalkKit
import Derived.Below
import Derived.Deep.QuietTactic
import Derived.Deep.RegionWith
import Derived.Test.YtkmdaopmmfdpgaaPkC
import Derived.Test.YtkmdaopmmfdpgaaPkA
import Derived.Test.YtkmdaopmmfdpgaaPkE
import Derived.Test.YtkmdaopmmfdpgaaPkD
import Derived.Test.YtkmdaopmmfdpgaaPkF
import Derived.Test.YtkmdaopmmfdpgaaPkH
namespace Go.Proofs.Ytkmdaopmmfdpgaa
open Go.ChangeShapes Go.WideShapes Go.ChangeAt Go.RowKit
set_option linter.unusedVariables false
set_option linter.unusedSimpArgs false
set_option maxRecDepth 20000

def nextV (x : Fd × Nat × Nat) : Value := .tuple #[x.1.val, .int .i64 (x.2.1 : Int), .int .i64 (x.2.2 : Int)]
theorem ret_next {x : Fd × Nat × Nat} {r : Fd} {q e : Nat} (hx : x = (r, q, e)) {t k n q' e' : Int} {b : ByteArray} (h1 : t = r.tag) (h2 : k = r.wire) (h3 : n = r.n) (h4 : b = r.b) (h5 : q' = q) (h6 : e' = e) :
    Ending.returned (.tuple #[.agg #[.int .i64 t, .int .i64 k, .int .i64 n, .string b], .int .i64 q', .int .i64 e']) = .returned (nextV x) := by
  subst hx h1 h2 h3 h4 h5 h6; rfl

theorem below_two (w : World) (o1 o2 : Obj) : Below w.heap.size w ((w.alloc o1).alloc o2) := (below_one w o1).alloc (by simp) _

theorem results_next {fn : Func} {p u v : Tmp} {ty : TypeId} (h : fn.results = #[.cell p ty, .tmp u, .tmp v]) (tmps : Array Value) (P : Program) (w : World) (a : Addr) (x : Value) (ha : (asAddr (tmps.getD p undef)).run P w = .ok a w) (hl : (loadVar ty a).run P w = .ok x w) :
    (results fn tmps).run P w = .ok (.tuple #[x, tmps.getD u undef, tmps.getD v undef]) w := by
  simp only [results, h]
  simp only [Array.getD_eq_getD_getElem?] at ha
  simp [Sem.run_bind, Result.andThen, ha, hl]

set_option maxHeartbeats 4000000 in
theorem next_any (g off : Nat) (ns : List Nat) (N cap p : Nat) (w : World) (hN : ns.length = N) (hh : Holds w (some ⟨g, off, none⟩) ns) (hlt : ∀ n ∈ ns, n < 256) (hc : N ≤ cap) (hm : cap ≤ maxLen) (hl : N ≤ 4096) (hp : p < N) :
    Calls Try.prog 32 #[.slice (some ⟨g, off, none⟩) N cap, .int .i64 (p : Int)] w fun e w' => e = .returned (nextV (nextN ns p)) ∧ Below w.heap.size w w' := by
  have HG : Hid (∀ W q, Below w.heap.size w W → q ≤ N → Calls Try.prog 46 #[.slice (some ⟨g, off, none⟩) N cap, .int .i64 (q : Int)] W fun e w' => e = .returned (getV (getF (ns.drop q) 0 0 q)) ∧ w' = W) := fun W q hW hq => by
    have := get_any (some ⟨g, off, none⟩) ns cap (q : Int) W (.inr ⟨_, _, rfl⟩) (by omega) hm (by omega) (hh.below hW) hlt
    rw [getR_in (by omega), hN] at this
    exact this
  have HC : Hid (∀ W q v, Below w.heap.size w W → q + v ≤ N → ∀ c, (convert 29 9 (.slice (some ⟨g, off + q, none⟩) v c)).run Try.prog W = .ok (.string (strN ((ns.drop q).take v))) W) := fun W q v hW hq c => by
    have hl' : ((ns.drop q).take v).length = v := by simp; omega
    have := conv_holds W (some ⟨g, off + q, none⟩) ((ns.drop q).take v) c (fun h => by cases h) (Holds.of fun j hj => by
      have := (hh.below hW).at (q + j) (by omega)
      rw [← Nat.add_assoc] at this
      rw [this]
      simp [List.getD_eq_getElem?_getD, List.getElem?_take, List.getElem?_drop, show j < v by omega])
    rw [hl'] at this
    exact this
  have HT : Hid (∀ n ∈ ns, n < 256) := hlt
  have HN : Hid (ns.length = N) := hN
  unfold maxLen at hm
  clear hh hlt hN
  obtain ⟨⟨h, q1, e1⟩, g1⟩ : ∃ x, getF (ns.drop p) 0 0 p = x := ⟨_, rfl⟩
  have HG1 : Hid (∀ W, Below w.heap.size w W → Calls Try.prog 46 #[.slice (some ⟨g, off, none⟩) N cap, .int .i64 (p : Int)] W fun e w' => e = .returned (.tuple #[.int .u64 (h : Int), .int .i64 (q1 : Int), .int .i64 (e1 : Int)]) ∧ w' = W) := fun W hW => by
    have := HG.out W p hW (by omega)
    rw [g1] at this
    exact this
  have G1 : Hid (getF (ns.drop p) 0 0 p = (h, q1, e1)) := g1
  have hh64 : e1 = 0 → p < q1 ∧ q1 ≤ N ∧ h < 18446744073709551616 := by
    rintro rfl
    have := getF_at_bd g1 HT.out (by rw [HN.out]; omega)
    rw [HN.out] at this
    exact this
  clear g1
  by_cases he1 : e1 = 0
  · subst he1
    obtain ⟨hq1, hq2, hh64⟩ := hh64 rfl
    by_cases ht : h / 2 = 0 ∨ 500 < h / 2
    · have HX : Hid (nextN ns p = (fd0, 0, 7)) := next_tag G1.out ht
      clear G1
      by_cases ht0 : h / 2 = 0
      · have hd : ((h : Int) / 2 == 0) = true := by simp; omega
        go_enter Try.func32, Try.ntmps32
        go_wp2_with fail
        refine (HG1.out _ (below_one _ _)).mono ?_
        rintro e w1 ⟨rfl, rfl⟩
        go_wp2_with fail
        refine bodyPost_ret (results_next rfl _ _ _ ⟨w.heap.size, 0, none⟩ (.agg #[.int .i64 0, .int .i64 0, .int .i64 0, .string ⟨#[]⟩]) (by go_simp) (by go_simp)) rfl ?_
        exact ⟨ret_next HX.out rfl rfl rfl rfl rfl rfl, below_one _ _⟩
      · have hd : ((h : Int) / 2 == 0) = false := by simp; omega
        have hd5 : decide (500 < (h : Int) / 2) = true := by simp; omega
        go_enter Try.func32, Try.ntmps32
        go_wp2_with fail
        refine (HG1.out _ (below_one _ _)).mono ?_
        rintro e w1 ⟨rfl, rfl⟩
        go_wp2_with fail
        refine bodyPost_ret (results_next rfl _ _ _ ⟨w.heap.size, 0, none⟩ (.agg #[.int .i64 0, .int .i64 0, .int .i64 0, .string ⟨#[]⟩]) (by go_simp) (by go_simp)) rfl ?_
        exact ⟨ret_next HX.out rfl rfl rfl rfl rfl rfl, below_one _ _⟩
    · have hd : ((h : Int) / 2 == 0) = false := by simp; omega
      have hd5 : decide (500 < (h : Int) / 2) = false := by simp; omega
      obtain ⟨⟨v, q2, e2⟩, g2⟩ : ∃ x, getF (ns.drop q1) 0 0 q1 = x := ⟨_, rfl⟩
      have HG2 : Hid (∀ W, Below w.heap.size w W → Calls Try.prog 46 #[.slice (some ⟨g, off, none⟩) N cap, .int .i64 (q1 : Int)] W fun e w' => e = .returned (.tuple #[.int .u64 (v : Int), .int .i64 (q2 : Int), .int .i64 (e2 : Int)]) ∧ w' = W) := fun W hW => by
        have := HG.out W q1 hW (by omega)
        rw [g2] at this
        exact this
      have G2 : Hid (getF (ns.drop q1) 0 0 q1 = (v, q2, e2)) := g2
      have hv64 : e2 = 0 → q1 < q2 ∧ q2 ≤ N ∧ v < 18446744073709551616 := by
        rintro rfl
        have := getF_at_bd g2 HT.out (by rw [HN.out]; omega)
        rw [HN.out] at this
        exact this
      clear g2
      by_cases he2 : e2 = 0
      · subst he2
        obtain ⟨hq3, hq4, hv64⟩ := hv64 rfl
        obtain ⟨m, hm2⟩ : ∃ m, h % 2 = m := ⟨_, rfl⟩
        have hmi : (h : Int) % 2 = (m : Int) := by omega
        obtain ⟨t, ht2⟩ : ∃ t, h / 2 = t := ⟨_, rfl⟩
        have hti : (h : Int) / 2 = (t : Int) := by omega
        have hdt : ((t : Int) == 0) = false := by simp; omega
        have hdt5 : decide (500 < (t : Int)) = false := by simp; omega
        have ht500 : t ≤ 500 := by omega
        clear hd hd5
        by_cases hw : m = 0
        · subst hw
          have HX : Hid (nextN ns p = (⟨(t : Nat), 0, zagN v, ⟨#[]⟩⟩, q2, 0)) := by
            show _ = _
            rw [next_num G1.out ht G2.out hm2, ht2]
          clear G1 G2 hm2 ht2
          go_enter Try.func32, Try.ntmps32
          go_wp2_with fail
          refine (HG1.out _ (below_one _ _)).mono ?_
          rintro e w1 ⟨rfl, rfl⟩
          go_wp2_with fail
          refine (HG2.out _ (below_one _ _)).mono ?_
          rintro e w1 ⟨rfl, rfl⟩
          go_wp2_with fail
          refine (zag_any v _ (by omega) (by omega)).mono ?_
          rintro e w1 ⟨rfl, rfl⟩
          have hz := zagN_bd v (by omega) (by omega)
          generalize zagN v = z at *
          go_wp2_with fail
          refine bodyPost_ret (results_next rfl _ _ _ ⟨w.heap.size, 0, none⟩ (.agg #[.int .i64 (t : Int), .int .i64 0, .int .i64 z, .string ⟨#[]⟩]) (by go_simp) (by go_simp)) rfl ?_
          exact ⟨ret_next HX.out rfl rfl rfl rfl rfl rfl, below_two _ _ _⟩
        · obtain rfl : m = 1 := by omega
          by_cases hs : N - q2 < v
          · have HX : Hid (nextN ns p = (fd0, 0, 2)) := next_short G1.out ht G2.out (by omega) (by rw [HN.out]; exact hs)
            clear G1 G2 hm2 ht2
            have hdv : decide ((N : Int) - (q2 : Int) < (v : Int)) = true := by simp; omega
            go_enter Try.func32, Try.ntmps32
            go_wp2_with fail
            refine (HG1.out _ (below_one _ _)).mono ?_
            rintro e w1 ⟨rfl, rfl⟩
            go_wp2_with fail
            refine (HG2.out _ (below_one _ _)).mono ?_
            rintro e w1 ⟨rfl, rfl⟩
            go_wp2_with fail
            refine bodyPost_ret (results_next rfl _ _ _ ⟨w.heap.size, 0, none⟩ (.agg #[.int .i64 0, .int .i64 0, .int .i64 0, .string ⟨#[]⟩]) (by go_simp) (by go_simp)) rfl ?_
            exact ⟨ret_next HX.out rfl rfl rfl rfl rfl rfl, below_two _ _ _⟩
          · have HX : Hid (nextN ns p = (⟨(t : Nat), 1, 0, strN ((ns.drop q2).take v)⟩, q2 + v, 0)) := by
              show _ = _
              rw [next_text G1.out ht G2.out (by omega) (by rw [HN.out]; omega), ht2]
            clear G1 G2 hm2 ht2
            have hdv : decide ((N : Int) - (q2 : Int) < (v : Int)) = false := by simp; omega
            obtain ⟨S, hS⟩ : ∃ S, strN ((ns.drop q2).take v) = S := ⟨_, rfl⟩
            rw [hS] at HX
            by_cases hqc : q2 = cap
            · obtain rfl : v = 0 := by omega
              have hS0 : strN [] = S := by rw [← hS]; simp
              have hcv : ∀ o1 o2 c, (convert 29 9 (.slice (some ⟨g, off, none⟩) 0 c)).run Try.prog ((w.alloc o1).alloc o2) = .ok (.string S) ((w.alloc o1).alloc o2) := fun o1 o2 c => by
                have := conv_holds ((w.alloc o1).alloc o2) (some ⟨g, off, none⟩) [] c (fun h => by cases h) Holds.nil
                rw [hS0] at this
                exact this
              clear hS hS0
              subst hqc
              go_enter Try.func32, Try.ntmps32
              go_wp2_with fail
              refine (HG1.out _ (below_one _ _)).mono ?_
              rintro e w1 ⟨rfl, rfl⟩
              go_wp2_with fail
              refine (HG2.out _ (below_one _ _)).mono ?_
              rintro e w1 ⟨rfl, rfl⟩
              go_wp2_with fail
              refine bodyPost_ret (results_next rfl _ _ _ ⟨w.heap.size, 0, none⟩ (.agg #[.int .i64 (t : Int), .int .i64 1, .int .i64 0, .string S]) (by go_simp) (by go_simp)) rfl ?_
              exact ⟨ret_next HX.out rfl rfl rfl rfl (by simp) rfl, below_two _ _ _⟩
            · have hcv : ∀ o1 o2 c, (convert 29 9 (.slice (some ⟨g, off + q2, none⟩) v c)).run Try.prog ((w.alloc o1).alloc o2) = .ok (.string S) ((w.alloc o1).alloc o2) := fun o1 o2 c => by
                have := HC.out ((w.alloc o1).alloc o2) q2 v (below_two _ _ _) (by omega) c
                rw [hS] at this
                exact this
              clear hS
              go_enter Try.func32, Try.ntmps32
              go_wp2_with fail
              refine (HG1.out _ (below_one _ _)).mono ?_
              rintro e w1 ⟨rfl, rfl⟩
              go_wp2_with fail
              refine (HG2.out _ (below_one _ _)).mono ?_
              rintro e w1 ⟨rfl, rfl⟩
              go_wp2_with fail
              refine bodyPost_ret (results_next rfl _ _ _ ⟨w.heap.size, 0, none⟩ (.agg #[.int .i64 (t : Int), .int .i64 1, .int .i64 0, .string S]) (by go_simp) (by go_simp)) rfl ?_
              exact ⟨ret_next HX.out rfl rfl rfl rfl (by simp) rfl, below_two _ _ _⟩
      · have HX : Hid (nextN ns p = (fd0, 0, e2)) := next_e2 G1.out ht G2.out he2
        clear G1 G2 hv64
        have hne : ((e2 : Int) != 0) = true := by simp; omega
        go_enter Try.func32, Try.ntmps32
        go_wp2_with fail
        refine (HG1.out _ (below_one _ _)).mono ?_
        rintro e w1 ⟨rfl, rfl⟩
        go_wp2_with fail
        refine (HG2.out _ (below_one _ _)).mono ?_
        rintro e w1 ⟨rfl, rfl⟩
        go_wp2_with fail
        refine bodyPost_ret (results_next rfl _ _ _ ⟨w.heap.size, 0, none⟩ (.agg #[.int .i64 0, .int .i64 0, .int .i64 0, .string ⟨#[]⟩]) (by go_simp) (by go_simp)) rfl ?_
        exact ⟨ret_next HX.out rfl rfl rfl rfl rfl rfl, below_one _ _⟩
  · have HX : Hid (nextN ns p = (fd0, 0, e1)) := next_e1 G1.out he1
    clear G1 hh64
    have hne : ((e1 : Int) != 0) = true := by simp; omega
    go_enter Try.func32, Try.ntmps32
    go_wp2_with fail
    refine (HG1.out _ (below_one _ _)).mono ?_
    rintro e w1 ⟨rfl, rfl⟩
    go_wp2_with fail
    refine bodyPost_ret (results_next rfl _ _ _ ⟨w.heap.size, 0, none⟩ (.agg #[.int .i64 0, .int .i64 0, .int .i64 0, .string ⟨#[]⟩]) (by go_simp) (by go_simp)) rfl ?_
    exact ⟨ret_next HX.out rfl rfl rfl rfl rfl rfl, below_one _ _⟩
end Go.Proofs.Ytkmdaopmmfdpgaa

/- What Get answers: the fields that bytes are. -/
namespace Go.Proofs.Ytkmdaopmmfdpgaa
open Go.ChangeShapes Go.WideShapes Go.ChangeAt Go.RowKit
set_option linter.unusedVariables false
set_option linter.unusedSimpArgs false
set_option maxRecDepth 20000

theorem rawCells_snoc (acc : List Fd) (r : Fd) : (acc ++ [r]).length = acc.length + 1 ∧ rawCells (acc ++ [r]) = rawCells acc ++ r.cells := by
  constructor
  · simp
  · rw [rawCells_app, rawCells_cons, rawCells_nil, List.append_nil]

set_option maxHeartbeats 4000000 in
theorem wget_any (a : Option Addr) (ns : List Nat) (N cap : Nat) (w : World) (hN : ns.length = N) (hh : Holds w a ns) (hlt : ∀ n ∈ ns, n < 256) (hc : N ≤ cap) (hm : cap ≤ maxLen) (hadr : ns = [] ∨ ∃ g off, a = some ⟨g, off, none⟩) :
    Calls Try.prog 19 #[.slice a N cap] w fun e w' => ∃ v, e = .returned (.tuple #[v, .int .i64 ((getL ns).2 : Int)]) ∧ w'.ownsRow w.heap.size 46 4 v (getL ns).1.length (rawCells (getL ns).1) ∧ Below w.heap.size w w' := by
  have HM : Hid (cap ≤ maxLen) := hm
  unfold maxLen at hm
  obtain ⟨R, hR⟩ : ∃ R, getL ns = R := ⟨_, rfl⟩
  rw [hR]
  by_cases hbig : 4096 < N
  · have : R = ([], 4) := by rw [← hR, getL, if_pos (by omega)]
    subst this
    clear hR hh hlt
    go_enter Try.func19, Try.ntmps19
    go_wp2_with fail
    go_ret2
    exact ⟨_, rfl, World.ownsRow_nil _ _ _ _, Below.refl _ _⟩
  · have HR : Hid (joinA [] (getA ns 0) = R) := by
      show _ = _
      rw [joinA_nil _ (getA_nil ns 0), ← hR, getL, if_neg (by omega)]
    have HN : Hid (ns.length = N) := hN
    have HH : Hid (Holds w a ns) := hh
    have HT : Hid (∀ n ∈ ns, n < 256) := hlt
    have HA : Hid (ns = [] ∨ ∃ g off, a = some ⟨g, off, none⟩) := hadr
    obtain ⟨i0, hi, hz0, hz1, hz2⟩ := info_parts infoRaw
    clear hR hN hh hlt hadr
    go_enter Try.func19, Try.ntmps19
    go_wp2_with fail
    go_loopw [4, 5] (fun out pv wr => ∃ (acc : List Fd) (p : Nat), pv = .int .i64 (p : Int) ∧ p ≤ N ∧ acc.length ≤ p ∧ Hid (joinA acc (getA ns p) = R) ∧ Hid (wr.ownsRow w.heap.size 46 4 out acc.length (rawCells acc)) ∧ Below w.heap.size w wr)
      (fun _ pv _ => N - (intOf pv).toNat)
    case atStart => exact ⟨[], 0, rfl, by omega, by simp, HR, World.ownsRow_nil _ _ _ _, Below.refl _ _⟩
    case round =>
      obtain ⟨acc, p, rfl, hp, hacc, HJ, HO, hbel⟩ := hrel
      have hws := hbel.size
      by_cases hpn : p < N
      · rcases HA.out with h0 | ⟨g, off, rfl⟩
        · exact absurd hpn (by have := HN.out; rw [h0] at this; simp at this; omega)
        have hnx := next_any g off ns N cap p wr HN.out (HH.out.below hbel) HT.out hc HM.out (by omega) hpn
        obtain ⟨⟨r, q, e⟩, hx⟩ : ∃ x, nextN ns p = x := ⟨_, rfl⟩
        rw [hx] at hnx
        have HX : Hid (nextN ns p = (r, q, e)) := hx
        clear hx
        by_cases he : e = 0
        · subst he
          have hq : p < q ∧ q ≤ N := by
            have := nextN_bd HX.out HT.out (by rw [HN.out]; omega)
            rw [HN.out] at this
            exact this
          have HJ2 : Hid (joinA (acc ++ [r]) (getA ns q) = R) := by
            show _ = _
            rw [← joinA_join, ← getA_on (by rw [HN.out]; exact hpn) HX.out HT.out]
            exact HJ.out
          clear HJ HX
          obtain ⟨t, k, n, b⟩ := r
          simp only [nextV, Fd.val] at hnx
          go_wp2_with fail
          refine hnx.mono ?_
          rintro e w1 ⟨rfl, hb1⟩
          have hb1' : Below w.heap.size w w1 := hbel.trans (hb1.mono hws)
          have hws1 := hb1'.size
          have HO1 := own_belowH HO hb1
          clear HO hnx
          go_wp2_with (first
            | (at_builtin; refine wpList_append_own _ rfl _ _ 23 rfl w.heap.size 46 i0 _ 4 40 Try.underlying23 hi hz0 hz1 hz2 rfl (by decide) _ _ _ rfl ((HO1.out.alloc _).alloc _) ⟨w1.heap.size + 1, 0, none⟩ 1 1 (Fd.cells ⟨t, k, n, b⟩) rfl rfl ?c1 ?c2 ?c3 ?c4 ?c5 ?_)
            | fail)
          case c1 =>
            intro j u hj
            match j, hj with
            | 0, hj | 1, hj | 2, hj | 3, hj => simp [Fd.cells] at hj; subst hj; simp [Addr.add]
          case c2 => intro u hu; simp [Fd.cells] at hu; rcases hu with rfl | rfl | rfl | rfl <;> rfl
          case c3 => unfold maxLen; omega
          case c4 => omega
          case c5 => simp; omega
          intro v w2 ho2 hg2 _
          have hb2 : Below w.heap.size w w2 := ((hb1'.alloc hws1 _).alloc (by simp; omega) _).grown hg2 (by simp; omega) (fun k hk => (HO1.out.lt k hk).1)
          have HO2 : Hid (w2.ownsRow w.heap.size 46 4 v (acc ++ [(⟨t, k, n, b⟩ : Fd)]).length (rawCells (acc ++ [⟨t, k, n, b⟩]))) := by
            show World.ownsRow _ _ _ _ _ _ _
            rw [(rawCells_snoc acc _).1, (rawCells_snoc acc _).2]
            exact ho2
          have hlen : (acc ++ [(⟨t, k, n, b⟩ : Fd)]).length ≤ q := by simp; omega
          clear HO1 ho2 hg2 hb1 hb1'
          go_wp2_with fail
          go_roundw
          case rel => exact ⟨acc ++ [⟨t, k, n, b⟩], q, rfl, hq.2, hlen, HJ2, HO2, hb2⟩
          case measure => simp [intOf]; omega
        · have hne : ((e : Int) != 0) = true := by simp; omega
          have hR : R = ([], e) := by rw [← HJ.out, getA_err (by rw [HN.out]; exact hpn) HX.out he, joinA, if_neg he]
          subst hR
          clear HJ HX HR HO
          obtain ⟨t, k, n, b⟩ := r
          simp only [nextV, Fd.val] at hnx
          go_wp2_with fail
          refine hnx.mono ?_
          rintro e w1 ⟨rfl, hb1⟩
          have hb1' : Below w.heap.size w w1 := hbel.trans (hb1.mono hws)
          have hb2 : ∀ o, Below w.heap.size w (w1.alloc o) := fun o => hb1'.alloc hb1'.size o
          clear hnx hb1 hb1'
          go_wp2_with fail
          go_ret2
          exact ⟨_, rfl, World.ownsRow_nil _ _ _ _, hb2 _⟩
      · have hR : R = (acc, 0) := by rw [← HJ.out, getA_end (by rw [HN.out]; omega), joinA, if_pos rfl, List.append_nil]
        subst hR
        clear HJ HR
        go_wp2_with fail
        go_ret2
        exact ⟨_, rfl, HO.out, hbel⟩
end Go.Proofs.Ytkmdaopmmfdpgaa

/- What the reference answers of rising fields. -/
namespace Go.Proofs.Ytkmdaopmmfdpgaa
open Go.ChangeShapes Go.WideShapes Go.ChangeAt Go.RowKit
set_option linter.unusedVariables false
set_option linter.unusedSimpArgs false
set_option maxRecDepth 20000

set_option maxHeartbeats 1000000 in
theorem rrising_any (a : Option Addr) (rs : List Fd) (N cap : Nat) (w : World) (hN : rs.length = N) (hadr : rs = [] ∨ ∃ g off, a = some ⟨g, off, none⟩) (hc : N ≤ cap) (hm : cap ≤ maxLen) (hh : HoldsR w a rs) :
    Calls Try.prog 61 #[.slice a N cap] w fun e w' => e = .returned (.bool (risesB rs)) ∧ Below w.heap.size w w' := by
  have HN : Hid (rs.length = N) := hN
  have HA : Hid (rs = [] ∨ ∃ g off, a = some ⟨g, off, none⟩) := hadr
  have HH : Hid (HoldsR w a rs) := hh
  obtain ⟨R, hR⟩ : ∃ R, risesB rs = R := ⟨_, rfl⟩
  rw [hR]
  have HR : Hid (risesB rs = R) := hR
  unfold maxLen at hm
  clear hN hadr hh hR
  go_enter Try.func61, Try.ntmps61
  go_wp2_with fail
  go_loopw [3] (fun iv wr => ∃ i : Nat, iv = .int .i64 ((i : Int) + 1) ∧ i ≤ N ∧ Hid (∀ j x y, j < i → rs[j]? = some x → rs[j + 1]? = some y → x.tag ≤ y.tag) ∧ Below w.heap.size w wr) (fun iv _ => N + 1 - (intOf iv).toNat)
  case atStart => exact ⟨0, rfl, by omega, (fun j x y hj => absurd hj (by omega) : ∀ j x y, j < 0 → rs[j]? = some x → rs[j + 1]? = some y → x.tag ≤ y.tag), Below.refl _ _⟩
  case round =>
    obtain ⟨i, rfl, hi, HT, hbel⟩ := hrel
    by_cases hlt : i + 1 < N
    · have hr : rs[i]? = some (rs[i]'(by rw [HN.out]; omega)) := List.getElem?_eq_getElem _
      generalize rs[i]'(by rw [HN.out]; omega) = r at hr
      have hs : rs[i + 1]? = some (rs[i + 1]'(by rw [HN.out]; exact hlt)) := List.getElem?_eq_getElem _
      generalize rs[i + 1]'(by rw [HN.out]; exact hlt) = s at hs
      rcases HA.out with h0 | ⟨g, off, rfl⟩
      · exact absurd hlt (by have := HN.out; rw [h0] at this; simp at this; omega)
      obtain ⟨p0, -, -, -⟩ := (HH.out.below hbel).at hr
      obtain ⟨q0, -, -, -⟩ := (HH.out.below hbel).at hs
      have HK : Hid (rs[i]? = some r) := hr
      have HK2 : Hid (rs[i + 1]? = some s) := hs
      obtain ⟨x, hx⟩ : ∃ q, r.tag = q := ⟨_, rfl⟩
      obtain ⟨y, hy⟩ : ∃ q, s.tag = q := ⟨_, rfl⟩
      rw [hx] at p0
      rw [hy] at q0
      have HX : Hid (r.tag = x) := hx
      have HY : Hid (s.tag = y) := hy
      have hlti : (i : Int) + 1 < (N : Int) := by omega
      clear hr hs hx hy
      by_cases hle : y < x
      · have hd : decide (y < x) = true := by simp [hle]
        obtain rfl : R = false := by rw [← HR.out]; exact rises_break i r s HK.out HK2.out (by rw [HX.out, HY.out]; exact hle)
        clear HT HK HK2 HX HY HR
        go_wp2_with fail
        go_quiet (fail)
        have hbn := below_drewN nq hbel
        clear p0 q0 hbel
        go_wp2_with fail
        go_ret
        exact ⟨rfl, hbn⟩
      · have hd : decide (y < x) = false := by simp; omega
        have HT2 : Hid (∀ j u v, j < i + 1 → rs[j]? = some u → rs[j + 1]? = some v → u.tag ≤ v.tag) := fun j u v hj hu hv => by
          by_cases hji : j = i
          · subst hji
            rw [HK.out] at hu
            rw [HK2.out] at hv
            obtain rfl : r = u := by simpa using hu
            obtain rfl : s = v := by simpa using hv
            rw [HX.out, HY.out]; omega
          · exact HT.out j u v (by omega) hu hv
        clear HT HK HK2 HX HY
        go_wp2_with fail
        go_quiet (fail)
        have hbn := below_drewN nq hbel
        clear p0 q0 hbel
        go_wp2_with fail
        go_roundw
        case rel => exact ⟨i + 1, by go_num, by omega, HT2, hbn⟩
        case measure => simp [intOf]; omega
    · obtain rfl : R = true := by
        rw [← HR.out]
        refine rises_steps fun j x y hx hy => HT.out j x y ?_ hx hy
        have := (List.getElem?_eq_some_iff.1 hy).1
        rw [HN.out] at this
        omega
      have hnl : ¬ (i : Int) + 1 < (N : Int) := by omega
      clear HT HR
      go_wp2_with fail
      go_ret
      exact ⟨rfl, hbel⟩

end Go.Proofs.Ytkmdaopmmfdpgaa

/- The reference's Rising and Sorted. -/
namespace Go.Proofs.Ytkmdaopmmfdpgaa
open Go.ChangeShapes Go.WideShapes Go.ChangeAt Go.RowKit
set_option linter.unusedVariables false
set_option linter.unusedSimpArgs false
set_option maxRecDepth 20000

/-- A rising list is told by its tags' fields. -/
theorem rises_uniq : ∀ (l m : List Fd), Rises l → Rises m → (∀ t : Int, l.filter (fun x => x.tag == t) = m.filter (fun x => x.tag == t)) → l = m
  | [], m, _, _, h => by
    cases m with
    | nil => rfl
    | cons y m => have := h y.tag; simp at this
  | x :: l, m, h1, h2, h => by
    cases m with
    | nil => have := h x.tag; simp at this
    | cons y m =>
      have p1 := List.pairwise_cons.1 h1
      have p2 := List.pairwise_cons.1 h2
      have hx : x ∈ y :: m := by
        have : x ∈ (y :: m).filter (fun z => z.tag == x.tag) := by rw [← h x.tag]; simp
        exact (List.mem_filter.1 this).1
      have hy : y ∈ x :: l := by
        have : y ∈ (x :: l).filter (fun z => z.tag == y.tag) := by rw [h y.tag]; simp
        exact (List.mem_filter.1 this).1
      have e1 : y.tag ≤ x.tag := by
        rcases List.mem_cons.1 hx with rfl | hx
        · exact Int.le_refl _
        · exact p2.1 x hx
      have e2 : x.tag ≤ y.tag := by
        rcases List.mem_cons.1 hy with rfl | hy
        · exact Int.le_refl _
        · exact p1.1 y hy
      have e : x.tag = y.tag := by omega
      have hf := h x.tag
      rw [List.filter_cons, List.filter_cons, if_pos (by simp), if_pos (by simp [e])] at hf
      obtain rfl : x = y := (List.cons.inj hf).1
      congr 1
      refine rises_uniq l m p1.2 p2.2 fun t => ?_
      have := h t
      rw [List.filter_cons, List.filter_cons] at this
      by_cases ht : (x.tag == t) = true
      · rw [if_pos ht, if_pos ht] at this; exact (List.cons.inj this).2
      · rw [if_neg ht, if_neg ht] at this; exact this
/-- One by one. -/
def insA (rs : List Fd) : List Fd := rs.foldl (fun m x => mergeF m [x]) []
theorem insA_snoc (rs : List Fd) (x : Fd) : insA (rs ++ [x]) = mergeF (insA rs) [x] := by simp [insA]
theorem ins_all : ∀ (rs m : List Fd), Rises m → Rises (rs.foldl (fun m x => mergeF m [x]) m) ∧ (rs.foldl (fun m x => mergeF m [x]) m).length = m.length + rs.length ∧ ∀ t : Int, (rs.foldl (fun m x => mergeF m [x]) m).filter (fun x => x.tag == t) = m.filter (fun x => x.tag == t) ++ rs.filter (fun x => x.tag == t)
  | [], m, h => ⟨h, by simp, fun t => by simp⟩
  | x :: rs, m, h => by
    obtain ⟨h1, h2, h3⟩ := ins_all rs (mergeF m [x]) (mergeF_rises _ _ h (by simp [Rises]))
    refine ⟨h1, ?_, fun t => ?_⟩
    · rw [List.foldl_cons, h2, mergeF_len]; simp; omega
    · rw [List.foldl_cons, h3 t, mergeF_filter t _ _ h, List.append_assoc, ← List.filter_append]
      rfl
theorem insA_all (rs : List Fd) : Rises (insA rs) ∧ (insA rs).length = rs.length ∧ ∀ t : Int, (insA rs).filter (fun x => x.tag == t) = rs.filter (fun x => x.tag == t) := by
  obtain ⟨h1, h2, h3⟩ := ins_all rs [] (by simp [Rises])
  unfold insA
  exact ⟨h1, by simpa using h2, fun t => by simpa using h3 t⟩
theorem insA_sortF (rs : List Fd) : insA rs = sortF rs := by
  have h1 := insA_all rs
  have h2 := sortF_all _ rs (Nat.le_refl _)
  exact rises_uniq _ _ h1.1 h2.1 fun t => by rw [h1.2.2 t, h2.2.2.2 t]
/-- Where a field comes to stand. -/
theorem insA_at {m p q : List Fd} {x : Fd} (hm : m = p ++ q) (hr : Rises m) (hq : ∀ y ∈ q, x.tag < y.tag) (hp : ∀ y, p.getLast? = some y → y.tag ≤ x.tag) : mergeF m [x] = p ++ x :: q := by
  have hall : ∀ y ∈ p, y.tag ≤ x.tag := by
    intro y hy
    rcases List.eq_nil_or_concat p with rfl | ⟨p', z, rfl⟩
    · simp at hy
    · have hz := hp z (by simp)
      rw [List.concat_eq_append, List.mem_append] at hy
      rcases hy with hy | hy
      · have hr' : Rises (p' ++ [z]) := by
          rw [hm, List.concat_eq_append] at hr
          exact hr.sublist (List.sublist_append_left _ _)
        have := (List.pairwise_append.1 hr').2.2 y hy z (by simp)
        omega
      · obtain rfl : y = z := by simpa using hy
        exact hz
  have hu : upN m x.tag = p.length := by
    refine upN_step (fun j y hj hy => hall y ?_) ?_
    · rw [hm, List.getElem?_append_left hj] at hy
      exact List.mem_of_getElem? hy
    · cases q with
      | nil => left; rw [hm]; simp
      | cons z q => right; exact ⟨z, by rw [hm]; simp, by have := hq z (by simp); omega⟩
  rw [mergeF, hu, hm]
  simp [mergeF]
/-- Two neighbours that change places. -/
theorem swap_own {w : World} {B g n cap : Nat} {p q : List Fd} {y x : Fd} (h : w.ownsRow B 46 4 (.slice (some ⟨g, 0, none⟩) n cap) n (rawCells (p ++ y :: x :: q))) (o : Nat) (ho : o = p.length * 4) (o2 : Nat) (ho2 : o2 = o + 4) :
    ((((((((w.setCell ⟨g, o, none⟩ (.int .i64 x.tag)).setCell ⟨g, o + 1, none⟩ (.int .i64 x.wire)).setCell ⟨g, o + 2, none⟩ (.int .i64 x.n)).setCell ⟨g, o + 3, none⟩ (.string x.b)).setCell ⟨g, o2, none⟩ (.int .i64 y.tag)).setCell ⟨g, o2 + 1, none⟩ (.int .i64 y.wire)).setCell ⟨g, o2 + 2, none⟩ (.int .i64 y.n)).setCell ⟨g, o2 + 3, none⟩ (.string y.b)).ownsRow B 46 4 (.slice (some ⟨g, 0, none⟩) n cap) n (rawCells (p ++ x :: y :: q)) := by
  have s1 := (h.stored o (.int .i64 x.tag)).1
  have s2 := (s1.stored (o + 1) (.int .i64 x.wire)).1
  have s3 := (s2.stored (o + 2) (.int .i64 x.n)).1
  have s4 := (s3.stored (o + 3) (.string x.b)).1
  have s5 := (s4.stored o2 (.int .i64 y.tag)).1
  have s6 := (s5.stored (o2 + 1) (.int .i64 y.wire)).1
  have s7 := (s6.stored (o2 + 2) (.int .i64 y.n)).1
  have s8 := (s7.stored (o2 + 3) (.string y.b)).1
  have e : rawCells (p ++ x :: y :: q) = ((((((((rawCells (p ++ y :: x :: q)).set o (.int .i64 x.tag)).set (o + 1) (.int .i64 x.wire)).set (o + 2) (.int .i64 x.n)).set (o + 3) (.string x.b)).set o2 (.int .i64 y.tag)).set (o2 + 1) (.int .i64 y.wire)).set (o2 + 2) (.int .i64 y.n)).set (o2 + 3) (.string y.b) := by
    have hl : (rawCells p).length = p.length * 4 := rawCells_len p
    rw [ho2, ho, ← hl, rawCells_app, rawCells_app, rawCells_cons, rawCells_cons, rawCells_cons, rawCells_cons]
    generalize rawCells p = D
    generalize rawCells q = E
    have sb : ∀ (l : List Value) (j : Nat) (v : Value), (D ++ l).set (D.length + j) v = D ++ l.set j v := fun l j v => by rw [List.set_append, if_neg (by omega), Nat.add_sub_cancel_left]
    have s0 : ∀ (l : List Value) (v : Value), (D ++ l).set D.length v = D ++ l.set 0 v := fun l v => sb l 0 v
    simp only [Nat.add_assoc, s0, sb, Fd.cells]
    simp
  rw [e]
  exact s8
end Go.Proofs.Ytkmdaopmmfdpgaa

/- What the reference answers of a field. -/
namespace Go.Proofs.Ytkmdaopmmfdpgaa
open Go.ChangeShapes Go.WideShapes Go.ChangeAt Go.RowKit
set_option linter.unusedVariables false
set_option linter.unusedSimpArgs false
set_option maxRecDepth 20000

set_option maxHeartbeats 1000000 in
theorem rcheckV_any (t k n : Int) (b : ByteArray) (w : World) :
    Calls Try.prog 52 #[.agg #[.int .i64 t, .int .i64 k, .int .i64 n, .string b]] w fun e w' => e = .returned (.bool (okV t k n b)) ∧ Below w.heap.size w w' := by
  by_cases h1 : 1 ≤ t
  · by_cases h2 : t ≤ 500
    · by_cases hk : k = 0
      · subst hk
        go_enter Try.func52, Try.ntmps52
        go_wp2_with fail
        all_goals
          go_ret
          exact ⟨ret_boolF (by simp [okV, h1, h2]), (Below.refl _ _).alloc (Nat.le_refl _) _⟩
      · by_cases hk1 : k = 1
        · subst hk1
          by_cases hn : n = 0
          · subst hn
            go_enter Try.func52, Try.ntmps52
            go_wp2_with fail
            all_goals
              go_ret
              exact ⟨ret_boolF (by simp [okV, h1, h2]), (Below.refl _ _).alloc (Nat.le_refl _) _⟩
          · go_enter Try.func52, Try.ntmps52
            go_wp2_with fail
            all_goals
              go_ret
              exact ⟨ret_boolF (by simp [okV, hn]), (Below.refl _ _).alloc (Nat.le_refl _) _⟩
        · have e0 : (k == 0) = false := by simp [hk]
          have e1 : (k == 1) = false := by simp [hk1]
          go_enter Try.func52, Try.ntmps52
          go_wp2_with fail
          all_goals
            go_ret
            exact ⟨ret_boolF (by simp [okV, hk, hk1]), (Below.refl _ _).alloc (Nat.le_refl _) _⟩
    · have hok : okV t k n b = false := by simp [okV]; omega
      rw [hok]
      clear hok
      have hd : decide (t < 1) = false := by simp; omega
      have hd5 : decide (500 < t) = true := by simp; omega
      go_enter Try.func52, Try.ntmps52
      go_wp2_with fail
      all_goals
        go_ret
        exact ⟨rfl, (Below.refl _ _).alloc (Nat.le_refl _) _⟩
  · have hok : okV t k n b = false := by simp [okV]; omega
    rw [hok]
    clear hok
    have hd : decide (t < 1) = true := by simp; omega
    go_enter Try.func52, Try.ntmps52
    go_wp2_with fail
    all_goals
      go_ret
      exact ⟨rfl, (Below.refl _ _).alloc (Nat.le_refl _) _⟩
theorem rcheckF_any (r : Fd) (w : World) : Calls Try.prog 52 #[r.val] w fun e w' => e = .returned (.bool (okF r)) ∧ Below w.heap.size w w' := rcheckV_any _ _ _ _ w


end Go.Proofs.Ytkmdaopmmfdpgaa

/- A region that draws its order and whose callees only make memory: one walk in the order of the text serves every order. (The library's theorem on quiet regions, at the class of worlds that keep what lay below a block.) -/
namespace Go.Proofs.Ytkmdaopmmfdpgaa
open Go.RowKit

/-- A world that keeps what lay below block B of w0. -/
structure Kept (B : Nat) (w0 : World) where
  w : World
  below : Below B w0 w

theorem wp_region_qb {P : Program} {id : Nat} {Q : Exit → Act → World → Prop} {a : Act} {w : World} {l : List Oper} {B : Nat} {w0 : World} (h0 : Below B w0 w) (hm : P.follows .mixedOrders = true) (hB : Region.lexB .any l.toArray = true)
    (h : wpQuiet P l.toArray (fun w' => ∃ x : Kept B w0, w' = x.w) (fun a' => ∀ w', (∃ x : Kept B w0, w' = x.w) → Q .normal a' w') l a) : (Code.region id l.toArray true).wp P Q a w :=
  wp_region_quiet (C := fun w' => ∃ x : Kept B w0, w' = x.w) hm hB ⟨⟨_, h0.drew⟩, rfl⟩ (by simpa using h)

theorem nonempty_qb {B : Nat} {w0 w : World} (h0 : Below B w0 w) : Nonempty (Kept B w0) := ⟨⟨w, h0⟩⟩

theorem qb_call {P : Program} {f : FuncId} {args : Array Value} {B : Nat} {w0 : World} {x : Kept B w0} {v : Value}
    (h : ∀ W, Below B w0 W → Calls P f args W fun e W' => e = .returned v ∧ Below B w0 W') : Calls P f args x.w fun e w'' => e = .returned v ∧ ∃ y : Kept B w0, w'' = y.w :=
  (h _ x.below).mono fun _ W' h => ⟨h.1, ⟨⟨W', h.2⟩, rfl⟩⟩
theorem qb_same {P : Program} {f : FuncId} {args : Array Value} {B : Nat} {w0 : World} {x : Kept B w0} {v : Value}
    (h : ∀ W, Calls P f args W fun e W' => e = .returned v ∧ W' = W) : Calls P f args x.w fun e w'' => e = .returned v ∧ ∃ y : Kept B w0, w'' = y.w :=
  (h _).mono fun _ _ h => ⟨h.1, ⟨x, h.2⟩⟩
end Go.Proofs.Ytkmdaopmmfdpgaa

/- The reference's Has and rest. -/
namespace Go.Proofs.Ytkmdaopmmfdpgaa
open Go.ChangeShapes Go.WideShapes Go.ChangeAt Go.RowKit
set_option linter.unusedVariables false
set_option linter.unusedSimpArgs false
set_option maxRecDepth 20000

theorem kept_cellV {w : World} {a : Addr} {u : Value} (h : w.cell? a = some u) (x : Kept w.heap.size w) : x.w.cell? a = some u := by
  rw [x.below.cell (World.block_lt_of_cell? _ _ h)]; exact h
theorem has_step {es : List (Int × List Tr)} {i : Nat} {e : Int × List Tr} {tag : Int} (h : es[i]? = some e) : hasB (es.take (i + 1)) tag = (hasB (es.take i) tag || e.1 == tag) := by
  have : es.take (i + 1) = es.take i ++ [e] := by rw [List.take_add_one, h]; rfl
  rw [this]; simp [hasB]
theorem has_yes {es : List (Int × List Tr)} {i : Nat} {e : Int × List Tr} (h : es[i]? = some e) : hasB es e.1 = true := by
  simp only [hasB, List.any_eq_true, beq_iff_eq]
  exact ⟨e, List.mem_of_getElem? h, rfl⟩
set_option maxHeartbeats 2000000 in
theorem rhas_any (n : Nat) (t : Tr) (v : Value) (tag : Int) (w : World) (ht : TrIn (n + 1) w v t) :
    Calls Try.prog 23 #[v, .int .i64 tag] w fun e w' => e = .returned (.bool (hasB t.es tag)) ∧ Below w.heap.size w w' := by
  obtain ⟨n', ve, vr, e0, rfl, ka, na, sa, fa, ra, ea⟩ := ht.open
  obtain rfl : n' = n := by omega
  clear e0 ht
  obtain ⟨pe, ce, rfl, u1, u2, -⟩ := ea.open
  obtain ⟨pr, cr, rfl, x1, x2, -⟩ := rest_holds ra
  unfold maxLen at u2 x2
  obtain ⟨Ke, hKe⟩ : ∃ K, t.es.length = K := ⟨_, rfl⟩
  rw [hKe] at u1 ⊢
  have EA : Hid (EnsIn n' w (.slice pe Ke ce) t.es) := (by rw [← hKe]; exact ea : EnsIn n' w (.slice pe Ke ce) t.es)
  have HKe : Hid (t.es.length = Ke) := hKe
  clear hKe ea ra fa ka na sa
  obtain ⟨A, hA⟩ : ∃ A, hasB t.es tag = A := ⟨_, rfl⟩
  rw [hA]
  have HA : Hid (hasB t.es tag = A) := hA
  clear hA
  generalize t.rest.length = Kr at *
  generalize t.kind = K at *
  generalize t.n = N at *
  generalize t.s = S at *
  have B0 : Blk (w.alloc (Obj.cells #[.int .i64 K, .int .i64 N, .string S, .slice pe Ke ce, .slice pr Kr cr] 25)) w.heap.size #[.int .i64 K, .int .i64 N, .string S, .slice pe Ke ce, .slice pr Kr cr] 25 := Blk.new w _ _
  have hb0 : Below w.heap.size w (w.alloc (Obj.cells #[.int .i64 K, .int .i64 N, .string S, .slice pe Ke ce, .slice pr Kr cr] 25)) := (Below.refl _ _).alloc (Nat.le_refl _) _
  go_enter Try.func23, Try.ntmps23
  go_wp2_with fail
  generalize (w.alloc (Obj.cells #[.int .i64 K, .int .i64 N, .string S, .slice pe Ke ce, .slice pr Kr cr] 25)) = WA at *
  obtain ⟨b0, hb0'⟩ : ∃ b, w.heap.size = b := ⟨_, rfl⟩
  rw [hb0'] at B0
  rw [hb0']
  have HBZ : Hid (w.heap.size = b0) := hb0'
  clear hb0'
  go_loopw [5] (fun iv wr => ∃ i : Nat, iv = .int .i64 (i : Int) ∧ i ≤ Ke ∧ Hid (hasB (t.es.take i) tag = false) ∧ WA = wr) (fun iv _ => Ke - (intOf iv).toNat)
  case atStart => exact ⟨0, rfl, by omega, (by simp [hasB] : hasB (t.es.take 0) tag = false), rfl⟩
  case round =>
    obtain ⟨i, rfl, hi, HM, rfl⟩ := hrel
    have a3 := (B0.cell 3).trans rfl
    by_cases hlt : i < Ke
    · obtain ⟨x, hx⟩ : ∃ r, t.es[i]? = some r := ⟨_, List.getElem?_eq_getElem (by rw [HKe.out]; exact hlt)⟩
      obtain ⟨ge, off, rfl, cc⟩ := (EA.out.belowE hb0).get hx
      obtain ⟨vt, p0, p1, p2, p3⟩ := ens_at cc
      by_cases hxt : x.1 = tag
      · have HH : Hid (true = A) := (hxt ▸ has_yes hx).symm.trans HA.out
        have hq : (x.1 == tag) = true := by simpa using hxt
        clear cc p1 p2 p3 hx hxt HM
        go_wp2_with fail
        go_ret
        exact ⟨congrArg (fun b => Ending.returned (Value.bool b)) HH.out, hb0⟩
      · have hq : (x.1 == tag) = false := by simpa using hxt
        have HM2 : Hid (hasB (t.es.take (i + 1)) tag = false) := (by rw [has_step hx, HM.out, hq]; rfl : hasB (t.es.take (i + 1)) tag = false)
        clear cc p1 p2 p3 hx hxt HM
        go_wp2_with fail
        clear a3 p0 hq
        go_roundw
        case rel => exact ⟨i + 1, by go_num, by omega, HM2, trivial⟩
        case measure => simp [intOf]; omega
    · have HH : Hid (false = A) := by
        have h1 := HM.out
        rw [List.take_of_length_le (by rw [HKe.out]; omega), HA.out] at h1
        exact h1.symm
      clear HM
      go_wp2_with fail
      go_ret
      exact ⟨congrArg (fun b => Ending.returned (Value.bool b)) HH.out, hb0⟩
theorem rowG_holdsW {w : World} {a : Option Addr} {N cap : Nat} {l : List Fd} (h : RowG w (.slice a N cap) 4 (fdRows l)) : HoldsR w a l := by
  obtain ⟨a', cap', e, _, _, _, h4⟩ := h.form
  simp only [Value.slice.injEq] at e
  obtain ⟨rfl, _, _⟩ := e
  intro b hb j u hu
  rw [rawCells_flat] at hu
  obtain ⟨i, c, k, h1, h2, rfl⟩ := flat_inv (fdRows l) (fdr_len l) j u hu
  obtain ⟨g, off, e, hc⟩ := h4 (by intro e; rw [e] at h1; simp at h1)
  rw [hb] at e
  cases e
  have := hc i c u k h1 h2
  rw [Nat.add_assoc] at this
  rw [Addr.add_lit]
  exact this
theorem rowG_holdsV {w : World} {a : Option Addr} {N cap : Nat} {l : List Fd} (h : RowG w (.slice a N cap) 4 (fdRows l)) : ∀ g off, a = some ⟨g, off, none⟩ → ∀ (i : Nat) (f : Fd), l[i]? = some f → w.cell? ⟨g, off + i * 4, none⟩ = some (.int .i64 f.tag) ∧ w.cell? ⟨g, off + i * 4 + 1, none⟩ = some (.int .i64 f.wire) ∧ w.cell? ⟨g, off + i * 4 + 2, none⟩ = some (.int .i64 f.n) ∧ w.cell? ⟨g, off + i * 4 + 3, none⟩ = some (.string f.b) := by
  obtain ⟨a', cap', e1, _, _, _, _, h6⟩ := rest_holds h
  simp only [Value.slice.injEq] at e1
  obtain ⟨rfl, _, _⟩ := e1
  exact h6
def restI (rest : List Fd) (es : List (Int × List Tr)) : Bool := rest.all fun f => okF f && !hasB es f.tag
theorem rest_no {rest : List Fd} {es : List (Int × List Tr)} {i : Nat} {f : Fd} (h : rest[i]? = some f) (hf : (okF f && !hasB es f.tag) = false) : restB rest es = false := by
  have : (rest.all fun f => okF f && !hasB es f.tag) = false := List.all_eq_false.2 ⟨f, List.mem_of_getElem? h, by rw [hf]; simp⟩
  rw [restB, this]; rfl
theorem rest_yes {rest : List Fd} {es : List (Int × List Tr)} (h : ∀ (i : Nat) (f : Fd), i < rest.length → rest[i]? = some f → (okF f && !hasB es f.tag) = true) : restB rest es = risesB rest := by
  have : (rest.all fun f => okF f && !hasB es f.tag) = true := List.all_eq_true.2 fun f hf => by
    obtain ⟨i, hi, e⟩ := List.getElem_of_mem hf
    exact h i f hi (by rw [List.getElem?_eq_getElem hi, e])
  rw [restB, this]; rfl
set_option maxHeartbeats 4000000 in
theorem rrest_any (n : Nat) (t : Tr) (v : Value) (w : World) (ht : TrIn (n + 1) w v t) :
    Calls Try.prog 51 #[v] w fun e w' => e = .returned (.bool (restB t.rest t.es)) ∧ Below w.heap.size w w' := by
  have HHS : Hid (∀ (tag : Int) W, Below w.heap.size w W → Calls Try.prog 23 #[v, .int .i64 tag] W fun e w' => e = .returned (.bool (hasB t.es tag)) ∧ Below W.heap.size W w') := fun tag W hW => rhas_any n t v tag W (ht.below hW)
  obtain ⟨n', ve, vr, e0, rfl, ka, na, sa, fa, ra, ea⟩ := ht.open
  obtain rfl : n' = n := by omega
  clear e0 ht
  obtain ⟨pe, ce, rfl, u1, u2, -⟩ := ea.open
  obtain ⟨pr, cr, rfl, x1, x2, x3, -⟩ := rest_holds ra
  obtain ⟨Kr, hKr⟩ : ∃ K, t.rest.length = K := ⟨_, rfl⟩
  rw [hKr] at x1 HHS ⊢
  have RA : Hid (RowG w (.slice pr Kr cr) 4 (fdRows t.rest)) := (by rw [← hKr]; exact ra : RowG w (.slice pr Kr cr) 4 (fdRows t.rest))
  have HKr : Hid (t.rest.length = Kr) := hKr
  have HRR : Hid (∀ W, Below w.heap.size w W → Calls Try.prog 61 #[.slice pr Kr cr] W fun e w' => e = .returned (.bool (risesB t.rest)) ∧ Below W.heap.size W w') := fun W hW => rrising_any pr t.rest Kr cr W hKr x3 x1 x2 (rowG_holdsW (RA.out.below hW))
  have HX3 : Hid (t.rest = [] ∨ ∃ g off, pr = some ⟨g, off, none⟩) := x3
  unfold maxLen at u2 x2
  clear hKr ea ra fa ka na sa x3
  obtain ⟨A, hA⟩ : ∃ A, restB t.rest t.es = A := ⟨_, rfl⟩
  rw [hA]
  have HA : Hid (restB t.rest t.es = A) := hA
  clear hA
  generalize t.es.length = Ke at *
  generalize t.kind = K at *
  generalize t.n = N at *
  generalize t.s = S at *
  have B0 : Blk (w.alloc (Obj.cells #[.int .i64 K, .int .i64 N, .string S, .slice pe Ke ce, .slice pr Kr cr] 25)) w.heap.size #[.int .i64 K, .int .i64 N, .string S, .slice pe Ke ce, .slice pr Kr cr] 25 := Blk.new w _ _
  have hb0 : Below w.heap.size w (w.alloc (Obj.cells #[.int .i64 K, .int .i64 N, .string S, .slice pe Ke ce, .slice pr Kr cr] 25)) := (Below.refl _ _).alloc (Nat.le_refl _) _
  go_enter Try.func51, Try.ntmps51
  go_wp2_with fail
  generalize (w.alloc (Obj.cells #[.int .i64 K, .int .i64 N, .string S, .slice pe Ke ce, .slice pr Kr cr] 25)) = WA at *
  obtain ⟨b0, hb0'⟩ : ∃ b, w.heap.size = b := ⟨_, rfl⟩
  rw [hb0'] at B0
  rw [hb0']
  have HBZ : Hid (w.heap.size = b0) := hb0'
  clear hb0'
  go_loopw [3] (fun iv wr => ∃ i : Nat, iv = .int .i64 (i : Int) ∧ i ≤ Kr ∧ Hid (∀ (j : Nat) (f : Fd), j < i → t.rest[j]? = some f → (okF f && !hasB t.es f.tag) = true) ∧ Hid (Blk wr b0 #[.int .i64 K, .int .i64 N, .string S, .slice pe Ke ce, .slice pr Kr cr] 25) ∧ Below w.heap.size w wr) (fun iv _ => Kr - (intOf iv).toNat)
  case atStart => exact ⟨0, rfl, by omega, (fun j f hj => absurd hj (by omega) : ∀ (j : Nat) (f : Fd), j < 0 → t.rest[j]? = some f → (okF f && !hasB t.es f.tag) = true), B0, hb0⟩
  case round =>
    clear B0 hb0
    obtain ⟨i, rfl, hi, HM, HB, hbel⟩ := hrel
    have a4 := (HB.out.cell 4).trans rfl
    by_cases hlt : i < Kr
    · obtain ⟨x, hx⟩ : ∃ r, t.rest[i]? = some r := ⟨_, List.getElem?_eq_getElem (by rw [HKr.out]; exact hlt)⟩
      obtain ⟨g, off, rfl⟩ : ∃ g off, pr = some ⟨g, off, none⟩ := by
        rcases HX3.out with h | h
        · rw [h] at hx; simp at hx
        · exact h
      obtain ⟨p0, p1, p2, p3⟩ := rowG_holdsV (RA.out.below hbel) g off rfl i x hx
      have a0 := (HB.out.cell 0).trans rfl
      have a1 := (HB.out.cell 1).trans rfl
      have a2 := (HB.out.cell 2).trans rfl
      have a3 := (HB.out.cell 3).trans rfl
      have HX : Hid (t.rest[i]? = some x) := hx
      have k0 := kept_cellV a0
      have k1 := kept_cellV a1
      have k2 := kept_cellV a2
      have k3 := kept_cellV a3
      have k4 := kept_cellV a4
      have k5 := kept_cellV p0
      have k6 := kept_cellV p1
      have k7 := kept_cellV p2
      have k8 := kept_cellV p3
      clear hx a0 a1 a2 a3 p0 p1 p2 p3
      cases hok : okF x with
      | false =>
        have HC : Hid (∀ W1, Below wr.heap.size wr W1 → Calls Try.prog 52 #[.agg #[.int .i64 x.tag, .int .i64 x.wire, .int .i64 x.n, .string x.b]] W1 fun e w' => e = .returned (.bool false) ∧ Below wr.heap.size wr w') := fun W1 hW1 => by
          refine (rcheckV_any x.tag x.wire x.n x.b W1).mono ?_
          rintro e W' ⟨rfl, hb⟩
          exact ⟨by rw [show okV x.tag x.wire x.n x.b = okF x from rfl, hok], hW1.trans (hb.mono hW1.size)⟩
        have HH : Hid (false = A) := (rest_no HX.out (by rw [hok]; rfl)).symm.trans HA.out
        clear hok HM
        go_wp2_with fail
        clear a4
        haveI := nonempty_qb (Below.refl wr.heap.size wr)
        refine wp_region_qb (Below.refl wr.heap.size wr) (by kernel_rfl) (by kernel_rfl) ?_
        repeat (go_big_quiet_step (first | (go_at_call 52; exact qb_call HC.out)))
        refine wpQuiet_nil ?_
        rintro W1 ⟨⟨_, hW1⟩, rfl⟩
        have hb1 := hbel.trans (hW1.mono hbel.size)
        clear k0 k1 k2 k3 k4 k5 k6 k7 k8 hW1 hbel
        go_wp2_with fail
        go_ret
        exact ⟨congrArg (fun b => Ending.returned (Value.bool b)) HH.out, hb1⟩
      | true =>
        cases hhs : hasB t.es x.tag with
        | true =>
          have HC : Hid (∀ W1, Below wr.heap.size wr W1 → Calls Try.prog 52 #[.agg #[.int .i64 x.tag, .int .i64 x.wire, .int .i64 x.n, .string x.b]] W1 fun e w' => e = .returned (.bool true) ∧ Below wr.heap.size wr w') := fun W1 hW1 => by
            refine (rcheckV_any x.tag x.wire x.n x.b W1).mono ?_
            rintro e W' ⟨rfl, hb⟩
            exact ⟨by rw [show okV x.tag x.wire x.n x.b = okF x from rfl, hok], hW1.trans (hb.mono hW1.size)⟩
          have HD : Hid (∀ W1, Below wr.heap.size wr W1 → Calls Try.prog 23 #[.agg #[.int .i64 K, .int .i64 N, .string S, .slice pe Ke ce, .slice (some ⟨g, off, none⟩) Kr cr], .int .i64 x.tag] W1 fun e w' => e = .returned (.bool true) ∧ Below wr.heap.size wr w') := fun W1 hW1 => by
            refine (HHS.out x.tag W1 (hbel.trans (hW1.mono hbel.size))).mono ?_
            rintro e W' ⟨rfl, hb⟩
            exact ⟨by rw [hhs], hW1.trans (hb.mono hW1.size)⟩
          have HH : Hid (false = A) := (rest_no HX.out (by rw [hok, hhs]; rfl)).symm.trans HA.out
          clear hok hhs HM
          go_wp2_with fail
          clear a4
          haveI := nonempty_qb (Below.refl wr.heap.size wr)
          refine wp_region_qb (Below.refl wr.heap.size wr) (by kernel_rfl) (by kernel_rfl) ?_
          repeat (go_big_quiet_step (first | (go_at_call 52; exact qb_call HC.out) | (go_at_call 23; exact qb_call HD.out)))
          refine wpQuiet_nil ?_
          rintro W1 ⟨⟨_, hW1⟩, rfl⟩
          have hb1 := hbel.trans (hW1.mono hbel.size)
          clear k0 k1 k2 k3 k4 k5 k6 k7 k8 hW1 hbel
          go_wp2_with fail
          go_ret
          exact ⟨congrArg (fun b => Ending.returned (Value.bool b)) HH.out, hb1⟩
        | false =>
          have HC : Hid (∀ W1, Below wr.heap.size wr W1 → Calls Try.prog 52 #[.agg #[.int .i64 x.tag, .int .i64 x.wire, .int .i64 x.n, .string x.b]] W1 fun e w' => e = .returned (.bool true) ∧ Below wr.heap.size wr w') := fun W1 hW1 => by
            refine (rcheckV_any x.tag x.wire x.n x.b W1).mono ?_
            rintro e W' ⟨rfl, hb⟩
            exact ⟨by rw [show okV x.tag x.wire x.n x.b = okF x from rfl, hok], hW1.trans (hb.mono hW1.size)⟩
          have HD : Hid (∀ W1, Below wr.heap.size wr W1 → Calls Try.prog 23 #[.agg #[.int .i64 K, .int .i64 N, .string S, .slice pe Ke ce, .slice (some ⟨g, off, none⟩) Kr cr], .int .i64 x.tag] W1 fun e w' => e = .returned (.bool false) ∧ Below wr.heap.size wr w') := fun W1 hW1 => by
            refine (HHS.out x.tag W1 (hbel.trans (hW1.mono hbel.size))).mono ?_
            rintro e W' ⟨rfl, hb⟩
            exact ⟨by rw [hhs], hW1.trans (hb.mono hW1.size)⟩
          have HM2 : Hid (∀ (j : Nat) (f : Fd), j < i + 1 → t.rest[j]? = some f → (okF f && !hasB t.es f.tag) = true) := fun j f hj hf => by
            rcases Nat.lt_or_eq_of_le (Nat.le_of_lt_succ hj) with h | h
            · exact HM.out j f h hf
            · subst h
              have hxf : x = f := Option.some.inj (HX.out.symm.trans hf)
              subst hxf
              rw [hok, hhs]; rfl
          clear hok hhs HM
          go_wp2_with fail
          clear a4
          haveI := nonempty_qb (Below.refl wr.heap.size wr)
          refine wp_region_qb (Below.refl wr.heap.size wr) (by kernel_rfl) (by kernel_rfl) ?_
          repeat (go_big_quiet_step (first | (go_at_call 52; exact qb_call HC.out) | (go_at_call 23; exact qb_call HD.out)))
          refine wpQuiet_nil ?_
          rintro W1 ⟨⟨_, hW1⟩, rfl⟩
          have hb1 := hbel.trans (hW1.mono hbel.size)
          have HB2 : Hid (Blk W1 b0 #[.int .i64 K, .int .i64 N, .string S, .slice pe Ke ce, .slice (some ⟨g, off, none⟩) Kr cr] 25) := HB.out.below hW1
          clear k0 k1 k2 k3 k4 k5 k6 k7 k8 hW1 hbel HB
          go_wp2_with fail
          go_roundw
          case rel => exact ⟨i + 1, by go_num, by omega, HM2, HB2, hb1⟩
          case measure => simp [intOf]; omega
    · have HH : Hid (risesB t.rest = A) := (rest_yes fun j f hj hf => HM.out j f (by rw [HKr.out] at hj; omega) hf).symm.trans HA.out
      clear HM HA
      go_wp2_with fail
      refine (HRR.out _ hbel).mono ?_
      rintro e w1 ⟨rfl, hb⟩
      rw [HH.out]
      have hb1 := hbel.trans (hb.mono hbel.size)
      clear hb hbel a4
      go_wp2_with fail
      go_ret
      exact ⟨rfl, hb1⟩
end Go.Proofs.Ytkmdaopmmfdpgaa

/- SameRaws of two rows that hold the same. -/
namespace Go.Proofs.Ytkmdaopmmfdpgaa
open Go.ChangeShapes Go.WideShapes Go.ChangeAt Go.RowKit
set_option linter.unusedVariables false
set_option linter.unusedSimpArgs false
set_option maxRecDepth 20000

theorem rowG_holdsS {w : World} {a : Option Addr} {n c : Nat} {l : List Fd} (h : RowG w (.slice a n c) 4 (fdRows l)) : HoldsR w a l := by
  intro b hb j u hu
  subst hb
  obtain ⟨a', cap, e1, -, -, -, e4⟩ := h.form
  simp only [Value.slice.injEq] at e1
  obtain ⟨rfl, -, -⟩ := e1
  rw [rawCells_flat] at hu
  obtain ⟨i, c, k, g1, g2, rfl⟩ := flat_inv (fdRows l) (fdr_len l) j u hu
  obtain ⟨g, off, e5, e6⟩ := e4 (by intro e; rw [e] at g1; simp at g1)
  cases e5
  have := e6 i c u k g1 g2
  rw [Nat.add_assoc] at this
  rw [Addr.add_lit]
  exact this
theorem sameRows_any {w : World} {v1 v2 : Value} {l : List Fd} (h1 : RowG w v1 4 (fdRows l)) (h2 : RowG w v2 4 (fdRows l)) (hl : l.length ≤ 1000000) :
    Calls Try.prog 16 #[v1, v2] w fun e w' => e = .returned (.bool true) ∧ Below w.heap.size w w' := by
  obtain ⟨a, c, rfl, a1, a2, a3, -⟩ := rest_holds h1
  obtain ⟨b, d, rfl, b1, b2, b3, -⟩ := rest_holds h2
  exact same_any a b l l.length c d w rfl a3 b3 a1 b1 a2 b2 hl (rowG_holdsS h1) (rowG_holdsS h2)
end Go.Proofs.Ytkmdaopmmfdpgaa

/- Messages of numbers and texts alone are told by their bytes. -/
namespace Go.Proofs.Ytkmdaopmmfdpgaa
set_option linter.unusedVariables false
set_option linter.unusedSimpArgs false

theorem flE_tag2 {B : Tr → List Nat × Nat} {tag : Int} {x : Tr} (h : (flE B tag x).2 = 0) : (flE B tag x).1.tag = tag := by
  unfold flE at h ⊢
  split
  · rfl
  · rename_i h1
    rw [if_neg h1] at h
    split
    · rename_i h2
      rw [if_pos h2] at h
      split
      · rename_i h3; rw [if_pos h3] at h; exact absurd h (by decide)
      · rfl
    · rename_i h2
      rw [if_neg h2] at h
      split
      · rename_i h3; rw [if_pos h3] at h; exact absurd h h3
      · rfl
/-- A number or a text that may be. -/
def FlatT (x : Tr) : Prop := (x.kind = 1 ∧ x.s = ⟨#[]⟩ ∧ x.es = [] ∧ x.rest = []) ∨ (x.kind = 2 ∧ x.n = 0 ∧ x.es = [] ∧ x.rest = [])
theorem size_zero {s : ByteArray} (h : s.size = 0) : s = ⟨#[]⟩ := by
  obtain ⟨⟨l⟩⟩ := s
  have : l.length = 0 := h
  rw [List.eq_nil_of_length_eq_zero this]
theorem flatT_of {x : Tr} (h : lvB x = true) (hk : x.kind ≠ 3) : FlatT x := by
  unfold lvB at h
  rw [if_neg hk] at h
  split at h
  · rename_i h1
    simp only [Bool.and_eq_true, beq_iff_eq, List.isEmpty_iff] at h
    exact .inl ⟨h1, size_zero h.1.1, h.1.2, h.2⟩
  · split at h
    · rename_i h2
      simp only [Bool.and_eq_true, beq_iff_eq, List.isEmpty_iff] at h
      exact .inr ⟨h2, h.1.1, h.1.2, h.2⟩
    · exact absurd h (by decide)
theorem tr_parts {x y : Tr} (h1 : x.kind = y.kind) (h2 : x.n = y.n) (h3 : x.s = y.s) (h4 : x.es = y.es) (h5 : x.rest = y.rest) : x = y := by
  cases x; cases y; simp_all
theorem flE_num (B : Tr → List Nat × Nat) (tag : Int) {x : Tr} (h : x.kind = 1) : flE B tag x = (⟨tag, 0, x.n, ⟨#[]⟩⟩, 0) := by unfold flE; rw [if_pos h]
theorem flE_txt (B : Tr → List Nat × Nat) (tag : Int) {x : Tr} (h : x.kind = 2) : flE B tag x = if 4096 < x.s.size then (fd0, 4) else (⟨tag, 1, 0, x.s⟩, 0) := by unfold flE; rw [if_neg (by rw [h]; decide), if_pos h]
theorem flE_txt0 {B : Tr → List Nat × Nat} {tag : Int} {x : Tr} (h : x.kind = 2) (h0 : (flE B tag x).2 = 0) : flE B tag x = (⟨tag, 1, 0, x.s⟩, 0) := by
  rw [flE_txt B tag h] at h0 ⊢
  split at h0
  · exact absurd h0 (by decide)
  · rename_i h1; rw [if_neg h1]
theorem flE_inj {B B' : Tr → List Nat × Nat} {tag : Int} {x y : Tr} (hx : FlatT x) (hy : FlatT y) (h : (flE B tag x).1 = (flE B' tag y).1) (ex : (flE B tag x).2 = 0) (ey : (flE B' tag y).2 = 0) : x = y := by
  rcases hx with ⟨a1, a2, a3, a4⟩ | ⟨a1, a2, a3, a4⟩ <;> rcases hy with ⟨b1, b2, b3, b4⟩ | ⟨b1, b2, b3, b4⟩
  · rw [flE_num B tag a1, flE_num B' tag b1] at h
    simp only [Fd.mk.injEq] at h
    exact tr_parts (by rw [a1, b1]) h.2.2.1 (by rw [a2, b2]) (by rw [a3, b3]) (by rw [a4, b4])
  · rw [flE_num B tag a1, flE_txt0 b1 ey] at h
    simp at h
  · rw [flE_txt0 a1 ex, flE_num B' tag b1] at h
    simp at h
  · rw [flE_txt0 a1 ex, flE_txt0 b1 ey] at h
    simp only [Fd.mk.injEq] at h
    exact tr_parts (by rw [a1, b1]) (by rw [a2, b2]) h.2.2.2 (by rw [a3, b3]) (by rw [a4, b4])
/-- What stands under a tag. -/
def undE (es : List (Int × List Tr)) (tag : Int) : List Tr := es.flatMap fun e => if e.1 = tag then e.2 else []
theorem undE_cons (e : Int × List Tr) (l : List (Int × List Tr)) (tag : Int) : undE (e :: l) tag = (if e.1 = tag then e.2 else []) ++ undE l tag := by simp [undE]
theorem entsB_gt : ∀ {es : List (Int × List Tr)} {last : Int}, entsB last es = true → ∀ e ∈ es, last < e.1
  | [], _, _, e, he => by cases he
  | a :: l, last, h, e, he => by
    simp only [entsB, Bool.and_eq_true, decide_eq_true_eq] at h
    rcases List.mem_cons.1 he with rfl | he
    · exact h.1.1.1.1.1
    · have := entsB_gt h.2 e he
      have h2 := h.1.1.1.1.1
      omega
theorem undE_none {es : List (Int × List Tr)} {tag : Int} (h : ∀ e ∈ es, tag < e.1) : undE es tag = [] := by
  unfold undE
  rw [List.flatMap_eq_nil_iff]
  intro e he
  rw [if_neg (by have := h e he; omega)]
/-- Entries are told by what stands under each tag. -/
theorem ents_uniq : ∀ {es fs : List (Int × List Tr)} {last last' : Int}, entsB last es = true → entsB last' fs = true → (∀ tag, undE es tag = undE fs tag) → es = fs
  | [], [], _, _, _, _, _ => rfl
  | [], b :: l, _, _, _, hb, h => by
    have h1 := h b.1
    simp only [entsB, Bool.and_eq_true, decide_eq_true_eq] at hb
    rw [undE_cons, if_pos rfl] at h1
    have h2 : b.2 = [] := by
      have := congrArg List.length h1
      simp only [undE, List.flatMap_nil, List.length_nil, List.length_append] at this
      exact List.eq_nil_of_length_eq_zero (by omega)
    have h3 := hb.1.1.1.2
    rw [h2] at h3
    simp at h3
  | a :: l, [], _, _, ha, _, h => by
    have h1 := h a.1
    simp only [entsB, Bool.and_eq_true, decide_eq_true_eq] at ha
    rw [undE_cons, if_pos rfl] at h1
    have h2 : a.2 = [] := by
      have := congrArg List.length h1
      simp only [undE, List.flatMap_nil, List.length_nil, List.length_append] at this
      exact List.eq_nil_of_length_eq_zero (by omega)
    have h3 := ha.1.1.1.2
    rw [h2] at h3
    simp at h3
  | a :: l, b :: m, last, last', ha, hb, h => by
    have ha0 := ha
    have hb0 := hb
    simp only [entsB, Bool.and_eq_true, decide_eq_true_eq] at ha hb
    have ga := entsB_gt ha.2
    have gb := entsB_gt hb.2
    have na : a.2 ≠ [] := by intro e; have h3 := ha.1.1.1.2; rw [e] at h3; simp at h3
    have nb : b.2 ≠ [] := by intro e; have h3 := hb.1.1.1.2; rw [e] at h3; simp at h3
    have hab : a.1 = b.1 := by
      rcases Int.lt_trichotomy a.1 b.1 with hlt | he | hlt
      · have h1 := h a.1
        rw [undE_cons, if_pos rfl, undE_none (es := b :: m)] at h1
        · exact absurd (List.append_eq_nil_iff.1 h1).1 na
        · intro e he
          rcases List.mem_cons.1 he with rfl | he
          · exact hlt
          · have := gb e he; omega
      · exact he
      · have h1 := h b.1
        rw [undE_cons b, if_pos rfl, undE_none (es := a :: l)] at h1
        · exact absurd (List.append_eq_nil_iff.1 h1.symm).1 nb
        · intro e he
          rcases List.mem_cons.1 he with rfl | he
          · exact hlt
          · have := ga e he; omega
    have h2 : a.2 = b.2 := by
      have h1 := h a.1
      rw [undE_cons, undE_cons, if_pos rfl, if_pos hab.symm, undE_none ga, undE_none (by rw [hab]; exact gb)] at h1
      simpa using h1
    have h3 : l = m := ents_uniq ha.2 hb.2 fun tag => by
      by_cases ht : a.1 = tag
      · rw [undE_none (by rw [← ht]; exact ga), undE_none (by rw [← ht, hab]; exact gb)]
      · have h1 := h tag
        rw [undE_cons, undE_cons, if_neg ht, if_neg (by rw [← hab]; exact ht)] at h1
        simpa using h1
    rw [h3, Prod.ext hab h2]
/-- The fields under a tag. -/
theorem fsE_under {B : Tr → List Nat × Nat} {es : List (Int × List Tr)} (h : ∀ p ∈ fsE B es, p.2 = 0) (tag : Int) : ((fsE B es).map (·.1)).filter (fun f => f.tag == tag) = (undE es tag).map fun x => (flE B tag x).1 := by
  induction es with
  | nil => rfl
  | cons e l ih =>
    have e1 : fsE B (e :: l) = enE B e ++ fsE B l := by simp [fsE]
    rw [e1] at h
    rw [e1, undE_cons, List.map_append, List.filter_append, List.map_append, ih fun p hp => h p (List.mem_append.2 (.inr hp))]
    congr 1
    have h2 : ∀ x ∈ e.2, (flE B e.1 x).1.tag = e.1 := fun x hx => flE_tag2 (h _ (List.mem_append.2 (.inl (List.mem_map.2 ⟨x, hx, rfl⟩))))
    by_cases ht : e.1 = tag
    · rw [if_pos ht, List.filter_eq_self.2]
      · unfold enE
        rw [List.map_map, ← ht]
        rfl
      · intro f hf
        simp only [enE, List.map_map, List.mem_map, Function.comp] at hf
        obtain ⟨x, hx, rfl⟩ := hf
        rw [h2 x hx]
        simpa using ht
    · rw [if_neg ht, List.filter_eq_nil_iff.2]
      · rfl
      · intro f hf
        simp only [enE, List.map_map, List.mem_map, Function.comp] at hf
        obtain ⟨x, hx, rfl⟩ := hf
        rw [h2 x hx]
        simpa using ht
theorem map_uniq {B B' : Tr → List Nat × Nat} {tag : Int} : ∀ {xs ys : List Tr}, (∀ x ∈ xs, FlatT x ∧ (flE B tag x).2 = 0) → (∀ y ∈ ys, FlatT y ∧ (flE B' tag y).2 = 0) → (xs.map fun x => (flE B tag x).1) = (ys.map fun x => (flE B' tag x).1) → xs = ys
  | [], [], _, _, _ => rfl
  | [], _ :: _, _, _, h => by simp at h
  | _ :: _, [], _, _, h => by simp at h
  | x :: xs, y :: ys, hx, hy, h => by
    simp only [List.map_cons, List.cons.injEq] at h
    have h1 := flE_inj (hx x (List.mem_cons_self ..)).1 (hy y (List.mem_cons_self ..)).1 h.1 (hx x (List.mem_cons_self ..)).2 (hy y (List.mem_cons_self ..)).2
    rw [h1, map_uniq (fun x h => hx x (List.mem_cons_of_mem _ h)) (fun y h => hy y (List.mem_cons_of_mem _ h)) h.2]
/-- A tree of depth 1 that may be. -/
theorem flat_inv1 {n : Nat} {t : Tr} (hd : dpN (n + 1) t = 1) (hc : chkN (n + 1) t = true) (hn : n ≠ 0) : t.kind = 3 ∧ t.n = 0 ∧ t.s = ⟨#[]⟩ ∧ entsB 0 t.es = true ∧ ∀ x ∈ subs t.es, FlatT x := by
  have hk : t.kind = 3 := by
    simp only [dpN] at hd
    split at hd
    · assumption
    · exact absurd hd (by decide)
  simp only [chkN, okN, Bool.and_eq_true, hk, if_pos, List.all_eq_true] at hc
  obtain ⟨_, hl, hall⟩ := hc
  simp only [lvB, hk, if_neg (show ¬ (3 : Int) = 1 by decide), if_neg (show ¬ (3 : Int) = 2 by decide), if_pos, Bool.and_eq_true, beq_iff_eq] at hl
  refine ⟨hk, hl.1.1.1, size_zero hl.1.1.2, hl.1.2, fun x hx => ?_⟩
  cases n with
  | zero => exact absurd rfl hn
  | succ n =>
    have h1 := hall x hx
    simp only [okN, Bool.and_eq_true] at h1
    refine flatT_of h1.1 fun hk3 => ?_
    simp only [dpN, hk, if_pos] at hd
    have h2 : dpN (n + 1) x ≤ ((subs t.es).map (dpN (n + 1))).foldr max 0 := le_foldr_max (List.mem_map.2 ⟨x, hx, rfl⟩)
    have h3 : 1 ≤ dpN (n + 1) x := by simp only [dpN, hk3, if_pos]; omega
    simp only [dpN] at hd h2 h3
    omega
theorem undE_sub {es : List (Int × List Tr)} {tag : Int} {x : Tr} (h : x ∈ undE es tag) : x ∈ subs es ∧ ∃ e ∈ es, e.1 = tag ∧ x ∈ e.2 := by
  simp only [undE, List.mem_flatMap] at h
  obtain ⟨e, he, hx⟩ := h
  split at hx
  · rename_i ht; exact ⟨mem_subs.2 ⟨e, he, hx⟩, e, he, ht, hx⟩
  · cases hx
/-- One string of bytes just if they are the same. -/
theorem flat_same {n : Nat} {a b : Tr} (da : dpN (n + 1) a = 1) (db : dpN (n + 1) b = 1) (hn : n ≠ 0) (ra : a.rest = []) (rb : b.rest = []) (ea : (encA (n + 1) a).2 = 0) (eb : (encA (n + 1) b).2 = 0) (ga : getL (encA (n + 1) a).1 = (sortF (fldsE (n + 1) a), 0)) (gb : getL (encA (n + 1) b).1 = (sortF (fldsE (n + 1) b), 0)) :
    (encA (n + 1) a).1 = (encA (n + 1) b).1 ↔ a = b := by
  constructor
  · intro h
    obtain ⟨_, ca, _, fa⟩ := raws_inv (enc_inv ea).1
    obtain ⟨_, cb, _, fb⟩ := raws_inv (enc_inv eb).1
    obtain ⟨a1, a2, a3, a4, a5⟩ := flat_inv1 da ca hn
    obtain ⟨b1, b2, b3, b4, b5⟩ := flat_inv1 db cb hn
    have hs : sortF (fldsE (n + 1) a) = sortF (fldsE (n + 1) b) := by
      rw [h, gb] at ga
      simp only [Prod.mk.injEq, and_true] at ga
      exact ga.symm
    have hes : a.es = b.es := ents_uniq a4 b4 fun tag => by
      have f1 := (sortF_all _ (fldsE (n + 1) a) (Nat.le_refl _)).2.2.2 tag
      have f2 := (sortF_all _ (fldsE (n + 1) b) (Nat.le_refl _)).2.2.2 tag
      rw [hs, f2] at f1
      unfold fldsE at f1
      rw [ra, rb, List.append_nil, List.append_nil, fsE_under (errE_all fa) tag, fsE_under (errE_all fb) tag] at f1
      refine map_uniq (fun x hx => ?_) (fun x hx => ?_) f1.symm
      · obtain ⟨q1, e, q2, q3, q4⟩ := undE_sub hx
        refine ⟨a5 x q1, errE_all fa _ ?_⟩
        rw [← q3]
        exact List.mem_flatMap.2 ⟨e, q2, List.mem_map.2 ⟨x, q4, rfl⟩⟩
      · obtain ⟨q1, e, q2, q3, q4⟩ := undE_sub hx
        refine ⟨b5 x q1, errE_all fb _ ?_⟩
        rw [← q3]
        exact List.mem_flatMap.2 ⟨e, q2, List.mem_map.2 ⟨x, q4, rfl⟩⟩
    exact tr_parts (by rw [a1, b1]) (by rw [a2, b2]) (by rw [a3, b3]) hes (by rw [ra, rb])
  · intro h; rw [h]
end Go.Proofs.Ytkmdaopmmfdpgaa

/- The reference's Depth. -/
namespace Go.Proofs.Ytkmdaopmmfdpgaa
open Go.ChangeShapes Go.WideShapes Go.ChangeAt Go.RowKit
set_option linter.unusedVariables false
set_option linter.unusedSimpArgs false
set_option maxRecDepth 20000

def mxN (n : Nat) (l : List Tr) : Nat := (l.map (dpN n)).foldr max 0
theorem mx_app (n : Nat) (a b : List Tr) : mxN n (a ++ b) = max (mxN n a) (mxN n b) := by
  unfold mxN
  induction a with
  | nil => simp
  | cons x a ih => simp only [List.cons_append, List.map_cons, List.foldr_cons, ih]; omega
theorem mx_one (n : Nat) (x : Tr) : mxN n [x] = dpN n x := by simp [mxN]
theorem mx_le (n : Nat) (l : List Tr) : mxN n l ≤ n := foldr_max_le fun x hx => by
  obtain ⟨y, _, rfl⟩ := List.mem_map.1 hx
  exact dpN_le n y
theorem mx_step (n : Nat) {a l : List Tr} {j : Nat} {x : Tr} (h : l[j]? = some x) : mxN n (a ++ l.take (j + 1)) = max (mxN n (a ++ l.take j)) (dpN n x) := by
  have : l.take (j + 1) = l.take j ++ [x] := by rw [List.take_add_one, h]; rfl
  rw [this, ← List.append_assoc, mx_app, mx_one]
theorem subs_step {es : List (Int × List Tr)} {i : Nat} {e : Int × List Tr} (h : es[i]? = some e) : subs (es.take (i + 1)) = subs (es.take i) ++ e.2 := by
  have : es.take (i + 1) = es.take i ++ [e] := by rw [List.take_add_one, h]; rfl
  rw [this]; simp [subs]
set_option maxHeartbeats 4000000 in
theorem rdepth_step (n : Nat) (IH : ∀ t v (d : Nat) w, TrIn n w v t → d + n ≤ 100 → Calls Try.prog 33 #[v, .int .i64 (d : Int)] w fun e w' => e = .returned (.int .i64 (dpN n t : Nat)) ∧ Below w.heap.size w w') (t : Tr) (v : Value) (d : Nat) (w : World) (ht : TrIn (n + 1) w v t) (hd : d + (n + 1) ≤ 100) :
    Calls Try.prog 33 #[v, .int .i64 (d : Int)] w fun e w' => e = .returned (.int .i64 (dpN (n + 1) t : Nat)) ∧ Below w.heap.size w w' := by
  obtain ⟨n', ve, vr, e0, rfl, ka, na, sa, fa, ra, ea⟩ := ht.open
  obtain rfl : n' = n := by omega
  clear e0 ht
  obtain ⟨pe, ce, rfl, u1, u2, -⟩ := ea.open
  obtain ⟨pr, cr, rfl, x1, x2, -⟩ := rest_holds ra
  unfold maxLen at u2 x2
  obtain ⟨Ke, hKe⟩ : ∃ K, t.es.length = K := ⟨_, rfl⟩
  rw [hKe] at u1 ⊢
  have EA : Hid (EnsIn n' w (.slice pe Ke ce) t.es) := (by rw [← hKe]; exact ea : EnsIn n' w (.slice pe Ke ce) t.es)
  have HKe : Hid (t.es.length = Ke) := hKe
  have HI : Hid (∀ t v (d : Nat) w, TrIn n' w v t → d + n' ≤ 100 → Calls Try.prog 33 #[v, .int .i64 (d : Int)] w fun e w' => e = .returned (.int .i64 (dpN n' t : Nat)) ∧ Below w.heap.size w w') := IH
  clear hKe ea ra fa ka na sa IH
  by_cases hk : t.kind = 3
  · have HR : Hid (dpN (n' + 1) t = 1 + mxN n' (subs t.es)) := (by simp [dpN, hk, mxN] : dpN (n' + 1) t = 1 + mxN n' (subs t.es))
    generalize dpN (n' + 1) t = R at *
    have HES : Hid (t.es = t.es) := rfl
    rw [hk]
    clear hk
    generalize t.rest.length = Kr at *
    obtain ⟨N, hN⟩ : ∃ K, t.n = K := ⟨_, rfl⟩
    obtain ⟨S, hS⟩ : ∃ K, t.s = K := ⟨_, rfl⟩
    rw [hN, hS]
    clear hN hS
    have B0 : Blk (w.alloc (Obj.cells #[.int .i64 3, .int .i64 N, .string S, .slice pe Ke ce, .slice pr Kr cr] 25)) w.heap.size #[.int .i64 3, .int .i64 N, .string S, .slice pe Ke ce, .slice pr Kr cr] 25 := Blk.new w _ _
    have hb0 : Below w.heap.size w (w.alloc (Obj.cells #[.int .i64 3, .int .i64 N, .string S, .slice pe Ke ce, .slice pr Kr cr] 25)) := (Below.refl _ _).alloc (Nat.le_refl _) _
    have hd1 : decide ((d : Int) > 100) = false := by simp; omega
    go_enter Try.func33, Try.ntmps33
    go_wp2_with fail
    generalize (w.alloc (Obj.cells #[.int .i64 3, .int .i64 N, .string S, .slice pe Ke ce, .slice pr Kr cr] 25)) = WA at *
    obtain ⟨b0, hb0'⟩ : ∃ b, w.heap.size = b := ⟨_, rfl⟩
    have HBZ : Hid (w.heap.size = b0) := hb0'
    rw [hb0'] at B0
    rw [hb0']
    clear hb0'
    go_loopw [5, 6] (fun mv iv wr => ∃ (i M : Nat), mv = .int .i64 (M : Int) ∧ iv = .int .i64 (i : Int) ∧ i ≤ Ke ∧ M ≤ 100 ∧ Hid (M = mxN n' (subs (t.es.take i))) ∧ Hid (Blk wr b0 #[.int .i64 3, .int .i64 N, .string S, .slice pe Ke ce, .slice pr Kr cr] 25) ∧ Below w.heap.size w wr) (fun _ iv _ => Ke - (intOf iv).toNat)
    case atStart => exact ⟨0, 0, rfl, rfl, by omega, by omega, (by simp [subs, mxN] : 0 = mxN n' (subs (t.es.take 0))), B0, hb0⟩
    case round =>
      clear B0 hb0
      obtain ⟨i, M, rfl, rfl, hi, hM, HM, HB, hbel⟩ := hrel
      have a3 := (HB.out.cell 3).trans rfl
      by_cases hlt : i < Ke
      · obtain ⟨x, hx⟩ : ∃ r, t.es[i]? = some r := ⟨_, List.getElem?_eq_getElem (by rw [HKe.out]; exact hlt)⟩
        obtain ⟨ge, off, rfl, cc⟩ := (EA.out.belowE hbel).get hx
        obtain ⟨vt, p0, p1, p2, p3⟩ := ens_at cc
        obtain ⟨pt, ct, rfl, t1, t2, -⟩ := p3.open
        have HX : Hid (t.es[i]? = some x) := hx
        obtain ⟨Xl, hXl⟩ : ∃ K, x.2.length = K := ⟨_, rfl⟩
        rw [hXl] at p1 p3 t1
        have HXl : Hid (x.2.length = Xl) := hXl
        have HT : Hid (TrsIn n' wr (.slice pt Xl ct) x.2) := p3
        have HP1 : Hid (wr.cell? ⟨ge, off + i * 2 + 1, none⟩ = some (.slice pt Xl ct)) := p1
        unfold maxLen at t2
        clear hx cc p0 p1 p2 p3 hXl
        go_wp2_with fail
        clear a3
        have HW : Hid (Below wr.heap.size wr wr) := Below.refl _ _
        obtain ⟨W, hW⟩ : ∃ W, wr = W := ⟨_, rfl⟩
        rw [hW] at HW HT HP1 HB hbel ⊢
        clear hW
        go_loopw [5, 7] (fun mv jv wz => ∃ (j M : Nat), mv = .int .i64 (M : Int) ∧ jv = .int .i64 (j : Int) ∧ j ≤ Xl ∧ M ≤ 100 ∧ Hid (M = mxN n' (subs (t.es.take i) ++ x.2.take j)) ∧ Below w.heap.size w wz ∧ Below W.heap.size W wz) (fun _ jv _ => Xl - (intOf jv).toNat)
        case atStart => exact ⟨0, M, rfl, rfl, by omega, hM, (by rw [HM.out]; simp : M = mxN n' (subs (t.es.take i) ++ x.2.take 0)), hbel, Below.refl _ _⟩
        case round =>
          clear hM HM hbel
          obtain ⟨j, M, rfl, rfl, hj, hM, HM, hbel, hbW⟩ := hrel
          have B1 := HB.out.below hbW
          have a3 := (B1.cell 3).trans rfl
          have p1 : wr.cell? ⟨ge, off + i * 2 + 1, none⟩ = some (.slice pt Xl ct) := (hbW.cell (World.block_lt_of_cell? _ _ HP1.out)).trans HP1.out
          by_cases hlt2 : j < Xl
          · obtain ⟨y, hy⟩ : ∃ r, x.2[j]? = some r := ⟨_, List.getElem?_eq_getElem (by rw [HXl.out]; exact hlt2)⟩
            obtain ⟨g3, off3, rfl, c1⟩ := (HT.out.belowT hbW).get hy
            obtain ⟨z1, n1, d1, z2, n2, d2, o0, o1, o2, o3, o4, o5⟩ := trs_get c1
            have HY : Hid (x.2[j]? = some y) := hy
            have HC : Hid (Calls Try.prog 33 #[.agg #[.int .i64 y.kind, .int .i64 y.n, .string y.s, .slice z1 n1 d1, .slice z2 n2 d2], .int .i64 ((d : Int) + 1)] wr fun e w' => e = .returned (.int .i64 (dpN n' y : Nat)) ∧ Below wr.heap.size wr w') := HI.out y _ (d + 1) wr o5 (by omega)
            clear c1 hy o5 B1
            go_wp2_with fail
            refine HC.out.mono ?_
            rintro e w2 ⟨rfl, hb2⟩
            have HS : Hid (mxN n' (subs (t.es.take i) ++ x.2.take (j + 1)) = max M (dpN n' y)) := (by rw [HM.out, mx_step n' HY.out] : mxN n' (subs (t.es.take i) ++ x.2.take (j + 1)) = max M (dpN n' y))
            have hyd := dpN_le n' y
            generalize dpN n' y = Y at *
            have hb3 := hbel.trans (hb2.mono hbel.size)
            have hb4 := hbW.trans (hb2.mono hbW.size)
            have hmx : max (M : Int) (Y : Int) = ((max M Y : Nat) : Int) := by omega
            clear o0 o1 o2 o3 o4 hb2 hbel hbW HC a3 p1
            go_wp2_with fail
            go_roundw
            case rel => exact ⟨j + 1, max M Y, by first | rfl | (rw [hmx]) | go_num, by go_num, by omega, by omega, HS.out.symm, hb3, hb4⟩
            case measure => simp [intOf]; omega
          · obtain rfl : j = Xl := by omega
            have HM2 : Hid (M = mxN n' (subs (t.es.take (i + 1)))) := (by rw [HM.out, subs_step HX.out, List.take_of_length_le (l := x.2) (by rw [HXl.out]; omega)] : M = mxN n' (subs (t.es.take (i + 1))))
            have HB5 : Hid (Blk wr b0 #[.int .i64 3, .int .i64 N, .string S, .slice (some ⟨ge, off, none⟩) Ke ce, .slice pr Kr cr] 25) := B1
            clear B1 HM HB
            go_wp2_with fail
            clear a3 p1
            go_roundw
            case rel => exact ⟨i + 1, M, rfl, by go_num, by omega, hM, HM2, HB5, hbel⟩
            case measure => simp [intOf]; omega
      · obtain rfl : i = Ke := by omega
        have hR : R = 1 + M := by rw [HR.out, HM.out, List.take_of_length_le (by rw [HKe.out]; omega)]
        subst hR
        have hmn : min ((M : Int) + 1) 101 = ((1 + M : Nat) : Int) := by omega
        clear HR HM HB
        go_wp2_with fail
        go_ret
        exact ⟨by first | rfl | (rw [hmn]) | go_num, hbel⟩
  · have h0 : dpN (n' + 1) t = 0 := by simp [dpN, hk]
    rw [h0]
    have hd1 : (t.kind != 3) = true := by simpa using hk
    generalize t.kind = K at *
    generalize t.n = N at *
    generalize t.s = S at *
    generalize t.rest.length = Kr at *
    clear h0 HKe
    go_enter Try.func33, Try.ntmps33
    go_wp2_with fail
    go_ret
    exact ⟨rfl, (Below.refl _ _).alloc (Nat.le_refl _) _⟩
theorem rdepth_any : ∀ (n : Nat) (t : Tr) (v : Value) (d : Nat) (w : World), TrIn n w v t → d + n ≤ 100 → Calls Try.prog 33 #[v, .int .i64 (d : Int)] w fun e w' => e = .returned (.int .i64 (dpN n t : Nat)) ∧ Below w.heap.size w w'
  | 0, _, _, _, _, h, _ => by obtain ⟨r, _, h⟩ := h; exact h.elim
  | n + 1, t, v, d, w, h, hd => rdepth_step n (fun t v d w h hd => rdepth_any n t v d w h hd) t v d w h hd
theorem rDepth_any (n : Nat) (t : Tr) (v : Value) (w : World) (h : TrIn n w v t) (hn : n ≤ 100) : Calls Try.prog 21 #[v] w fun e w' => e = .returned (.int .i64 (dpN n t : Nat)) ∧ Below w.heap.size w w' := by
  have hal : ∀ o, Below w.heap.size w (w.alloc o) := fun o => (Below.refl _ _).alloc (Nat.le_refl _) _
  have HC : Hid (∀ W, Below w.heap.size w W → Calls Try.prog 33 #[v, .int .i64 0] W fun e w' => e = .returned (.int .i64 (dpN n t : Nat)) ∧ Below W.heap.size W w') := fun W hW => rdepth_any n t v 0 W (h.below hW) (by omega)
  obtain ⟨n', ve, vr, e0, rfl, -, -, -, -, ra, ea⟩ := h.open
  obtain ⟨pe, ce, rfl, -⟩ := ea.open
  obtain ⟨pr, cr, rfl, -⟩ := rest_holds ra
  generalize t.es.length = Ke at *
  generalize t.rest.length = Kr at *
  generalize dpN n t = R at *
  generalize t.kind = K at *
  generalize t.n = N at *
  generalize t.s = S at *
  clear h ra ea e0
  go_enter Try.func21, Try.ntmps21
  go_wp2_with fail
  refine (HC.out _ (hal _)).mono ?_
  rintro e w1 ⟨rfl, hb⟩
  have hbw : Below w.heap.size w w1 := (hal _).trans (hb.mono (by simp))
  clear hb HC
  go_wp2_with fail
  go_ret
  exact ⟨rfl, hbw⟩
end Go.Proofs.Ytkmdaopmmfdpgaa

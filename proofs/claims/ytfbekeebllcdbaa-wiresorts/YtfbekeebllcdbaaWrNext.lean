/- What next answers: the field that stands at a place. -/
import Derived.Test.YtfbekeebllcdbaaWrMath
import Derived.Laws.ResultCell
namespace Go.Proofs.Ytfbekeebllcdbaa
open Go.ChangeShapes Go.WideShapes Go.ChangeAt Go.RowKit
set_option linter.unusedVariables false
set_option linter.unusedSimpArgs false
set_option maxRecDepth 20000

def nextV (x : Fd × Nat × Nat) : Value := .tuple #[x.1.val, .int .i64 (x.2.1 : Int), .int .i64 (x.2.2 : Int)]
theorem ret_next {x : Fd × Nat × Nat} {r : Fd} {q e : Nat} (hx : x = (r, q, e)) {t k n q' e' : Int} {b : ByteArray} (h1 : t = r.tag) (h2 : k = r.wire) (h3 : n = r.n) (h4 : b = r.b) (h5 : q' = q) (h6 : e' = e) :
    Ending.returned (.tuple #[.agg #[.int .i64 t, .int .i64 k, .int .i64 n, .string b], .int .i64 q', .int .i64 e']) = .returned (nextV x) := by
  subst hx h1 h2 h3 h4 h5 h6; rfl

theorem below_two (w : World) (o1 o2 : Obj) : Below w.heap.size w ((w.alloc o1).alloc o2) := (below_one w o1).alloc (by simp) _

theorem results_next {fn : Func} {p u v : Tmp} {ty : TypeId} (h : fn.results = #[.cell p ty, .tmp u, .tmp v]) (tmps : Array Value) (P : Program) (w : World) (a : Addr) (x : Value) (ha : (asAddr (tmps.getD p undef)).run P w = .ok a w) (hl : (loadVar ty a).run P w = .ok x w) :
    (results fn tmps).run P w = .ok (.tuple #[x, tmps.getD u undef, tmps.getD v undef]) w := by
  simp only [results, h]
  simp only [Array.getD_eq_getD_getElem?] at ha
  simp [Sem.run_bind, Result.andThen, ha, hl]

set_option maxHeartbeats 4000000 in
theorem next_any (g off : Nat) (ns : List Nat) (N cap p : Nat) (w : World) (hN : ns.length = N) (hh : Holds w (some ⟨g, off, none⟩) ns) (hlt : ∀ n ∈ ns, n < 256) (hc : N ≤ cap) (hm : cap ≤ maxLen) (hl : N ≤ 4096) (hp : p < N) :
    Calls Try.prog 30 #[.slice (some ⟨g, off, none⟩) N cap, .int .i64 (p : Int)] w fun e w' => e = .returned (nextV (nextN ns p)) ∧ Below w.heap.size w w' := by
  have HG : Hid (∀ W q, Below w.heap.size w W → q ≤ N → Calls Try.prog 36 #[.slice (some ⟨g, off, none⟩) N cap, .int .i64 (q : Int)] W fun e w' => e = .returned (getV (getF (ns.drop q) 0 0 q)) ∧ w' = W) := fun W q hW hq => by
    have := get_any (some ⟨g, off, none⟩) ns cap (q : Int) W (.inr ⟨_, _, rfl⟩) (by omega) hm (by omega) (hh.below hW) hlt
    rw [getR_in (by omega), hN] at this
    exact this
  have HC : Hid (∀ W q v, Below w.heap.size w W → q + v ≤ N → ∀ c, (convert 22 9 (.slice (some ⟨g, off + q, none⟩) v c)).run Try.prog W = .ok (.string (strN ((ns.drop q).take v))) W) := fun W q v hW hq c => by
    have hl' : ((ns.drop q).take v).length = v := by simp; omega
    have := conv_holds W (some ⟨g, off + q, none⟩) ((ns.drop q).take v) c (fun h => by cases h) (Holds.of fun j hj => by
      have := (hh.below hW).at (q + j) (by omega)
      rw [← Nat.add_assoc] at this
      rw [this]
      simp [List.getD_eq_getElem?_getD, List.getElem?_take, List.getElem?_drop, show j < v by omega])
    rw [hl'] at this
    exact this
  have HT : Hid (∀ n ∈ ns, n < 256) := hlt
  have HN : Hid (ns.length = N) := hN
  unfold maxLen at hm
  clear hh hlt hN
  obtain ⟨⟨h, q1, e1⟩, g1⟩ : ∃ x, getF (ns.drop p) 0 0 p = x := ⟨_, rfl⟩
  have HG1 : Hid (∀ W, Below w.heap.size w W → Calls Try.prog 36 #[.slice (some ⟨g, off, none⟩) N cap, .int .i64 (p : Int)] W fun e w' => e = .returned (.tuple #[.int .u64 (h : Int), .int .i64 (q1 : Int), .int .i64 (e1 : Int)]) ∧ w' = W) := fun W hW => by
    have := HG.out W p hW (by omega)
    rw [g1] at this
    exact this
  have G1 : Hid (getF (ns.drop p) 0 0 p = (h, q1, e1)) := g1
  have hh64 : e1 = 0 → p < q1 ∧ q1 ≤ N ∧ h < 18446744073709551616 := by
    rintro rfl
    have := getF_at_bd g1 HT.out (by rw [HN.out]; omega)
    rw [HN.out] at this
    exact this
  clear g1
  by_cases he1 : e1 = 0
  · subst he1
    obtain ⟨hq1, hq2, hh64⟩ := hh64 rfl
    by_cases ht : h / 2 = 0 ∨ 500 < h / 2
    · have HX : Hid (nextN ns p = (fd0, 0, 7)) := next_tag G1.out ht
      clear G1
      by_cases ht0 : h / 2 = 0
      · have hd : ((h : Int) / 2 == 0) = true := by simp; omega
        go_enter Try.func30, Try.ntmps30
        go_wp2_with fail
        refine (HG1.out _ (below_one _ _)).mono ?_
        rintro e w1 ⟨rfl, rfl⟩
        go_wp2_with fail
        refine bodyPost_ret (results_next rfl _ _ _ ⟨w.heap.size, 0, none⟩ (.agg #[.int .i64 0, .int .i64 0, .int .i64 0, .string ⟨#[]⟩]) (by go_simp) (by go_simp)) rfl ?_
        exact ⟨ret_next HX.out rfl rfl rfl rfl rfl rfl, below_one _ _⟩
      · have hd : ((h : Int) / 2 == 0) = false := by simp; omega
        have hd5 : decide (500 < (h : Int) / 2) = true := by simp; omega
        go_enter Try.func30, Try.ntmps30
        go_wp2_with fail
        refine (HG1.out _ (below_one _ _)).mono ?_
        rintro e w1 ⟨rfl, rfl⟩
        go_wp2_with fail
        refine bodyPost_ret (results_next rfl _ _ _ ⟨w.heap.size, 0, none⟩ (.agg #[.int .i64 0, .int .i64 0, .int .i64 0, .string ⟨#[]⟩]) (by go_simp) (by go_simp)) rfl ?_
        exact ⟨ret_next HX.out rfl rfl rfl rfl rfl rfl, below_one _ _⟩
    · have hd : ((h : Int) / 2 == 0) = false := by simp; omega
      have hd5 : decide (500 < (h : Int) / 2) = false := by simp; omega
      obtain ⟨⟨v, q2, e2⟩, g2⟩ : ∃ x, getF (ns.drop q1) 0 0 q1 = x := ⟨_, rfl⟩
      have HG2 : Hid (∀ W, Below w.heap.size w W → Calls Try.prog 36 #[.slice (some ⟨g, off, none⟩) N cap, .int .i64 (q1 : Int)] W fun e w' => e = .returned (.tuple #[.int .u64 (v : Int), .int .i64 (q2 : Int), .int .i64 (e2 : Int)]) ∧ w' = W) := fun W hW => by
        have := HG.out W q1 hW (by omega)
        rw [g2] at this
        exact this
      have G2 : Hid (getF (ns.drop q1) 0 0 q1 = (v, q2, e2)) := g2
      have hv64 : e2 = 0 → q1 < q2 ∧ q2 ≤ N ∧ v < 18446744073709551616 := by
        rintro rfl
        have := getF_at_bd g2 HT.out (by rw [HN.out]; omega)
        rw [HN.out] at this
        exact this
      clear g2
      by_cases he2 : e2 = 0
      · subst he2
        obtain ⟨hq3, hq4, hv64⟩ := hv64 rfl
        obtain ⟨m, hm2⟩ : ∃ m, h % 2 = m := ⟨_, rfl⟩
        have hmi : (h : Int) % 2 = (m : Int) := by omega
        obtain ⟨t, ht2⟩ : ∃ t, h / 2 = t := ⟨_, rfl⟩
        have hti : (h : Int) / 2 = (t : Int) := by omega
        have hdt : ((t : Int) == 0) = false := by simp; omega
        have hdt5 : decide (500 < (t : Int)) = false := by simp; omega
        have ht500 : t ≤ 500 := by omega
        clear hd hd5
        by_cases hw : m = 0
        · subst hw
          have HX : Hid (nextN ns p = (⟨(t : Nat), 0, zagN v, ⟨#[]⟩⟩, q2, 0)) := by
            show _ = _
            rw [next_num G1.out ht G2.out hm2, ht2]
          clear G1 G2 hm2 ht2
          go_enter Try.func30, Try.ntmps30
          go_wp2_with fail
          refine (HG1.out _ (below_one _ _)).mono ?_
          rintro e w1 ⟨rfl, rfl⟩
          go_wp2_with fail
          refine (HG2.out _ (below_one _ _)).mono ?_
          rintro e w1 ⟨rfl, rfl⟩
          go_wp2_with fail
          refine (zag_any v _ (by omega) (by omega)).mono ?_
          rintro e w1 ⟨rfl, rfl⟩
          have hz := zagN_bd v (by omega) (by omega)
          generalize zagN v = z at *
          go_wp2_with fail
          refine bodyPost_ret (results_next rfl _ _ _ ⟨w.heap.size, 0, none⟩ (.agg #[.int .i64 (t : Int), .int .i64 0, .int .i64 z, .string ⟨#[]⟩]) (by go_simp) (by go_simp)) rfl ?_
          exact ⟨ret_next HX.out rfl rfl rfl rfl rfl rfl, below_two _ _ _⟩
        · obtain rfl : m = 1 := by omega
          by_cases hs : N - q2 < v
          · have HX : Hid (nextN ns p = (fd0, 0, 2)) := next_short G1.out ht G2.out (by omega) (by rw [HN.out]; exact hs)
            clear G1 G2 hm2 ht2
            have hdv : decide ((N : Int) - (q2 : Int) < (v : Int)) = true := by simp; omega
            go_enter Try.func30, Try.ntmps30
            go_wp2_with fail
            refine (HG1.out _ (below_one _ _)).mono ?_
            rintro e w1 ⟨rfl, rfl⟩
            go_wp2_with fail
            refine (HG2.out _ (below_one _ _)).mono ?_
            rintro e w1 ⟨rfl, rfl⟩
            go_wp2_with fail
            refine bodyPost_ret (results_next rfl _ _ _ ⟨w.heap.size, 0, none⟩ (.agg #[.int .i64 0, .int .i64 0, .int .i64 0, .string ⟨#[]⟩]) (by go_simp) (by go_simp)) rfl ?_
            exact ⟨ret_next HX.out rfl rfl rfl rfl rfl rfl, below_two _ _ _⟩
          · have HX : Hid (nextN ns p = (⟨(t : Nat), 1, 0, strN ((ns.drop q2).take v)⟩, q2 + v, 0)) := by
              show _ = _
              rw [next_text G1.out ht G2.out (by omega) (by rw [HN.out]; omega), ht2]
            clear G1 G2 hm2 ht2
            have hdv : decide ((N : Int) - (q2 : Int) < (v : Int)) = false := by simp; omega
            obtain ⟨S, hS⟩ : ∃ S, strN ((ns.drop q2).take v) = S := ⟨_, rfl⟩
            rw [hS] at HX
            by_cases hqc : q2 = cap
            · obtain rfl : v = 0 := by omega
              have hS0 : strN [] = S := by rw [← hS]; simp
              have hcv : ∀ o1 o2 c, (convert 22 9 (.slice (some ⟨g, off, none⟩) 0 c)).run Try.prog ((w.alloc o1).alloc o2) = .ok (.string S) ((w.alloc o1).alloc o2) := fun o1 o2 c => by
                have := conv_holds ((w.alloc o1).alloc o2) (some ⟨g, off, none⟩) [] c (fun h => by cases h) Holds.nil
                rw [hS0] at this
                exact this
              clear hS hS0
              subst hqc
              go_enter Try.func30, Try.ntmps30
              go_wp2_with fail
              refine (HG1.out _ (below_one _ _)).mono ?_
              rintro e w1 ⟨rfl, rfl⟩
              go_wp2_with fail
              refine (HG2.out _ (below_one _ _)).mono ?_
              rintro e w1 ⟨rfl, rfl⟩
              go_wp2_with fail
              refine bodyPost_ret (results_next rfl _ _ _ ⟨w.heap.size, 0, none⟩ (.agg #[.int .i64 (t : Int), .int .i64 1, .int .i64 0, .string S]) (by go_simp) (by go_simp)) rfl ?_
              exact ⟨ret_next HX.out rfl rfl rfl rfl (by simp) rfl, below_two _ _ _⟩
            · have hcv : ∀ o1 o2 c, (convert 22 9 (.slice (some ⟨g, off + q2, none⟩) v c)).run Try.prog ((w.alloc o1).alloc o2) = .ok (.string S) ((w.alloc o1).alloc o2) := fun o1 o2 c => by
                have := HC.out ((w.alloc o1).alloc o2) q2 v (below_two _ _ _) (by omega) c
                rw [hS] at this
                exact this
              clear hS
              go_enter Try.func30, Try.ntmps30
              go_wp2_with fail
              refine (HG1.out _ (below_one _ _)).mono ?_
              rintro e w1 ⟨rfl, rfl⟩
              go_wp2_with fail
              refine (HG2.out _ (below_one _ _)).mono ?_
              rintro e w1 ⟨rfl, rfl⟩
              go_wp2_with fail
              refine bodyPost_ret (results_next rfl _ _ _ ⟨w.heap.size, 0, none⟩ (.agg #[.int .i64 (t : Int), .int .i64 1, .int .i64 0, .string S]) (by go_simp) (by go_simp)) rfl ?_
              exact ⟨ret_next HX.out rfl rfl rfl rfl (by simp) rfl, below_two _ _ _⟩
      · have HX : Hid (nextN ns p = (fd0, 0, e2)) := next_e2 G1.out ht G2.out he2
        clear G1 G2 hv64
        have hne : ((e2 : Int) != 0) = true := by simp; omega
        go_enter Try.func30, Try.ntmps30
        go_wp2_with fail
        refine (HG1.out _ (below_one _ _)).mono ?_
        rintro e w1 ⟨rfl, rfl⟩
        go_wp2_with fail
        refine (HG2.out _ (below_one _ _)).mono ?_
        rintro e w1 ⟨rfl, rfl⟩
        go_wp2_with fail
        refine bodyPost_ret (results_next rfl _ _ _ ⟨w.heap.size, 0, none⟩ (.agg #[.int .i64 0, .int .i64 0, .int .i64 0, .string ⟨#[]⟩]) (by go_simp) (by go_simp)) rfl ?_
        exact ⟨ret_next HX.out rfl rfl rfl rfl rfl rfl, below_one _ _⟩
  · have HX : Hid (nextN ns p = (fd0, 0, e1)) := next_e1 G1.out he1
    clear G1 hh64
    have hne : ((e1 : Int) != 0) = true := by simp; omega
    go_enter Try.func30, Try.ntmps30
    go_wp2_with fail
    refine (HG1.out _ (below_one _ _)).mono ?_
    rintro e w1 ⟨rfl, rfl⟩
    go_wp2_with fail
    refine bodyPost_ret (results_next rfl _ _ _ ⟨w.heap.size, 0, none⟩ (.agg #[.int .i64 0, .int .i64 0, .int .i64 0, .string ⟨#[]⟩]) (by go_simp) (by go_simp)) rfl ?_
    exact ⟨ret_next HX.out rfl rfl rfl rfl rfl rfl, below_one _ _⟩
end Go.Proofs.Ytfbekeebllcdbaa

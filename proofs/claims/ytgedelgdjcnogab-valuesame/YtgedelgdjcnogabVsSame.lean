/- value.Same: are two trees one? One of them is of one's own. -/
import Derived.Test.YtgedelgdjcnogabVsSt
import Derived.Test.YtgedelgdjcnogabRg8
import Derived.Test.YtgedelgdjcnogabRgF
import Derived.Test.YtgedelgdjcnogabRgG
import Derived.Deep.Cut
import Derived.Deep.CutRange
namespace Go.Proofs.Ytgedelgdjcnogab
open Go.ChangeShapes Go.WideShapes Go.ChangeAt Go.RowKit
set_option linter.unusedVariables false
set_option linter.unusedSimpArgs false
set_option maxRecDepth 20000

theorem own_litV (w : World) {B : Nat} (hB : B ≤ w.heap.size) (e : TypeId) (x y : Value) : (w.alloc (Obj.cells #[x, y] e)).ownsRow B e 2 (.slice (some ⟨w.heap.size, 0, none⟩) 1 1) 1 [x, y] :=
  ⟨rfl, .inr ⟨w.heap.size, 1, #[x, y], rfl, hB, heap_alloc_new w _, by omega, by decide, rfl, rfl⟩⟩
/-- Its entries' first addresses may be asked for. -/
def TrF (n : Nat) (w : World) (v : Value) : Prop := ∀ c0 c1 c2 ve vr, v = .agg #[c0, c1, c2, ve, vr] → EnsF n w ve
theorem SameS.first {b : Bool} {n B : Nat} {w W : World} {mb : Nat} {ea eb : Ens} {va vb : Value} {lv : Value} (ho : (∃ cs, EnsO n B w (if b then vb else va) (if b then eb else ea) cs ∧ cs.Nodup ∧ (b = true → EnsF n w va)) ∨ ¬ OkC ea eb) (ha : EnsIn n w va ea) (hb : EnsIn n w vb eb) (hl : ea.length = eb.length) (hc : wtE n ea ≤ 500) (hs : PlSet W mb []) (hw : W.ownsRow w.heap.size 60 2 lv 1 [va, vb]) (hB : Below w.heap.size w W) : SameS b B w mb ea eb lv W (wtE n ea) := by
  rcases ho with ⟨cs, ho, hn, hf⟩ | ho
  · refine ⟨[(⟨n, va, vb, ea, eb⟩, cs)], [], .inl ⟨fun p hp => ?_, .inr ⟨by simp, by simpa using hn, .inr ⟨rfl, rfl⟩⟩⟩, by simp, hs, hw, hB, by simp [wts, It.wt], hc⟩
    obtain rfl := List.mem_singleton.1 hp
    refine ⟨?_, ⟨ha, hb, hl⟩, hf⟩
    cases b <;> exact ho
  · exact ⟨[(⟨n, va, vb, ea, eb⟩, [])], [], .inr ⟨_, _, rfl, rfl, ⟨ha, hb, hl⟩, ho⟩, by simp, hs, hw, hB, by simp [wts, It.wt], hc⟩
/-- A key that is stored. -/
def st4K (w : World) (g : Nat) (a b c d : Value) : World := (((w.setCell ⟨g, 0, none⟩ a).setCell ⟨g, 1, none⟩ b).setCell ⟨g, 2, none⟩ c).setCell ⟨g, 3, none⟩ d
theorem st4K_blk {w0 w : World} {g : Nat} {x0 x1 x2 x3 : Value} {t : TypeId} (h : Blk w g #[x0, x1, x2, x3] t) (hb : Below w0.heap.size w0 w) (hg : w0.heap.size ≤ g) (a b c d : Value) : Blk (st4K w g a b c d) g #[a, b, c, d] t ∧ Below w0.heap.size w0 (st4K w g a b c d) := by
  refine ⟨(((h.set 0 a (cs' := #[a, x1, x2, x3]) rfl).set 1 b (cs' := #[a, b, x2, x3]) rfl).set 2 c (cs' := #[a, b, c, x3]) rfl).set 3 d rfl, ?_⟩
  have kp : Kp (fun q => q = g) w (st4K w g a b c d) := by
    unfold st4K
    refine Kp.setCell ?_ (fun _ => by simp) _
    refine Kp.setCell ?_ (fun _ => by simp) _
    refine Kp.setCell ?_ (fun _ => by simp) _
    refine Kp.setCell ?_ (fun _ => by simp) _
    exact Kp.refl _ _
  exact hb.trans (kp.toBelow hb.size (fun q e => by rw [e]; exact hg))
set_option maxHeartbeats 8000000 in
theorem same_all (b : Bool) (n B : Nat) (ta tb : Tr) (va vb : Value) (w : World) (ha : TrIn (n + 1) w va ta) (hb : TrIn (n + 1) w vb tb) (ho : AliT ta tb → (∃ bs, TrV (n + 1) B w (if b then vb else va) (if b then tb else ta) bs ∧ (b = true → TrF n w va)) ∨ ¬ OkC ta.es tb.es) (hc : wtE n ta.es ≤ 500) :
    Calls Try.prog 8 #[va, vb] w fun e w' => Says (ta = tb) e ∧ Below w.heap.size w w' := by
  have hmm := @run_makeMap Try.prog
  have HAL0 : Hid (∀ W, Below w.heap.size w W → Calls Try.prog 22 #[va, vb] W fun e w' => Says (AliT ta tb) e ∧ Below W.heap.size W w') := fun W hW => alike_any _ _ ta tb _ _ W (ha.below hW) (hb.below hW)
  obtain ⟨na, ve, vr, hn1, rfl, -, -, -, -, ra, ea⟩ := ha.open
  obtain ⟨nb, ve2, vr2, hn2, rfl, -, -, -, -, rb, eb⟩ := hb.open
  obtain rfl : na = n := by omega
  obtain rfl : nb = na := by omega
  have HO : Hid (AliT ta tb → (∃ cs, EnsO nb B w (if b then ve2 else ve) (if b then tb.es else ta.es) cs ∧ cs.Nodup ∧ (b = true → EnsF nb w ve)) ∨ ¬ OkC ta.es tb.es) := by
    show _ → _
    intro hali
    refine (ho hali).imp ?_ id
    rintro ⟨bs, hbs, hf⟩
    obtain ⟨x, y, cs, e1, e2, e3⟩ := hbs.ens
    refine ⟨cs, ?_, e3, fun h => hf h _ _ _ _ _ rfl⟩
    cases b with
    | false =>
      simp only [Bool.false_eq_true, if_false] at e1 e2 ⊢
      simp only [Value.agg.injEq, Array.mk.injEq, List.cons.injEq, and_true, true_and] at e1
      obtain ⟨rfl, -⟩ := e1
      exact e2
    | true =>
      simp only [if_true] at e1 e2 ⊢
      simp only [Value.agg.injEq, Array.mk.injEq, List.cons.injEq, and_true, true_and] at e1
      obtain ⟨rfl, -⟩ := e1
      exact e2
  have HEE : Hid (EnsIn nb w ve ta.es ∧ EnsIn nb w ve2 tb.es) := ⟨ea, eb⟩
  clear ho hn1 hn2 ha hb
  obtain ⟨pe, ce, rfl, -⟩ := RowP.open ea
  obtain ⟨pe2, ce2, rfl, -⟩ := RowP.open eb
  obtain ⟨pr, cr, rfl, -⟩ := rest_holds ra
  obtain ⟨pr2, cr2, rfl, -⟩ := rest_holds rb
  clear ra rb ea eb
  have HC : Hid (wtE nb ta.es ≤ 500) := hc
  obtain ⟨Ke, hKe⟩ : ∃ K, ta.es.length = K := ⟨_, rfl⟩
  obtain ⟨Ke2, hKe2⟩ : ∃ K, tb.es.length = K := ⟨_, rfl⟩
  rw [hKe] at HO HEE HAL0 ⊢
  rw [hKe2] at HO HEE HAL0 ⊢
  clear hKe hKe2 hc
  have HTR : Hid (ta = tb ↔ AliT ta tb ∧ ta.es = tb.es) := tr_iffA
  have HLN : Hid (AliT ta tb → ta.es.length = tb.es.length) := fun h => h.2.2.2.1
  generalize (ta = tb) = PP at *
  generalize AliT ta tb = PA at *
  generalize ta.es = ea at *
  generalize tb.es = eb at *
  generalize ta.kind = k1 at *
  generalize ta.n = n1 at *
  generalize ta.s = s1 at *
  generalize ta.rest.length = Kr at *
  generalize tb.kind = k2 at *
  generalize tb.n = n2 at *
  generalize tb.s = s2 at *
  generalize tb.rest.length = Kr2 at *
  obtain ⟨mu, hmu⟩ : ∃ mu : Nat → Value → World → Nat, ∀ mb lv W, (∃ k, SameS b B w mb ea eb lv W k) → SameS b B w mb ea eb lv W (mu mb lv W) ∧ ∀ j, SameS b B w mb ea eb lv W j → mu mb lv W ≤ j := ⟨fun mb lv W => Classical.epsilon fun k => SameS b B w mb ea eb lv W k ∧ ∀ j, SameS b B w mb ea eb lv W j → k ≤ j, fun mb lv W h => Classical.epsilon_spec (least_ofV h)⟩
  have HMU : Hid (∀ mb lv W, (∃ k, SameS b B w mb ea eb lv W k) → SameS b B w mb ea eb lv W (mu mb lv W) ∧ ∀ j, SameS b B w mb ea eb lv W j → mu mb lv W ≤ j) := hmu
  clear hmu
  have hb2 : ∀ o1 o2, Below w.heap.size w ((w.alloc o1).alloc o2) := fun o1 o2 => ((Below.refl _ _).alloc (Nat.le_refl _) _).alloc (by simp) _
  go_enter Try.func8, Try.ntmps8
  go_wp2_with fail
  refine (HAL0.out _ (hb2 _ _)).mono ?_
  rintro e w1 ⟨⟨R, rfl, hR⟩, h1⟩
  have HR : Hid (R = true ↔ PA) := hR
  have BA : Blk w1 w.heap.size #[.int .i64 k1, .int .i64 n1, .string s1, .slice pe Ke ce, .slice pr Kr cr] 25 := ((Blk.new w _ _).below ((Below.refl _ _).alloc (Nat.le_refl _) _)).below h1
  have BB : Blk w1 (w.heap.size + 1) #[.int .i64 k2, .int .i64 n2, .string s2, .slice pe2 Ke2 ce2, .slice pr2 Kr2 cr2] 25 := by
    have := (Blk.new (w.alloc (Obj.cells #[.int .i64 k1, .int .i64 n1, .string s1, .slice pe Ke ce, .slice pr Kr cr] 25)) #[.int .i64 k2, .int .i64 n2, .string s2, .slice pe2 Ke2 ce2, .slice pr2 Kr2 cr2] 25).below h1
    rwa [show (w.alloc (Obj.cells #[.int .i64 k1, .int .i64 n1, .string s1, .slice pe Ke ce, .slice pr Kr cr] 25)).heap.size = w.heap.size + 1 from by simp] at this
  have hbw : Below w.heap.size w w1 := (hb2 _ _).trans (h1.mono (hb2 _ _).size)
  clear hR h1 HAL0
  cases R with
  | false =>
    have hno : ¬ PP := fun h => by have := HR.out.2 (HTR.out.1 h).1; cases this
    clear BA BB
    go_wp2_with fail
    go_ret
    exact ⟨says_no hno, hbw⟩
  | true =>
    have HPA : Hid PA := HR.out.1 rfl
    have a3 := (BA.cell 3).trans rfl
    have b3 := (BB.cell 3).trans rfl
    have H0 : Hid (∃ k, SameS b B w (w1.heap.size + 1) ea eb (.slice (some ⟨w1.heap.size, 0, none⟩) 1 1) ((w1.alloc (Obj.cells #[.slice pe Ke ce, .slice pe2 Ke2 ce2] 60)).alloc (.map #[] 0)) k) := by
      show ∃ k, _
      have al : Below w1.heap.size w1 (w1.alloc (Obj.cells #[.slice pe Ke ce, .slice pe2 Ke2 ce2] 60)) := (Below.refl _ _).alloc (Nat.le_refl _) _
      have al2 : Below (w1.alloc (Obj.cells #[.slice pe Ke ce, .slice pe2 Ke2 ce2] 60)).heap.size (w1.alloc (Obj.cells #[.slice pe Ke ce, .slice pe2 Ke2 ce2] 60)) ((w1.alloc (Obj.cells #[.slice pe Ke ce, .slice pe2 Ke2 ce2] 60)).alloc (.map #[] 0)) := (Below.refl _ _).alloc (Nat.le_refl _) _
      have hs := PlSet.made (w1.alloc (Obj.cells #[.slice pe Ke ce, .slice pe2 Ke2 ce2] 60))
      rw [show (w1.alloc (Obj.cells #[.slice pe Ke ce, .slice pe2 Ke2 ce2] 60)).heap.size = w1.heap.size + 1 from by simp] at hs
      exact ⟨_, SameS.first (HO.out HPA.out) HEE.out.1 HEE.out.2 (HLN.out HPA.out) HC.out hs (own_below (own_litV w1 hbw.size _ _ _) al2) ((hbw.trans (al.mono hbw.size)).trans (al2.mono (hbw.trans (al.mono hbw.size)).size))⟩
    clear BA BB HO HEE HC HLN hb2
    have HMB : Hid (w.heap.size ≤ w1.heap.size + 1) := (by have := hbw.size; omega : w.heap.size ≤ w1.heap.size + 1)
    go_wp2_with fail
    generalize (w1.alloc (Obj.cells #[.slice pe Ke ce, .slice pe2 Ke2 ce2] 60)).alloc (.map #[] 0) = w3 at *
    generalize w1.heap.size + 1 = mb at *
    clear a3 b3 hbw
    go_loopw [5] (fun lv wr => ∃ (la : Option Addr) (ln lc : Nat), lv = .slice la ln lc ∧ Hid (∃ k, SameS b B w mb ea eb (.slice la ln lc) wr k)) (fun lv wr => mu mb lv wr)
    case atStart => exact ⟨_, _, _, rfl, H0⟩
    case round =>
      clear H0
      obtain ⟨la, ln, lc, rfl, hrel⟩ := hrel
      obtain ⟨k0, hk0⟩ : ∃ z, mu mb (.slice la ln lc) wr = z := ⟨_, rfl⟩
      have hsp := HMU.out _ _ _ hrel.out
      rw [hk0] at hsp
      have HK0 : Hid (mu mb (.slice la ln lc) wr = k0) := hk0
      clear hk0 hrel
      obtain ⟨⟨P, S, hG, hiff, hset, hown, hbel, hwt, hk2⟩, -⟩ := hsp
      rcases List.eq_nil_or_concat P with hnil | ⟨P2, p, hcat⟩
      · subst hnil
        obtain ⟨la', lc', e'⟩ := own_form hown
        simp only [Value.slice.injEq, List.length_nil] at e'
        obtain ⟨rfl, rfl, rfl⟩ := e'
        have hyes : PP := HTR.out.2 ⟨HPA.out, hiff.2 (by simp)⟩
        clear hG hiff hset hown hwt hk2
        go_wp2_with fail
        go_ret
        exact ⟨says_yes hyes, hbel⟩
      · rw [List.concat_eq_append] at hcat
        subst hcat
        obtain ⟨x, bs⟩ := p
        have q2 := hG.it
        obtain ⟨pa, ca, hva, u1, u2, u3, -⟩ := RowP.open q2.1
        obtain ⟨pb, cb, hvb, v1, v2, v3, -⟩ := RowP.open q2.2.1
        rw [← q2.2.2] at hvb v1
        obtain ⟨N, hN⟩ : ∃ z, x.ea.length = z := ⟨_, rfl⟩
        rw [hN] at hva hvb u1 v1
        have u4 : N = 0 ∨ ∃ g off, pa = some ⟨g, off, none⟩ := u3.imp (fun h => by rw [← hN, h]; rfl) id
        have v4 : N = 0 ∨ ∃ g off, pb = some ⟨g, off, none⟩ := by
          rcases v3 with h | h
          · exact .inl (by rw [← hN, q2.2.2, h]; rfl)
          · exact .inr h
        rw [List.map_append, rowsOf_append] at hown
        have hrow : rowsOf [x] = [x.va, x.vb] := by simp [rowsOf, It.row]
        simp only [List.map_cons, List.map_nil] at hown
        rw [hrow, hva, hvb] at hown
        obtain ⟨gl, hlv, hl1, hl2, hl3⟩ : ∃ gl, la = some ⟨gl, 0, none⟩ ∧ P2.length + 1 = ln ∧ ln ≤ lc ∧ lc ≤ maxLen := by
          rcases hown.2 with ⟨_, e0⟩ | ⟨gl, cap, cur, e1, _, e3, e4, e5, _⟩
          · simp at e0
          · simp only [List.length_append, List.length_singleton, Value.slice.injEq] at e1 e4
            obtain ⟨rfl, rfl, rfl⟩ := e1
            exact ⟨gl, rfl, rfl, e4, e5⟩
        subst hlv
        have hlast : wr.cell? ⟨gl, P2.length * 2, none⟩ = some (.slice pa N ca) ∧ wr.cell? ⟨gl, P2.length * 2 + 1, none⟩ = some (.slice pb N cb) := by
          have hg1 := fun (j : Nat) (v : Value) (hv : [Value.slice pa N ca, Value.slice pb N cb][j]? = some v) => hown.cells (g := gl) rfl (P2.length * 2 + j) v (by rw [List.getElem?_append_right (by rw [rowsOf_len, List.length_map]; omega), rowsOf_len, List.length_map, Nat.add_sub_cancel_left]; exact hv)
          have e1 := hg1 0 _ rfl
          have e2 := hg1 1 _ rfl
          rw [Addr.add_lit, Nat.zero_add] at e1 e2
          exact ⟨e1, e2⟩
        rw [List.length_append, List.length_singleton] at hown
        have hcut := own_shortV (n := P2.length) (by rw [hl1]; rw [hl1] at hown; exact hown) (by rw [rowsOf_len, List.length_map])
        obtain ⟨Lk, hLk⟩ : ∃ z, P2.length = z := ⟨_, rfl⟩
        rw [hLk] at hlast hl1 hcut
        obtain ⟨l0, l1⟩ := hlast
        have hlb : gl < wr.heap.size := World.block_lt_of_cell? _ _ l0
        obtain ⟨⟨p1, m1⟩, hpm1⟩ : ∃ z, plOf (.slice pa N ca) = z := ⟨_, rfl⟩
        obtain ⟨⟨p2, m2⟩, hpm2⟩ : ∃ z, plOf (.slice pb N cb) = z := ⟨_, rfl⟩
        have HP1 : Hid (∀ W, Calls Try.prog 23 #[.slice pa N ca] W fun e w' => e = .returned (.agg #[.pointer p1, .int .i64 (m1 : Int)]) ∧ Below W.heap.size W w') := fun W => by
          have := place_any pa N ca W u1 u2 u4
          rw [hpm1] at this
          exact this
        have HP2 : Hid (∀ W, Calls Try.prog 23 #[.slice pb N cb] W fun e w' => e = .returned (.agg #[.pointer p2, .int .i64 (m2 : Int)]) ∧ Below W.heap.size W w') := fun W => by
          have := place_any pb N cb W v1 v2 v4
          rw [hpm2] at this
          exact this
        have HKEY : Hid (x.key = ((p1, m1), (p2, m2))) := (by rw [It.key, hva, hvb, hpm1, hpm2] : x.key = ((p1, m1), (p2, m2)))
        have HX : Hid (x.va = .slice pa N ca ∧ x.vb = .slice pb N cb ∧ x.ea.length = N ∧ P2.length = Lk ∧ Lk + 1 = ln) := ⟨hva, hvb, hN, hLk, hl1⟩
        have HG : Hid (GoodD b B w (P2 ++ [(x, bs)]) S) := hG
        have HIF : Hid (ea = eb ↔ ∀ p ∈ P2 ++ [(x, bs)], p.1.ea = p.1.eb) := hiff
        have HW : Hid (wts ((P2 ++ [(x, bs)]).map Prod.fst) = k0 ∧ k0 ≤ 500) := ⟨hwt, hk2⟩
        have hsb : (ln : Int) - 1 = (Lk : Int) := by omega
        have hLl : Lk < ln := by omega
        have dgt : decide (0 < (ln : Int)) = true := by simp; omega
        unfold maxLen at hl3 u2 v2
        have hlc : Lk ≤ lc := by omega
        have al7 : Below wr.heap.size wr (wr.alloc (Obj.cells #[.slice pa N ca, .slice pb N cb] 60)) := (Below.refl _ _).alloc (Nat.le_refl _) _
        have HB7 : Hid (Blk (wr.alloc (Obj.cells #[.slice pa N ca, .slice pb N cb] 60)) wr.heap.size #[.slice pa N ca, .slice pb N cb] 60) := Blk.new wr _ _
        have HOW : Hid ((wr.alloc (Obj.cells #[.slice pa N ca, .slice pb N cb] 60)).ownsRow w.heap.size 60 2 (.slice (some ⟨gl, 0, none⟩) Lk lc) Lk (rowsOf (P2.map Prod.fst))) := own_below hcut al7
        have HST : Hid (PlSet (wr.alloc (Obj.cells #[.slice pa N ca, .slice pb N cb] 60)) mb (S.map prK)) := hset.below al7
        have hb7 : Below w.heap.size w (wr.alloc (Obj.cells #[.slice pa N ca, .slice pb N cb] 60)) := hbel.trans (al7.mono hbel.size)
        clear hG hiff hset hown hbel hwt hk2 hcut hpm1 hpm2 hva hvb hN hLk hl1 q2 u1 u2 u3 u4 v1 v2 v3 v4 hrow al7
        go_upto_region 8 with fail
        clear l0 l1 dgt hlb
        obtain ⟨b7, hb7e⟩ : ∃ z, wr.heap.size = z := ⟨_, rfl⟩
        simp only [hb7e]
        rw [hb7e] at HB7
        clear hb7e
        generalize wr.alloc (Obj.cells #[.slice pa N ca, .slice pb N cb] 60) = w7 at *
        go_cut [8] from 38 to 45 (fun p8 wx => ∃ (b8 : Nat), p8 = .pointer (some ⟨b8, 0, none⟩) ∧ Hid (Blk wx b8 #[.pointer p1, .int .i64 (m1 : Int), .pointer p2, .int .i64 (m2 : Int)] 66 ∧ Below w7.heap.size w7 wx))
        case first =>
          refine M_region (T := fun W => Below w7.heap.size w7 W) (m := 8) (by kernel_rfl) ?_
          have hS : Below w7.heap.size w7 w7.drew := (Below.refl _ _).drew
          refine M_take 0 38 (.pointer (some ⟨b7, 0, none⟩)) _ rfl rfl (by kernel_rfl) (by kernel_rfl) (by kernel_rfl) (by kernel_rfl) (by kernel_rfl) (fun _ _ _ h => h) (by rfl) (fun w' hw' => ?_) hS (listed' := #[true, false, false, false, false, false, false, false, false]) (by kernel_rfl) rfl ?_
          · go_simp
          simp only [List.setIfInBounds_toArray, List.set_cons_zero, List.set_cons_succ]
          refine M_take 1 39 (.slice pa N ca) _ rfl rfl (by kernel_rfl) (by kernel_rfl) (by kernel_rfl) (by kernel_rfl) (by kernel_rfl) (fun _ _ _ h => h) (by rfl) (fun w' hw' => ?_) hS (listed' := #[true, true, false, false, false, false, false, false, false]) (by kernel_rfl) rfl ?_
          · have f0 := ((HB7.out.below hw').cell 0).trans rfl; go_simp
          simp only [List.setIfInBounds_toArray, List.set_cons_zero, List.set_cons_succ]
          refine M_take 3 41 (.pointer (some ⟨b7, 1, none⟩)) _ rfl rfl (by kernel_rfl) (by kernel_rfl) (by kernel_rfl) (by kernel_rfl) (by kernel_rfl) (fun _ _ _ h => h) (by rfl) (fun w' hw' => ?_) hS (listed' := #[true, true, false, true, false, false, false, false, false]) (by kernel_rfl) rfl ?_
          · go_simp
          simp only [List.setIfInBounds_toArray, List.set_cons_zero, List.set_cons_succ]
          refine M_take 4 42 (.slice pb N cb) _ rfl rfl (by kernel_rfl) (by kernel_rfl) (by kernel_rfl) (by kernel_rfl) (by kernel_rfl) (fun _ _ _ h => h) (by rfl) (fun w' hw' => ?_) hS (listed' := #[true, true, false, true, true, false, false, false, false]) (by kernel_rfl) rfl ?_
          · have f1 := ((HB7.out.below hw').cell 1).trans rfl; go_simp
          simp only [List.setIfInBounds_toArray, List.set_cons_zero, List.set_cons_succ]
          generalize w7.drew = U0 at *
          refine M_fork 2 7 40 8 23 #[.slice pa N ca] (.pointer (some ⟨U0.heap.size, 0, none⟩)) (U0.alloc (Obj.cells #[.pointer none, .int .i64 0, .pointer none, .int .i64 0] 66)) rfl rfl rfl rfl (by kernel_rfl) (by rfl) (by rfl) (by go_simp) (by go_simp) ?_ (hS.trans (((Below.refl _ _).alloc (Nat.le_refl _) _).mono hS.size)) ?_
          · skip
            refine (HP1.out _).mono ?_
            rintro ee U1 ⟨rfl, hbU⟩
            have hS0 := hS
            have hS : Below w7.heap.size w7 U1 := hS0.trans (hbU.mono hS0.size)
            clear hS0 hbU
            refine ⟨_, rfl, hS, ?_⟩
            simp only [List.setIfInBounds_toArray, List.set_cons_zero, List.set_cons_succ]
            refine M_fork 5 7 43 8 23 #[.slice pb N cb] (.pointer (some ⟨U1.heap.size, 0, none⟩)) (U1.alloc (Obj.cells #[.pointer none, .int .i64 0, .pointer none, .int .i64 0] 66)) rfl rfl rfl rfl (by kernel_rfl) (by rfl) (by rfl) (by go_simp) (by go_simp) ?_ (hS.trans (((Below.refl _ _).alloc (Nat.le_refl _) _).mono hS.size)) ?_
            · skip
              refine (HP2.out _).mono ?_
              rintro ee U2 ⟨rfl, hbU⟩
              have hS0 := hS
              have hS : Below w7.heap.size w7 U2 := hS0.trans (hbU.mono hS0.size)
              clear hS0 hbU
              refine ⟨_, rfl, hS, ?_⟩
              simp only [List.setIfInBounds_toArray, List.set_cons_zero, List.set_cons_succ]
              refine M_take 6 44 (.agg #[.pointer p1, .int .i64 (m1 : Int), .pointer p2, .int .i64 (m2 : Int)]) _ rfl rfl (by kernel_rfl) (by kernel_rfl) (by kernel_rfl) (by kernel_rfl) (by kernel_rfl) (fun _ _ _ h => h) (by rfl) (fun w' hw' => ?_) hS (listed' := #[true, true, true, true, true, true, true, false, false]) (by kernel_rfl) rfl ?_
              · go_simp
              simp only [List.setIfInBounds_toArray, List.set_cons_zero, List.set_cons_succ]
              refine M_run 7 8 (.pointer (some ⟨U2.heap.size, 0, none⟩)) (U2.alloc (Obj.cells #[.pointer none, .int .i64 0, .pointer none, .int .i64 0] 66)) rfl rfl (by kernel_rfl) (by rfl) (listed' := #[true, true, true, true, true, true, true, true, false]) (by kernel_rfl) (by go_simp) (hS.trans (((Below.refl _ _).alloc (Nat.le_refl _) _).mono hS.size)) ?_
              have hbU : Below U2.heap.size U2 (U2.alloc (Obj.cells #[.pointer none, .int .i64 0, .pointer none, .int .i64 0] 66)) := (Below.refl _ _).alloc (Nat.le_refl _) _
              obtain ⟨b8, hbk⟩ : ∃ z, U2.heap.size = z := ⟨_, rfl⟩
              have B8 : Blk (U2.alloc (Obj.cells #[.pointer none, .int .i64 0, .pointer none, .int .i64 0] 66)) b8 #[.pointer none, .int .i64 0, .pointer none, .int .i64 0] 66 := by rw [← hbk]; exact Blk.new U2 _ _
              have G8 : w7.heap.size ≤ b8 := by rw [← hbk]; exact hS.size
              have hS0 := hS
              have hS : Below w7.heap.size w7 (U2.alloc (Obj.cells #[.pointer none, .int .i64 0, .pointer none, .int .i64 0] 66)) := hS0.trans (hbU.mono hS0.size)
              clear hS0 hbU
              simp only [List.setIfInBounds_toArray, List.set_cons_zero, List.set_cons_succ]
              simp only [hbk]
              clear hbk
              generalize (U2.alloc (Obj.cells #[.pointer none, .int .i64 0, .pointer none, .int .i64 0] 66)) = U3 at *
              have y0 := (B8.cell 0).trans rfl
              have z0 := B8.froz 0
              have y1 := (B8.cell 1).trans rfl
              have z1 := B8.froz 1
              have y2 := (B8.cell 2).trans rfl
              have z2 := B8.froz 2
              have y3 := (B8.cell 3).trans rfl
              have z3 := B8.froz 3
              have h9 := st4K_blk B8 hS G8 (.pointer p1) (.int .i64 (m1 : Int)) (.pointer p2) (.int .i64 (m2 : Int))
              refine M_store 8 (st4K U3 b8 (.pointer p1) (.int .i64 (m1 : Int)) (.pointer p2) (.int .i64 (m2 : Int))) rfl rfl (by kernel_rfl) (by rfl) (listed' := #[true, true, true, true, true, true, true, true, true]) (by kernel_rfl) (by unfold st4K; go_simp) (by kernel_rfl) ?_
              refine M_done (by kernel_rfl) ?_ _
              clear y0 y1 y2 y3 z0 z1 z2 z3
              have H9 : Hid (Blk (st4K U3 b8 (.pointer p1) (.int .i64 (m1 : Int)) (.pointer p2) (.int .i64 (m2 : Int))) b8 #[.pointer p1, .int .i64 (m1 : Int), .pointer p2, .int .i64 (m2 : Int)] 66 ∧ Below w7.heap.size w7 (st4K U3 b8 (.pointer p1) (.int .i64 (m1 : Int)) (.pointer p2) (.int .i64 (m2 : Int)))) := h9
              clear h9
              go_wp2_with fail
              go_meet
              exact ⟨b8, rfl, H9⟩
            · skip
              have hbU : Below U1.heap.size U1 (U1.alloc (Obj.cells #[.pointer none, .int .i64 0, .pointer none, .int .i64 0] 66)) := (Below.refl _ _).alloc (Nat.le_refl _) _
              obtain ⟨b8, hbk⟩ : ∃ z, U1.heap.size = z := ⟨_, rfl⟩
              have B8 : Blk (U1.alloc (Obj.cells #[.pointer none, .int .i64 0, .pointer none, .int .i64 0] 66)) b8 #[.pointer none, .int .i64 0, .pointer none, .int .i64 0] 66 := by rw [← hbk]; exact Blk.new U1 _ _
              have G8 : w7.heap.size ≤ b8 := by rw [← hbk]; exact hS.size
              have hS0 := hS
              have hS : Below w7.heap.size w7 (U1.alloc (Obj.cells #[.pointer none, .int .i64 0, .pointer none, .int .i64 0] 66)) := hS0.trans (hbU.mono hS0.size)
              clear hS0 hbU
              simp only [List.setIfInBounds_toArray, List.set_cons_zero, List.set_cons_succ]
              simp only [hbk]
              clear hbk
              generalize (U1.alloc (Obj.cells #[.pointer none, .int .i64 0, .pointer none, .int .i64 0] 66)) = U4 at *
              refine M_call 5 43 23 #[.slice pb N cb] rfl rfl (by kernel_rfl) (by rfl) (listed' := #[true, true, true, true, true, true, false, true, false]) (by kernel_rfl) (fun W => by go_simp) ?_
              refine (HP2.out _).mono ?_
              rintro ee U5 ⟨rfl, hbU⟩
              have hS0 := hS
              have hS : Below w7.heap.size w7 U5 := hS0.trans (hbU.mono hS0.size)
              replace B8 := B8.below hbU
              clear hS0 hbU
              refine ⟨_, rfl, hS, ?_⟩
              simp only [List.setIfInBounds_toArray, List.set_cons_zero, List.set_cons_succ]
              refine M_take 6 44 (.agg #[.pointer p1, .int .i64 (m1 : Int), .pointer p2, .int .i64 (m2 : Int)]) _ rfl rfl (by kernel_rfl) (by kernel_rfl) (by kernel_rfl) (by kernel_rfl) (by kernel_rfl) (fun _ _ _ h => h) (by rfl) (fun w' hw' => ?_) hS (listed' := #[true, true, true, true, true, true, true, true, false]) (by kernel_rfl) rfl ?_
              · go_simp
              simp only [List.setIfInBounds_toArray, List.set_cons_zero, List.set_cons_succ]
              have y0 := (B8.cell 0).trans rfl
              have z0 := B8.froz 0
              have y1 := (B8.cell 1).trans rfl
              have z1 := B8.froz 1
              have y2 := (B8.cell 2).trans rfl
              have z2 := B8.froz 2
              have y3 := (B8.cell 3).trans rfl
              have z3 := B8.froz 3
              have h9 := st4K_blk B8 hS G8 (.pointer p1) (.int .i64 (m1 : Int)) (.pointer p2) (.int .i64 (m2 : Int))
              refine M_store 8 (st4K U5 b8 (.pointer p1) (.int .i64 (m1 : Int)) (.pointer p2) (.int .i64 (m2 : Int))) rfl rfl (by kernel_rfl) (by rfl) (listed' := #[true, true, true, true, true, true, true, true, true]) (by kernel_rfl) (by unfold st4K; go_simp) (by kernel_rfl) ?_
              refine M_done (by kernel_rfl) ?_ _
              clear y0 y1 y2 y3 z0 z1 z2 z3
              have H9 : Hid (Blk (st4K U5 b8 (.pointer p1) (.int .i64 (m1 : Int)) (.pointer p2) (.int .i64 (m2 : Int))) b8 #[.pointer p1, .int .i64 (m1 : Int), .pointer p2, .int .i64 (m2 : Int)] 66 ∧ Below w7.heap.size w7 (st4K U5 b8 (.pointer p1) (.int .i64 (m1 : Int)) (.pointer p2) (.int .i64 (m2 : Int)))) := h9
              clear h9
              go_wp2_with fail
              go_meet
              exact ⟨b8, rfl, H9⟩
          · skip
            have hbU : Below U0.heap.size U0 (U0.alloc (Obj.cells #[.pointer none, .int .i64 0, .pointer none, .int .i64 0] 66)) := (Below.refl _ _).alloc (Nat.le_refl _) _
            obtain ⟨b8, hbk⟩ : ∃ z, U0.heap.size = z := ⟨_, rfl⟩
            have B8 : Blk (U0.alloc (Obj.cells #[.pointer none, .int .i64 0, .pointer none, .int .i64 0] 66)) b8 #[.pointer none, .int .i64 0, .pointer none, .int .i64 0] 66 := by rw [← hbk]; exact Blk.new U0 _ _
            have G8 : w7.heap.size ≤ b8 := by rw [← hbk]; exact hS.size
            have hS0 := hS
            have hS : Below w7.heap.size w7 (U0.alloc (Obj.cells #[.pointer none, .int .i64 0, .pointer none, .int .i64 0] 66)) := hS0.trans (hbU.mono hS0.size)
            clear hS0 hbU
            simp only [List.setIfInBounds_toArray, List.set_cons_zero, List.set_cons_succ]
            simp only [hbk]
            clear hbk
            generalize (U0.alloc (Obj.cells #[.pointer none, .int .i64 0, .pointer none, .int .i64 0] 66)) = U6 at *
            refine M_call 2 40 23 #[.slice pa N ca] rfl rfl (by kernel_rfl) (by rfl) (listed' := #[true, true, true, true, true, false, false, true, false]) (by kernel_rfl) (fun W => by go_simp) ?_
            refine (HP1.out _).mono ?_
            rintro ee U7 ⟨rfl, hbU⟩
            have hS0 := hS
            have hS : Below w7.heap.size w7 U7 := hS0.trans (hbU.mono hS0.size)
            replace B8 := B8.below hbU
            clear hS0 hbU
            refine ⟨_, rfl, hS, ?_⟩
            simp only [List.setIfInBounds_toArray, List.set_cons_zero, List.set_cons_succ]
            refine M_call 5 43 23 #[.slice pb N cb] rfl rfl (by kernel_rfl) (by rfl) (listed' := #[true, true, true, true, true, true, false, true, false]) (by kernel_rfl) (fun W => by go_simp) ?_
            refine (HP2.out _).mono ?_
            rintro ee U8 ⟨rfl, hbU⟩
            have hS0 := hS
            have hS : Below w7.heap.size w7 U8 := hS0.trans (hbU.mono hS0.size)
            replace B8 := B8.below hbU
            clear hS0 hbU
            refine ⟨_, rfl, hS, ?_⟩
            simp only [List.setIfInBounds_toArray, List.set_cons_zero, List.set_cons_succ]
            refine M_take 6 44 (.agg #[.pointer p1, .int .i64 (m1 : Int), .pointer p2, .int .i64 (m2 : Int)]) _ rfl rfl (by kernel_rfl) (by kernel_rfl) (by kernel_rfl) (by kernel_rfl) (by kernel_rfl) (fun _ _ _ h => h) (by rfl) (fun w' hw' => ?_) hS (listed' := #[true, true, true, true, true, true, true, true, false]) (by kernel_rfl) rfl ?_
            · go_simp
            simp only [List.setIfInBounds_toArray, List.set_cons_zero, List.set_cons_succ]
            have y0 := (B8.cell 0).trans rfl
            have z0 := B8.froz 0
            have y1 := (B8.cell 1).trans rfl
            have z1 := B8.froz 1
            have y2 := (B8.cell 2).trans rfl
            have z2 := B8.froz 2
            have y3 := (B8.cell 3).trans rfl
            have z3 := B8.froz 3
            have h9 := st4K_blk B8 hS G8 (.pointer p1) (.int .i64 (m1 : Int)) (.pointer p2) (.int .i64 (m2 : Int))
            refine M_store 8 (st4K U8 b8 (.pointer p1) (.int .i64 (m1 : Int)) (.pointer p2) (.int .i64 (m2 : Int))) rfl rfl (by kernel_rfl) (by rfl) (listed' := #[true, true, true, true, true, true, true, true, true]) (by kernel_rfl) (by unfold st4K; go_simp) (by kernel_rfl) ?_
            refine M_done (by kernel_rfl) ?_ _
            clear y0 y1 y2 y3 z0 z1 z2 z3
            have H9 : Hid (Blk (st4K U8 b8 (.pointer p1) (.int .i64 (m1 : Int)) (.pointer p2) (.int .i64 (m2 : Int))) b8 #[.pointer p1, .int .i64 (m1 : Int), .pointer p2, .int .i64 (m2 : Int)] 66 ∧ Below w7.heap.size w7 (st4K U8 b8 (.pointer p1) (.int .i64 (m1 : Int)) (.pointer p2) (.int .i64 (m2 : Int)))) := h9
            clear h9
            go_wp2_with fail
            go_meet
            exact ⟨b8, rfl, H9⟩
        case rest =>
          obtain ⟨b8, rfl, HBC⟩ := hcut
          have hcw : Below w7.heap.size w7 wc := HBC.out.2
          have hbc : Below w.heap.size w wc := hb7.trans (hcw.mono hb7.size)
          have hb8 : b8 < wc.heap.size := HBC.out.1.lt
          have y0 := (HBC.out.1.cell 0).trans rfl
          have y1 := (HBC.out.1.cell 1).trans rfl
          have y2 := (HBC.out.1.cell 2).trans rfl
          have y3 := (HBC.out.1.cell 3).trans rfl
          obtain ⟨m, hlk⟩ : ∃ m, (Instr.lookup 62 (.map (some mb)) (.agg #[.pointer p1, .int .i64 (m1 : Int), .pointer p2, .int .i64 (m2 : Int)]) true).run Try.prog wc = .ok (.tuple #[.agg #[], .bool false]) (wc.drewN m) := by
            have hap := HG.out.apart hbc
            rw [HKEY.out] at hap
            exact look_new uPair zeroEp uArr (fun _ _ => rfl) rfl (fun w e => check_pr w e (p1, m1) (p2, m2)) (HST.out.below hcw) hap
          have HLK : Hid ((Instr.lookup 62 (.map (some mb)) (.agg #[.pointer p1, .int .i64 (m1 : Int), .pointer p2, .int .i64 (m2 : Int)]) true).run Try.prog wc = .ok (.tuple #[.agg #[], .bool false]) (wc.drewN m)) := hlk
          have al10 : Below wc.heap.size wc ((wc.drewN m).alloc (Obj.cells #[] 67)) := (below_drewN m (Below.refl _ _)).alloc (Nat.le_refl _) _
          have HY : Hid (Blk ((wc.drewN m).alloc (Obj.cells #[] 67)) b8 #[.pointer p1, .int .i64 (m1 : Int), .pointer p2, .int .i64 (m2 : Int)] 66) := HBC.out.1.below al10
          have g0 := (HY.out.cell 0).trans rfl
          have g1 := (HY.out.cell 1).trans rfl
          have g2 := (HY.out.cell 2).trans rfl
          have g3 := (HY.out.cell 3).trans rfl
          have hb10 : Below w.heap.size w ((wc.drewN m).alloc (Obj.cells #[] 67)) := hbc.trans (al10.mono hbc.size)
          have hs10 : PlSet ((wc.drewN m).alloc (Obj.cells #[] 67)) mb (S.map prK) := (HST.out.below hcw).below al10
          obtain ⟨w11, r1, r2, r3, r4⟩ : ∃ w', (Instr.mapUpdate 62 (.map (some mb)) (.agg #[.pointer p1, .int .i64 (m1 : Int), .pointer p2, .int .i64 (m2 : Int)]) (.agg #[])).run Try.prog ((wc.drewN m).alloc (Obj.cells #[] 67)) = .ok () w' ∧ PlSet w' mb (S.map prK ++ [.agg #[.pointer p1, .int .i64 (m1 : Int), .pointer p2, .int .i64 (m2 : Int)]]) ∧ Kp (fun q => q = mb) ((wc.drewN m).alloc (Obj.cells #[] 67)) w' ∧ w'.heap.size = ((wc.drewN m).alloc (Obj.cells #[] 67)).heap.size := by
            have hap := HG.out.apart hb10
            rw [HKEY.out] at hap
            exact update_new (E := 67) uPair uArr (fun _ _ => rfl) rfl (fun w e => check_pr w e (p1, m1) (p2, m2)) hs10 hap
          have HUP : Hid ((Instr.mapUpdate 62 (.map (some mb)) (.agg #[.pointer p1, .int .i64 (m1 : Int), .pointer p2, .int .i64 (m2 : Int)]) (.agg #[])).run Try.prog ((wc.drewN m).alloc (Obj.cells #[] 67)) = .ok () w11) := r1
          have HS11 : Hid (PlSet w11 mb ((S ++ [x.key]).map prK)) := by
            show PlSet _ _ _
            rw [List.map_append, List.map_cons, List.map_nil, HKEY.out]
            exact r2
          have hmb : w.heap.size ≤ mb := HMB.out
          have hb11 : Below w.heap.size w w11 := hb10.trans (r3.toBelow hb10.size (fun q e => by rw [e]; exact hmb))
          have hb711 := (HB7.out.below hcw).below al10
          have HB11 : Hid (Blk w11 b7 #[.slice pa N ca, .slice pb N cb] 60) := hb711.kp r3 (fun e => hs10.neB hb711 e)
          have ho10 := own_below (own_below HOW.out hcw) al10
          have HO11 : Hid (w11.ownsRow w.heap.size 60 2 (.slice (some ⟨gl, 0, none⟩) Lk lc) Lk (rowsOf (P2.map Prod.fst))) := own_kpV ho10 r3 (fun q hq e => own_neMap ho10 hs10 (by rw [← e]; exact hq))
          have x0 := (HB11.out.cell 0).trans rfl
          have x1 := (HB11.out.cell 1).trans rfl
          clear hlk r1 r2 r3 r4 hs10 hb711 ho10 hb10 al10 hcw hbc HOW HST HB7 hb7
          have HCM : Hid (Calls Try.prog 24 #[.agg #[.slice pa N ca, .slice pb N cb]] w11 fun e w' => Below w11.heap.size w11 w' ∧ ((OkC x.ea x.eb ∧ ∃ a' c', e = .returned (.tuple #[.slice a' (itsE (x.d - 1) w x.va x.vb x.ea x.eb x.ea.length).length c', .bool true]) ∧ RowG w' (.slice a' (itsE (x.d - 1) w x.va x.vb x.ea x.eb x.ea.length).length c') 2 ((itsE (x.d - 1) w x.va x.vb x.ea x.eb x.ea.length).map It.row)) ∨ (¬ OkC x.ea x.eb ∧ e = .returned (.tuple #[.slice none 0 0, .bool false])))) := by
            show Calls _ _ _ _ _
            have q2 := HG.out.it
            obtain ⟨e1, e2, e3, e4, e5⟩ := HX.out
            have hi := itsE_below (dd := x.d - 1) q2.1 q2.2.1 hb11 x.ea.length
            have h1 := compareS_any x.d (x.d - 1) x.ea x.eb x.va x.vb w11 (RowP.belowE q2.1 hb11) (RowP.belowE q2.2.1 hb11) q2.2.2 (by
              rw [hi]
              have h2 := its_wt HG.out.it
              have h3 := len_wts (itsE (x.d - 1) w x.va x.vb x.ea x.eb x.ea.length)
              have h4 := HW.out
              rw [List.map_append, wts_append] at h4
              simp only [List.map_cons, List.map_nil] at h4
              have hx1 : wts [x] = x.wt := by simp [wts]
              omega)
            rw [e1, e2] at h1
            refine h1.mono ?_
            rintro e w' ⟨h5, h6⟩
            rw [← e1, ← e2, hi] at h6
            refine ⟨h5, h6.imp ?_ id⟩
            rintro ⟨h7, v, rfl, h8⟩
            obtain ⟨a', c', e9, -⟩ := h8.form2
            rw [List.length_map] at e9
            subst e9
            exact ⟨h7, a', c', rfl, h8⟩
          have HIT : Hid ((itsE (x.d - 1) w x.va x.vb x.ea x.eb x.ea.length).length ≤ 500 ∧ Lk ≤ 500) := by
            show _ ∧ _
            have h2 := its_wt HG.out.it
            have h3 := len_wts (itsE (x.d - 1) w x.va x.vb x.ea x.eb x.ea.length)
            have h4 := HW.out
            rw [List.map_append, wts_append] at h4
            simp only [List.map_cons, List.map_nil] at h4
            have hx1 : wts [x] = x.wt := by simp [wts]
            have h5 := len_wts (P2.map Prod.fst)
            rw [List.length_map, HX.out.2.2.2.1] at h5
            omega
          obtain ⟨T, hT⟩ : ∃ z, (itsE (x.d - 1) w x.va x.vb x.ea x.eb x.ea.length) = z := ⟨_, rfl⟩
          have HT : Hid ((itsE (x.d - 1) w x.va x.vb x.ea x.eb x.ea.length) = T) := hT
          rw [hT] at HCM HIT
          clear hT
          obtain ⟨Tl, hTl⟩ : ∃ z, T.length = z := ⟨_, rfl⟩
          have HTl : Hid (T.length = Tl) := hTl
          rw [hTl] at HCM HIT
          clear hTl
          go_wp2_with (first | (at_lookup; refine wpList_lookup_drew rfl _ _ rfl rfl rfl HLK.out ?_) | (at_mapUpdate; refine wpList_update_pl rfl _ _ _ rfl rfl rfl rfl HUP.out ?_) | fail)
          refine HCM.out.mono ?_
          rintro e w12 ⟨hb12, hcmp⟩
          have hbw12 : Below w.heap.size w w12 := hb11.trans (hb12.mono hb11.size)
          have HS12 : Hid (PlSet w12 mb ((S ++ [x.key]).map prK)) := HS11.out.below hb12
          have HO12 : Hid (w12.ownsRow w.heap.size 60 2 (.slice (some ⟨gl, 0, none⟩) Lk lc) Lk (rowsOf (P2.map Prod.fst))) := own_below HO11.out hb12
          clear y0 y1 y2 y3 g0 g1 g2 g3 x0 x1 HY HLK HUP HCM HS11 HO11 HB11 HBC hb11 hb12
          rcases hcmp with ⟨hok, a', c', rfl, hrow⟩ | ⟨hno, rfl⟩
          · have HOK : Hid (OkC x.ea x.eb) := hok
            obtain ⟨v', W13, s1, s2, s3⟩ := run_joinG (w := w12) 61 61 60 2 48 _ Try.underlying61 infoSd rfl (by decide) w.heap.size (.slice (some ⟨gl, 0, none⟩) Lk lc) Lk _ HO12.out (.slice a' Tl c') (T.map It.row) hrow (fun r hr => by obtain ⟨y, _, rfl⟩ := List.mem_map.1 hr; rfl) (fun u hu => by
              obtain ⟨r, hr, hu⟩ := List.mem_flatten.1 hu
              obtain ⟨y, hy, rfl⟩ := List.mem_map.1 hr
              rw [← HT.out] at hy
              obtain ⟨P', g1, g2⟩ := (HG.out.good HOK.out).step HOK.out
              rw [← g1] at hy
              obtain ⟨p, hp, rfl⟩ := List.mem_map.1 hy
              obtain ⟨_, ok, _⟩ := g2.each p (List.mem_append.2 (.inr hp))
              obtain ⟨_, _, f1, _⟩ := RowP.open ok.1
              obtain ⟨_, _, f2, _⟩ := RowP.open ok.2.1
              simp only [It.row, List.mem_cons, List.not_mem_nil, or_false] at hu
              rcases hu with rfl | rfl
              · rw [f1]; rfl
              · rw [f2]; rfl) (by rw [List.length_map, HTl.out]; have := HIT.out; omega) (by decide) hbw12.size
            have HRUN : Hid _ := s1
            have HS13 : PlSet W13 mb ((S ++ [x.key]).map prK) := by
              have hl6 := HS12.out.lt
              have hne := own_neMap HO12.out HS12.out
              obtain ⟨es, c, g1, g2⟩ := HS12.out
              exact ⟨es, c, (s3.block _ hl6 (fun e => hne e.symm)).trans g1, g2⟩
            have hb13 : Below w.heap.size w W13 := hbw12.grown s3 hbw12.size (fun q hq => (own_lt HO12.out hq).1)
            rw [List.length_map, HTl.out] at s2
            obtain ⟨na, nc, hv'⟩ := own_form s2
            subst hv'
            have HJ : Hid (∃ j, SameS b B w mb ea eb (.slice na (Lk + Tl) nc) W13 j ∧ j < k0) := by
              show ∃ j, _
              refine SameS.next HG.out HIF.out HW.out HOK.out HS13 ?_ hb13
              rw [HT.out, HTl.out, HX.out.2.2.2.1]
              exact s2
            clear s1 s2 s3 hrow HS13
            generalize Lk + Tl = Kn at *
            go_wp2_with (first | (at_builtin; refine wpList_ran rfl (append_run rfl rfl rfl HRUN.out) ?_) | fail)
            go_roundw
            case rel => exact ⟨_, _, _, rfl, (by obtain ⟨j, h1, _⟩ := HJ.out; exact ⟨j, h1⟩ : ∃ k, SameS b B w mb ea eb (.slice na Kn nc) W13 k)⟩
            case measure =>
              obtain ⟨j, h1, h2⟩ := HJ.out
              have h3 := (HMU.out _ _ _ ⟨j, h1⟩).2 j h1
              have h4 := HK0.out
              omega
          · have hnp : ¬ PP := fun h => by
              have h1 := HIF.out.1 (HTR.out.1 h).2 (x, bs) (by simp)
              have q2 := HG.out.it
              exact hno ((es_iff (d := 0) (w := w) (va := x.va) (vb := x.vb) q2.2.2).1 h1).1
            go_wp2_with fail
            go_ret
            exact ⟨says_no hnp, hbw12⟩
theorem same_any (b : Bool) (n B : Nat) (ta tb : Tr) (va vb : Value) (w : World) (ha : TrIn (n + 1) w va ta) (hb : TrIn (n + 1) w vb tb) (ho : ∃ bs, TrV (n + 1) B w (if b then vb else va) (if b then tb else ta) bs) (hf : b = true → TrF n w va) (hc : wtE n ta.es ≤ 500) :
    Calls Try.prog 8 #[va, vb] w fun e w' => Says (ta = tb) e ∧ Below w.heap.size w w' :=
  same_all b n B ta tb va vb w ha hb (fun _ => .inl (by obtain ⟨bs, h⟩ := ho; exact ⟨bs, h, hf⟩)) hc
end Go.Proofs.Ytgedelgdjcnogab

/- ValueLeaves answers true at every number and text. -/
import Derived.Test.YtkombjmookplpabVaTree
import Derived.Test.YtkombjmookplpabTvRSame
namespace Go.Proofs.Ytkombjmookplpab
open Go.ChangeShapes Go.WideShapes Go.ChangeAt Go.RowKit
set_option linter.unusedVariables false
set_option linter.unusedSimpArgs false
set_option maxRecDepth 20000

theorem keep3 {w w' : World} {a b c : Addr} {x y z : Value} (h : Below w.heap.size w w') (h1 : w.cell? a = some x) (h2 : w.cell? b = some y) (h3 : w.cell? c = some z) : w'.cell? a = some x ∧ w'.cell? b = some y ∧ w'.cell? c = some z :=
  ⟨(h.cell (World.block_lt_of_cell? _ _ h1)).trans h1, (h.cell (World.block_lt_of_cell? _ _ h2)).trans h2, (h.cell (World.block_lt_of_cell? _ _ h3)).trans h3⟩
theorem leafN_in (n : Int) (w : World) (hn : Is64 n) : TrIn 1 w (trNum n) ⟨1, n, ⟨#[]⟩, [], []⟩ :=
  ⟨_, rfl, _, _, rfl, (⟨by decide, by decide⟩ : Is64 1), hn, Nat.zero_le _, by simp, RowG.nil w 4, RowP.nil _ w 2⟩
theorem leafS_in (s : ByteArray) (w : World) (hs : s.size ≤ 140737488351232) : TrIn 1 w (trStr s) ⟨2, 0, s, [], []⟩ :=
  ⟨_, rfl, _, _, rfl, (⟨by decide, by decide⟩ : Is64 2), (⟨by decide, by decide⟩ : Is64 0), hs, by simp, RowG.nil w 4, RowP.nil _ w 2⟩

set_option maxHeartbeats 4000000 in
theorem valueLeaves_walk (n : Int) (s : ByteArray) (hn : (Lit.int .i64 n).wf = true) (hs : s.size ≤ 140737488351232) (w : World) :
    Calls Try.prog 4 #[.int .i64 n, .string s] w fun e w' => e = .returned (.bool true) ∧ Below w.heap.size w w' := by
  have HN : Hid (Is64 n) := bounds_i64 hn
  have HS : Hid (s.size ≤ 140737488351232) := hs
  clear hn hs
  go_enter Try.func4, Try.ntmps4
  go_wp2_with fail
  refine (num_any n _).mono ?_
  rintro e w1 ⟨rfl, h1⟩
  go_wp2_with fail
  refine (str_any s _).mono ?_
  rintro e w2 ⟨rfl, h2⟩
  have hb : Below w.heap.size w w2 := h1.trans (h2.mono h1.size)
  clear h1 h2
  go_wp2_with fail
  refine (asNum_yes _ _).mono ?_
  rintro e w3 ⟨rfl, h3⟩
  have hb3 : Below w.heap.size w w3 := (((hb.alloc hb.size _).alloc (by have := hb.size; simp; omega) _).alloc (by have := hb.size; simp; omega) _).trans (h3.mono (by have := hb.size; simp; omega))
  have c1 : w3.cell? ⟨w2.heap.size, 0, none⟩ = some (.iface 71 (.int .i64 n)) := by rw [h3.cell (p := ⟨w2.heap.size, 0, none⟩) (by simp; omega)]; simp [go_sem]
  have c2 : w3.cell? ⟨w2.heap.size + 1, 0, none⟩ = some (.iface 72 (.string s)) := by rw [h3.cell (p := ⟨w2.heap.size + 1, 0, none⟩) (by simp)]; simp [go_sem]
  have c3 : w3.cell? ⟨w2.heap.size + 2, 0, none⟩ = some .nilIface := by rw [h3.cell (p := ⟨w2.heap.size + 2, 0, none⟩) (by simp)]; simp [go_sem]
  clear h3 hb
  generalize w2.heap.size + 2 = g3 at *
  generalize w2.heap.size + 1 = g2 at *
  generalize w2.heap.size = g1 at *
  go_wp2_with fail
  refine (asStr_yes _ _).mono ?_
  rintro e w4 ⟨rfl, hx⟩
  have hb4 : Below w.heap.size w w4 := hb3.trans (hx.mono hb3.size)
  replace c1 := (keep3 hx c1 c2 c3)
  obtain ⟨c1, c2, c3⟩ := c1
  clear hx hb3
  go_wp2_with fail
  refine (asNum_no .nilIface _ (.inl rfl)).mono ?_
  rintro e w5 ⟨rfl, hx⟩
  have hb5 : Below w.heap.size w w5 := hb4.trans (hx.mono hb4.size)
  replace c1 := (keep3 hx c1 c2 c3)
  obtain ⟨c1, c2, c3⟩ := c1
  clear hx hb4
  go_wp2_with fail
  refine (asStr_no .nilIface _ (.inl rfl)).mono ?_
  rintro e w6 ⟨rfl, hx⟩
  have hb6 : Below w.heap.size w w6 := hb5.trans (hx.mono hb5.size)
  replace c1 := (keep3 hx c1 c2 c3)
  obtain ⟨c1, c2, c3⟩ := c1
  clear hx hb5
  go_wp2_with fail
  refine (asNode_no .nilIface _ (.inl rfl)).mono ?_
  rintro e w7 ⟨rfl, hx⟩
  have hb7 : Below w.heap.size w w7 := hb6.trans (hx.mono hb6.size)
  replace c1 := (keep3 hx c1 c2 c3)
  obtain ⟨c1, c2, c3⟩ := c1
  clear hx hb6
  go_wp2_with fail
  refine (mustNum_yes _ _).mono ?_
  rintro e w8 ⟨rfl, hx⟩
  have hb8 : Below w.heap.size w w8 := hb7.trans (hx.mono hb7.size)
  replace c1 := (keep3 hx c1 c2 c3)
  obtain ⟨c1, c2, c3⟩ := c1
  clear hx hb7
  go_wp2_with fail
  refine (mustStr_yes _ _).mono ?_
  rintro e w9 ⟨rfl, hx⟩
  have hb9 : Below w.heap.size w w9 := hb8.trans (hx.mono hb8.size)
  replace c1 := (keep3 hx c1 c2 c3)
  obtain ⟨c1, c2, c3⟩ := c1
  clear hx hb8
  go_wp2_with fail
  refine (panics_yes (.nilIface) 0 _ (.inl rfl) fun W => mustNum_no _ W (.inl rfl)).mono ?_
  rintro e w10 ⟨rfl, hx⟩
  have hb10 : Below w.heap.size w w10 := hb9.trans (hx.mono hb9.size)
  replace c1 := (keep3 hx c1 c2 c3)
  obtain ⟨c1, c2, c3⟩ := c1
  clear hx hb9
  go_wp2_with fail
  refine (panics_yes (.nilIface) 1 _ (.inr (.inl rfl)) fun W => mustStr_no _ W (.inl rfl)).mono ?_
  rintro e w11 ⟨rfl, hx⟩
  have hb11 : Below w.heap.size w w11 := hb10.trans (hx.mono hb10.size)
  replace c1 := (keep3 hx c1 c2 c3)
  obtain ⟨c1, c2, c3⟩ := c1
  clear hx hb10
  go_wp2_with fail
  refine (panics_yes (.nilIface) 2 _ (.inr (.inr rfl)) fun W => mustNode_no _ W (.inl rfl)).mono ?_
  rintro e w12 ⟨rfl, hx⟩
  have hb12 : Below w.heap.size w w12 := hb11.trans (hx.mono hb11.size)
  replace c1 := (keep3 hx c1 c2 c3)
  obtain ⟨c1, c2, c3⟩ := c1
  clear hx hb11
  go_wp2_with fail
  refine (panics_yes (.iface 71 (.int .i64 n)) 1 _ (.inr (.inl rfl)) fun W => mustStr_no _ W (.inr ⟨_, _, rfl, by decide⟩)).mono ?_
  rintro e w13 ⟨rfl, hx⟩
  have hb13 : Below w.heap.size w w13 := hb12.trans (hx.mono hb12.size)
  replace c1 := (keep3 hx c1 c2 c3)
  obtain ⟨c1, c2, c3⟩ := c1
  clear hx hb12
  go_wp2_with fail
  refine (panics_yes (.iface 71 (.int .i64 n)) 2 _ (.inr (.inr rfl)) fun W => mustNode_no _ W (.inr ⟨_, _, rfl, by decide⟩)).mono ?_
  rintro e w14 ⟨rfl, hx⟩
  have hb14 : Below w.heap.size w w14 := hb13.trans (hx.mono hb13.size)
  replace c1 := (keep3 hx c1 c2 c3)
  obtain ⟨c1, c2, c3⟩ := c1
  clear hx hb13
  go_wp2_with fail
  refine (panics_yes (.iface 72 (.string s)) 0 _ (.inl rfl) fun W => mustNum_no _ W (.inr ⟨_, _, rfl, by decide⟩)).mono ?_
  rintro e w15 ⟨rfl, hx⟩
  have hb15 : Below w.heap.size w w15 := hb14.trans (hx.mono hb14.size)
  replace c1 := (keep3 hx c1 c2 c3)
  obtain ⟨c1, c2, c3⟩ := c1
  clear hx hb14
  go_wp2_with fail
  refine (panics_yes (.iface 72 (.string s)) 2 _ (.inr (.inr rfl)) fun W => mustNode_no _ W (.inr ⟨_, _, rfl, by decide⟩)).mono ?_
  rintro e w16 ⟨rfl, hx⟩
  have hb16 : Below w.heap.size w w16 := hb15.trans (hx.mono hb15.size)
  replace c1 := (keep3 hx c1 c2 c3)
  obtain ⟨c1, c2, c3⟩ := c1
  clear hx hb15
  go_wp2_with fail
  refine (treeNum n _).mono ?_
  rintro e w17 ⟨rfl, hx⟩
  have hb17 : Below w.heap.size w w17 := hb16.trans (hx.mono hb16.size)
  replace c1 := (keep3 hx c1 c2 c3)
  obtain ⟨c1, c2, c3⟩ := c1
  clear hx hb16
  go_wp2_with fail
  refine (rsame_any 1 1 _ _ _ _ _ (leafN_in n _ HN.out) (leafN_in n _ HN.out)).mono ?_
  rintro e w18 ⟨⟨R, rfl, hR⟩, hx⟩
  obtain rfl : R = true := hR.2 rfl
  clear hR
  have hb18 : Below w.heap.size w w18 := hb17.trans (hx.mono hb17.size)
  replace c1 := (keep3 hx c1 c2 c3)
  obtain ⟨c1, c2, c3⟩ := c1
  clear hx hb17
  go_wp2_with fail
  refine (treeStr s _).mono ?_
  rintro e w19 ⟨rfl, hx⟩
  have hb19 : Below w.heap.size w w19 := hb18.trans (hx.mono hb18.size)
  replace c1 := (keep3 hx c1 c2 c3)
  obtain ⟨c1, c2, c3⟩ := c1
  clear hx hb18
  go_wp2_with fail
  refine (rsame_any 1 1 _ _ _ _ _ (leafS_in s _ HS.out) (leafS_in s _ HS.out)).mono ?_
  rintro e w20 ⟨⟨R, rfl, hR⟩, hx⟩
  obtain rfl : R = true := hR.2 rfl
  clear hR
  have hb20 : Below w.heap.size w w20 := hb19.trans (hx.mono hb19.size)
  replace c1 := (keep3 hx c1 c2 c3)
  obtain ⟨c1, c2, c3⟩ := c1
  clear hx hb19
  go_wp2_with fail
  refine (awake_any _).mono ?_
  rintro e w21 ⟨rfl, hx⟩
  have hb21 : Below w.heap.size w w21 := hb20.trans (hx.mono hb20.size)
  replace c1 := (keep3 hx c1 c2 c3)
  obtain ⟨c1, c2, c3⟩ := c1
  clear hx hb20
  go_wp2_with fail
  go_ret
  exact ⟨rfl, hb21⟩
end Go.Proofs.Ytkombjmookplpab

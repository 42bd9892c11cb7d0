/- LexPlaces answers true at every text. -/
import Derived.Test.YtdaaijhanhmddaaLxUse
namespace Go.Proofs.Ytdaaijhanhmddaa
open Go.ChangeShapes Go.WideShapes Go.ChangeAt Go.RowKit
set_option linter.unusedVariables false
set_option linter.unusedSimpArgs false
set_option maxRecDepth 20000

set_option maxHeartbeats 4000000 in
theorem places_no (s : ByteArray) (w : World) (hs : s.size ≤ 3000) (p e : Nat) (hT : tokA s = ([], p, e)) (he : e = 9 ∨ e = 5) :
    Calls Try.prog 4 #[.string s] w fun e w' => e = .returned (.bool true) ∧ Below w.heap.size w w' := by
  have HC1 : Hid (∀ W : World, Calls Try.prog 9 #[.string s] W fun x w' => ∃ v, x = .returned (.tuple #[v, .int .i64 (p : Int), .int .i64 (e : Int)]) ∧ RowT w' v [] ∧ Below W.heap.size W w') := fun W => tokens_row s W (by omega) [] p e hT
  have hd : decide (3000 < (s.size : Int)) = false := by simp; omega
  have hne : ((e : Int) != 0) = true := by simp; omega
  clear hT he
  go_enter Try.func4, Try.ntmps4
  go_wp2_with fail
  refine (HC1.out _).mono ?_
  rintro x w1 ⟨v1, rfl, hr1, hb1⟩
  obtain ⟨a1, c1, rfl, h12, h13, h14, h15⟩ := hr1.form
  clear h14 h15 hr1 h12 h13
  go_wp2_with fail
  refine (lawake_any _).mono ?_
  rintro x w2 ⟨rfl, hb2⟩
  go_wp2_with fail
  go_ret
  exact ⟨rfl, hb1.trans (hb2.mono hb1.size)⟩

set_option maxHeartbeats 4000000 in
theorem places_ok (s : ByteArray) (w : World) (hs : s.size ≤ 3000) (ts : List Tk) (hT : lexO s.data.toList 0 = .inr ts) :
    Calls Try.prog 4 #[.string s] w fun e w' => e = .returned (.bool true) ∧ Below w.heap.size w w' := by
  have HC1 : Hid (∀ W : World, Calls Try.prog 9 #[.string s] W fun x w' => ∃ v, x = .returned (.tuple #[v, .int .i64 ((0 : Nat) : Int), .int .i64 ((0 : Nat) : Int)]) ∧ RowT w' v ts ∧ Below W.heap.size W w') := fun W => tokens_row s W (by omega) ts 0 0 (tokA_ok (by omega) hT)
  have hd : decide (3000 < (s.size : Int)) = false := by simp; omega
  have hl := lex_len hT
  rw [len_data] at hl
  have HT : Hid (lexO s.data.toList 0 = .inr ts) := hT
  clear hT
  go_enter Try.func4, Try.ntmps4
  go_wp2_with fail
  refine (HC1.out _).mono ?_
  rintro x w1 ⟨v1, rfl, hr1, hb1⟩
  obtain ⟨a1, c1, rfl, h12, h13, h14, h15⟩ := hr1.form
  have HA1 : Hid (ts ≠ [] → ∃ g, a1 = some ⟨g, 0, none⟩) := h14
  have HH1 : Hid (HoldsT w1 a1 ts) := h15
  unfold maxLen at h13
  obtain ⟨N, hN⟩ : ∃ N, ts.length = N := ⟨_, rfl⟩
  rw [hN] at h12 hl ⊢
  have HN : Hid (ts.length = N) := hN
  clear hN h14 h15 hr1 HC1
  go_wp2_with fail
  go_loopw [6, 7] (fun ev iv wr => ∃ i E : Nat, iv = .int .i64 (i : Int) ∧ ev = .int .i64 (E : Int) ∧ i ≤ N ∧ Hid (endOf (ts.take i) = E) ∧ Below w1.heap.size w1 wr) (fun _ iv _ => N - (intOf iv).toNat)
  case atStart => exact ⟨0, 0, rfl, rfl, by omega, rfl, Below.refl _ _⟩
  case round =>
    obtain ⟨i, E, rfl, rfl, hi, HE, hbel⟩ := hrel
    by_cases hlt : i < N
    · have hr : ts[i]? = some (ts[i]'(by rw [HN.out]; exact hlt)) := List.getElem?_eq_getElem _
      generalize ts[i]'(by rw [HN.out]; exact hlt) = r at hr
      have hne : ts ≠ [] := by intro e; have := HN.out; rw [e] at this; simp at this; omega
      obtain ⟨g1, rfl⟩ := HA1.out hne
      obtain ⟨p0, p1, p2⟩ := (HH1.out.below hbel).at0 hr
      obtain ⟨f1, f2, f3, f4, f5, _, _, _⟩ := piece_at HT.out hr
      rw [HE.out] at f1
      rw [len_data] at f2
      have f6 := piece_bytes f4
      rw [← Tk.size] at f2 f3 f5
      have HC2 : Hid (∀ W : World, Calls Try.prog 9 #[.string (s.extract E r.pos)] W fun x w' => ∃ v, x = .returned (.tuple #[v, .int .i64 ((0 : Nat) : Int), .int .i64 ((0 : Nat) : Int)]) ∧ RowT w' v [] ∧ Below W.heap.size W w') := fun W => by
        refine tokens_row _ W (by rw [ByteArray.size_extract]; omega) [] 0 0 ?_
        rw [f1]; exact tokA_gap s E _ (by omega) rfl
      have HE2 : Hid (endOf (ts.take (i + 1)) = r.pos + r.bytes.size) := f5
      have hEp : E ≤ r.pos := by omega
      clear f1 f4 f5 hr hne
      generalize r.bytes = B at *
      generalize r.kind = K at *
      generalize r.pos = P at *
      have hsl1 : ∀ W : World, (Instr.slice 9 (.string s) (some (.int .i64 (P : Int))) (some (.int .i64 ((P : Int) + (B.size : Int)))) none).run Try.prog W = .ok (.string B) W := fun W => by
        have := slice_text W s P (P + B.size) (by omega) (by omega)
        rwa [f6, Int.natCast_add] at this
      have hsl2 : ∀ W : World, (Instr.slice 9 (.string s) (some (.int .i64 (E : Int))) (some (.int .i64 (P : Int))) none).run Try.prog W = .ok (.string (s.extract E P)) W := fun W => slice_text W s E P (by omega) (by omega)
      have t1 : decide (P < E) = false := by simp; omega
      have t2 : (B.toList == ([] : List UInt8)) = false := by
        rw [beq_eq_false_iff_ne, ByteArray.toList_eq]
        intro e
        have := congrArg List.length e
        rw [len_data, List.length_nil] at this; omega
      have t3 : decide ((s.size : Int) - (P : Int) < (B.size : Int)) = false := by simp; omega
      clear f6
      go_wp2_with fail
      go_quiet (fail)
      obtain ⟨w2, hw2⟩ : ∃ w2, w2 = (wr.alloc (Obj.cells #[.int .i64 (K : Int), .string B, .int .i64 (P : Int)] 27)).drewN nq := ⟨_, rfl⟩
      have hbn : Below w1.heap.size w1 w2 := by rw [hw2]; exact below_drewN nq (hbel.alloc hbel.size _)
      have hc1 : w2.cell? ⟨wr.heap.size, 1, none⟩ = some (.string B) := by rw [hw2]; exact World.cell?_alloc_at _ _ _ _ rfl
      have hc2 : w2.cell? ⟨wr.heap.size, 2, none⟩ = some (.int .i64 (P : Int)) := by rw [hw2]; exact World.cell?_alloc_at _ _ _ _ rfl
      rw [← hw2]
      clear p0 p1 p2 hw2 hbel t1 t2 t3 hsl1
      generalize wr.heap.size = G at *
      go_wp2_with fail
      refine (HC2.out _).mono ?_
      rintro x w3 ⟨v3, rfl, hr3, hb3⟩
      have hd1 : w3.cell? ⟨G, 1, none⟩ = some (.string B) := by rw [hb3.cell (World.block_lt_of_cell? _ _ hc1)]; exact hc1
      have hd2 : w3.cell? ⟨G, 2, none⟩ = some (.int .i64 (P : Int)) := by rw [hb3.cell (World.block_lt_of_cell? _ _ hc2)]; exact hc2
      have hbn3 : Below w1.heap.size w1 w3 := hbn.trans (hb3.mono hbn.size)
      obtain ⟨a3, c3, rfl, h32, h33, h34, h35⟩ := hr3.form
      clear h32 h33 h34 h35 hr3 hb3 hbn hc1 hc2
      go_wp2_with fail
      go_roundw
      case rel => exact ⟨i + 1, P + B.size, by go_num, by go_num, by omega, HE2, hbn3⟩
      case measure => simp [intOf]; omega
    · have hbb2 : Below w.heap.size w wr := hb1.trans (hbel.mono hb1.size)
      clear hbel
      go_wp2_with fail
      refine (lawake_any _).mono ?_
      rintro x w5 ⟨rfl, hb5⟩
      go_wp2_with fail
      go_ret
      exact ⟨rfl, hbb2.trans (hb5.mono hbb2.size)⟩

set_option maxHeartbeats 1000000 in
theorem lexPlaces_walk (s : ByteArray) (hs : s.size ≤ 140737488351232) (w : World) :
    Calls Try.prog 4 #[.string s] w fun e w' => e = .returned (.bool true) ∧ Below w.heap.size w w' := by
  by_cases hbig : 3000 < s.size
  · have hd : decide (3000 < (s.size : Int)) = true := by simp; omega
    go_enter Try.func4, Try.ntmps4
    go_wp2_with fail
    refine (lawake_any _).mono ?_
    rintro x w1 ⟨rfl, hb1⟩
    go_wp2_with fail
    go_ret
    exact ⟨rfl, hb1⟩
  · cases e : lexO s.data.toList 0 with
    | inl x =>
      obtain ⟨p, er⟩ := x
      exact places_no s w (by omega) p er (tokA_no (by omega) e) (lex_err e).1
    | inr ts => exact places_ok s w (by omega) ts e
end Go.Proofs.Ytdaaijhanhmddaa

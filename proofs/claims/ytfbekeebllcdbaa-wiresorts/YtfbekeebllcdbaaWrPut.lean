/- What Put answers: a field behind any bytes; and that the statements are awake. -/
import Derived.Test.YtfbekeebllcdbaaWrLeaf
import Derived.Deep.DeepAppendWide
namespace Go.Proofs.Ytfbekeebllcdbaa
open Go.ChangeShapes Go.WideShapes Go.ChangeAt Go.RowKit
set_option linter.unusedVariables false
set_option linter.unusedSimpArgs false
set_option maxRecDepth 20000

/-- Bytes appended behind bytes without room. -/
theorem run_full (w : World) (ao : Option Addr) (ns ms : List Nat) (n m c : Nat) (ad : Addr) (ty : TypeId) (hn : ns.length = n) (hm : ms.length = m) (hao : ao = none → ns = []) (hh : Holds w ao ns) (hh2 : Holds w (some ad) ms) (h0 : 0 < m) (hb : n + m ≤ 200000000000000) :
    ∃ v' w', (Builtin.append_ #[22, 22] ty #[.slice ao n n, .slice (some ad) m c]).run Try.prog w = .ok v' w' ∧ w'.ownsRow w.heap.size 5 1 v' (ns ++ ms).length (byteCells (ns ++ ms)) ∧ w.grownBy w' none := by
  obtain ⟨i0, hi, hz0, hz1, hz2⟩ := info_parts infoByte
  subst hn hm
  cases ao with
  | none =>
    obtain rfl := hao rfl
    obtain ⟨v', w', hr, h1, h2, _⟩ := run_append_own_wide (P := Try.prog) w w.heap.size 22 ty 5 i0 (.int .u8 0) 1 1 Try.underlying22 hi hz0 hz1 hz2 rfl (by decide) (.slice none 0 0) 0 [] (World.ownsRow_nil _ _ _ _) ad ms.length c (byteCells ms) (by rw [byteCells_len]; omega) (hh2 ad rfl) (byteCells_one ms) (by unfold maxLen; simp at hb; omega) (by simp at hb ⊢; omega) (Nat.le_refl _)
    refine ⟨v', w', hr, ?_, h2⟩
    rw [List.nil_append]
    simpa using h1
  | some b =>
    have h63 : ns.length + ms.length ≤ maxLen := by unfold maxLen; omega
    have hlen : (byteCells (ns ++ ms)).length = (ns.length + ms.length) * 1 := by rw [byteCells_len, List.length_append, Nat.mul_one]
    have hge := grownCap_ge w (ns.length + ms.length) ns.length 5
    have hcm : grownCap w (ns.length + ms.length) ns.length 5 ≤ maxLen := grownCap_le_maxLen w _ _ _ h63
    have hr := run_append_grow (P := Try.prog) w 22 ty 5 i0 (.int .u8 0) Try.underlying22 hi hz0 b ns.length ns.length (byteCells ns) (by rw [byteCells_len, hz1]; omega) (hh b rfl) ad ms.length c (byteCells ms) (by rw [byteCells_len, hz1]; omega) (hh2 ad rfl) (by omega) (by omega) (growslice_fits_wide (by omega) (by rw [hz2]; omega))
    refine ⟨_, _, hr, ⟨by rw [hlen, List.length_append], .inr ⟨w.heap.size, _, _, by rw [List.length_append], Nat.le_refl _, heap_alloc_new w.drew _, by rw [List.length_append]; exact hge, hcm, ?_, ?_⟩⟩, ⟨rfl, rfl, rfl, by simp, fun k hk _ => heap_alloc_old w.drew _ hk⟩⟩
    · have hz : (Value.int IntKind.u8 0).cells.size = 1 := rfl
      simp only [Array.size_append, List.size_toArray, size_zeroCells, hz, byteCells_len]
      omega
    · simp only [Array.toList_append, List.append_assoc]
      rw [← List.append_assoc, ← byteCells_app, List.length_append, ← hlen]
      exact List.take_left

theorem wpList_full {w : World} {ops : Array Oper} {rest : List Oper} {o : Oper} {a : Act} {Q : Exit → Act → World → Prop} (hgd : o.guard = none) (s x : Operand)
    (ho : o.op = .call { callee := .builtin .append, args := #[s, x], argTypes := #[22, 22] }) (ao : Option Addr) (ns ms : List Nat) (n m c : Nat) (ad : Addr) (hs : a.eval s = .slice ao n n) (hx : a.eval x = .slice (some ad) m c)
    (hn : ns.length = n) (hm : ms.length = m) (hao : ao = none → ns = []) (hh : Holds w ao ns) (hh2 : Holds w (some ad) ms) (h0 : 0 < m) (hb : n + m ≤ 200000000000000)
    (h : ∀ v' w', w'.ownsRow w.heap.size 5 1 v' (ns ++ ms).length (byteCells (ns ++ ms)) → w.grownBy w' none → wpList Try.prog ops Q rest (a.put o.dst v') w') : wpList Try.prog ops Q (o :: rest) a w := by
  obtain ⟨v', w', hr, h1, h2⟩ := run_full w ao ns ms n m c ad o.type hn hm hao hh hh2 h0 hb
  refine wpList_plain hgd fun K hK => ?_
  unfold Oper.wp
  rw [append_run ho hs hx hr]
  exact hK _ _ (h v' w' h1 h2)

set_option maxHeartbeats 2000000 in
theorem wput_no (t k n : Int) (b : ByteArray) (a : Option Addr) (N cap : Nat) (w : World) (hno : okV t k n b = false) (ha : a = none → N = 0 ∧ cap = 0) (hc : N ≤ cap) (hm : cap ≤ maxLen) :
    Calls Try.prog 11 #[.slice a N cap, .agg #[.int .i64 t, .int .i64 k, .int .i64 n, .string b]] w fun e w' => e = .returned (.tuple #[.slice a N N, .bool false]) ∧ Below w.heap.size w w' := by
  unfold maxLen at hm
  have HA : Hid (a = none → N = 0 ∧ cap = 0) := ha
  clear ha
  by_cases hc0 : cap = 0
  · subst hc0
    obtain rfl : N = 0 := by omega
    go_enter Try.func11, Try.ntmps11
    go_wp2_with fail
    refine (checkV_any t k n b _).mono ?_
    rintro e w1 ⟨rfl, hb⟩
    rw [hno]
    have HB : Hid (Below w.heap.size w w1) := (below_one w _).trans (hb.mono (by simp))
    clear hb
    go_wp2_with fail
    go_ret2
    exact ⟨rfl, HB.out⟩
  · cases a with
    | none => exact absurd (HA.out rfl).2 hc0
    | some ad =>
    go_enter Try.func11, Try.ntmps11
    go_wp2_with fail
    all_goals
      refine (checkV_any t k n b _).mono ?_
      rintro e w1 ⟨rfl, hb⟩
      rw [hno]
      have HB : Hid (Below w.heap.size w w1) := (below_one w _).trans (hb.mono (by simp))
      clear hb
      go_wp2_with fail
      go_ret2
      exact ⟨rfl, HB.out⟩

theorem okV_of {r : Fd} (h : okF r = true) : okV r.tag r.wire r.n r.b = true := h

set_option maxHeartbeats 4000000 in
theorem wput_ok (r : Fd) (a : Option Addr) (ns : List Nat) (N cap : Nat) (w : World) (hr : okF r = true) (hn : Is64 r.n) (hN : ns.length = N) (ha : a = none → ns = [] ∧ cap = 0) (hc : N ≤ cap) (hm : cap ≤ maxLen) (hl : N ≤ 140737488355328) (hh : Holds w a ns) :
    Calls Try.prog 11 #[.slice a N cap, .agg #[.int .i64 r.tag, .int .i64 r.wire, .int .i64 r.n, .string r.b]] w fun e w' => ∃ v, e = .returned (.tuple #[v, .bool true]) ∧
      w'.ownsRow w.heap.size 5 1 v (ns ++ fieldN r).length (byteCells (ns ++ fieldN r)) ∧ Below w.heap.size w w' := by
  unfold maxLen at hm
  have HA : Hid (a = none → ns = [] ∧ cap = 0) := ha
  have HH : Hid (Holds w a ns) := hh
  have HN : Hid (ns.length = N) := hN
  have HL := fieldN_len hr hn
  have HF : Hid (∀ W, Calls Try.prog 27 #[.agg #[.int .i64 r.tag, .int .i64 r.wire, .int .i64 r.n, .string r.b]] W fun e w' => ∃ v, e = .returned v ∧ w'.ownsRow W.heap.size 5 1 v (fieldN r).length (byteCells (fieldN r)) ∧ Below W.heap.size W w') := fun W => field_any r W hr hn
  have hok := okV_of hr
  obtain ⟨t, k, n, b⟩ := r
  simp only at hok HF hn ⊢
  generalize fieldN ⟨t, k, n, b⟩ = fs at *
  obtain ⟨R, hR⟩ : ∃ R, ns ++ fs = R := ⟨_, rfl⟩
  have HR : Hid (ns ++ fs = R) := hR
  rw [hR]
  clear ha hh hN hR hr
  by_cases hc0 : cap = 0
  · subst hc0
    obtain rfl : N = 0 := by omega
    go_enter Try.func11, Try.ntmps11
    go_wp2_with fail
    refine (checkV_any t k n b _).mono ?_
    rintro e w1 ⟨rfl, hb⟩
    rw [hok]
    have hcs : ∀ j v, [Value.int .i64 t, .int .i64 k, .int .i64 n, .string b][j]? = some v → w1.cell? ⟨w.heap.size, j, none⟩ = some v := by
      intro j v hj; rw [hb.cell (by simp)]; simpa using hj
    have c0 := hcs 0 _ rfl
    have c1 := hcs 1 _ rfl
    have c2 := hcs 2 _ rfl
    have c3 := hcs 3 _ rfl
    have HB : Hid (Below w.heap.size w w1) := (below_one w _).trans (hb.mono (by simp))
    clear hb hcs
    go_wp2_with fail
    refine (HF.out _).mono ?_
    rintro e w2 ⟨v, rfl, ho, hb2⟩
    have HB2 : Hid (Below w.heap.size w w2) := HB.out.trans (hb2.mono HB.out.size)
    obtain ⟨a2, cap2, rfl, _, h1 | ⟨g2, rfl, h2, h3⟩, h4, h5, h6⟩ := own_open ho
    · exact absurd h1.2.1 (by rintro rfl; simp at HL)
    obtain ⟨M, hM⟩ : ∃ M, fs.length = M := ⟨_, rfl⟩
    have HM : Hid (fs.length = M) := hM
    rw [hM] at HL ⊢
    have HH2 : Hid (Holds w2 (some ⟨g2, 0, none⟩) fs) := h6
    clear ho hb2 HB h4 h5 h6 hM
    go_wp2_with (first
      | (at_builtin; refine wpList_full rfl _ _ rfl _ ns fs _ M cap2 ⟨g2, 0, none⟩ rfl rfl HN.out HM.out (fun h => (HA.out h).1) (HH.out.below HB2.out) HH2.out ?c1 ?c2 ?_)
      | fail)
    case c1 => omega
    case c2 => omega
    intro v' w3 ho3 hg3
    have HB3 : Hid (Below w.heap.size w w3) := HB2.out.grown hg3 HB2.out.size (fun k hk => by cases hk)
    have HO3 : Hid (w3.ownsRow w.heap.size 5 1 v' R.length (byteCells R)) := by
      show World.ownsRow _ _ _ _ _ _ _
      have e : ns.length + fs.length = R.length := by rw [← HR.out, List.length_append]
      rw [HR.out, e] at ho3
      exact own_mono ho3 HB2.out.size
    clear ho3 hg3
    go_wp2_with fail
    go_ret2
    exact ⟨_, rfl, HO3.out, HB3.out⟩
  · cases a with
    | none => exact absurd (HA.out rfl).2 hc0
    | some ad =>
    go_enter Try.func11, Try.ntmps11
    go_wp2_with fail
    refine (checkV_any t k n b _).mono ?_
    rintro e w1 ⟨rfl, hb⟩
    rw [hok]
    have hcs : ∀ j v, [Value.int .i64 t, .int .i64 k, .int .i64 n, .string b][j]? = some v → w1.cell? ⟨w.heap.size, j, none⟩ = some v := by
      intro j v hj; rw [hb.cell (by simp)]; simpa using hj
    have c0 := hcs 0 _ rfl
    have c1 := hcs 1 _ rfl
    have c2 := hcs 2 _ rfl
    have c3 := hcs 3 _ rfl
    have HB : Hid (Below w.heap.size w w1) := (below_one w _).trans (hb.mono (by simp))
    clear hb hcs
    go_wp2_with fail
    refine (HF.out _).mono ?_
    rintro e w2 ⟨v, rfl, ho, hb2⟩
    have HB2 : Hid (Below w.heap.size w w2) := HB.out.trans (hb2.mono HB.out.size)
    obtain ⟨a2, cap2, rfl, _, h1 | ⟨g2, rfl, h2, h3⟩, h4, h5, h6⟩ := own_open ho
    · exact absurd h1.2.1 (by rintro rfl; simp at HL)
    obtain ⟨M, hM⟩ : ∃ M, fs.length = M := ⟨_, rfl⟩
    have HM : Hid (fs.length = M) := hM
    rw [hM] at HL ⊢
    have HH2 : Hid (Holds w2 (some ⟨g2, 0, none⟩) fs) := h6
    clear ho hb2 HB h4 h5 h6 hM
    go_wp2_with (first
      | (at_builtin; refine wpList_full rfl _ _ rfl _ ns fs _ M cap2 ⟨g2, 0, none⟩ rfl rfl HN.out HM.out (fun h => (HA.out h).1) (HH.out.below HB2.out) HH2.out ?c1 ?c2 ?_)
      | fail)
    case c1 => omega
    case c2 => omega
    intro v' w3 ho3 hg3
    have HB3 : Hid (Below w.heap.size w w3) := HB2.out.grown hg3 HB2.out.size (fun k hk => by cases hk)
    have HO3 : Hid (w3.ownsRow w.heap.size 5 1 v' R.length (byteCells R)) := by
      show World.ownsRow _ _ _ _ _ _ _
      have e : ns.length + fs.length = R.length := by rw [← HR.out, List.length_append]
      rw [HR.out, e] at ho3
      exact own_mono ho3 HB2.out.size
    clear ho3 hg3
    go_wp2_with fail
    go_ret2
    exact ⟨_, rfl, HO3.out, HB3.out⟩

theorem field_first : fieldN ⟨1, 0, -1, ⟨#[]⟩⟩ = [2, 1] := by
  have h := fieldN_num 1 (-1) ⟨#[]⟩
  rw [show (zigN (-1)).toNat = 1 from by decide, digs_small (by decide), digs_small (by decide)] at h
  exact h

theorem ok_first : okF ⟨1, 0, -1, ⟨#[]⟩⟩ = true := by
  unfold okF okV
  rw [(toList_empty ⟨#[]⟩).2 rfl]
  rfl

set_option maxHeartbeats 1000000 in
theorem wawake_any (w : World) :
    Calls Try.prog 10 #[] w fun e w' => e = .returned (.bool true) ∧ Below w.heap.size w w' := by
  have hp := fun W => wput_ok ⟨1, 0, -1, ⟨#[]⟩⟩ none [] 0 0 W ok_first (by unfold Is64; simp) rfl (fun _ => ⟨rfl, rfl⟩) (Nat.le_refl _) (by decide) (by decide) Holds.nil
  rw [field_first] at hp
  go_enter Try.func10, Try.ntmps10
  go_wp2_with fail
  refine (hp _).mono ?_
  rintro e w1 ⟨v, rfl, ho, hb⟩
  rw [List.nil_append] at ho
  obtain ⟨a2, cap2, rfl, _, h1 | ⟨g2, rfl, h2, h3⟩, h4, h5, h6⟩ := own_open ho
  · exact absurd h1.2.1 (by simp)
  have hcv := conv_holds w1 (some ⟨g2, 0, none⟩) [2, 1] cap2 (fun h => by cases h) h6
  have hs : strN [2, 1] = ⟨#[2, 1]⟩ := by decide +kernel
  rw [hs] at hcv
  simp only [List.length_cons, List.length_nil, Nat.zero_add, Nat.reduceAdd] at *
  clear hp ho h6
  have HB : Hid (Below w.heap.size w w1) := hb
  clear hb
  go_wp2_with fail
  go_ret
  exact ⟨rfl, HB.out⟩
end Go.Proofs.Ytfbekeebllcdbaa

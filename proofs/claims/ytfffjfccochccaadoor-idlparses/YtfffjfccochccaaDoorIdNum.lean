/- What the reader's 'numbers' answers. -/
import Derived.Test.YtfffjfccochccaaDoorIdIn
import Derived.Test.YtfffjfccochccaaDoorScRow
namespace Go.Proofs.YtfffjfccochccaaDoor
open Go.ChangeShapes Go.WideShapes Go.ChangeAt Go.RowKit
set_option linter.unusedVariables false
set_option linter.unusedSimpArgs false
set_option maxRecDepth 20000

theorem bind_on {α β : Type} (d : α) (x : PR α) (F : α → List ByteArray → PR β) : pBind x F = pOn (stX x) (F (res d x)) := by
  cases x with
  | inl n => rfl
  | inr x => obtain ⟨a, r⟩ := x; rfl
theorem infoI : (Tryd.prog.info? 3).map (fun i => (i.zero, i.size, i.bytes)) = some (some (.int .i64 0), 1, 8) := by kernel_rfl
theorem in_snoc (acc : List Int) (n : Int) : (inRows (acc ++ [n])).flatten = (inRows acc).flatten ++ [.int .i64 n] := by simp [inRows]
/-- What the signs behind a number come to. -/
theorem comma_cases (acc : List Int) (σ : Sg) :
    (∃ t r, σ = .inr (t :: r) ∧ pOn σ (pOne [kComma, kSemi]) = .inr (t, r) ∧ (t.data.toList == [44]) = true ∧ pOn σ (fun r => pMore r.length acc r) = pBind (pNum r) fun n r' => pMore r'.length (acc ++ [(n : Int)]) r') ∨
    (((res noT (pOn σ (pOne [kComma, kSemi]))).data.toList == [44]) = false ∧ stX (pOn σ (fun r => pMore r.length acc r)) = stX (pOn σ (pOne [kComma, kSemi])) ∧ Res (pOn σ (fun r => pMore r.length acc r)) acc) := by
  match σ with
  | .inl n => exact .inr ⟨rfl, rfl, Res.no⟩
  | .inr [] => exact .inr ⟨rfl, rfl, Res.no⟩
  | .inr (t :: r) =>
    by_cases h : t.data.toList = [44]
    · left
      refine ⟨t, r, rfl, ?_, by rw [h]; rfl, ?_⟩
      · simp only [pOn, pOne]; rw [if_pos (by simp only [List.any_cons, h]; rfl)]
      · simp only [pOn, List.length_cons, pMore]
        rw [if_pos (by rw [is_cons]; exact h)]
        exact bind_congr fun n r' e => more_fuel _ _ _ (Nat.le_of_lt (num_lt r _ _ e))
    · right
      have hm : pOn (.inr (t :: r)) (fun r => pMore r.length acc r) = pBind (pMust kSemi (t :: r)) fun _ r => .inr (acc, r) := by
        simp only [pOn, List.length_cons, pMore]
        rw [if_neg (by rw [is_cons]; exact h)]
      rw [hm, must_cons]
      by_cases h2 : t.data.toList = kSemi.data.toList
      · rw [if_pos h2]
        have : pOn (.inr (t :: r)) (pOne [kComma, kSemi]) = .inr (t, r) := by
          simp only [pOn, pOne]; rw [if_pos (by simp only [List.any_cons, h2]; rfl)]
        rw [this]
        refine ⟨?_, rfl, Res.yes⟩
        simp only [res]; rw [h2]; rfl
      · rw [if_neg h2]
        have : pOn (.inr (t :: r)) (pOne [kComma, kSemi]) = .inl (r.length + 1) := by
          simp only [pOn, pOne]
          rw [if_neg]
          simp only [List.any_cons, List.any_nil, Bool.or_false, Bool.or_eq_true, beq_iff_eq]
          rintro (e | e)
          · exact h (e.symm.trans rfl)
          · exact h2 e.symm
        rw [this]
        exact ⟨rfl, rfl, Res.no⟩
set_option maxHeartbeats 2000000 in
theorem numbers_any {w : World} {g : Nat} {V : Value} {ts : List Tk} {E : Nat} {r0 : List ByteArray} {B : Nat} {v : Value} {acc : List Int} (h : Rd w g V ts E (.inr r0)) (hB : g < B) (hBw : B ≤ w.heap.size) (ho : w.ownsRow B 3 1 v acc.length (inRows acc).flatten) (hbd : Bd ts.length (.inr r0) acc.length) :
    Calls Tryd.prog 57 #[.pointer (some ⟨g, 0, none⟩), v] w fun e w' => ∃ v' acc', e = .returned v' ∧ Res (pBind (pNum r0) fun n r => pMore r.length (acc ++ [(n : Int)]) r) acc' ∧ Rd w' g V ts E (stX (pBind (pNum r0) fun n r => pMore r.length (acc ++ [(n : Int)]) r)) ∧
      w'.ownsRow B 3 1 v' acc'.length (inRows acc').flatten ∧ Kp (fun k => k = g ∨ v.ownBlock = some k) w w' ∧ Bd ts.length (stX (pBind (pNum r0) fun n r => pMore r.length (acc ++ [(n : Int)]) r)) acc'.length := by
  obtain ⟨i0, hi, hz0, hz1, hz2⟩ := info_parts infoI
  have hfew := h.few
  obtain ⟨Z, hZ⟩ : ∃ Z, (pBind (pNum r0) fun n r => pMore r.length (acc ++ [(n : Int)]) r) = Z := ⟨_, rfl⟩
  have HZ0 : Hid (Z = pOn (stX (pNum r0)) fun r => pMore r.length (acc ++ [((res 0 (pNum r0) : Nat) : Int)]) r) := by
    show Z = _
    rw [← hZ]; exact bind_on 0 (pNum r0) _
  rw [hZ]
  clear hZ
  have HO : Hid (w.ownsRow B 3 1 v acc.length (inRows acc).flatten) := ho
  clear ho
  have hbs : Bd ts.length (stX (pNum r0)) (acc.length + 1) := hbd.step (num_lt r0)
  have HBS : Hid (Bd ts.length (stX (pNum r0)) (acc.length + 1)) := hbs
  have hacc : acc.length ≤ 100001 := by have := hbd.1; omega
  clear hbs hbd
  obtain ⟨nA, hnA⟩ : ∃ n, acc.length = n := ⟨_, rfl⟩
  rw [hnA] at hacc HO HBS
  have HNA : Hid (acc.length = nA) := hnA
  clear hnA
  go_enter Tryd.func57, Tryd.ntmps57
  go_wp2_with fail
  refine (rnumber_any h).mono ?_
  rintro e w1 ⟨rfl, h1, k1⟩
  have e0 : pOn (.inr r0) pNum = pNum r0 := rfl
  rw [e0] at h1 ⊢
  clear e0
  have HO1 : Hid (w1.ownsRow B 3 1 v nA (inRows acc).flatten) := own_kp HO.out k1 (fun k hk => by omega)
  have hBw1 : B ≤ w1.heap.size := Nat.le_trans hBw k1.size
  have K1 : Kp (fun k => k = g ∨ v.ownBlock = some k) w w1 := k1.weak (fun _ _ h => .inl h)
  clear k1 h HO
  generalize (res 0 (pNum r0) : Nat) = x0 at *
  generalize stX (pNum r0) = σ1 at *
  go_wp2_with (first
    | (at_builtin; refine wpList_append_own_at _ rfl _ _ 35 rfl B 3 i0 _ 1 8 Tryd.underlying35 hi hz0 hz1 hz2 rfl (by decide) _ _ _ rfl (HO1.out.alloc _) ⟨w1.heap.size, 0, none⟩ 1 1 [.int .i64 (x0 : Int)] rfl rfl (cells_new _ #[.int .i64 (x0 : Int)] _) ?c2 ?c3 ?c4 ?c5 ?_)
    | fail)
  case c2 => intro u hu; simp at hu; subst hu; rfl
  case c3 => unfold maxLen; omega
  case c4 => omega
  case c5 => simp; omega
  intro v2 w2 ho2 hg2 _ hat2
  have HO2 : Hid (w2.ownsRow B 3 1 v2 (acc ++ [(x0 : Int)]).length (inRows (acc ++ [(x0 : Int)])).flatten) := by
    show World.ownsRow _ _ _ _ _ _ _
    rw [in_snoc, List.length_append, HNA.out]; exact ho2
  have K2 : Kp (fun k => k = g ∨ v.ownBlock = some k) w w2 := (K1.alloc _).grown hg2 (fun k hk _ => .inr hk)
  have k12 : Kp (fun k => B ≤ k) w1 w2 := ((Kp.refl _ _).alloc _).grown hg2 (fun k hk _ => (HO1.out.lt k hk).1)
  have h2 : Rd w2 g V ts E σ1 := h1.kp k12 (fun k hk => by omega)
  have HL2 : Hid (∀ k, v2.ownBlock = some k → v.ownBlock = some k ∨ w.heap.size ≤ k) := by
    intro k hk
    rcases hat2 with e | e
    · left; rw [← e]; exact hk
    · right
      rw [hk] at e
      have e' : k = (w1.alloc (.cells #[.int .i64 (x0 : Int)] 3)).heap.size := by simpa using e
      rw [e']
      have := K1.size
      simp; omega
  have hBw2 : B ≤ w2.heap.size := Nat.le_trans hBw K2.size
  have HB2 : Hid (Bd ts.length σ1 (acc ++ [(x0 : Int)]).length) := by
    show Bd _ _ _
    rw [List.length_append, HNA.out]; exact HBS.out
  clear ho2 hg2 hat2 K1 k12 h1 HO1 hBw1 HBS
  generalize acc ++ [(x0 : Int)] = acc1 at *
  clear HNA hacc
  go_wp2_with fail
  go_loopw [1] (fun lv wr => ∃ acc σ1, Hid (Z = pOn σ1 fun r => pMore r.length acc r) ∧ Hid (wr.ownsRow B 3 1 lv acc.length (inRows acc).flatten) ∧ Rd wr g V ts E σ1 ∧ Kp (fun k => k = g ∨ v.ownBlock = some k) w wr ∧ Hid (Bd ts.length σ1 acc.length) ∧ Hid (∀ k, lv.ownBlock = some k → v.ownBlock = some k ∨ w.heap.size ≤ k)) (fun _ wr => msr g ts.length wr)
  case atStart => exact ⟨acc1, σ1, HZ0, HO2, h2, K2, HB2, HL2⟩
  case round =>
    obtain ⟨acc, σ, HZ, HO, hr, KR, HB, HL⟩ := hrel
    clear HZ0 HO2 h2 K2 HB2 HL2 hBw2
    have hBr : B ≤ wr.heap.size := Nat.le_trans hBw KR.size
    have hms := msr_rd hr
    rcases comma_cases acc σ with ⟨t, r, rfl, e1, e2, e3⟩ | ⟨e1, e2, e3⟩
    · have HE1 : Hid (pOn (.inr (t :: r)) (pOne [kComma, kSemi]) = .inr (t, r)) := e1
      have hd : (t.toList == [44]) = true := by rw [ByteArray.toList_eq]; exact e2
      have HZ2 : Hid (Z = pOn (stX (pNum r)) fun r' => pMore r'.length (acc ++ [((res 0 (pNum r) : Nat) : Int)]) r') := by
        show Z = _
        rw [HZ.out, e3]; exact bind_on 0 (pNum r) _
      have hb2 : Bd ts.length (.inr r) acc.length := HB.out.keep (x := (.inr ((), r) : PR Unit)) (fun a r' e => by simp at e; rw [← e]; simp)
      have HB2 : Hid (Bd ts.length (stX (pNum r)) (acc.length + 1)) := hb2.step (num_lt r)
      have hacc : acc.length ≤ 100001 := by have := hb2.1; omega
      have hwg : weigh (stX (pNum r)) < weigh (.inr (t :: r)) := by
        have := weigh_lt (num_lt r) (num_in r)
        have e : weigh (.inr r) ≤ weigh (.inr (t :: r)) := by simp [weigh, leftS, badS]; omega
        omega
      have HW : Hid (weigh (stX (pNum r)) < msr g ts.length wr) := by show _ < _; rw [hms]; exact hwg
      clear e1 e2 e3 hb2 HB HZ hms hwg
      obtain ⟨nA, hnA⟩ : ∃ n, acc.length = n := ⟨_, rfl⟩
      rw [hnA] at hacc HO HB2
      have HNA : Hid (acc.length = nA) := hnA
      clear hnA
      go_wp2_with fail
      refine (one_new2 kComma kSemi _ rfl hr (by decide +kernel)).mono ?_
      rintro e w1 ⟨rfl, h1, k1⟩
      rw [HE1.out] at h1 ⊢
      simp only [res, stX] at h1 ⊢
      have HO1 : Hid (w1.ownsRow B 3 1 _ nA (inRows acc).flatten) := own_kp HO.out k1 (fun k hk => by omega)
      have K1 := KR.trans (k1.weak (fun _ _ h => .inl h))
      clear HE1 hr HO KR k1 hBr
      go_wp2_with fail
      refine (rnumber_any h1).mono ?_
      rintro e w2 ⟨rfl, h2, k2⟩
      have e0 : pOn (.inr r) pNum = pNum r := rfl
      rw [e0] at h2 ⊢
      clear e0
      have HO2 : Hid (w2.ownsRow B 3 1 _ nA (inRows acc).flatten) := own_kp HO1.out k2 (fun k hk => by omega)
      have K2 := K1.trans (k2.weak (fun _ _ h => .inl h))
      have hBr : B ≤ w2.heap.size := Nat.le_trans hBw K2.size
      clear h1 HO1 K1 k2
      generalize (res 0 (pNum r) : Nat) = x0 at *
      generalize stX (pNum r) = σ1 at *
      go_wp2_with (first
        | (at_builtin; refine wpList_append_own_at _ rfl _ _ 35 rfl B 3 i0 _ 1 8 Tryd.underlying35 hi hz0 hz1 hz2 rfl (by decide) _ _ _ rfl (HO2.out.alloc _) ⟨w2.heap.size, 0, none⟩ 1 1 [.int .i64 (x0 : Int)] rfl rfl (cells_new _ #[.int .i64 (x0 : Int)] _) ?c2 ?c3 ?c4 ?c5 ?_)
        | fail)
      case c2 => intro u hu; simp at hu; subst hu; rfl
      case c3 => unfold maxLen; omega
      case c4 => omega
      case c5 => simp; omega
      intro v3 w3 ho3 hg3 _ hat3
      have HO3 : Hid (w3.ownsRow B 3 1 v3 (acc ++ [(x0 : Int)]).length (inRows (acc ++ [(x0 : Int)])).flatten) := by
        show World.ownsRow _ _ _ _ _ _ _
        rw [in_snoc, List.length_append, HNA.out]; exact ho3
      have K3 : Kp (fun k => k = g ∨ v.ownBlock = some k) w w3 := (K2.alloc _).grown hg3 (fun k hk hlt => by
        rcases HL.out k hk with e | e
        · exact .inr e
        · omega)
      have k23 : Kp (fun k => B ≤ k) w2 w3 := ((Kp.refl _ _).alloc _).grown hg3 (fun k hk _ => (HO2.out.lt k hk).1)
      have h3 : Rd w3 g V ts E σ1 := h2.kp k23 (fun k hk => by omega)
      have HL3 : Hid (∀ k, v3.ownBlock = some k → v.ownBlock = some k ∨ w.heap.size ≤ k) := by
        intro k hk
        rcases hat3 with e | e
        · exact HL.out k (by rw [← e]; exact hk)
        · right
          rw [hk] at e
          have e' : k = (w2.alloc (.cells #[.int .i64 (x0 : Int)] 3)).heap.size := by simpa using e
          rw [e']
          have := K2.size
          simp; omega
      have HB3 : Hid (Bd ts.length σ1 (acc ++ [(x0 : Int)]).length) := by
        show Bd _ _ _
        rw [List.length_append, HNA.out]; exact HB2.out
      have HM : Hid (msr g ts.length w3 < msr g ts.length wr) := by
        show _ < _
        rw [msr_rd h3]; exact HW.out
      clear ho3 hg3 hat3 K2 k23 h2 HO2 HB2 HW HL
      generalize acc ++ [(x0 : Int)] = acc1 at *
      go_wp2_with fail
      go_roundw
      case rel => exact ⟨acc1, σ1, HZ2, HO3, h3, K3, HB3, HL3⟩
      case measure => exact HM.out
    · obtain ⟨x, hx⟩ : ∃ x, res noT (pOn σ (pOne [kComma, kSemi])) = x := ⟨_, rfl⟩
      rw [hx] at e1
      have hd : (x.toList == [44]) = false := by rw [ByteArray.toList_eq]; exact e1
      have HX : Hid (res noT (pOn σ (pOne [kComma, kSemi])) = x) := hx
      have HZ2 : Hid (stX Z = stX (pOn σ (pOne [kComma, kSemi])) ∧ Res Z acc ∧ Bd ts.length (stX Z) acc.length) := by
        show _ ∧ _ ∧ _
        refine ⟨by rw [HZ.out]; exact e2, by rw [HZ.out]; exact e3, ?_⟩
        rw [HZ.out]
        cases σ with
        | inl n => exact HB.out
        | inr r => exact HB.out.keep (more_le _ _ _)
      clear e1 e2 e3 hx HZ HB hms
      go_wp2_with fail
      refine (one_new2 kComma kSemi _ rfl hr (by decide +kernel)).mono ?_
      rintro e w1 ⟨rfl, h1, k1⟩
      rw [HX.out]
      have HO1 : Hid (w1.ownsRow B 3 1 _ acc.length (inRows acc).flatten) := own_kp HO.out k1 (fun k hk => by omega)
      have K1 := KR.trans (k1.weak (fun _ _ h => .inl h))
      rw [← HZ2.out.1] at h1
      clear hr HO KR k1 HX
      go_wp2_with fail
      go_ret
      exact ⟨_, acc, rfl, HZ2.out.2.1, h1, HO1.out, K1, HZ2.out.2.2⟩
end Go.Proofs.YtfffjfccochccaaDoor

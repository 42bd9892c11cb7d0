/- What the reader's 'numbers' answers. -/
import Derived.Test.YtkfhlgajeejgeaaGreatDoorPkM
import Derived.Test.YtkfhlgajeejgeaaGreatDoorPkB
namespace Go.Proofs.YtkfhlgajeejgeaaGreatDoor
open Go.ChangeShapes Go.WideShapes Go.ChangeAt Go.RowKit
set_option linter.unusedVariables false
set_option linter.unusedSimpArgs false
set_option maxRecDepth 20000

theorem bind_on {α β : Type} (d : α) (x : PR α) (F : α → List ByteArray → PR β) : pBind x F = pOn (stX x) (F (res d x)) := by
  cases x with
  | inl n => rfl
  | inr x => obtain ⟨a, r⟩ := x; rfl
theorem infoI : (Tryz.prog.info? 3).map (fun i => (i.zero, i.size, i.bytes)) = some (some (.int .i64 0), 1, 8) := by kernel_rfl
theorem in_snoc (acc : List Int) (n : Int) : (inRows (acc ++ [n])).flatten = (inRows acc).flatten ++ [.int .i64 n] := by simp [inRows]
/-- What the signs behind a number come to. -/
theorem comma_cases (acc : List Int) (σ : Sg) :
    (∃ t r, σ = .inr (t :: r) ∧ pOn σ (pOne [kComma, kSemi]) = .inr (t, r) ∧ (t.data.toList == [44]) = true ∧ pOn σ (fun r => pMore r.length acc r) = pBind (pNum r) fun n r' => pMore r'.length (acc ++ [(n : Int)]) r') ∨
    (((res noT (pOn σ (pOne [kComma, kSemi]))).data.toList == [44]) = false ∧ stX (pOn σ (fun r => pMore r.length acc r)) = stX (pOn σ (pOne [kComma, kSemi])) ∧ Res (pOn σ (fun r => pMore r.length acc r)) acc) := by
  match σ with
  | .inl n => exact .inr ⟨rfl, rfl, Res.no⟩
  | .inr [] => exact .inr ⟨rfl, rfl, Res.no⟩
  | .inr (t :: r) =>
    by_cases h : t.data.toList = [44]
    · left
      refine ⟨t, r, rfl, ?_, by rw [h]; rfl, ?_⟩
      · simp only [pOn, pOne]; rw [if_pos (by simp only [List.any_cons, h]; rfl)]
      · simp only [pOn, List.length_cons, pMore]
        rw [if_pos (by rw [is_cons]; exact h)]
        exact bind_congr fun n r' e => more_fuel _ _ _ (Nat.le_of_lt (num_lt r _ _ e))
    · right
      have hm : pOn (.inr (t :: r)) (fun r => pMore r.length acc r) = pBind (pMust kSemi (t :: r)) fun _ r => .inr (acc, r) := by
        simp only [pOn, List.length_cons, pMore]
        rw [if_neg (by rw [is_cons]; exact h)]
      rw [hm, must_cons]
      by_cases h2 : t.data.toList = kSemi.data.toList
      · rw [if_pos h2]
        have : pOn (.inr (t :: r)) (pOne [kComma, kSemi]) = .inr (t, r) := by
          simp only [pOn, pOne]; rw [if_pos (by simp only [List.any_cons, h2]; rfl)]
        rw [this]
        refine ⟨?_, rfl, Res.yes⟩
        simp only [res]; rw [h2]; rfl
      · rw [if_neg h2]
        have : pOn (.inr (t :: r)) (pOne [kComma, kSemi]) = .inl (r.length + 1) := by
          simp only [pOn, pOne]
          rw [if_neg]
          simp only [List.any_cons, List.any_nil, Bool.or_false, Bool.or_eq_true, beq_iff_eq]
          rintro (e | e)
          · exact h (e.symm.trans rfl)
          · exact h2 e.symm
        rw [this]
        exact ⟨rfl, rfl, Res.no⟩
set_option maxHeartbeats 2000000 in
theorem numbers_any {w : World} {g : Nat} {V : Value} {ts : List Tk} {E : Nat} {r0 : List ByteArray} {B : Nat} {v : Value} {acc : List Int} (h : Rd w g V ts E (.inr r0)) (hB : g < B) (hBw : B ≤ w.heap.size) (ho : w.ownsRow B 3 1 v acc.length (inRows acc).flatten) (hbd : Bd ts.length (.inr r0) acc.length) :
    Calls Tryz.prog 148 #[.pointer (some ⟨g, 0, none⟩), v] w fun e w' => ∃ v' acc', e = .returned v' ∧ Res (pBind (pNum r0) fun n r => pMore r.length (acc ++ [(n : Int)]) r) acc' ∧ Rd w' g V ts E (stX (pBind (pNum r0) fun n r => pMore r.length (acc ++ [(n : Int)]) r)) ∧
      w'.ownsRow B 3 1 v' acc'.length (inRows acc').flatten ∧ Kp (fun k => k = g ∨ v.ownBlock = some k) w w' ∧ Bd ts.length (stX (pBind (pNum r0) fun n r => pMore r.length (acc ++ [(n : Int)]) r)) acc'.length := by
  obtain ⟨i0, hi, hz0, hz1, hz2⟩ := info_parts infoI
  have hfew := h.few
  obtain ⟨Z, hZ⟩ : ∃ Z, (pBind (pNum r0) fun n r => pMore r.length (acc ++ [(n : Int)]) r) = Z := ⟨_, rfl⟩
  have HZ0 : Hid (Z = pOn (stX (pNum r0)) fun r => pMore r.length (acc ++ [((res 0 (pNum r0) : Nat) : Int)]) r) := by
    show Z = _
    rw [← hZ]; exact bind_on 0 (pNum r0) _
  rw [hZ]
  clear hZ
  have HO : Hid (w.ownsRow B 3 1 v acc.length (inRows acc).flatten) := ho
  clear ho
  have hbs : Bd ts.length (stX (pNum r0)) (acc.length + 1) := hbd.step (num_lt r0)
  have HBS : Hid (Bd ts.length (stX (pNum r0)) (acc.length + 1)) := hbs
  have hacc : acc.length ≤ 100001 := by have := hbd.1; omega
  clear hbs hbd
  obtain ⟨nA, hnA⟩ : ∃ n, acc.length = n := ⟨_, rfl⟩
  rw [hnA] at hacc HO HBS
  have HNA : Hid (acc.length = nA) := hnA
  clear hnA
  go_enter Tryz.func148, Tryz.ntmps148
  go_wp2_with fail
  refine (rnumber_any h).mono ?_
  rintro e w1 ⟨rfl, h1, k1⟩
  have e0 : pOn (.inr r0) pNum = pNum r0 := rfl
  rw [e0] at h1 ⊢
  clear e0
  have HO1 : Hid (w1.ownsRow B 3 1 v nA (inRows acc).flatten) := own_kp HO.out k1 (fun k hk => by omega)
  have hBw1 : B ≤ w1.heap.size := Nat.le_trans hBw k1.size
  have K1 : Kp (fun k => k = g ∨ v.ownBlock = some k) w w1 := k1.weak (fun _ _ h => .inl h)
  clear k1 h HO
  generalize (res 0 (pNum r0) : Nat) = x0 at *
  generalize stX (pNum r0) = σ1 at *
  go_wp2_with (first
    | (at_builtin; refine wpList_append_own_at _ rfl _ _ 38 rfl B 3 i0 _ 1 8 Tryz.underlying38 hi hz0 hz1 hz2 rfl (by decide) _ _ _ rfl (HO1.out.alloc _) ⟨w1.heap.size, 0, none⟩ 1 1 [.int .i64 (x0 : Int)] rfl rfl (cells_new _ #[.int .i64 (x0 : Int)] _) ?c2 ?c3 ?c4 ?c5 ?_)
    | fail)
  case c2 => intro u hu; simp at hu; subst hu; rfl
  case c3 => unfold maxLen; omega
  case c4 => omega
  case c5 => simp; omega
  intro v2 w2 ho2 hg2 _ hat2
  have HO2 : Hid (w2.ownsRow B 3 1 v2 (acc ++ [(x0 : Int)]).length (inRows (acc ++ [(x0 : Int)])).flatten) := by
    show World.ownsRow _ _ _ _ _ _ _
    rw [in_snoc, List.length_append, HNA.out]; exact ho2
  have K2 : Kp (fun k => k = g ∨ v.ownBlock = some k) w w2 := (K1.alloc _).grown hg2 (fun k hk _ => .inr hk)
  have k12 : Kp (fun k => B ≤ k) w1 w2 := ((Kp.refl _ _).alloc _).grown hg2 (fun k hk _ => (HO1.out.lt k hk).1)
  have h2 : Rd w2 g V ts E σ1 := h1.kp k12 (fun k hk => by omega)
  have HL2 : Hid (∀ k, v2.ownBlock = some k → v.ownBlock = some k ∨ w.heap.size ≤ k) := by
    intro k hk
    rcases hat2 with e | e
    · left; rw [← e]; exact hk
    · right
      rw [hk] at e
      have e' : k = (w1.alloc (.cells #[.int .i64 (x0 : Int)] 3)).heap.size := by simpa using e
      rw [e']
      have := K1.size
      simp; omega
  have hBw2 : B ≤ w2.heap.size := Nat.le_trans hBw K2.size
  have HB2 : Hid (Bd ts.length σ1 (acc ++ [(x0 : Int)]).length) := by
    show Bd _ _ _
    rw [List.length_append, HNA.out]; exact HBS.out
  clear ho2 hg2 hat2 K1 k12 h1 HO1 hBw1 HBS
  generalize acc ++ [(x0 : Int)] = acc1 at *
  clear HNA hacc
  go_wp2_with fail
  go_loopw [1] (fun lv wr => ∃ acc σ1, Hid (Z = pOn σ1 fun r => pMore r.length acc r) ∧ Hid (wr.ownsRow B 3 1 lv acc.length (inRows acc).flatten) ∧ Rd wr g V ts E σ1 ∧ Kp (fun k => k = g ∨ v.ownBlock = some k) w wr ∧ Hid (Bd ts.length σ1 acc.length) ∧ Hid (∀ k, lv.ownBlock = some k → v.ownBlock = some k ∨ w.heap.size ≤ k)) (fun _ wr => msr g ts.length wr)
  case atStart => exact ⟨acc1, σ1, HZ0, HO2, h2, K2, HB2, HL2⟩
  case round =>
    obtain ⟨acc, σ, HZ, HO, hr, KR, HB, HL⟩ := hrel
    clear HZ0 HO2 h2 K2 HB2 HL2 hBw2
    have hBr : B ≤ wr.heap.size := Nat.le_trans hBw KR.size
    have hms := msr_rd hr
    rcases comma_cases acc σ with ⟨t, r, rfl, e1, e2, e3⟩ | ⟨e1, e2, e3⟩
    · have HE1 : Hid (pOn (.inr (t :: r)) (pOne [kComma, kSemi]) = .inr (t, r)) := e1
      have hd : (t.toList == [44]) = true := by rw [ByteArray.toList_eq]; exact e2
      have HZ2 : Hid (Z = pOn (stX (pNum r)) fun r' => pMore r'.length (acc ++ [((res 0 (pNum r) : Nat) : Int)]) r') := by
        show Z = _
        rw [HZ.out, e3]; exact bind_on 0 (pNum r) _
      have hb2 : Bd ts.length (.inr r) acc.length := HB.out.keep (x := (.inr ((), r) : PR Unit)) (fun a r' e => by simp at e; rw [← e]; simp)
      have HB2 : Hid (Bd ts.length (stX (pNum r)) (acc.length + 1)) := hb2.step (num_lt r)
      have hacc : acc.length ≤ 100001 := by have := hb2.1; omega
      have hwg : weigh (stX (pNum r)) < weigh (.inr (t :: r)) := by
        have := weigh_lt (num_lt r) (num_in r)
        have e : weigh (.inr r) ≤ weigh (.inr (t :: r)) := by simp [weigh, leftS, badS]; omega
        omega
      have HW : Hid (weigh (stX (pNum r)) < msr g ts.length wr) := by show _ < _; rw [hms]; exact hwg
      clear e1 e2 e3 hb2 HB HZ hms hwg
      obtain ⟨nA, hnA⟩ : ∃ n, acc.length = n := ⟨_, rfl⟩
      rw [hnA] at hacc HO HB2
      have HNA : Hid (acc.length = nA) := hnA
      clear hnA
      go_wp2_with fail
      refine (one_new2 kComma kSemi _ rfl hr (by decide +kernel)).mono ?_
      rintro e w1 ⟨rfl, h1, k1⟩
      rw [HE1.out] at h1 ⊢
      simp only [res, stX] at h1 ⊢
      have HO1 : Hid (w1.ownsRow B 3 1 _ nA (inRows acc).flatten) := own_kp HO.out k1 (fun k hk => by omega)
      have K1 := KR.trans (k1.weak (fun _ _ h => .inl h))
      clear HE1 hr HO KR k1 hBr
      go_wp2_with fail
      refine (rnumber_any h1).mono ?_
      rintro e w2 ⟨rfl, h2, k2⟩
      have e0 : pOn (.inr r) pNum = pNum r := rfl
      rw [e0] at h2 ⊢
      clear e0
      have HO2 : Hid (w2.ownsRow B 3 1 _ nA (inRows acc).flatten) := own_kp HO1.out k2 (fun k hk => by omega)
      have K2 := K1.trans (k2.weak (fun _ _ h => .inl h))
      have hBr : B ≤ w2.heap.size := Nat.le_trans hBw K2.size
      clear h1 HO1 K1 k2
      generalize (res 0 (pNum r) : Nat) = x0 at *
      generalize stX (pNum r) = σ1 at *
      go_wp2_with (first
        | (at_builtin; refine wpList_append_own_at _ rfl _ _ 38 rfl B 3 i0 _ 1 8 Tryz.underlying38 hi hz0 hz1 hz2 rfl (by decide) _ _ _ rfl (HO2.out.alloc _) ⟨w2.heap.size, 0, none⟩ 1 1 [.int .i64 (x0 : Int)] rfl rfl (cells_new _ #[.int .i64 (x0 : Int)] _) ?c2 ?c3 ?c4 ?c5 ?_)
        | fail)
      case c2 => intro u hu; simp at hu; subst hu; rfl
      case c3 => unfold maxLen; omega
      case c4 => omega
      case c5 => simp; omega
      intro v3 w3 ho3 hg3 _ hat3
      have HO3 : Hid (w3.ownsRow B 3 1 v3 (acc ++ [(x0 : Int)]).length (inRows (acc ++ [(x0 : Int)])).flatten) := by
        show World.ownsRow _ _ _ _ _ _ _
        rw [in_snoc, List.length_append, HNA.out]; exact ho3
      have K3 : Kp (fun k => k = g ∨ v.ownBlock = some k) w w3 := (K2.alloc _).grown hg3 (fun k hk hlt => by
        rcases HL.out k hk with e | e
        · exact .inr e
        · omega)
      have k23 : Kp (fun k => B ≤ k) w2 w3 := ((Kp.refl _ _).alloc _).grown hg3 (fun k hk _ => (HO2.out.lt k hk).1)
      have h3 : Rd w3 g V ts E σ1 := h2.kp k23 (fun k hk => by omega)
      have HL3 : Hid (∀ k, v3.ownBlock = some k → v.ownBlock = some k ∨ w.heap.size ≤ k) := by
        intro k hk
        rcases hat3 with e | e
        · exact HL.out k (by rw [← e]; exact hk)
        · right
          rw [hk] at e
          have e' : k = (w2.alloc (.cells #[.int .i64 (x0 : Int)] 3)).heap.size := by simpa using e
          rw [e']
          have := K2.size
          simp; omega
      have HB3 : Hid (Bd ts.length σ1 (acc ++ [(x0 : Int)]).length) := by
        show Bd _ _ _
        rw [List.length_append, HNA.out]; exact HB2.out
      have HM : Hid (msr g ts.length w3 < msr g ts.length wr) := by
        show _ < _
        rw [msr_rd h3]; exact HW.out
      clear ho3 hg3 hat3 K2 k23 h2 HO2 HB2 HW HL
      generalize acc ++ [(x0 : Int)] = acc1 at *
      go_wp2_with fail
      go_roundw
      case rel => exact ⟨acc1, σ1, HZ2, HO3, h3, K3, HB3, HL3⟩
      case measure => exact HM.out
    · obtain ⟨x, hx⟩ : ∃ x, res noT (pOn σ (pOne [kComma, kSemi])) = x := ⟨_, rfl⟩
      rw [hx] at e1
      have hd : (x.toList == [44]) = false := by rw [ByteArray.toList_eq]; exact e1
      have HX : Hid (res noT (pOn σ (pOne [kComma, kSemi])) = x) := hx
      have HZ2 : Hid (stX Z = stX (pOn σ (pOne [kComma, kSemi])) ∧ Res Z acc ∧ Bd ts.length (stX Z) acc.length) := by
        show _ ∧ _ ∧ _
        refine ⟨by rw [HZ.out]; exact e2, by rw [HZ.out]; exact e3, ?_⟩
        rw [HZ.out]
        cases σ with
        | inl n => exact HB.out
        | inr r => exact HB.out.keep (more_le _ _ _)
      clear e1 e2 e3 hx HZ HB hms
      go_wp2_with fail
      refine (one_new2 kComma kSemi _ rfl hr (by decide +kernel)).mono ?_
      rintro e w1 ⟨rfl, h1, k1⟩
      rw [HX.out]
      have HO1 : Hid (w1.ownsRow B 3 1 _ acc.length (inRows acc).flatten) := own_kp HO.out k1 (fun k hk => by omega)
      have K1 := KR.trans (k1.weak (fun _ _ h => .inl h))
      rw [← HZ2.out.1] at h1
      clear hr HO KR k1 HX
      go_wp2_with fail
      go_ret
      exact ⟨_, acc, rfl, HZ2.out.2.1, h1, HO1.out, K1, HZ2.out.2.2⟩
end Go.Proofs.YtkfhlgajeejgeaaGreatDoor

/- What the reader's 'open', 'kind' and 'field' answer. -/
namespace Go.Proofs.YtkfhlgajeejgeaaGreatDoor
open Go.ChangeShapes Go.WideShapes Go.ChangeAt Go.RowKit
set_option linter.unusedVariables false
set_option linter.unusedSimpArgs false
set_option maxRecDepth 20000

set_option maxHeartbeats 1000000 in
theorem ropen_any {w : World} {g : Nat} {V : Value} {ts : List Tk} {E : Nat} {σ : Sg} (h : Rd w g V ts E σ) :
    Calls Tryz.prog 147 #[.pointer (some ⟨g, 0, none⟩)] w fun e w' => e = .returned (.bool (!badS σ && ((res noT (pOn σ (pTake [kShut]))).data.toList == []))) ∧ Rd w' g V ts E (stX (pOn σ (pTake [kShut]))) ∧ Kp (fun k => k = g) w w' := by
  obtain ⟨n, hn, hm, c0, c1, c2, c3, f1, f3⟩ := h.open
  clear c0 c1 c2 f1 f3 hn hm
  cases hb : badS σ with
  | true =>
    rw [hb] at c3
    have hs : stX (pOn σ (pTake [kShut])) = σ := by
      cases σ with
      | inl n => rfl
      | inr r => simp [badS] at hb
    rw [hs]
    clear hs hb
    go_enter Tryz.func147, Tryz.ntmps147
    go_wp2_with fail
    go_ret
    exact ⟨rfl, h, Kp.refl _ _⟩
  | false =>
    rw [hb] at c3
    clear hb
    go_enter Tryz.func147, Tryz.ntmps147
    go_wp2_with fail
    refine (take_new kShut _ rfl h (by decide +kernel)).mono ?_
    rintro e w1 ⟨rfl, h1, k1⟩
    clear c3
    obtain ⟨x, hx⟩ : ∃ x, res noT (pOn σ (pTake [kShut])) = x := ⟨_, rfl⟩
    rw [hx]
    cases hq : (x.data.toList == []) with
    | true =>
      have hq' : (x.toList == []) = true := by rw [ByteArray.toList_eq]; exact hq
      have HX : Hid (res noT (pOn σ (pTake [kShut])) = x) := hx
      clear hx
      go_wp2_with fail
      go_ret
      refine ⟨?_, h1, k1⟩
      rw [HX.out, hq]; rfl
    | false =>
      have hq' : (x.toList == []) = false := by rw [ByteArray.toList_eq]; exact hq
      have HX : Hid (res noT (pOn σ (pTake [kShut])) = x) := hx
      clear hx
      go_wp2_with fail
      go_ret
      refine ⟨?_, h1, k1⟩
      rw [HX.out, hq]; rfl
def wordK : Nat → ByteArray
  | 0 => ⟨#[105, 110, 116, 51, 50]⟩
  | 1 => ⟨#[105, 110, 116, 54, 52]⟩
  | 2 => ⟨#[98, 111, 111, 108]⟩
  | 3 => ⟨#[116, 101, 120, 116]⟩
  | _ => ⟨#[98, 121, 116, 101, 115]⟩
theorem type_yes {σ : Sg} {t : ByteArray} {r : List ByteArray} (hσ : σ = .inr (t :: r)) (k : Nat) (hk : k < 5) (ht : t.data.toList = (wordK k).data.toList) : pOn σ pType = .inr (((k : Int) + 1, noT), r) := by
  subst hσ
  simp only [pOn, pType]
  have : scalN t = k + 1 := by
    match k, hk with
    | 0, _ | 1, _ | 2, _ | 3, _ | 4, _ => simp only [wordK] at ht; unfold scalN; rw [ht]; decide +kernel
  rw [this, if_pos (by omega)]
  simp only [Sum.inr.injEq, Prod.mk.injEq, and_true]
  refine ⟨?_, rfl⟩
  omega
theorem type_no {σ : Sg} (h : ∀ j, j < 5 → ¬ (headS σ).data.toList = (wordK j).data.toList) : stX (pOn σ pType) = stX (pOn σ pName) ∧ res (0, noT) (pOn σ pType) = (0, res noT (pOn σ pName)) := by
  match σ, h with
  | .inl n, h => exact ⟨rfl, rfl⟩
  | .inr [], h => exact ⟨rfl, rfl⟩
  | .inr (t :: r), h =>
    have h0 := h 0 (by omega)
    have h1 := h 1 (by omega)
    have h2 := h 2 (by omega)
    have h3 := h 3 (by omega)
    have h4 := h 4 (by omega)
    simp only [headS, wordK] at h0 h1 h2 h3 h4
    have : scalN t = 0 := by
      unfold scalN
      rw [if_neg h0, if_neg h1, if_neg h2, if_neg h3, if_neg h4]
    simp only [pOn, pType, this, Nat.lt_irrefl, if_false]
    cases pName (t :: r) with
    | inl n => exact ⟨rfl, rfl⟩
    | inr x => obtain ⟨a, r'⟩ := x; exact ⟨rfl, rfl⟩
theorem any_one {k t : ByteArray} : anyS [k] t = (k.data.toList == t.data.toList) := by simp [anyS]
def tabV : Value := .agg #[.string ⟨#[105, 110, 116, 51, 50]⟩, .int .i64 1, .string ⟨#[105, 110, 116, 54, 52]⟩, .int .i64 2, .string ⟨#[98, 111, 111, 108]⟩, .int .i64 3, .string ⟨#[116, 101, 120, 116]⟩, .int .i64 4, .string ⟨#[98, 121, 116, 101, 115]⟩, .int .i64 5]
theorem tab_at (W : World) (k : Nat) (hk : k < 5) : (Instr.index 221 tabV (.int .i64 (k : Int))).run Tryz.prog W = .ok (.agg #[.string (wordK k), .int .i64 ((k : Int) + 1)]) W := by
  match k, hk with
  | 0, _ | 1, _ | 2, _ | 3, _ | 4, _ => simp [tabV, wordK, Instr.index, run_underlying Tryz.underlying221, asIntOf, go_sem]
set_option maxHeartbeats 4000000 in
theorem rkind_any {w : World} {g : Nat} {V : Value} {ts : List Tk} {E : Nat} {σ : Sg} (h : Rd w g V ts E σ) :
    Calls Tryz.prog 177 #[.pointer (some ⟨g, 0, none⟩)] w fun e w' => e = .returned (.agg #[.int .i64 (k7 (res (0, noT) (pOn σ pType)).1), .string (res (0, noT) (pOn σ pType)).2]) ∧ Rd w' g V ts E (stX (pOn σ pType)) ∧ Kp (fun k => k = g) w w' := by
  obtain ⟨T, hT⟩ : ∃ T, res (0, noT) (pOn σ pType) = T := ⟨_, rfl⟩
  obtain ⟨σ', hσ'⟩ : ∃ σ', stX (pOn σ pType) = σ' := ⟨_, rfl⟩
  rw [hT, hσ']
  have HT : Hid (res (0, noT) (pOn σ pType) = T) := hT
  have HS : Hid (stX (pOn σ pType) = σ') := hσ'
  clear hT hσ'
  have hg := h.lt
  have h0 := h.alloc (.cells #[.int .i64 0, .string ⟨#[]⟩] 42)
  have B0 := Blk.new w #[.int .i64 0, .string ⟨#[]⟩] 42
  have K0 : Kp (fun k => k = g) w (w.alloc (.cells #[.int .i64 0, .string ⟨#[]⟩] 42)) := (Kp.refl _ _).alloc _
  obtain ⟨c0, c1, c2, c3, c4, c5, c6, c7, c8, c9⟩ := h0.glob
  clear h
  obtain ⟨R, hR⟩ : ∃ R, w.heap.size = R := ⟨_, rfl⟩
  have HR : Hid (w.heap.size = R) := hR
  rw [hR] at hg B0
  go_enter Tryz.func177, Tryz.ntmps177
  go_wp2_with fail
  clear hR c0 c1 c2 c3 c4 c5 c6 c7 c8 c9
  go_loopw [6] (fun iv wr => ∃ k : Nat, iv = .int .i64 (k : Int) ∧ k ≤ 5 ∧ Rd wr g V ts E σ ∧ Kp (fun k => k = g) w wr ∧ Blk wr R #[.int .i64 0, .string ⟨#[]⟩] 42 ∧ Hid (∀ j, j < k → ¬ (headS σ).data.toList = (wordK j).data.toList)) (fun iv _ => 5 - (intOf iv).toNat)
  case atStart => exact ⟨0, rfl, by omega, h0, K0, B0, fun j hj => absurd hj (Nat.not_lt_zero _)⟩
  case round =>
    obtain ⟨k, rfl, hk, h1, K1, B1, HN⟩ := hrel
    clear h0 K0 B0
    match k, hk, HN with
    | 0, _, HN =>
      have BS := Blk.new wr #[.string ⟨#[105, 110, 116, 51, 50]⟩, .int .i64 1] 220
      have h2 := h1.alloc (.cells #[.string ⟨#[105, 110, 116, 51, 50]⟩, .int .i64 1] 220)
      have B2 := B1.below ((Below.refl _ _).alloc (Nat.le_refl _) (.cells #[.string ⟨#[105, 110, 116, 51, 50]⟩, .int .i64 1] 220))
      have K2 := K1.alloc (.cells #[.string ⟨#[105, 110, 116, 51, 50]⟩, .int .i64 1] 220)
      have hgS : g < wr.heap.size := h1.lt
      have hRS : R < wr.heap.size := B1.lt
      clear h1 B1 K1
      have hix : (Instr.index 221 (.agg #[.string ⟨#[105, 110, 116, 51, 50]⟩, .int .i64 1, .string ⟨#[105, 110, 116, 54, 52]⟩, .int .i64 2, .string ⟨#[98, 111, 111, 108]⟩, .int .i64 3, .string ⟨#[116, 101, 120, 116]⟩, .int .i64 4, .string ⟨#[98, 121, 116, 101, 115]⟩, .int .i64 5]) (.int .i64 0)).run Tryz.prog wr = .ok (.agg #[.string ⟨#[105, 110, 116, 51, 50]⟩, .int .i64 1]) wr := tab_at wr 0 (by omega)
      go_wp2_with fail
      clear hix
      generalize hSb : wr.heap.size = Sb at *
      generalize hW2 : wr.alloc (.cells #[.string ⟨#[105, 110, 116, 51, 50]⟩, .int .i64 1] 220) = w2 at *
      clear hSb hW2
      have hS : Kp (fun k => k = g) w2 w2.drew := ⟨rfl, rfl, rfl, Nat.le_refl _, fun _ _ _ => rfl⟩
      have HCC : Hid (∀ W, Kp (fun k => k = g) w2 W → W.cell? ⟨Sb, 0, none⟩ = some (.string ⟨#[105, 110, 116, 51, 50]⟩)) := fun W hW => by rw [(BS.kp hW (by omega)).cell 0]; rfl
      refine wp_region_held_drew (S := fun w' => Kp (fun k => k = g) w2 w') (by kernel_rfl) hS (fun hS => ?_)
      refine rg_take 0 9 (.pointer (some ⟨g, 0, none⟩)) _ rfl rfl (by kernel_rfl) (by kernel_rfl) (by kernel_rfl) (fun _ _ _ h => h) (by rfl) (fun w' hw' => ?_) hS (listed' := #[true, false, false, false, false, false, false, false]) (by kernel_rfl) rfl ?_
      · go_simp
      simp only [List.setIfInBounds_toArray, List.set_cons_zero, List.set_cons_succ]
      refine rg_take 1 10 (.pointer (some ⟨Sb, 0, none⟩)) _ rfl rfl (by kernel_rfl) (by kernel_rfl) (by kernel_rfl) (fun _ _ _ h => h) (by rfl) (fun w' hw' => ?_) hS (listed' := #[true, true, false, false, false, false, false, false]) (by kernel_rfl) rfl ?_
      · go_simp
      simp only [List.setIfInBounds_toArray, List.set_cons_zero, List.set_cons_succ]
      refine rg_take 2 11 (.string ⟨#[105, 110, 116, 51, 50]⟩) _ rfl rfl (by kernel_rfl) (by kernel_rfl) (by kernel_rfl) (fun _ _ _ h => h) (by rfl) (fun w' hw' => ?_) hS (listed' := #[true, true, true, false, false, false, false, false]) (by kernel_rfl) rfl ?_
      · have hcv := HCC.out w' hw'; go_simp
      simp only [List.setIfInBounds_toArray, List.set_cons_zero, List.set_cons_succ]
      refine rg_take 5 14 (.pointer (some ⟨Sb, 0, none⟩)) _ rfl rfl (by kernel_rfl) (by kernel_rfl) (by kernel_rfl) (fun _ _ _ h => h) (by rfl) (fun w' hw' => ?_) hS (listed' := #[true, true, true, false, false, true, false, false]) (by kernel_rfl) rfl ?_
      · go_simp
      simp only [List.setIfInBounds_toArray, List.set_cons_zero, List.set_cons_succ]
      refine rg_take 6 15 (.string ⟨#[105, 110, 116, 51, 50]⟩) _ rfl rfl (by kernel_rfl) (by kernel_rfl) (by kernel_rfl) (fun _ _ _ h => h) (by rfl) (fun w' hw' => ?_) hS (listed' := #[true, true, true, false, false, true, true, false]) (by kernel_rfl) rfl ?_
      · have hcv := HCC.out w' hw'; go_simp
      simp only [List.setIfInBounds_toArray, List.set_cons_zero, List.set_cons_succ]
      refine rg_run 3 12 (.slice (some ⟨w2.drew.heap.size, 0, none⟩) 1 1) (w2.drew.alloc (.cells #[.string ⟨#[105, 110, 116, 51, 50]⟩] 9)) rfl rfl (by kernel_rfl) (by rfl) (listed' := #[true, true, true, true, false, true, true, false]) (by kernel_rfl) ?_ (hS.alloc _) ?_
      · go_simp
      simp only [List.setIfInBounds_toArray, List.set_cons_zero, List.set_cons_succ]
      refine rg_call 4 13 145 #[.pointer (some ⟨g, 0, none⟩), .slice (some ⟨w2.drew.heap.size, 0, none⟩) 1 1] rfl rfl (by kernel_rfl) (by rfl) (listed' := #[true, true, true, true, true, true, true, false]) (by kernel_rfl) (fun w' => ?_) ?_
      · go_simp
      have h3 : Rd w2.drew g V ts E σ := h2.below (Below.refl _ _).drew
      refine (take_new ⟨#[105, 110, 116, 51, 50]⟩ _ rfl h3 (by decide +kernel)).mono ?_
      rintro e w3 ⟨rfl, h4, k4⟩
      have hS := hS.trans k4
      refine ⟨_, rfl, hS, ?_⟩
      have K4 := K2.trans hS
      have BS4 := BS.kp hS (by omega)
      have B4 := B2.kp hS (by omega)
      clear h3 h2 k4 BS B2 K2 HCC
      simp only [List.setIfInBounds_toArray, List.set_cons_zero, List.set_cons_succ]
      rcases take_cases [⟨#[105, 110, 116, 51, 50]⟩] σ (by decide +kernel) with ⟨t, r, e0, e1, e2, e3, e4⟩ | ⟨e1, e2, e3, e4, e5⟩
      · rw [e1] at h4 ⊢
        simp only [res, stX] at h4 ⊢
        rw [any_one, beq_iff_eq] at e3
        have hd : (t.toList == [105, 110, 116, 51, 50]) = true := by rw [ByteArray.toList_eq, ← e3]; decide +kernel
        have hty := type_yes e0 0 (by omega) e3.symm
        have eT : T = (1, noT) := by rw [← HT.out, hty]; rfl
        have eS : σ' = .inr r := by rw [← HS.out, hty]; rfl
        subst eT eS
        clear HT HS hty e0 e1 e2 e4
        have HE : Hid ((⟨#[105, 110, 116, 51, 50]⟩ : ByteArray).data.toList = t.data.toList) := e3
        clear e3
        refine rg_take 7 16 (.bool true) _ rfl rfl (by kernel_rfl) (by kernel_rfl) (by kernel_rfl) (fun _ _ _ h => h) (by rfl) (fun w' hw' => ?_) hS (listed' := #[true, true, true, true, true, true, true, true]) (by kernel_rfl) rfl ?_
        · go_simp
        simp only [List.setIfInBounds_toArray, List.set_cons_zero, List.set_cons_succ]
        refine wpAnyH_done (by kernel_rfl) ?_ _
        have s1 := BS4.cell 1
        have r0 := B4.cell 0
        have r1 := B4.cell 1
        have f0 := B4.froz 0
        have f1 := B4.froz 1
        simp only [List.getElem?_toArray, List.getElem?_cons_succ, List.getElem?_cons_zero] at s1 r0 r1
        go_wp2_with fail
        refine bodyPost_ret (results_cell rfl _ _ _ ⟨R, 0, none⟩ (.agg #[.int .i64 1, .string ⟨#[]⟩]) (by go_simp) (by go_simp)) rfl ?_
        refine ⟨rfl, (h4.other hg _).other hg _, ?_⟩
        have hlt : R < w.heap.size → R = g := fun hlt => by have := HR.out; omega
        exact (K4.setCell hlt _).setCell hlt _
      · rw [e1] at h4
        rw [e2]
        rw [any_one] at e5
        have HN2 : Hid (∀ j, j < 1 → ¬ (headS σ).data.toList = (wordK j).data.toList) := by
          intro j hj e
          by_cases ej : j = 0
          · subst ej
            rw [beq_eq_false_iff_ne] at e5
            exact e5 e.symm
          · exact HN.out j (by omega) e
        clear e1 e2 e3 e4 e5 HN
        simp only [noT]
        refine rg_take 7 16 (.bool false) _ rfl rfl (by kernel_rfl) (by kernel_rfl) (by kernel_rfl) (fun _ _ _ h => h) (by rfl) (fun w' hw' => ?_) hS (listed' := #[true, true, true, true, true, true, true, true]) (by kernel_rfl) rfl ?_
        · go_simp
        simp only [List.setIfInBounds_toArray, List.set_cons_zero, List.set_cons_succ]
        refine wpAnyH_done (by kernel_rfl) ?_ _
        go_wp2_with fail
        go_roundw
        case rel => exact ⟨1, rfl, by omega, h4, K4, B4, HN2⟩
        case measure => simp [intOf]
    | 1, _, HN =>
      have BS := Blk.new wr #[.string ⟨#[105, 110, 116, 54, 52]⟩, .int .i64 2] 220
      have h2 := h1.alloc (.cells #[.string ⟨#[105, 110, 116, 54, 52]⟩, .int .i64 2] 220)
      have B2 := B1.below ((Below.refl _ _).alloc (Nat.le_refl _) (.cells #[.string ⟨#[105, 110, 116, 54, 52]⟩, .int .i64 2] 220))
      have K2 := K1.alloc (.cells #[.string ⟨#[105, 110, 116, 54, 52]⟩, .int .i64 2] 220)
      have hgS : g < wr.heap.size := h1.lt
      have hRS : R < wr.heap.size := B1.lt
      clear h1 B1 K1
      have hix : (Instr.index 221 (.agg #[.string ⟨#[105, 110, 116, 51, 50]⟩, .int .i64 1, .string ⟨#[105, 110, 116, 54, 52]⟩, .int .i64 2, .string ⟨#[98, 111, 111, 108]⟩, .int .i64 3, .string ⟨#[116, 101, 120, 116]⟩, .int .i64 4, .string ⟨#[98, 121, 116, 101, 115]⟩, .int .i64 5]) (.int .i64 1)).run Tryz.prog wr = .ok (.agg #[.string ⟨#[105, 110, 116, 54, 52]⟩, .int .i64 2]) wr := tab_at wr 1 (by omega)
      go_wp2_with fail
      clear hix
      generalize hSb : wr.heap.size = Sb at *
      generalize hW2 : wr.alloc (.cells #[.string ⟨#[105, 110, 116, 54, 52]⟩, .int .i64 2] 220) = w2 at *
      clear hSb hW2
      have hS : Kp (fun k => k = g) w2 w2.drew := ⟨rfl, rfl, rfl, Nat.le_refl _, fun _ _ _ => rfl⟩
      have HCC : Hid (∀ W, Kp (fun k => k = g) w2 W → W.cell? ⟨Sb, 0, none⟩ = some (.string ⟨#[105, 110, 116, 54, 52]⟩)) := fun W hW => by rw [(BS.kp hW (by omega)).cell 0]; rfl
      refine wp_region_held_drew (S := fun w' => Kp (fun k => k = g) w2 w') (by kernel_rfl) hS (fun hS => ?_)
      refine rg_take 0 9 (.pointer (some ⟨g, 0, none⟩)) _ rfl rfl (by kernel_rfl) (by kernel_rfl) (by kernel_rfl) (fun _ _ _ h => h) (by rfl) (fun w' hw' => ?_) hS (listed' := #[true, false, false, false, false, false, false, false]) (by kernel_rfl) rfl ?_
      · go_simp
      simp only [List.setIfInBounds_toArray, List.set_cons_zero, List.set_cons_succ]
      refine rg_take 1 10 (.pointer (some ⟨Sb, 0, none⟩)) _ rfl rfl (by kernel_rfl) (by kernel_rfl) (by kernel_rfl) (fun _ _ _ h => h) (by rfl) (fun w' hw' => ?_) hS (listed' := #[true, true, false, false, false, false, false, false]) (by kernel_rfl) rfl ?_
      · go_simp
      simp only [List.setIfInBounds_toArray, List.set_cons_zero, List.set_cons_succ]
      refine rg_take 2 11 (.string ⟨#[105, 110, 116, 54, 52]⟩) _ rfl rfl (by kernel_rfl) (by kernel_rfl) (by kernel_rfl) (fun _ _ _ h => h) (by rfl) (fun w' hw' => ?_) hS (listed' := #[true, true, true, false, false, false, false, false]) (by kernel_rfl) rfl ?_
      · have hcv := HCC.out w' hw'; go_simp
      simp only [List.setIfInBounds_toArray, List.set_cons_zero, List.set_cons_succ]
      refine rg_take 5 14 (.pointer (some ⟨Sb, 0, none⟩)) _ rfl rfl (by kernel_rfl) (by kernel_rfl) (by kernel_rfl) (fun _ _ _ h => h) (by rfl) (fun w' hw' => ?_) hS (listed' := #[true, true, true, false, false, true, false, false]) (by kernel_rfl) rfl ?_
      · go_simp
      simp only [List.setIfInBounds_toArray, List.set_cons_zero, List.set_cons_succ]
      refine rg_take 6 15 (.string ⟨#[105, 110, 116, 54, 52]⟩) _ rfl rfl (by kernel_rfl) (by kernel_rfl) (by kernel_rfl) (fun _ _ _ h => h) (by rfl) (fun w' hw' => ?_) hS (listed' := #[true, true, true, false, false, true, true, false]) (by kernel_rfl) rfl ?_
      · have hcv := HCC.out w' hw'; go_simp
      simp only [List.setIfInBounds_toArray, List.set_cons_zero, List.set_cons_succ]
      refine rg_run 3 12 (.slice (some ⟨w2.drew.heap.size, 0, none⟩) 1 1) (w2.drew.alloc (.cells #[.string ⟨#[105, 110, 116, 54, 52]⟩] 9)) rfl rfl (by kernel_rfl) (by rfl) (listed' := #[true, true, true, true, false, true, true, false]) (by kernel_rfl) ?_ (hS.alloc _) ?_
      · go_simp
      simp only [List.setIfInBounds_toArray, List.set_cons_zero, List.set_cons_succ]
      refine rg_call 4 13 145 #[.pointer (some ⟨g, 0, none⟩), .slice (some ⟨w2.drew.heap.size, 0, none⟩) 1 1] rfl rfl (by kernel_rfl) (by rfl) (listed' := #[true, true, true, true, true, true, true, false]) (by kernel_rfl) (fun w' => ?_) ?_
      · go_simp
      have h3 : Rd w2.drew g V ts E σ := h2.below (Below.refl _ _).drew
      refine (take_new ⟨#[105, 110, 116, 54, 52]⟩ _ rfl h3 (by decide +kernel)).mono ?_
      rintro e w3 ⟨rfl, h4, k4⟩
      have hS := hS.trans k4
      refine ⟨_, rfl, hS, ?_⟩
      have K4 := K2.trans hS
      have BS4 := BS.kp hS (by omega)
      have B4 := B2.kp hS (by omega)
      clear h3 h2 k4 BS B2 K2 HCC
      simp only [List.setIfInBounds_toArray, List.set_cons_zero, List.set_cons_succ]
      rcases take_cases [⟨#[105, 110, 116, 54, 52]⟩] σ (by decide +kernel) with ⟨t, r, e0, e1, e2, e3, e4⟩ | ⟨e1, e2, e3, e4, e5⟩
      · rw [e1] at h4 ⊢
        simp only [res, stX] at h4 ⊢
        rw [any_one, beq_iff_eq] at e3
        have hd : (t.toList == [105, 110, 116, 54, 52]) = true := by rw [ByteArray.toList_eq, ← e3]; decide +kernel
        have hty := type_yes e0 1 (by omega) e3.symm
        have eT : T = (2, noT) := by rw [← HT.out, hty]; rfl
        have eS : σ' = .inr r := by rw [← HS.out, hty]; rfl
        subst eT eS
        clear HT HS hty e0 e1 e2 e4
        have HE : Hid ((⟨#[105, 110, 116, 54, 52]⟩ : ByteArray).data.toList = t.data.toList) := e3
        clear e3
        refine rg_take 7 16 (.bool true) _ rfl rfl (by kernel_rfl) (by kernel_rfl) (by kernel_rfl) (fun _ _ _ h => h) (by rfl) (fun w' hw' => ?_) hS (listed' := #[true, true, true, true, true, true, true, true]) (by kernel_rfl) rfl ?_
        · go_simp
        simp only [List.setIfInBounds_toArray, List.set_cons_zero, List.set_cons_succ]
        refine wpAnyH_done (by kernel_rfl) ?_ _
        have s1 := BS4.cell 1
        have r0 := B4.cell 0
        have r1 := B4.cell 1
        have f0 := B4.froz 0
        have f1 := B4.froz 1
        simp only [List.getElem?_toArray, List.getElem?_cons_succ, List.getElem?_cons_zero] at s1 r0 r1
        go_wp2_with fail
        refine bodyPost_ret (results_cell rfl _ _ _ ⟨R, 0, none⟩ (.agg #[.int .i64 2, .string ⟨#[]⟩]) (by go_simp) (by go_simp)) rfl ?_
        refine ⟨rfl, (h4.other hg _).other hg _, ?_⟩
        have hlt : R < w.heap.size → R = g := fun hlt => by have := HR.out; omega
        exact (K4.setCell hlt _).setCell hlt _
      · rw [e1] at h4
        rw [e2]
        rw [any_one] at e5
        have HN2 : Hid (∀ j, j < 2 → ¬ (headS σ).data.toList = (wordK j).data.toList) := by
          intro j hj e
          by_cases ej : j = 1
          · subst ej
            rw [beq_eq_false_iff_ne] at e5
            exact e5 e.symm
          · exact HN.out j (by omega) e
        clear e1 e2 e3 e4 e5 HN
        simp only [noT]
        refine rg_take 7 16 (.bool false) _ rfl rfl (by kernel_rfl) (by kernel_rfl) (by kernel_rfl) (fun _ _ _ h => h) (by rfl) (fun w' hw' => ?_) hS (listed' := #[true, true, true, true, true, true, true, true]) (by kernel_rfl) rfl ?_
        · go_simp
        simp only [List.setIfInBounds_toArray, List.set_cons_zero, List.set_cons_succ]
        refine wpAnyH_done (by kernel_rfl) ?_ _
        go_wp2_with fail
        go_roundw
        case rel => exact ⟨2, rfl, by omega, h4, K4, B4, HN2⟩
        case measure => simp [intOf]
    | 2, _, HN =>
      have BS := Blk.new wr #[.string ⟨#[98, 111, 111, 108]⟩, .int .i64 3] 220
      have h2 := h1.alloc (.cells #[.string ⟨#[98, 111, 111, 108]⟩, .int .i64 3] 220)
      have B2 := B1.below ((Below.refl _ _).alloc (Nat.le_refl _) (.cells #[.string ⟨#[98, 111, 111, 108]⟩, .int .i64 3] 220))
      have K2 := K1.alloc (.cells #[.string ⟨#[98, 111, 111, 108]⟩, .int .i64 3] 220)
      have hgS : g < wr.heap.size := h1.lt
      have hRS : R < wr.heap.size := B1.lt
      clear h1 B1 K1
      have hix : (Instr.index 221 (.agg #[.string ⟨#[105, 110, 116, 51, 50]⟩, .int .i64 1, .string ⟨#[105, 110, 116, 54, 52]⟩, .int .i64 2, .string ⟨#[98, 111, 111, 108]⟩, .int .i64 3, .string ⟨#[116, 101, 120, 116]⟩, .int .i64 4, .string ⟨#[98, 121, 116, 101, 115]⟩, .int .i64 5]) (.int .i64 2)).run Tryz.prog wr = .ok (.agg #[.string ⟨#[98, 111, 111, 108]⟩, .int .i64 3]) wr := tab_at wr 2 (by omega)
      go_wp2_with fail
      clear hix
      generalize hSb : wr.heap.size = Sb at *
      generalize hW2 : wr.alloc (.cells #[.string ⟨#[98, 111, 111, 108]⟩, .int .i64 3] 220) = w2 at *
      clear hSb hW2
      have hS : Kp (fun k => k = g) w2 w2.drew := ⟨rfl, rfl, rfl, Nat.le_refl _, fun _ _ _ => rfl⟩
      have HCC : Hid (∀ W, Kp (fun k => k = g) w2 W → W.cell? ⟨Sb, 0, none⟩ = some (.string ⟨#[98, 111, 111, 108]⟩)) := fun W hW => by rw [(BS.kp hW (by omega)).cell 0]; rfl
      refine wp_region_held_drew (S := fun w' => Kp (fun k => k = g) w2 w') (by kernel_rfl) hS (fun hS => ?_)
      refine rg_take 0 9 (.pointer (some ⟨g, 0, none⟩)) _ rfl rfl (by kernel_rfl) (by kernel_rfl) (by kernel_rfl) (fun _ _ _ h => h) (by rfl) (fun w' hw' => ?_) hS (listed' := #[true, false, false, false, false, false, false, false]) (by kernel_rfl) rfl ?_
      · go_simp
      simp only [List.setIfInBounds_toArray, List.set_cons_zero, List.set_cons_succ]
      refine rg_take 1 10 (.pointer (some ⟨Sb, 0, none⟩)) _ rfl rfl (by kernel_rfl) (by kernel_rfl) (by kernel_rfl) (fun _ _ _ h => h) (by rfl) (fun w' hw' => ?_) hS (listed' := #[true, true, false, false, false, false, false, false]) (by kernel_rfl) rfl ?_
      · go_simp
      simp only [List.setIfInBounds_toArray, List.set_cons_zero, List.set_cons_succ]
      refine rg_take 2 11 (.string ⟨#[98, 111, 111, 108]⟩) _ rfl rfl (by kernel_rfl) (by kernel_rfl) (by kernel_rfl) (fun _ _ _ h => h) (by rfl) (fun w' hw' => ?_) hS (listed' := #[true, true, true, false, false, false, false, false]) (by kernel_rfl) rfl ?_
      · have hcv := HCC.out w' hw'; go_simp
      simp only [List.setIfInBounds_toArray, List.set_cons_zero, List.set_cons_succ]
      refine rg_take 5 14 (.pointer (some ⟨Sb, 0, none⟩)) _ rfl rfl (by kernel_rfl) (by kernel_rfl) (by kernel_rfl) (fun _ _ _ h => h) (by rfl) (fun w' hw' => ?_) hS (listed' := #[true, true, true, false, false, true, false, false]) (by kernel_rfl) rfl ?_
      · go_simp
      simp only [List.setIfInBounds_toArray, List.set_cons_zero, List.set_cons_succ]
      refine rg_take 6 15 (.string ⟨#[98, 111, 111, 108]⟩) _ rfl rfl (by kernel_rfl) (by kernel_rfl) (by kernel_rfl) (fun _ _ _ h => h) (by rfl) (fun w' hw' => ?_) hS (listed' := #[true, true, true, false, false, true, true, false]) (by kernel_rfl) rfl ?_
      · have hcv := HCC.out w' hw'; go_simp
      simp only [List.setIfInBounds_toArray, List.set_cons_zero, List.set_cons_succ]
      refine rg_run 3 12 (.slice (some ⟨w2.drew.heap.size, 0, none⟩) 1 1) (w2.drew.alloc (.cells #[.string ⟨#[98, 111, 111, 108]⟩] 9)) rfl rfl (by kernel_rfl) (by rfl) (listed' := #[true, true, true, true, false, true, true, false]) (by kernel_rfl) ?_ (hS.alloc _) ?_
      · go_simp
      simp only [List.setIfInBounds_toArray, List.set_cons_zero, List.set_cons_succ]
      refine rg_call 4 13 145 #[.pointer (some ⟨g, 0, none⟩), .slice (some ⟨w2.drew.heap.size, 0, none⟩) 1 1] rfl rfl (by kernel_rfl) (by rfl) (listed' := #[true, true, true, true, true, true, true, false]) (by kernel_rfl) (fun w' => ?_) ?_
      · go_simp
      have h3 : Rd w2.drew g V ts E σ := h2.below (Below.refl _ _).drew
      refine (take_new ⟨#[98, 111, 111, 108]⟩ _ rfl h3 (by decide +kernel)).mono ?_
      rintro e w3 ⟨rfl, h4, k4⟩
      have hS := hS.trans k4
      refine ⟨_, rfl, hS, ?_⟩
      have K4 := K2.trans hS
      have BS4 := BS.kp hS (by omega)
      have B4 := B2.kp hS (by omega)
      clear h3 h2 k4 BS B2 K2 HCC
      simp only [List.setIfInBounds_toArray, List.set_cons_zero, List.set_cons_succ]
      rcases take_cases [⟨#[98, 111, 111, 108]⟩] σ (by decide +kernel) with ⟨t, r, e0, e1, e2, e3, e4⟩ | ⟨e1, e2, e3, e4, e5⟩
      · rw [e1] at h4 ⊢
        simp only [res, stX] at h4 ⊢
        rw [any_one, beq_iff_eq] at e3
        have hd : (t.toList == [98, 111, 111, 108]) = true := by rw [ByteArray.toList_eq, ← e3]; decide +kernel
        have hty := type_yes e0 2 (by omega) e3.symm
        have eT : T = (3, noT) := by rw [← HT.out, hty]; rfl
        have eS : σ' = .inr r := by rw [← HS.out, hty]; rfl
        subst eT eS
        clear HT HS hty e0 e1 e2 e4
        have HE : Hid ((⟨#[98, 111, 111, 108]⟩ : ByteArray).data.toList = t.data.toList) := e3
        clear e3
        refine rg_take 7 16 (.bool true) _ rfl rfl (by kernel_rfl) (by kernel_rfl) (by kernel_rfl) (fun _ _ _ h => h) (by rfl) (fun w' hw' => ?_) hS (listed' := #[true, true, true, true, true, true, true, true]) (by kernel_rfl) rfl ?_
        · go_simp
        simp only [List.setIfInBounds_toArray, List.set_cons_zero, List.set_cons_succ]
        refine wpAnyH_done (by kernel_rfl) ?_ _
        have s1 := BS4.cell 1
        have r0 := B4.cell 0
        have r1 := B4.cell 1
        have f0 := B4.froz 0
        have f1 := B4.froz 1
        simp only [List.getElem?_toArray, List.getElem?_cons_succ, List.getElem?_cons_zero] at s1 r0 r1
        go_wp2_with fail
        refine bodyPost_ret (results_cell rfl _ _ _ ⟨R, 0, none⟩ (.agg #[.int .i64 3, .string ⟨#[]⟩]) (by go_simp) (by go_simp)) rfl ?_
        refine ⟨rfl, (h4.other hg _).other hg _, ?_⟩
        have hlt : R < w.heap.size → R = g := fun hlt => by have := HR.out; omega
        exact (K4.setCell hlt _).setCell hlt _
      · rw [e1] at h4
        rw [e2]
        rw [any_one] at e5
        have HN2 : Hid (∀ j, j < 3 → ¬ (headS σ).data.toList = (wordK j).data.toList) := by
          intro j hj e
          by_cases ej : j = 2
          · subst ej
            rw [beq_eq_false_iff_ne] at e5
            exact e5 e.symm
          · exact HN.out j (by omega) e
        clear e1 e2 e3 e4 e5 HN
        simp only [noT]
        refine rg_take 7 16 (.bool false) _ rfl rfl (by kernel_rfl) (by kernel_rfl) (by kernel_rfl) (fun _ _ _ h => h) (by rfl) (fun w' hw' => ?_) hS (listed' := #[true, true, true, true, true, true, true, true]) (by kernel_rfl) rfl ?_
        · go_simp
        simp only [List.setIfInBounds_toArray, List.set_cons_zero, List.set_cons_succ]
        refine wpAnyH_done (by kernel_rfl) ?_ _
        go_wp2_with fail
        go_roundw
        case rel => exact ⟨3, rfl, by omega, h4, K4, B4, HN2⟩
        case measure => simp [intOf]
    | 3, _, HN =>
      have BS := Blk.new wr #[.string ⟨#[116, 101, 120, 116]⟩, .int .i64 4] 220
      have h2 := h1.alloc (.cells #[.string ⟨#[116, 101, 120, 116]⟩, .int .i64 4] 220)
      have B2 := B1.below ((Below.refl _ _).alloc (Nat.le_refl _) (.cells #[.string ⟨#[116, 101, 120, 116]⟩, .int .i64 4] 220))
      have K2 := K1.alloc (.cells #[.string ⟨#[116, 101, 120, 116]⟩, .int .i64 4] 220)
      have hgS : g < wr.heap.size := h1.lt
      have hRS : R < wr.heap.size := B1.lt
      clear h1 B1 K1
      have hix : (Instr.index 221 (.agg #[.string ⟨#[105, 110, 116, 51, 50]⟩, .int .i64 1, .string ⟨#[105, 110, 116, 54, 52]⟩, .int .i64 2, .string ⟨#[98, 111, 111, 108]⟩, .int .i64 3, .string ⟨#[116, 101, 120, 116]⟩, .int .i64 4, .string ⟨#[98, 121, 116, 101, 115]⟩, .int .i64 5]) (.int .i64 3)).run Tryz.prog wr = .ok (.agg #[.string ⟨#[116, 101, 120, 116]⟩, .int .i64 4]) wr := tab_at wr 3 (by omega)
      go_wp2_with fail
      clear hix
      generalize hSb : wr.heap.size = Sb at *
      generalize hW2 : wr.alloc (.cells #[.string ⟨#[116, 101, 120, 116]⟩, .int .i64 4] 220) = w2 at *
      clear hSb hW2
      have hS : Kp (fun k => k = g) w2 w2.drew := ⟨rfl, rfl, rfl, Nat.le_refl _, fun _ _ _ => rfl⟩
      have HCC : Hid (∀ W, Kp (fun k => k = g) w2 W → W.cell? ⟨Sb, 0, none⟩ = some (.string ⟨#[116, 101, 120, 116]⟩)) := fun W hW => by rw [(BS.kp hW (by omega)).cell 0]; rfl
      refine wp_region_held_drew (S := fun w' => Kp (fun k => k = g) w2 w') (by kernel_rfl) hS (fun hS => ?_)
      refine rg_take 0 9 (.pointer (some ⟨g, 0, none⟩)) _ rfl rfl (by kernel_rfl) (by kernel_rfl) (by kernel_rfl) (fun _ _ _ h => h) (by rfl) (fun w' hw' => ?_) hS (listed' := #[true, false, false, false, false, false, false, false]) (by kernel_rfl) rfl ?_
      · go_simp
      simp only [List.setIfInBounds_toArray, List.set_cons_zero, List.set_cons_succ]
      refine rg_take 1 10 (.pointer (some ⟨Sb, 0, none⟩)) _ rfl rfl (by kernel_rfl) (by kernel_rfl) (by kernel_rfl) (fun _ _ _ h => h) (by rfl) (fun w' hw' => ?_) hS (listed' := #[true, true, false, false, false, false, false, false]) (by kernel_rfl) rfl ?_
      · go_simp
      simp only [List.setIfInBounds_toArray, List.set_cons_zero, List.set_cons_succ]
      refine rg_take 2 11 (.string ⟨#[116, 101, 120, 116]⟩) _ rfl rfl (by kernel_rfl) (by kernel_rfl) (by kernel_rfl) (fun _ _ _ h => h) (by rfl) (fun w' hw' => ?_) hS (listed' := #[true, true, true, false, false, false, false, false]) (by kernel_rfl) rfl ?_
      · have hcv := HCC.out w' hw'; go_simp
      simp only [List.setIfInBounds_toArray, List.set_cons_zero, List.set_cons_succ]
      refine rg_take 5 14 (.pointer (some ⟨Sb, 0, none⟩)) _ rfl rfl (by kernel_rfl) (by kernel_rfl) (by kernel_rfl) (fun _ _ _ h => h) (by rfl) (fun w' hw' => ?_) hS (listed' := #[true, true, true, false, false, true, false, false]) (by kernel_rfl) rfl ?_
      · go_simp
      simp only [List.setIfInBounds_toArray, List.set_cons_zero, List.set_cons_succ]
      refine rg_take 6 15 (.string ⟨#[116, 101, 120, 116]⟩) _ rfl rfl (by kernel_rfl) (by kernel_rfl) (by kernel_rfl) (fun _ _ _ h => h) (by rfl) (fun w' hw' => ?_) hS (listed' := #[true, true, true, false, false, true, true, false]) (by kernel_rfl) rfl ?_
      · have hcv := HCC.out w' hw'; go_simp
      simp only [List.setIfInBounds_toArray, List.set_cons_zero, List.set_cons_succ]
      refine rg_run 3 12 (.slice (some ⟨w2.drew.heap.size, 0, none⟩) 1 1) (w2.drew.alloc (.cells #[.string ⟨#[116, 101, 120, 116]⟩] 9)) rfl rfl (by kernel_rfl) (by rfl) (listed' := #[true, true, true, true, false, true, true, false]) (by kernel_rfl) ?_ (hS.alloc _) ?_
      · go_simp
      simp only [List.setIfInBounds_toArray, List.set_cons_zero, List.set_cons_succ]
      refine rg_call 4 13 145 #[.pointer (some ⟨g, 0, none⟩), .slice (some ⟨w2.drew.heap.size, 0, none⟩) 1 1] rfl rfl (by kernel_rfl) (by rfl) (listed' := #[true, true, true, true, true, true, true, false]) (by kernel_rfl) (fun w' => ?_) ?_
      · go_simp
      have h3 : Rd w2.drew g V ts E σ := h2.below (Below.refl _ _).drew
      refine (take_new ⟨#[116, 101, 120, 116]⟩ _ rfl h3 (by decide +kernel)).mono ?_
      rintro e w3 ⟨rfl, h4, k4⟩
      have hS := hS.trans k4
      refine ⟨_, rfl, hS, ?_⟩
      have K4 := K2.trans hS
      have BS4 := BS.kp hS (by omega)
      have B4 := B2.kp hS (by omega)
      clear h3 h2 k4 BS B2 K2 HCC
      simp only [List.setIfInBounds_toArray, List.set_cons_zero, List.set_cons_succ]
      rcases take_cases [⟨#[116, 101, 120, 116]⟩] σ (by decide +kernel) with ⟨t, r, e0, e1, e2, e3, e4⟩ | ⟨e1, e2, e3, e4, e5⟩
      · rw [e1] at h4 ⊢
        simp only [res, stX] at h4 ⊢
        rw [any_one, beq_iff_eq] at e3
        have hd : (t.toList == [116, 101, 120, 116]) = true := by rw [ByteArray.toList_eq, ← e3]; decide +kernel
        have hty := type_yes e0 3 (by omega) e3.symm
        have eT : T = (4, noT) := by rw [← HT.out, hty]; rfl
        have eS : σ' = .inr r := by rw [← HS.out, hty]; rfl
        subst eT eS
        clear HT HS hty e0 e1 e2 e4
        have HE : Hid ((⟨#[116, 101, 120, 116]⟩ : ByteArray).data.toList = t.data.toList) := e3
        clear e3
        refine rg_take 7 16 (.bool true) _ rfl rfl (by kernel_rfl) (by kernel_rfl) (by kernel_rfl) (fun _ _ _ h => h) (by rfl) (fun w' hw' => ?_) hS (listed' := #[true, true, true, true, true, true, true, true]) (by kernel_rfl) rfl ?_
        · go_simp
        simp only [List.setIfInBounds_toArray, List.set_cons_zero, List.set_cons_succ]
        refine wpAnyH_done (by kernel_rfl) ?_ _
        have s1 := BS4.cell 1
        have r0 := B4.cell 0
        have r1 := B4.cell 1
        have f0 := B4.froz 0
        have f1 := B4.froz 1
        simp only [List.getElem?_toArray, List.getElem?_cons_succ, List.getElem?_cons_zero] at s1 r0 r1
        go_wp2_with fail
        refine bodyPost_ret (results_cell rfl _ _ _ ⟨R, 0, none⟩ (.agg #[.int .i64 4, .string ⟨#[]⟩]) (by go_simp) (by go_simp)) rfl ?_
        refine ⟨rfl, (h4.other hg _).other hg _, ?_⟩
        have hlt : R < w.heap.size → R = g := fun hlt => by have := HR.out; omega
        exact (K4.setCell hlt _).setCell hlt _
      · rw [e1] at h4
        rw [e2]
        rw [any_one] at e5
        have HN2 : Hid (∀ j, j < 4 → ¬ (headS σ).data.toList = (wordK j).data.toList) := by
          intro j hj e
          by_cases ej : j = 3
          · subst ej
            rw [beq_eq_false_iff_ne] at e5
            exact e5 e.symm
          · exact HN.out j (by omega) e
        clear e1 e2 e3 e4 e5 HN
        simp only [noT]
        refine rg_take 7 16 (.bool false) _ rfl rfl (by kernel_rfl) (by kernel_rfl) (by kernel_rfl) (fun _ _ _ h => h) (by rfl) (fun w' hw' => ?_) hS (listed' := #[true, true, true, true, true, true, true, true]) (by kernel_rfl) rfl ?_
        · go_simp
        simp only [List.setIfInBounds_toArray, List.set_cons_zero, List.set_cons_succ]
        refine wpAnyH_done (by kernel_rfl) ?_ _
        go_wp2_with fail
        go_roundw
        case rel => exact ⟨4, rfl, by omega, h4, K4, B4, HN2⟩
        case measure => simp [intOf]
    | 4, _, HN =>
      have BS := Blk.new wr #[.string ⟨#[98, 121, 116, 101, 115]⟩, .int .i64 5] 220
      have h2 := h1.alloc (.cells #[.string ⟨#[98, 121, 116, 101, 115]⟩, .int .i64 5] 220)
      have B2 := B1.below ((Below.refl _ _).alloc (Nat.le_refl _) (.cells #[.string ⟨#[98, 121, 116, 101, 115]⟩, .int .i64 5] 220))
      have K2 := K1.alloc (.cells #[.string ⟨#[98, 121, 116, 101, 115]⟩, .int .i64 5] 220)
      have hgS : g < wr.heap.size := h1.lt
      have hRS : R < wr.heap.size := B1.lt
      clear h1 B1 K1
      have hix : (Instr.index 221 (.agg #[.string ⟨#[105, 110, 116, 51, 50]⟩, .int .i64 1, .string ⟨#[105, 110, 116, 54, 52]⟩, .int .i64 2, .string ⟨#[98, 111, 111, 108]⟩, .int .i64 3, .string ⟨#[116, 101, 120, 116]⟩, .int .i64 4, .string ⟨#[98, 121, 116, 101, 115]⟩, .int .i64 5]) (.int .i64 4)).run Tryz.prog wr = .ok (.agg #[.string ⟨#[98, 121, 116, 101, 115]⟩, .int .i64 5]) wr := tab_at wr 4 (by omega)
      go_wp2_with fail
      clear hix
      generalize hSb : wr.heap.size = Sb at *
      generalize hW2 : wr.alloc (.cells #[.string ⟨#[98, 121, 116, 101, 115]⟩, .int .i64 5] 220) = w2 at *
      clear hSb hW2
      have hS : Kp (fun k => k = g) w2 w2.drew := ⟨rfl, rfl, rfl, Nat.le_refl _, fun _ _ _ => rfl⟩
      have HCC : Hid (∀ W, Kp (fun k => k = g) w2 W → W.cell? ⟨Sb, 0, none⟩ = some (.string ⟨#[98, 121, 116, 101, 115]⟩)) := fun W hW => by rw [(BS.kp hW (by omega)).cell 0]; rfl
      refine wp_region_held_drew (S := fun w' => Kp (fun k => k = g) w2 w') (by kernel_rfl) hS (fun hS => ?_)
      refine rg_take 0 9 (.pointer (some ⟨g, 0, none⟩)) _ rfl rfl (by kernel_rfl) (by kernel_rfl) (by kernel_rfl) (fun _ _ _ h => h) (by rfl) (fun w' hw' => ?_) hS (listed' := #[true, false, false, false, false, false, false, false]) (by kernel_rfl) rfl ?_
      · go_simp
      simp only [List.setIfInBounds_toArray, List.set_cons_zero, List.set_cons_succ]
      refine rg_take 1 10 (.pointer (some ⟨Sb, 0, none⟩)) _ rfl rfl (by kernel_rfl) (by kernel_rfl) (by kernel_rfl) (fun _ _ _ h => h) (by rfl) (fun w' hw' => ?_) hS (listed' := #[true, true, false, false, false, false, false, false]) (by kernel_rfl) rfl ?_
      · go_simp
      simp only [List.setIfInBounds_toArray, List.set_cons_zero, List.set_cons_succ]
      refine rg_take 2 11 (.string ⟨#[98, 121, 116, 101, 115]⟩) _ rfl rfl (by kernel_rfl) (by kernel_rfl) (by kernel_rfl) (fun _ _ _ h => h) (by rfl) (fun w' hw' => ?_) hS (listed' := #[true, true, true, false, false, false, false, false]) (by kernel_rfl) rfl ?_
      · have hcv := HCC.out w' hw'; go_simp
      simp only [List.setIfInBounds_toArray, List.set_cons_zero, List.set_cons_succ]
      refine rg_take 5 14 (.pointer (some ⟨Sb, 0, none⟩)) _ rfl rfl (by kernel_rfl) (by kernel_rfl) (by kernel_rfl) (fun _ _ _ h => h) (by rfl) (fun w' hw' => ?_) hS (listed' := #[true, true, true, false, false, true, false, false]) (by kernel_rfl) rfl ?_
      · go_simp
      simp only [List.setIfInBounds_toArray, List.set_cons_zero, List.set_cons_succ]
      refine rg_take 6 15 (.string ⟨#[98, 121, 116, 101, 115]⟩) _ rfl rfl (by kernel_rfl) (by kernel_rfl) (by kernel_rfl) (fun _ _ _ h => h) (by rfl) (fun w' hw' => ?_) hS (listed' := #[true, true, true, false, false, true, true, false]) (by kernel_rfl) rfl ?_
      · have hcv := HCC.out w' hw'; go_simp
      simp only [List.setIfInBounds_toArray, List.set_cons_zero, List.set_cons_succ]
      refine rg_run 3 12 (.slice (some ⟨w2.drew.heap.size, 0, none⟩) 1 1) (w2.drew.alloc (.cells #[.string ⟨#[98, 121, 116, 101, 115]⟩] 9)) rfl rfl (by kernel_rfl) (by rfl) (listed' := #[true, true, true, true, false, true, true, false]) (by kernel_rfl) ?_ (hS.alloc _) ?_
      · go_simp
      simp only [List.setIfInBounds_toArray, List.set_cons_zero, List.set_cons_succ]
      refine rg_call 4 13 145 #[.pointer (some ⟨g, 0, none⟩), .slice (some ⟨w2.drew.heap.size, 0, none⟩) 1 1] rfl rfl (by kernel_rfl) (by rfl) (listed' := #[true, true, true, true, true, true, true, false]) (by kernel_rfl) (fun w' => ?_) ?_
      · go_simp
      have h3 : Rd w2.drew g V ts E σ := h2.below (Below.refl _ _).drew
      refine (take_new ⟨#[98, 121, 116, 101, 115]⟩ _ rfl h3 (by decide +kernel)).mono ?_
      rintro e w3 ⟨rfl, h4, k4⟩
      have hS := hS.trans k4
      refine ⟨_, rfl, hS, ?_⟩
      have K4 := K2.trans hS
      have BS4 := BS.kp hS (by omega)
      have B4 := B2.kp hS (by omega)
      clear h3 h2 k4 BS B2 K2 HCC
      simp only [List.setIfInBounds_toArray, List.set_cons_zero, List.set_cons_succ]
      rcases take_cases [⟨#[98, 121, 116, 101, 115]⟩] σ (by decide +kernel) with ⟨t, r, e0, e1, e2, e3, e4⟩ | ⟨e1, e2, e3, e4, e5⟩
      · rw [e1] at h4 ⊢
        simp only [res, stX] at h4 ⊢
        rw [any_one, beq_iff_eq] at e3
        have hd : (t.toList == [98, 121, 116, 101, 115]) = true := by rw [ByteArray.toList_eq, ← e3]; decide +kernel
        have hty := type_yes e0 4 (by omega) e3.symm
        have eT : T = (5, noT) := by rw [← HT.out, hty]; rfl
        have eS : σ' = .inr r := by rw [← HS.out, hty]; rfl
        subst eT eS
        clear HT HS hty e0 e1 e2 e4
        have HE : Hid ((⟨#[98, 121, 116, 101, 115]⟩ : ByteArray).data.toList = t.data.toList) := e3
        clear e3
        refine rg_take 7 16 (.bool true) _ rfl rfl (by kernel_rfl) (by kernel_rfl) (by kernel_rfl) (fun _ _ _ h => h) (by rfl) (fun w' hw' => ?_) hS (listed' := #[true, true, true, true, true, true, true, true]) (by kernel_rfl) rfl ?_
        · go_simp
        simp only [List.setIfInBounds_toArray, List.set_cons_zero, List.set_cons_succ]
        refine wpAnyH_done (by kernel_rfl) ?_ _
        have s1 := BS4.cell 1
        have r0 := B4.cell 0
        have r1 := B4.cell 1
        have f0 := B4.froz 0
        have f1 := B4.froz 1
        simp only [List.getElem?_toArray, List.getElem?_cons_succ, List.getElem?_cons_zero] at s1 r0 r1
        go_wp2_with fail
        refine bodyPost_ret (results_cell rfl _ _ _ ⟨R, 0, none⟩ (.agg #[.int .i64 5, .string ⟨#[]⟩]) (by go_simp) (by go_simp)) rfl ?_
        refine ⟨rfl, (h4.other hg _).other hg _, ?_⟩
        have hlt : R < w.heap.size → R = g := fun hlt => by have := HR.out; omega
        exact (K4.setCell hlt _).setCell hlt _
      · rw [e1] at h4
        rw [e2]
        rw [any_one] at e5
        have HN2 : Hid (∀ j, j < 5 → ¬ (headS σ).data.toList = (wordK j).data.toList) := by
          intro j hj e
          by_cases ej : j = 4
          · subst ej
            rw [beq_eq_false_iff_ne] at e5
            exact e5 e.symm
          · exact HN.out j (by omega) e
        clear e1 e2 e3 e4 e5 HN
        simp only [noT]
        refine rg_take 7 16 (.bool false) _ rfl rfl (by kernel_rfl) (by kernel_rfl) (by kernel_rfl) (fun _ _ _ h => h) (by rfl) (fun w' hw' => ?_) hS (listed' := #[true, true, true, true, true, true, true, true]) (by kernel_rfl) rfl ?_
        · go_simp
        simp only [List.setIfInBounds_toArray, List.set_cons_zero, List.set_cons_succ]
        refine wpAnyH_done (by kernel_rfl) ?_ _
        go_wp2_with fail
        go_roundw
        case rel => exact ⟨5, rfl, by omega, h4, K4, B4, HN2⟩
        case measure => simp [intOf]
    | 5, _, HN =>
      obtain ⟨q1, q2⟩ := type_no HN.out
      have eS : σ' = stX (pOn σ pName) := by rw [← HS.out, q1]
      have eT : T = (0, res noT (pOn σ pName)) := by rw [← HT.out, q2]
      subst eS eT
      clear HT HS q1 q2 HN
      go_wp2_with fail
      refine (rname_any h1).mono ?_
      rintro e w2 ⟨rfl, h2, k2⟩
      have B2 := B1.kp k2 (by omega)
      have K2 := K1.trans k2
      clear B1 K1 k2 h1
      have r0 := B2.cell 0
      have r1 := B2.cell 1
      have f0 := B2.froz 0
      have f1 := B2.froz 1
      simp only [List.getElem?_toArray, List.getElem?_cons_succ, List.getElem?_cons_zero] at r0 r1
      go_wp2_with fail
      refine bodyPost_ret (results_cell rfl _ _ _ ⟨R, 0, none⟩ (.agg #[.int .i64 7, .string (res noT (pOn σ pName))]) (by go_simp) (by go_simp)) rfl ?_
      refine ⟨rfl, (h2.other hg _).other hg _, ?_⟩
      have hlt : R < w.heap.size → R = g := fun hlt => by have := HR.out; omega
      exact (K2.setCell hlt _).setCell hlt _
end Go.Proofs.YtkfhlgajeejgeaaGreatDoor

/- What the reader's 'enum' answers. -/
namespace Go.Proofs.YtkfhlgajeejgeaaGreatDoor
open Go.ChangeShapes Go.WideShapes Go.ChangeAt Go.RowKit
set_option linter.unusedVariables false
set_option linter.unusedSimpArgs false
set_option maxRecDepth 20000

theorem bind_onR {α β : Type} {x : PR α} {a : α} (h : Res x a) (F : α → List ByteArray → PR β) : pBind x F = pOn (stX x) (F a) := by
  cases x with
  | inl n => rfl
  | inr x => obtain ⟨b, r⟩ := x; have := h b r rfl; subst this; rfl
theorem values_step {m : EnS} {ts : List ByteArray} {v : NmS} (hs : ¬ pIs kShut ts = true) (hv : Res (pValue ts) v) : pValues (ts.length + 1) m ts = pOn (stX (pValue ts)) fun r => pValues (r.length + 1) ⟨m.name, m.values ++ [v]⟩ r := by
  rw [← bind_onR hv fun v r => pValues (r.length + 1) ⟨m.name, m.values ++ [v]⟩ r]
  show (if pIs kShut ts = true then _ else _) = _
  rw [if_neg hs]
  exact bind_congr fun v r e => values_fuel _ _ _ (value_lt ts _ _ e)
theorem values_shut {m : EnS} {t : ByteArray} {r : List ByteArray} (ht : t.data.toList = kShut.data.toList) : pValues ((t :: r).length + 1) m (t :: r) = .inr (m, r) := by
  show (if pIs kShut (t :: r) = true then _ else _) = _
  rw [if_pos (by rw [is_cons]; exact ht)]; rfl
/-- What 'open' comes to. -/
theorem shut_cases (σ : Sg) : (∃ t r, σ = .inr (t :: r) ∧ t.data.toList = kShut.data.toList ∧ stX (pOn σ (pTake [kShut])) = .inr r ∧ (!badS σ && ((res noT (pOn σ (pTake [kShut]))).data.toList == [])) = false) ∨
    (∃ n, σ = .inl n ∧ stX (pOn σ (pTake [kShut])) = .inl n ∧ (!badS σ && ((res noT (pOn σ (pTake [kShut]))).data.toList == [])) = false) ∨
    (∃ ts, σ = .inr ts ∧ ¬ pIs kShut ts = true ∧ stX (pOn σ (pTake [kShut])) = .inr ts ∧ (!badS σ && ((res noT (pOn σ (pTake [kShut]))).data.toList == [])) = true) := by
  rcases take_cases [kShut] σ (by decide +kernel) with ⟨t, r, rfl, e1, e2, e3, e4⟩ | ⟨e1, e2, e3, e4, e5⟩
  · left
    rw [any_one, beq_iff_eq] at e3
    refine ⟨t, r, rfl, e3.symm, by rw [e1]; rfl, ?_⟩
    rw [e1]; simp only [res, e4, Bool.and_false]
  · rw [e1, e2]
    cases σ with
    | inl n => exact .inr (.inl ⟨n, rfl, rfl, rfl⟩)
    | inr ts =>
      refine .inr (.inr ⟨ts, rfl, ?_, rfl, rfl⟩)
      cases ts with
      | nil => simp [pIs]
      | cons t r =>
        rw [is_cons]
        rw [any_one, beq_eq_false_iff_ne] at e5
        exact fun e => e5 e.symm
theorem infoN : (Tryz.prog.info? 49).map (fun i => (i.zero, i.size, i.bytes)) = some (some (.agg #[.string ⟨#[]⟩, .int .i64 0]), 2, 24) := by kernel_rfl
theorem nm_snoc (acc : List NmS) (v : NmS) : (nmRows (acc ++ [v])).flatten = (nmRows acc).flatten ++ [.string v.name, .int .i64 v.n] := by simp [nmRows, NmS.cells]
set_option maxHeartbeats 2000000 in
theorem renum_any {w : World} {g : Nat} {V : Value} {ts : List Tk} {E : Nat} {σ : Sg} (h : Rd w g V ts E σ) :
    Calls Tryz.prog 98 #[.pointer (some ⟨g, 0, none⟩)] w fun e w' => ∃ (m : EnS) (vv : Value), e = .returned (.agg #[.string m.name, vv]) ∧ Res (pOn σ pEnum) m ∧ Rd w' g V ts E (stX (pOn σ pEnum)) ∧ Kp (fun k => k = g) w w' ∧ w'.ownsRow w.heap.size 49 2 vv m.values.length (nmRows m.values).flatten ∧ m.values.length ≤ 100001 := by
  obtain ⟨i0, hi, hz0, hz1, hz2⟩ := info_parts infoN
  have hfew := h.few
  have hg := h.lt
  obtain ⟨Z, hZ⟩ : ∃ Z, pOn σ pEnum = Z := ⟨_, rfl⟩
  have HZ0 : Hid (Z = pOn (stX (pOn (stX (pOn σ pName)) (pMust kOpen))) fun r => pValues (r.length + 1) ⟨res noT (pOn σ pName), []⟩ r) := by
    show Z = _
    rw [← hZ]
    cases σ with
    | inl n => rfl
    | inr r =>
      simp only [pOn, pEnum]
      cases pName r with
      | inl n => rfl
      | inr x =>
        obtain ⟨a, r1⟩ := x
        simp only [pBind, stX, res]
        cases pMust kOpen r1 with
        | inl n => rfl
        | inr x => obtain ⟨_, r2⟩ := x; rfl
  rw [hZ]
  clear hZ
  have h0 := h.alloc (.cells #[.string ⟨#[]⟩, .slice none 0 0] 47)
  have B0 := Blk.new w #[.string ⟨#[]⟩, .slice none 0 0] 47
  have K0 : Kp (fun k => k = g) w (w.alloc (.cells #[.string ⟨#[]⟩, .slice none 0 0] 47)) := (Kp.refl _ _).alloc _
  clear h
  obtain ⟨R, hR⟩ : ∃ R, w.heap.size = R := ⟨_, rfl⟩
  have HR : Hid (w.heap.size = R) := hR
  rw [hR] at hg B0 ⊢
  go_enter Tryz.func98, Tryz.ntmps98
  go_wp2_with fail
  clear hR
  refine (rname_any h0).mono ?_
  rintro e w1 ⟨rfl, h1, k1⟩
  have B1 := B0.kp k1 (by omega)
  have K1 := K0.trans k1
  clear h0 k1 B0 K0
  generalize res noT (pOn σ pName) = x1 at *
  generalize stX (pOn σ pName) = σ1 at *
  have hgM : g < w1.heap.size := h1.lt
  have hRM : R < w1.heap.size := B1.lt
  have BM := Blk.new w1 #[.string x1, .slice none 0 0] 47
  have h2 := h1.alloc (.cells #[.string x1, .slice none 0 0] 47)
  have B2 := B1.below ((Below.refl _ _).alloc (Nat.le_refl _) (.cells #[.string x1, .slice none 0 0] 47))
  have K2 := K1.alloc (.cells #[.string x1, .slice none 0 0] 47)
  clear h1 B1 K1
  go_wp2_with fail
  refine (one_new kOpen _ (by simp) h2 (by decide +kernel)).mono ?_
  rintro e w2 ⟨x2, rfl, h3, k3⟩
  generalize w1.heap.size = M at *
  have B3 := B2.kp k3 (by omega)
  have BM3 := BM.kp k3 (by omega)
  have K3 := K2.trans k3
  clear h2 k3 B2 BM K2
  generalize stX (pOn σ1 (pMust kOpen)) = σ2 at *
  go_wp2_with fail
  go_loopw [4] (fun _ wr => ∃ (m : EnS) (vv : Value) (σ1 : Sg), Hid (Z = pOn σ1 fun r => pValues (r.length + 1) m r) ∧ Hid (wr.ownsRow (M + 1) 49 2 vv m.values.length (nmRows m.values).flatten) ∧ Rd wr g V ts E σ1 ∧ Kp (fun k => k = g) w wr ∧ Hid (Bd ts.length σ1 m.values.length) ∧ Blk wr R #[.string ⟨#[]⟩, .slice none 0 0] 47 ∧ Blk wr M #[.string m.name, vv] 47) (fun _ wr => msr g ts.length wr)
  case atStart => exact ⟨⟨x1, []⟩, _, σ2, HZ0, World.ownsRow_nil _ _ _ _, h3, K3, ⟨by simp, fun r hr => by have := h3.left; rw [hr] at this; simp only [leftS] at this; simpa using this⟩, B3, BM3⟩
  case round =>
    obtain ⟨m, vv, σ, HZ, HO, hr, KR, HB, BR, BM⟩ := hrel
    clear HZ0 h3 K3 B3 BM3
    have hms := msr_rd hr
    rcases shut_cases σ with ⟨t, r, rfl, ht, e1, e2⟩ | ⟨n, rfl, e1, e2⟩ | ⟨rs, rfl, hns, e1, e2⟩
    · have eZ : Z = .inr (m, r) := by rw [HZ.out]; exact values_shut ht
      subst eZ
      have HE : Hid (stX (pOn (.inr (t :: r)) (pTake [kShut])) = .inr r ∧ (!badS (.inr (t :: r)) && ((res noT (pOn (.inr (t :: r)) (pTake [kShut]))).data.toList == [])) = false) := ⟨e1, e2⟩
      have hlen : m.values.length ≤ 100001 := by have := HB.out.1; omega
      have HLen : Hid (m.values.length ≤ 100001) := hlen
      clear HZ e1 e2 hms HB ht hlen
      go_wp2_with fail
      refine (ropen_any hr).mono ?_
      rintro e w3 ⟨rfl, h4, k4⟩
      rw [HE.out.2]
      rw [HE.out.1] at h4
      have BR4 := BR.kp k4 (by omega)
      have BM4 := BM.kp k4 (by omega)
      have K4 := KR.trans k4
      have HO4 := own_kpH HO k4 (fun k hk => by omega)
      clear hr KR HO BR BM k4 HE
      obtain ⟨nm, vals⟩ := m
      simp only at BM4 HO4 HLen ⊢
      obtain ⟨va, vc, hvv⟩ := own_form HO4.out
      subst hvv
      obtain ⟨nA, hnA⟩ : ∃ n, vals.length = n := ⟨_, rfl⟩
      rw [hnA] at HO4 HLen BM4
      have HNA : Hid (vals.length = nA) := hnA
      clear hnA
      have m0 := BM4.cell 0
      have m1 := BM4.cell 1
      have r0 := BR4.cell 0
      have r1 := BR4.cell 1
      have f0 := BR4.froz 0
      have f1 := BR4.froz 1
      simp only [List.getElem?_toArray, List.getElem?_cons_succ, List.getElem?_cons_zero] at m0 m1 r0 r1
      go_wp2_with fail
      refine bodyPost_ret (results_cell rfl _ _ _ ⟨R, 0, none⟩ (.agg #[.string nm, .slice va nA vc]) (by go_simp) (by go_simp)) rfl ?_
      have hlt : R < w.heap.size → R = g := fun hlt => by have := HR.out; omega
      refine ⟨⟨nm, vals⟩, .slice va nA vc, rfl, Res.yes, (h4.other hg _).other hg _, (K4.setCell hlt _).setCell hlt _, ?_, by show vals.length ≤ _; rw [HNA.out]; exact HLen.out⟩
      have k5 : Kp (fun k => k = R) w3 ((w3.setCell ⟨R, 0, none⟩ (.string nm)).setCell ⟨R, 1, none⟩ (.slice va nA vc)) := Kp.setCell (p := ⟨R, 1, none⟩) (Kp.setCell (p := ⟨R, 0, none⟩) (Kp.refl (fun k => k = R) w3) (fun _ => rfl) _) (fun _ => rfl) _
      show World.ownsRow _ _ _ _ _ vals.length _
      rw [HNA.out]
      exact own_base (own_kp HO4.out k5 (fun k hk => by omega)) (by omega)
    · have eZ : Z = .inl n := by rw [HZ.out]; rfl
      subst eZ
      have HE : Hid (stX (pOn (.inl n) (pTake [kShut])) = .inl n ∧ (!badS (.inl n) && ((res noT (pOn (.inl n) (pTake [kShut]))).data.toList == [])) = false) := ⟨e1, e2⟩
      have hlen : m.values.length ≤ 100001 := by have := HB.out.1; omega
      have HLen : Hid (m.values.length ≤ 100001) := hlen
      clear HZ e1 e2 hms HB hlen
      go_wp2_with fail
      refine (ropen_any hr).mono ?_
      rintro e w3 ⟨rfl, h4, k4⟩
      rw [HE.out.2]
      rw [HE.out.1] at h4
      have BR4 := BR.kp k4 (by omega)
      have BM4 := BM.kp k4 (by omega)
      have K4 := KR.trans k4
      have HO4 := own_kpH HO k4 (fun k hk => by omega)
      clear hr KR HO BR BM k4 HE
      obtain ⟨nm, vals⟩ := m
      simp only at BM4 HO4 HLen ⊢
      obtain ⟨va, vc, hvv⟩ := own_form HO4.out
      subst hvv
      obtain ⟨nA, hnA⟩ : ∃ n, vals.length = n := ⟨_, rfl⟩
      rw [hnA] at HO4 HLen BM4
      have HNA : Hid (vals.length = nA) := hnA
      clear hnA
      have m0 := BM4.cell 0
      have m1 := BM4.cell 1
      have r0 := BR4.cell 0
      have r1 := BR4.cell 1
      have f0 := BR4.froz 0
      have f1 := BR4.froz 1
      simp only [List.getElem?_toArray, List.getElem?_cons_succ, List.getElem?_cons_zero] at m0 m1 r0 r1
      go_wp2_with fail
      refine bodyPost_ret (results_cell rfl _ _ _ ⟨R, 0, none⟩ (.agg #[.string nm, .slice va nA vc]) (by go_simp) (by go_simp)) rfl ?_
      have hlt : R < w.heap.size → R = g := fun hlt => by have := HR.out; omega
      refine ⟨⟨nm, vals⟩, .slice va nA vc, rfl, Res.no, (h4.other hg _).other hg _, (K4.setCell hlt _).setCell hlt _, ?_, by show vals.length ≤ _; rw [HNA.out]; exact HLen.out⟩
      have k5 : Kp (fun k => k = R) w3 ((w3.setCell ⟨R, 0, none⟩ (.string nm)).setCell ⟨R, 1, none⟩ (.slice va nA vc)) := Kp.setCell (p := ⟨R, 1, none⟩) (Kp.setCell (p := ⟨R, 0, none⟩) (Kp.refl (fun k => k = R) w3) (fun _ => rfl) _) (fun _ => rfl) _
      show World.ownsRow _ _ _ _ _ vals.length _
      rw [HNA.out]
      exact own_base (own_kp HO4.out k5 (fun k hk => by omega)) (by omega)
    · have HE : Hid (stX (pOn (.inr rs) (pTake [kShut])) = .inr rs ∧ (!badS (.inr rs) && ((res noT (pOn (.inr rs) (pTake [kShut]))).data.toList == [])) = true) := ⟨e1, e2⟩
      have HZ2 : Hid (∀ v : NmS, Res (pValue rs) v → Z = pOn (stX (pValue rs)) fun r => pValues (r.length + 1) ⟨m.name, m.values ++ [v]⟩ r) := by
        intro v hv
        rw [HZ.out]
        exact values_step hns hv
      have HB2 : Hid (Bd ts.length (stX (pValue rs)) (m.values.length + 1)) := HB.out.step (value_lt rs)
      have hlen : m.values.length ≤ 100000 := by have := HB.out.2 rs rfl; omega
      have HW : Hid (weigh (stX (pValue rs)) < msr g ts.length wr) := by show _ < _; rw [hms]; exact weigh_lt (value_lt rs) (value_in rs)
      clear HZ e1 e2 hms HB hns
      obtain ⟨nm, vals⟩ := m
      simp only at BM HO HZ2 HB2 hlen
      obtain ⟨nA, hnA⟩ : ∃ n, vals.length = n := ⟨_, rfl⟩
      rw [hnA] at hlen HO HB2
      have HNA : Hid (vals.length = nA) := hnA
      clear hnA
      go_wp2_with fail
      refine (ropen_any hr).mono ?_
      rintro e w3 ⟨rfl, h4, k4⟩
      rw [HE.out.2]
      rw [HE.out.1] at h4
      have BR4 := BR.kp k4 (by omega)
      have BM4 := BM.kp k4 (by omega)
      have K4 := KR.trans k4
      have HO4 := own_kpH HO k4 (fun k hk => by omega)
      clear hr KR HO BR BM k4 HE
      go_wp2_with fail
      refine (named_any h4).mono ?_
      rintro e w4 ⟨v, rfl, rv, h5, k5⟩
      have e0 : pOn (.inr rs) pValue = pValue rs := rfl
      rw [e0] at h5 rv
      clear e0
      have BR5 := BR4.kp k5 (by omega)
      have BM5 := BM4.kp k5 (by omega)
      have K5 := K4.trans k5
      have HO5 := own_kpH HO4 k5 (fun k hk => by omega)
      have HZ3 : Hid (Z = pOn (stX (pValue rs)) fun r => pValues (r.length + 1) ⟨nm, vals ++ [v]⟩ r) := HZ2.out v rv
      clear h4 K4 HO4 BR4 BM4 k5 HZ2 rv
      generalize stX (pValue rs) = σ3 at *
      have hM5 : M + 1 ≤ w4.heap.size := BM5.lt
      have m1 := BM5.cell 1
      have fm1 := BM5.froz 1
      simp only [List.getElem?_toArray, List.getElem?_cons_succ, List.getElem?_cons_zero] at m1
      have HMV : Hid (∀ W : World, Kp (fun k => M + 1 ≤ k) w4 W → W.cell? ⟨M, 1, none⟩ = some vv ∧ W.frozen? ⟨M, 1, none⟩ = false) := fun W hW => by
        have := BM5.kp hW (by omega)
        exact ⟨(this.cell 1).trans rfl, this.froz 1⟩
      obtain ⟨vn, vi⟩ := v
      simp only at HZ3 ⊢
      go_wp2_with (first
        | (at_builtin; refine wpList_append_own_at _ rfl _ _ 45 rfl (M + 1) 49 i0 _ 2 24 Tryz.underlying45 hi hz0 hz1 hz2 rfl (by decide) _ _ _ rfl (HO5.out.alloc _) ⟨w4.heap.size, 0, none⟩ 1 1 [.string vn, .int .i64 vi] rfl rfl (cells_new _ #[.string vn, .int .i64 vi] _) ?c2 ?c3 ?c4 ?c5 ?_)
        | fail)
      case c2 => intro u hu; simp at hu; rcases hu with rfl | rfl <;> rfl
      case c3 => unfold maxLen; omega
      case c4 => omega
      case c5 => simp; omega
      intro v6 w6 ho6 hg6 _ hat6
      have k56 : Kp (fun k => M + 1 ≤ k) w4 w6 := ((Kp.refl _ _).alloc _).grown hg6 (fun k hk _ => (HO5.out.lt k hk).1)
      have h6 : Rd w6 g V ts E σ3 := h5.kp k56 (fun k hk => by omega)
      have BR6 := BR5.kp k56 (by omega)
      have BM6 := BM5.kp k56 (by omega)
      have K6 : Kp (fun k => k = g) w w6 := K5.trans2 k56 (fun k hk hS => by have := HR.out; omega)
      obtain ⟨mc, mf⟩ := HMV.out w6 k56
      have HO6 : Hid (w6.ownsRow (M + 1) 49 2 v6 (vals ++ [(⟨vn, vi⟩ : NmS)]).length (nmRows (vals ++ [⟨vn, vi⟩])).flatten) := by
        show World.ownsRow _ _ _ _ _ _ _
        rw [nm_snoc, List.length_append, HNA.out]; exact ho6
      have HB6 : Hid (Bd ts.length σ3 (vals ++ [(⟨vn, vi⟩ : NmS)]).length) := by
        show Bd _ _ _
        rw [List.length_append, HNA.out]; exact HB2.out
      obtain ⟨va, vc, hv6⟩ := own_form ho6
      subst hv6
      clear ho6 hg6 hat6 k56 HO5 h5 K5 BR5 BM5 HMV m1 fm1 HB2
      have h7 : Rd (w6.setCell ⟨M, 1, none⟩ (.slice va (nA + 1) vc)) g V ts E σ3 := h6.other hgM _
      have BR7 := BR6.other (a := ⟨M, 1, none⟩) (by simp only; omega) (.slice va (nA + 1) vc)
      have BM7 : Blk (w6.setCell ⟨M, 1, none⟩ (.slice va (nA + 1) vc)) M #[.string nm, .slice va (nA + 1) vc] 47 := BM6.set 1 _ rfl
      have K7 : Kp (fun k => k = g) w (w6.setCell ⟨M, 1, none⟩ (.slice va (nA + 1) vc)) := K6.setCell (fun hlt => by have := HR.out; simp only at hlt; omega) _
      have HO7 : Hid ((w6.setCell ⟨M, 1, none⟩ (.slice va (nA + 1) vc)).ownsRow (M + 1) 49 2 (.slice va (nA + 1) vc) (vals ++ [(⟨vn, vi⟩ : NmS)]).length (nmRows (vals ++ [⟨vn, vi⟩])).flatten) := ownsRow_setCell_below HO6.out (by simp only; omega) _
      have HM : Hid (msr g ts.length (w6.setCell ⟨M, 1, none⟩ (.slice va (nA + 1) vc)) < msr g ts.length wr) := by
        show _ < _
        rw [msr_rd h7]; exact HW.out
      clear h6 BR6 BM6 K6 HO6 HW
      go_wp2_with fail
      go_roundw
      case rel => exact ⟨⟨nm, vals ++ [⟨vn, vi⟩]⟩, _, σ3, HZ3, HO7, h7, K7, HB6, BR7, BM7⟩
      case measure => exact HM.out
end Go.Proofs.YtkfhlgajeejgeaaGreatDoor

/- What the reader's 'field' and 'numbers' answer. -/
namespace Go.Proofs.YtkfhlgajeejgeaaGreatDoor
open Go.ChangeShapes Go.WideShapes Go.ChangeAt Go.RowKit
set_option linter.unusedVariables false
set_option linter.unusedSimpArgs false
set_option maxRecDepth 20000

/-- A field as the reader leaves it: a name's type is a message's. -/
def pre7 (f : FlS) : FlS := ⟨f.name, f.tag, f.label, k7 f.kind, f.tname⟩
set_option maxHeartbeats 1000000 in
theorem rfield_any {w : World} {g : Nat} {V : Value} {ts : List Tk} {E : Nat} {σ : Sg} (h : Rd w g V ts E σ) :
    Calls Tryz.prog 149 #[.pointer (some ⟨g, 0, none⟩)] w fun e w' => ∃ f : FlS, e = .returned (.agg #[.string f.name, .int .i64 f.tag, .int .i64 f.label, .int .i64 (k7 f.kind), .string f.tname]) ∧ Res (pOn σ pField) f ∧ Rd w' g V ts E (stX (pOn σ pField)) ∧ Kp (fun k => k = g) w w' := by
  have HV : Hid (∀ v : NmS, Res (pOn (stX (pOn (stX (pOn σ pLab)) pType)) pValue) v →
    stX (pOn (stX (pOn (stX (pOn σ pLab)) pType)) pValue) = stX (pOn σ pField) ∧
    Res (pOn σ pField) ⟨v.name, v.n, res 1 (pOn σ pLab), (res (0, noT) (pOn (stX (pOn σ pLab)) pType)).1, (res (0, noT) (pOn (stX (pOn σ pLab)) pType)).2⟩) := field_st σ
  have hg := h.lt
  have h0 := h.alloc (.cells #[.string ⟨#[]⟩, .int .i64 0, .int .i64 0, .int .i64 0, .string ⟨#[]⟩] 44)
  have B0 := Blk.new w #[.string ⟨#[]⟩, .int .i64 0, .int .i64 0, .int .i64 0, .string ⟨#[]⟩] 44
  have K0 : Kp (fun k => k = g) w (w.alloc (.cells #[.string ⟨#[]⟩, .int .i64 0, .int .i64 0, .int .i64 0, .string ⟨#[]⟩] 44)) := (Kp.refl _ _).alloc _
  clear h
  obtain ⟨R, hR⟩ : ∃ R, w.heap.size = R := ⟨_, rfl⟩
  have HR : Hid (w.heap.size = R) := hR
  rw [hR] at hg B0
  go_enter Tryz.func149, Tryz.ntmps149
  go_wp2_with fail
  clear hR
  refine (label_any h0).mono ?_
  rintro e w1 ⟨rfl, h1, k1⟩
  have B1 := B0.kp k1 (by omega)
  have K1 := K0.trans k1
  clear h0 k1 B0 K0
  generalize res 1 (pOn σ pLab) = x1 at *
  generalize stX (pOn σ pLab) = σ1 at *
  go_wp2_with fail
  refine (rkind_any h1).mono ?_
  rintro e w2 ⟨rfl, h2, k2⟩
  have B2 := B1.kp k2 (by omega)
  have K2 := K1.trans k2
  clear h1 k2 B1 K1
  generalize res (0, noT) (pOn σ1 pType) = T at *
  generalize stX (pOn σ1 pType) = σ2 at *
  obtain ⟨T1, T2⟩ := T
  simp only at HV ⊢
  have hgT : g < w2.heap.size := h2.lt
  have hRT : R < w2.heap.size := B2.lt
  have BT := Blk.new w2 #[.int .i64 (k7 T1), .string T2] 42
  have h3 := h2.alloc (.cells #[.int .i64 (k7 T1), .string T2] 42)
  have B3 := B2.below ((Below.refl _ _).alloc (Nat.le_refl _) (.cells #[.int .i64 (k7 T1), .string T2] 42))
  have K3 := K2.alloc (.cells #[.int .i64 (k7 T1), .string T2] 42)
  clear h2 B2 K2
  obtain ⟨k, hk⟩ : ∃ k, k7 T1 = k := ⟨_, rfl⟩
  rw [hk] at BT h3 B3 K3 ⊢
  have HK : Hid (k7 T1 = k) := hk
  clear hk
  go_wp2_with fail
  generalize w2.heap.size = Tb at *
  refine (named_any h3).mono ?_
  rintro e w3 ⟨v, rfl, r4, h4, k4⟩
  have B4 := B3.kp k4 (by omega)
  have BT4 := BT.kp k4 (by omega)
  have K4 := K3.trans k4
  clear h3 k4 B3 K3 BT
  obtain ⟨hz1, hz2⟩ := HV.out v r4
  rw [hz1] at h4
  have HZ : Hid (Res (pOn σ pField) ⟨v.name, v.n, x1, T1, T2⟩) := hz2
  clear HV hz1 hz2 r4
  obtain ⟨nm, n⟩ := v
  simp only at HZ ⊢
  have t0 := BT4.cell 0
  have t1 := BT4.cell 1
  have r0 := B4.cell 0
  have r1 := B4.cell 1
  have r2 := B4.cell 2
  have r3 := B4.cell 3
  have r4 := B4.cell 4
  have f0 := B4.froz 0
  have f1 := B4.froz 1
  have f2 := B4.froz 2
  have f3 := B4.froz 3
  have f4 := B4.froz 4
  simp only [List.getElem?_toArray, List.getElem?_cons_succ, List.getElem?_cons_zero] at t0 t1 r0 r1 r2 r3 r4
  go_wp2_with fail
  refine bodyPost_ret (results_cell rfl _ _ _ ⟨R, 0, none⟩ (.agg #[.string nm, .int .i64 n, .int .i64 x1, .int .i64 k, .string T2]) (by go_simp) (by go_simp)) rfl ?_
  refine ⟨⟨nm, n, x1, T1, T2⟩, by rw [HK.out], HZ.out, ((((h4.other hg _).other hg _).other hg _).other hg _).other hg _, ?_⟩
  have hlt : R < w.heap.size → R = g := fun hlt => by have := HR.out; omega
  exact ((((K4.setCell hlt _).setCell hlt _).setCell hlt _).setCell hlt _).setCell hlt _
end Go.Proofs.YtkfhlgajeejgeaaGreatDoor

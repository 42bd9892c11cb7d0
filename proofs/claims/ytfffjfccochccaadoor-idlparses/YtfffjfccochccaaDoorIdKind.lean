/- What the reader's 'open', 'kind' and 'field' answer. -/
import Derived.Test.YtfffjfccochccaaDoorIdCall
import Derived.Test.YtfffjfccochccaaDoorRg
namespace Go.Proofs.YtfffjfccochccaaDoor
open Go.ChangeShapes Go.WideShapes Go.ChangeAt Go.RowKit
set_option linter.unusedVariables false
set_option linter.unusedSimpArgs false
set_option maxRecDepth 20000

set_option maxHeartbeats 1000000 in
theorem ropen_any {w : World} {g : Nat} {V : Value} {ts : List Tk} {E : Nat} {σ : Sg} (h : Rd w g V ts E σ) :
    Calls Tryd.prog 56 #[.pointer (some ⟨g, 0, none⟩)] w fun e w' => e = .returned (.bool (!badS σ && ((res noT (pOn σ (pTake [kShut]))).data.toList == []))) ∧ Rd w' g V ts E (stX (pOn σ (pTake [kShut]))) ∧ Kp (fun k => k = g) w w' := by
  obtain ⟨n, hn, hm, c0, c1, c2, c3, f1, f3⟩ := h.open
  clear c0 c1 c2 f1 f3 hn hm
  cases hb : badS σ with
  | true =>
    rw [hb] at c3
    have hs : stX (pOn σ (pTake [kShut])) = σ := by
      cases σ with
      | inl n => rfl
      | inr r => simp [badS] at hb
    rw [hs]
    clear hs hb
    go_enter Tryd.func56, Tryd.ntmps56
    go_wp2_with fail
    go_ret
    exact ⟨rfl, h, Kp.refl _ _⟩
  | false =>
    rw [hb] at c3
    clear hb
    go_enter Tryd.func56, Tryd.ntmps56
    go_wp2_with fail
    refine (take_new kShut _ rfl h (by decide +kernel)).mono ?_
    rintro e w1 ⟨rfl, h1, k1⟩
    clear c3
    obtain ⟨x, hx⟩ : ∃ x, res noT (pOn σ (pTake [kShut])) = x := ⟨_, rfl⟩
    rw [hx]
    cases hq : (x.data.toList == []) with
    | true =>
      have hq' : (x.toList == []) = true := by rw [ByteArray.toList_eq]; exact hq
      have HX : Hid (res noT (pOn σ (pTake [kShut])) = x) := hx
      clear hx
      go_wp2_with fail
      go_ret
      refine ⟨?_, h1, k1⟩
      rw [HX.out, hq]; rfl
    | false =>
      have hq' : (x.toList == []) = false := by rw [ByteArray.toList_eq]; exact hq
      have HX : Hid (res noT (pOn σ (pTake [kShut])) = x) := hx
      clear hx
      go_wp2_with fail
      go_ret
      refine ⟨?_, h1, k1⟩
      rw [HX.out, hq]; rfl
def wordK : Nat → ByteArray
  | 0 => ⟨#[105, 110, 116, 51, 50]⟩
  | 1 => ⟨#[105, 110, 116, 54, 52]⟩
  | 2 => ⟨#[98, 111, 111, 108]⟩
  | 3 => ⟨#[116, 101, 120, 116]⟩
  | _ => ⟨#[98, 121, 116, 101, 115]⟩
theorem type_yes {σ : Sg} {t : ByteArray} {r : List ByteArray} (hσ : σ = .inr (t :: r)) (k : Nat) (hk : k < 5) (ht : t.data.toList = (wordK k).data.toList) : pOn σ pType = .inr (((k : Int) + 1, noT), r) := by
  subst hσ
  simp only [pOn, pType]
  have : scalN t = k + 1 := by
    match k, hk with
    | 0, _ | 1, _ | 2, _ | 3, _ | 4, _ => simp only [wordK] at ht; unfold scalN; rw [ht]; decide +kernel
  rw [this, if_pos (by omega)]
  simp only [Sum.inr.injEq, Prod.mk.injEq, and_true]
  refine ⟨?_, rfl⟩
  omega
theorem type_no {σ : Sg} (h : ∀ j, j < 5 → ¬ (headS σ).data.toList = (wordK j).data.toList) : stX (pOn σ pType) = stX (pOn σ pName) ∧ res (0, noT) (pOn σ pType) = (0, res noT (pOn σ pName)) := by
  match σ, h with
  | .inl n, h => exact ⟨rfl, rfl⟩
  | .inr [], h => exact ⟨rfl, rfl⟩
  | .inr (t :: r), h =>
    have h0 := h 0 (by omega)
    have h1 := h 1 (by omega)
    have h2 := h 2 (by omega)
    have h3 := h 3 (by omega)
    have h4 := h 4 (by omega)
    simp only [headS, wordK] at h0 h1 h2 h3 h4
    have : scalN t = 0 := by
      unfold scalN
      rw [if_neg h0, if_neg h1, if_neg h2, if_neg h3, if_neg h4]
    simp only [pOn, pType, this, Nat.lt_irrefl, if_false]
    cases pName (t :: r) with
    | inl n => exact ⟨rfl, rfl⟩
    | inr x => obtain ⟨a, r'⟩ := x; exact ⟨rfl, rfl⟩
theorem any_one {k t : ByteArray} : anyS [k] t = (k.data.toList == t.data.toList) := by simp [anyS]
def tabV : Value := .agg #[.string ⟨#[105, 110, 116, 51, 50]⟩, .int .i64 1, .string ⟨#[105, 110, 116, 54, 52]⟩, .int .i64 2, .string ⟨#[98, 111, 111, 108]⟩, .int .i64 3, .string ⟨#[116, 101, 120, 116]⟩, .int .i64 4, .string ⟨#[98, 121, 116, 101, 115]⟩, .int .i64 5]
theorem tab_at (W : World) (k : Nat) (hk : k < 5) : (Instr.index 116 tabV (.int .i64 (k : Int))).run Tryd.prog W = .ok (.agg #[.string (wordK k), .int .i64 ((k : Int) + 1)]) W := by
  match k, hk with
  | 0, _ | 1, _ | 2, _ | 3, _ | 4, _ => simp [tabV, wordK, Instr.index, run_underlying Tryd.underlying116, asIntOf, go_sem]
set_option maxHeartbeats 4000000 in
theorem rkind_any {w : World} {g : Nat} {V : Value} {ts : List Tk} {E : Nat} {σ : Sg} (h : Rd w g V ts E σ) :
    Calls Tryd.prog 73 #[.pointer (some ⟨g, 0, none⟩)] w fun e w' => e = .returned (.agg #[.int .i64 (k7 (res (0, noT) (pOn σ pType)).1), .string (res (0, noT) (pOn σ pType)).2]) ∧ Rd w' g V ts E (stX (pOn σ pType)) ∧ Kp (fun k => k = g) w w' := by
  obtain ⟨T, hT⟩ : ∃ T, res (0, noT) (pOn σ pType) = T := ⟨_, rfl⟩
  obtain ⟨σ', hσ'⟩ : ∃ σ', stX (pOn σ pType) = σ' := ⟨_, rfl⟩
  rw [hT, hσ']
  have HT : Hid (res (0, noT) (pOn σ pType) = T) := hT
  have HS : Hid (stX (pOn σ pType) = σ') := hσ'
  clear hT hσ'
  have hg := h.lt
  have h0 := h.alloc (.cells #[.int .i64 0, .string ⟨#[]⟩] 41)
  have B0 := Blk.new w #[.int .i64 0, .string ⟨#[]⟩] 41
  have K0 : Kp (fun k => k = g) w (w.alloc (.cells #[.int .i64 0, .string ⟨#[]⟩] 41)) := (Kp.refl _ _).alloc _
  obtain ⟨c0, c1, c2, c3, c4, c5, c6, c7, c8, c9⟩ := h0.glob
  clear h
  obtain ⟨R, hR⟩ : ∃ R, w.heap.size = R := ⟨_, rfl⟩
  have HR : Hid (w.heap.size = R) := hR
  rw [hR] at hg B0
  go_enter Tryd.func73, Tryd.ntmps73
  go_wp2_with fail
  clear hR c0 c1 c2 c3 c4 c5 c6 c7 c8 c9
  go_loopw [6] (fun iv wr => ∃ k : Nat, iv = .int .i64 (k : Int) ∧ k ≤ 5 ∧ Rd wr g V ts E σ ∧ Kp (fun k => k = g) w wr ∧ Blk wr R #[.int .i64 0, .string ⟨#[]⟩] 41 ∧ Hid (∀ j, j < k → ¬ (headS σ).data.toList = (wordK j).data.toList)) (fun iv _ => 5 - (intOf iv).toNat)
  case atStart => exact ⟨0, rfl, by omega, h0, K0, B0, fun j hj => absurd hj (Nat.not_lt_zero _)⟩
  case round =>
    obtain ⟨k, rfl, hk, h1, K1, B1, HN⟩ := hrel
    clear h0 K0 B0
    match k, hk, HN with
    | 0, _, HN =>
      have BS := Blk.new wr #[.string ⟨#[105, 110, 116, 51, 50]⟩, .int .i64 1] 115
      have h2 := h1.alloc (.cells #[.string ⟨#[105, 110, 116, 51, 50]⟩, .int .i64 1] 115)
      have B2 := B1.below ((Below.refl _ _).alloc (Nat.le_refl _) (.cells #[.string ⟨#[105, 110, 116, 51, 50]⟩, .int .i64 1] 115))
      have K2 := K1.alloc (.cells #[.string ⟨#[105, 110, 116, 51, 50]⟩, .int .i64 1] 115)
      have hgS : g < wr.heap.size := h1.lt
      have hRS : R < wr.heap.size := B1.lt
      clear h1 B1 K1
      have hix : (Instr.index 116 (.agg #[.string ⟨#[105, 110, 116, 51, 50]⟩, .int .i64 1, .string ⟨#[105, 110, 116, 54, 52]⟩, .int .i64 2, .string ⟨#[98, 111, 111, 108]⟩, .int .i64 3, .string ⟨#[116, 101, 120, 116]⟩, .int .i64 4, .string ⟨#[98, 121, 116, 101, 115]⟩, .int .i64 5]) (.int .i64 0)).run Tryd.prog wr = .ok (.agg #[.string ⟨#[105, 110, 116, 51, 50]⟩, .int .i64 1]) wr := tab_at wr 0 (by omega)
      go_wp2_with fail
      clear hix
      generalize hSb : wr.heap.size = Sb at *
      generalize hW2 : wr.alloc (.cells #[.string ⟨#[105, 110, 116, 51, 50]⟩, .int .i64 1] 115) = w2 at *
      clear hSb hW2
      have hS : Kp (fun k => k = g) w2 w2.drew := ⟨rfl, rfl, rfl, Nat.le_refl _, fun _ _ _ => rfl⟩
      have HCC : Hid (∀ W, Kp (fun k => k = g) w2 W → W.cell? ⟨Sb, 0, none⟩ = some (.string ⟨#[105, 110, 116, 51, 50]⟩)) := fun W hW => by rw [(BS.kp hW (by omega)).cell 0]; rfl
      refine wp_region_held_drew (S := fun w' => Kp (fun k => k = g) w2 w') (by kernel_rfl) hS (fun hS => ?_)
      refine rg_take 0 9 (.pointer (some ⟨g, 0, none⟩)) _ rfl rfl (by kernel_rfl) (by kernel_rfl) (by kernel_rfl) (fun _ _ _ h => h) (by rfl) (fun w' hw' => ?_) hS (listed' := #[true, false, false, false, false, false, false, false]) (by kernel_rfl) rfl ?_
      · go_simp
      simp only [List.setIfInBounds_toArray, List.set_cons_zero, List.set_cons_succ]
      refine rg_take 1 10 (.pointer (some ⟨Sb, 0, none⟩)) _ rfl rfl (by kernel_rfl) (by kernel_rfl) (by kernel_rfl) (fun _ _ _ h => h) (by rfl) (fun w' hw' => ?_) hS (listed' := #[true, true, false, false, false, false, false, false]) (by kernel_rfl) rfl ?_
      · go_simp
      simp only [List.setIfInBounds_toArray, List.set_cons_zero, List.set_cons_succ]
      refine rg_take 2 11 (.string ⟨#[105, 110, 116, 51, 50]⟩) _ rfl rfl (by kernel_rfl) (by kernel_rfl) (by kernel_rfl) (fun _ _ _ h => h) (by rfl) (fun w' hw' => ?_) hS (listed' := #[true, true, true, false, false, false, false, false]) (by kernel_rfl) rfl ?_
      · have hcv := HCC.out w' hw'; go_simp
      simp only [List.setIfInBounds_toArray, List.set_cons_zero, List.set_cons_succ]
      refine rg_take 5 14 (.pointer (some ⟨Sb, 0, none⟩)) _ rfl rfl (by kernel_rfl) (by kernel_rfl) (by kernel_rfl) (fun _ _ _ h => h) (by rfl) (fun w' hw' => ?_) hS (listed' := #[true, true, true, false, false, true, false, false]) (by kernel_rfl) rfl ?_
      · go_simp
      simp only [List.setIfInBounds_toArray, List.set_cons_zero, List.set_cons_succ]
      refine rg_take 6 15 (.string ⟨#[105, 110, 116, 51, 50]⟩) _ rfl rfl (by kernel_rfl) (by kernel_rfl) (by kernel_rfl) (fun _ _ _ h => h) (by rfl) (fun w' hw' => ?_) hS (listed' := #[true, true, true, false, false, true, true, false]) (by kernel_rfl) rfl ?_
      · have hcv := HCC.out w' hw'; go_simp
      simp only [List.setIfInBounds_toArray, List.set_cons_zero, List.set_cons_succ]
      refine rg_run 3 12 (.slice (some ⟨w2.drew.heap.size, 0, none⟩) 1 1) (w2.drew.alloc (.cells #[.string ⟨#[105, 110, 116, 51, 50]⟩] 9)) rfl rfl (by kernel_rfl) (by rfl) (listed' := #[true, true, true, true, false, true, true, false]) (by kernel_rfl) ?_ (hS.alloc _) ?_
      · go_simp
      simp only [List.setIfInBounds_toArray, List.set_cons_zero, List.set_cons_succ]
      refine rg_call 4 13 53 #[.pointer (some ⟨g, 0, none⟩), .slice (some ⟨w2.drew.heap.size, 0, none⟩) 1 1] rfl rfl (by kernel_rfl) (by rfl) (listed' := #[true, true, true, true, true, true, true, false]) (by kernel_rfl) (fun w' => ?_) ?_
      · go_simp
      have h3 : Rd w2.drew g V ts E σ := h2.below (Below.refl _ _).drew
      refine (take_new ⟨#[105, 110, 116, 51, 50]⟩ _ rfl h3 (by decide +kernel)).mono ?_
      rintro e w3 ⟨rfl, h4, k4⟩
      have hS := hS.trans k4
      refine ⟨_, rfl, hS, ?_⟩
      have K4 := K2.trans hS
      have BS4 := BS.kp hS (by omega)
      have B4 := B2.kp hS (by omega)
      clear h3 h2 k4 BS B2 K2 HCC
      simp only [List.setIfInBounds_toArray, List.set_cons_zero, List.set_cons_succ]
      rcases take_cases [⟨#[105, 110, 116, 51, 50]⟩] σ (by decide +kernel) with ⟨t, r, e0, e1, e2, e3, e4⟩ | ⟨e1, e2, e3, e4, e5⟩
      · rw [e1] at h4 ⊢
        simp only [res, stX] at h4 ⊢
        rw [any_one, beq_iff_eq] at e3
        have hd : (t.toList == [105, 110, 116, 51, 50]) = true := by rw [ByteArray.toList_eq, ← e3]; decide +kernel
        have hty := type_yes e0 0 (by omega) e3.symm
        have eT : T = (1, noT) := by rw [← HT.out, hty]; rfl
        have eS : σ' = .inr r := by rw [← HS.out, hty]; rfl
        subst eT eS
        clear HT HS hty e0 e1 e2 e4
        have HE : Hid ((⟨#[105, 110, 116, 51, 50]⟩ : ByteArray).data.toList = t.data.toList) := e3
        clear e3
        refine rg_take 7 16 (.bool true) _ rfl rfl (by kernel_rfl) (by kernel_rfl) (by kernel_rfl) (fun _ _ _ h => h) (by rfl) (fun w' hw' => ?_) hS (listed' := #[true, true, true, true, true, true, true, true]) (by kernel_rfl) rfl ?_
        · go_simp
        simp only [List.setIfInBounds_toArray, List.set_cons_zero, List.set_cons_succ]
        refine wpAnyH_done (by kernel_rfl) ?_ _
        have s1 := BS4.cell 1
        have r0 := B4.cell 0
        have r1 := B4.cell 1
        have f0 := B4.froz 0
        have f1 := B4.froz 1
        simp only [List.getElem?_toArray, List.getElem?_cons_succ, List.getElem?_cons_zero] at s1 r0 r1
        go_wp2_with fail
        refine bodyPost_ret (results_cell rfl _ _ _ ⟨R, 0, none⟩ (.agg #[.int .i64 1, .string ⟨#[]⟩]) (by go_simp) (by go_simp)) rfl ?_
        refine ⟨rfl, (h4.other hg _).other hg _, ?_⟩
        have hlt : R < w.heap.size → R = g := fun hlt => by have := HR.out; omega
        exact (K4.setCell hlt _).setCell hlt _
      · rw [e1] at h4
        rw [e2]
        rw [any_one] at e5
        have HN2 : Hid (∀ j, j < 1 → ¬ (headS σ).data.toList = (wordK j).data.toList) := by
          intro j hj e
          by_cases ej : j = 0
          · subst ej
            rw [beq_eq_false_iff_ne] at e5
            exact e5 e.symm
          · exact HN.out j (by omega) e
        clear e1 e2 e3 e4 e5 HN
        simp only [noT]
        refine rg_take 7 16 (.bool false) _ rfl rfl (by kernel_rfl) (by kernel_rfl) (by kernel_rfl) (fun _ _ _ h => h) (by rfl) (fun w' hw' => ?_) hS (listed' := #[true, true, true, true, true, true, true, true]) (by kernel_rfl) rfl ?_
        · go_simp
        simp only [List.setIfInBounds_toArray, List.set_cons_zero, List.set_cons_succ]
        refine wpAnyH_done (by kernel_rfl) ?_ _
        go_wp2_with fail
        go_roundw
        case rel => exact ⟨1, rfl, by omega, h4, K4, B4, HN2⟩
        case measure => simp [intOf]
    | 1, _, HN =>
      have BS := Blk.new wr #[.string ⟨#[105, 110, 116, 54, 52]⟩, .int .i64 2] 115
      have h2 := h1.alloc (.cells #[.string ⟨#[105, 110, 116, 54, 52]⟩, .int .i64 2] 115)
      have B2 := B1.below ((Below.refl _ _).alloc (Nat.le_refl _) (.cells #[.string ⟨#[105, 110, 116, 54, 52]⟩, .int .i64 2] 115))
      have K2 := K1.alloc (.cells #[.string ⟨#[105, 110, 116, 54, 52]⟩, .int .i64 2] 115)
      have hgS : g < wr.heap.size := h1.lt
      have hRS : R < wr.heap.size := B1.lt
      clear h1 B1 K1
      have hix : (Instr.index 116 (.agg #[.string ⟨#[105, 110, 116, 51, 50]⟩, .int .i64 1, .string ⟨#[105, 110, 116, 54, 52]⟩, .int .i64 2, .string ⟨#[98, 111, 111, 108]⟩, .int .i64 3, .string ⟨#[116, 101, 120, 116]⟩, .int .i64 4, .string ⟨#[98, 121, 116, 101, 115]⟩, .int .i64 5]) (.int .i64 1)).run Tryd.prog wr = .ok (.agg #[.string ⟨#[105, 110, 116, 54, 52]⟩, .int .i64 2]) wr := tab_at wr 1 (by omega)
      go_wp2_with fail
      clear hix
      generalize hSb : wr.heap.size = Sb at *
      generalize hW2 : wr.alloc (.cells #[.string ⟨#[105, 110, 116, 54, 52]⟩, .int .i64 2] 115) = w2 at *
      clear hSb hW2
      have hS : Kp (fun k => k = g) w2 w2.drew := ⟨rfl, rfl, rfl, Nat.le_refl _, fun _ _ _ => rfl⟩
      have HCC : Hid (∀ W, Kp (fun k => k = g) w2 W → W.cell? ⟨Sb, 0, none⟩ = some (.string ⟨#[105, 110, 116, 54, 52]⟩)) := fun W hW => by rw [(BS.kp hW (by omega)).cell 0]; rfl
      refine wp_region_held_drew (S := fun w' => Kp (fun k => k = g) w2 w') (by kernel_rfl) hS (fun hS => ?_)
      refine rg_take 0 9 (.pointer (some ⟨g, 0, none⟩)) _ rfl rfl (by kernel_rfl) (by kernel_rfl) (by kernel_rfl) (fun _ _ _ h => h) (by rfl) (fun w' hw' => ?_) hS (listed' := #[true, false, false, false, false, false, false, false]) (by kernel_rfl) rfl ?_
      · go_simp
      simp only [List.setIfInBounds_toArray, List.set_cons_zero, List.set_cons_succ]
      refine rg_take 1 10 (.pointer (some ⟨Sb, 0, none⟩)) _ rfl rfl (by kernel_rfl) (by kernel_rfl) (by kernel_rfl) (fun _ _ _ h => h) (by rfl) (fun w' hw' => ?_) hS (listed' := #[true, true, false, false, false, false, false, false]) (by kernel_rfl) rfl ?_
      · go_simp
      simp only [List.setIfInBounds_toArray, List.set_cons_zero, List.set_cons_succ]
      refine rg_take 2 11 (.string ⟨#[105, 110, 116, 54, 52]⟩) _ rfl rfl (by kernel_rfl) (by kernel_rfl) (by kernel_rfl) (fun _ _ _ h => h) (by rfl) (fun w' hw' => ?_) hS (listed' := #[true, true, true, false, false, false, false, false]) (by kernel_rfl) rfl ?_
      · have hcv := HCC.out w' hw'; go_simp
      simp only [List.setIfInBounds_toArray, List.set_cons_zero, List.set_cons_succ]
      refine rg_take 5 14 (.pointer (some ⟨Sb, 0, none⟩)) _ rfl rfl (by kernel_rfl) (by kernel_rfl) (by kernel_rfl) (fun _ _ _ h => h) (by rfl) (fun w' hw' => ?_) hS (listed' := #[true, true, true, false, false, true, false, false]) (by kernel_rfl) rfl ?_
      · go_simp
      simp only [List.setIfInBounds_toArray, List.set_cons_zero, List.set_cons_succ]
      refine rg_take 6 15 (.string ⟨#[105, 110, 116, 54, 52]⟩) _ rfl rfl (by kernel_rfl) (by kernel_rfl) (by kernel_rfl) (fun _ _ _ h => h) (by rfl) (fun w' hw' => ?_) hS (listed' := #[true, true, true, false, false, true, true, false]) (by kernel_rfl) rfl ?_
      · have hcv := HCC.out w' hw'; go_simp
      simp only [List.setIfInBounds_toArray, List.set_cons_zero, List.set_cons_succ]
      refine rg_run 3 12 (.slice (some ⟨w2.drew.heap.size, 0, none⟩) 1 1) (w2.drew.alloc (.cells #[.string ⟨#[105, 110, 116, 54, 52]⟩] 9)) rfl rfl (by kernel_rfl) (by rfl) (listed' := #[true, true, true, true, false, true, true, false]) (by kernel_rfl) ?_ (hS.alloc _) ?_
      · go_simp
      simp only [List.setIfInBounds_toArray, List.set_cons_zero, List.set_cons_succ]
      refine rg_call 4 13 53 #[.pointer (some ⟨g, 0, none⟩), .slice (some ⟨w2.drew.heap.size, 0, none⟩) 1 1] rfl rfl (by kernel_rfl) (by rfl) (listed' := #[true, true, true, true, true, true, true, false]) (by kernel_rfl) (fun w' => ?_) ?_
      · go_simp
      have h3 : Rd w2.drew g V ts E σ := h2.below (Below.refl _ _).drew
      refine (take_new ⟨#[105, 110, 116, 54, 52]⟩ _ rfl h3 (by decide +kernel)).mono ?_
      rintro e w3 ⟨rfl, h4, k4⟩
      have hS := hS.trans k4
      refine ⟨_, rfl, hS, ?_⟩
      have K4 := K2.trans hS
      have BS4 := BS.kp hS (by omega)
      have B4 := B2.kp hS (by omega)
      clear h3 h2 k4 BS B2 K2 HCC
      simp only [List.setIfInBounds_toArray, List.set_cons_zero, List.set_cons_succ]
      rcases take_cases [⟨#[105, 110, 116, 54, 52]⟩] σ (by decide +kernel) with ⟨t, r, e0, e1, e2, e3, e4⟩ | ⟨e1, e2, e3, e4, e5⟩
      · rw [e1] at h4 ⊢
        simp only [res, stX] at h4 ⊢
        rw [any_one, beq_iff_eq] at e3
        have hd : (t.toList == [105, 110, 116, 54, 52]) = true := by rw [ByteArray.toList_eq, ← e3]; decide +kernel
        have hty := type_yes e0 1 (by omega) e3.symm
        have eT : T = (2, noT) := by rw [← HT.out, hty]; rfl
        have eS : σ' = .inr r := by rw [← HS.out, hty]; rfl
        subst eT eS
        clear HT HS hty e0 e1 e2 e4
        have HE : Hid ((⟨#[105, 110, 116, 54, 52]⟩ : ByteArray).data.toList = t.data.toList) := e3
        clear e3
        refine rg_take 7 16 (.bool true) _ rfl rfl (by kernel_rfl) (by kernel_rfl) (by kernel_rfl) (fun _ _ _ h => h) (by rfl) (fun w' hw' => ?_) hS (listed' := #[true, true, true, true, true, true, true, true]) (by kernel_rfl) rfl ?_
        · go_simp
        simp only [List.setIfInBounds_toArray, List.set_cons_zero, List.set_cons_succ]
        refine wpAnyH_done (by kernel_rfl) ?_ _
        have s1 := BS4.cell 1
        have r0 := B4.cell 0
        have r1 := B4.cell 1
        have f0 := B4.froz 0
        have f1 := B4.froz 1
        simp only [List.getElem?_toArray, List.getElem?_cons_succ, List.getElem?_cons_zero] at s1 r0 r1
        go_wp2_with fail
        refine bodyPost_ret (results_cell rfl _ _ _ ⟨R, 0, none⟩ (.agg #[.int .i64 2, .string ⟨#[]⟩]) (by go_simp) (by go_simp)) rfl ?_
        refine ⟨rfl, (h4.other hg _).other hg _, ?_⟩
        have hlt : R < w.heap.size → R = g := fun hlt => by have := HR.out; omega
        exact (K4.setCell hlt _).setCell hlt _
      · rw [e1] at h4
        rw [e2]
        rw [any_one] at e5
        have HN2 : Hid (∀ j, j < 2 → ¬ (headS σ).data.toList = (wordK j).data.toList) := by
          intro j hj e
          by_cases ej : j = 1
          · subst ej
            rw [beq_eq_false_iff_ne] at e5
            exact e5 e.symm
          · exact HN.out j (by omega) e
        clear e1 e2 e3 e4 e5 HN
        simp only [noT]
        refine rg_take 7 16 (.bool false) _ rfl rfl (by kernel_rfl) (by kernel_rfl) (by kernel_rfl) (fun _ _ _ h => h) (by rfl) (fun w' hw' => ?_) hS (listed' := #[true, true, true, true, true, true, true, true]) (by kernel_rfl) rfl ?_
        · go_simp
        simp only [List.setIfInBounds_toArray, List.set_cons_zero, List.set_cons_succ]
        refine wpAnyH_done (by kernel_rfl) ?_ _
        go_wp2_with fail
        go_roundw
        case rel => exact ⟨2, rfl, by omega, h4, K4, B4, HN2⟩
        case measure => simp [intOf]
    | 2, _, HN =>
      have BS := Blk.new wr #[.string ⟨#[98, 111, 111, 108]⟩, .int .i64 3] 115
      have h2 := h1.alloc (.cells #[.string ⟨#[98, 111, 111, 108]⟩, .int .i64 3] 115)
      have B2 := B1.below ((Below.refl _ _).alloc (Nat.le_refl _) (.cells #[.string ⟨#[98, 111, 111, 108]⟩, .int .i64 3] 115))
      have K2 := K1.alloc (.cells #[.string ⟨#[98, 111, 111, 108]⟩, .int .i64 3] 115)
      have hgS : g < wr.heap.size := h1.lt
      have hRS : R < wr.heap.size := B1.lt
      clear h1 B1 K1
      have hix : (Instr.index 116 (.agg #[.string ⟨#[105, 110, 116, 51, 50]⟩, .int .i64 1, .string ⟨#[105, 110, 116, 54, 52]⟩, .int .i64 2, .string ⟨#[98, 111, 111, 108]⟩, .int .i64 3, .string ⟨#[116, 101, 120, 116]⟩, .int .i64 4, .string ⟨#[98, 121, 116, 101, 115]⟩, .int .i64 5]) (.int .i64 2)).run Tryd.prog wr = .ok (.agg #[.string ⟨#[98, 111, 111, 108]⟩, .int .i64 3]) wr := tab_at wr 2 (by omega)
      go_wp2_with fail
      clear hix
      generalize hSb : wr.heap.size = Sb at *
      generalize hW2 : wr.alloc (.cells #[.string ⟨#[98, 111, 111, 108]⟩, .int .i64 3] 115) = w2 at *
      clear hSb hW2
      have hS : Kp (fun k => k = g) w2 w2.drew := ⟨rfl, rfl, rfl, Nat.le_refl _, fun _ _ _ => rfl⟩
      have HCC : Hid (∀ W, Kp (fun k => k = g) w2 W → W.cell? ⟨Sb, 0, none⟩ = some (.string ⟨#[98, 111, 111, 108]⟩)) := fun W hW => by rw [(BS.kp hW (by omega)).cell 0]; rfl
      refine wp_region_held_drew (S := fun w' => Kp (fun k => k = g) w2 w') (by kernel_rfl) hS (fun hS => ?_)
      refine rg_take 0 9 (.pointer (some ⟨g, 0, none⟩)) _ rfl rfl (by kernel_rfl) (by kernel_rfl) (by kernel_rfl) (fun _ _ _ h => h) (by rfl) (fun w' hw' => ?_) hS (listed' := #[true, false, false, false, false, false, false, false]) (by kernel_rfl) rfl ?_
      · go_simp
      simp only [List.setIfInBounds_toArray, List.set_cons_zero, List.set_cons_succ]
      refine rg_take 1 10 (.pointer (some ⟨Sb, 0, none⟩)) _ rfl rfl (by kernel_rfl) (by kernel_rfl) (by kernel_rfl) (fun _ _ _ h => h) (by rfl) (fun w' hw' => ?_) hS (listed' := #[true, true, false, false, false, false, false, false]) (by kernel_rfl) rfl ?_
      · go_simp
      simp only [List.setIfInBounds_toArray, List.set_cons_zero, List.set_cons_succ]
      refine rg_take 2 11 (.string ⟨#[98, 111, 111, 108]⟩) _ rfl rfl (by kernel_rfl) (by kernel_rfl) (by kernel_rfl) (fun _ _ _ h => h) (by rfl) (fun w' hw' => ?_) hS (listed' := #[true, true, true, false, false, false, false, false]) (by kernel_rfl) rfl ?_
      · have hcv := HCC.out w' hw'; go_simp
      simp only [List.setIfInBounds_toArray, List.set_cons_zero, List.set_cons_succ]
      refine rg_take 5 14 (.pointer (some ⟨Sb, 0, none⟩)) _ rfl rfl (by kernel_rfl) (by kernel_rfl) (by kernel_rfl) (fun _ _ _ h => h) (by rfl) (fun w' hw' => ?_) hS (listed' := #[true, true, true, false, false, true, false, false]) (by kernel_rfl) rfl ?_
      · go_simp
      simp only [List.setIfInBounds_toArray, List.set_cons_zero, List.set_cons_succ]
      refine rg_take 6 15 (.string ⟨#[98, 111, 111, 108]⟩) _ rfl rfl (by kernel_rfl) (by kernel_rfl) (by kernel_rfl) (fun _ _ _ h => h) (by rfl) (fun w' hw' => ?_) hS (listed' := #[true, true, true, false, false, true, true, false]) (by kernel_rfl) rfl ?_
      · have hcv := HCC.out w' hw'; go_simp
      simp only [List.setIfInBounds_toArray, List.set_cons_zero, List.set_cons_succ]
      refine rg_run 3 12 (.slice (some ⟨w2.drew.heap.size, 0, none⟩) 1 1) (w2.drew.alloc (.cells #[.string ⟨#[98, 111, 111, 108]⟩] 9)) rfl rfl (by kernel_rfl) (by rfl) (listed' := #[true, true, true, true, false, true, true, false]) (by kernel_rfl) ?_ (hS.alloc _) ?_
      · go_simp
      simp only [List.setIfInBounds_toArray, List.set_cons_zero, List.set_cons_succ]
      refine rg_call 4 13 53 #[.pointer (some ⟨g, 0, none⟩), .slice (some ⟨w2.drew.heap.size, 0, none⟩) 1 1] rfl rfl (by kernel_rfl) (by rfl) (listed' := #[true, true, true, true, true, true, true, false]) (by kernel_rfl) (fun w' => ?_) ?_
      · go_simp
      have h3 : Rd w2.drew g V ts E σ := h2.below (Below.refl _ _).drew
      refine (take_new ⟨#[98, 111, 111, 108]⟩ _ rfl h3 (by decide +kernel)).mono ?_
      rintro e w3 ⟨rfl, h4, k4⟩
      have hS := hS.trans k4
      refine ⟨_, rfl, hS, ?_⟩
      have K4 := K2.trans hS
      have BS4 := BS.kp hS (by omega)
      have B4 := B2.kp hS (by omega)
      clear h3 h2 k4 BS B2 K2 HCC
      simp only [List.setIfInBounds_toArray, List.set_cons_zero, List.set_cons_succ]
      rcases take_cases [⟨#[98, 111, 111, 108]⟩] σ (by decide +kernel) with ⟨t, r, e0, e1, e2, e3, e4⟩ | ⟨e1, e2, e3, e4, e5⟩
      · rw [e1] at h4 ⊢
        simp only [res, stX] at h4 ⊢
        rw [any_one, beq_iff_eq] at e3
        have hd : (t.toList == [98, 111, 111, 108]) = true := by rw [ByteArray.toList_eq, ← e3]; decide +kernel
        have hty := type_yes e0 2 (by omega) e3.symm
        have eT : T = (3, noT) := by rw [← HT.out, hty]; rfl
        have eS : σ' = .inr r := by rw [← HS.out, hty]; rfl
        subst eT eS
        clear HT HS hty e0 e1 e2 e4
        have HE : Hid ((⟨#[98, 111, 111, 108]⟩ : ByteArray).data.toList = t.data.toList) := e3
        clear e3
        refine rg_take 7 16 (.bool true) _ rfl rfl (by kernel_rfl) (by kernel_rfl) (by kernel_rfl) (fun _ _ _ h => h) (by rfl) (fun w' hw' => ?_) hS (listed' := #[true, true, true, true, true, true, true, true]) (by kernel_rfl) rfl ?_
        · go_simp
        simp only [List.setIfInBounds_toArray, List.set_cons_zero, List.set_cons_succ]
        refine wpAnyH_done (by kernel_rfl) ?_ _
        have s1 := BS4.cell 1
        have r0 := B4.cell 0
        have r1 := B4.cell 1
        have f0 := B4.froz 0
        have f1 := B4.froz 1
        simp only [List.getElem?_toArray, List.getElem?_cons_succ, List.getElem?_cons_zero] at s1 r0 r1
        go_wp2_with fail
        refine bodyPost_ret (results_cell rfl _ _ _ ⟨R, 0, none⟩ (.agg #[.int .i64 3, .string ⟨#[]⟩]) (by go_simp) (by go_simp)) rfl ?_
        refine ⟨rfl, (h4.other hg _).other hg _, ?_⟩
        have hlt : R < w.heap.size → R = g := fun hlt => by have := HR.out; omega
        exact (K4.setCell hlt _).setCell hlt _
      · rw [e1] at h4
        rw [e2]
        rw [any_one] at e5
        have HN2 : Hid (∀ j, j < 3 → ¬ (headS σ).data.toList = (wordK j).data.toList) := by
          intro j hj e
          by_cases ej : j = 2
          · subst ej
            rw [beq_eq_false_iff_ne] at e5
            exact e5 e.symm
          · exact HN.out j (by omega) e
        clear e1 e2 e3 e4 e5 HN
        simp only [noT]
        refine rg_take 7 16 (.bool false) _ rfl rfl (by kernel_rfl) (by kernel_rfl) (by kernel_rfl) (fun _ _ _ h => h) (by rfl) (fun w' hw' => ?_) hS (listed' := #[true, true, true, true, true, true, true, true]) (by kernel_rfl) rfl ?_
        · go_simp
        simp only [List.setIfInBounds_toArray, List.set_cons_zero, List.set_cons_succ]
        refine wpAnyH_done (by kernel_rfl) ?_ _
        go_wp2_with fail
        go_roundw
        case rel => exact ⟨3, rfl, by omega, h4, K4, B4, HN2⟩
        case measure => simp [intOf]
    | 3, _, HN =>
      have BS := Blk.new wr #[.string ⟨#[116, 101, 120, 116]⟩, .int .i64 4] 115
      have h2 := h1.alloc (.cells #[.string ⟨#[116, 101, 120, 116]⟩, .int .i64 4] 115)
      have B2 := B1.below ((Below.refl _ _).alloc (Nat.le_refl _) (.cells #[.string ⟨#[116, 101, 120, 116]⟩, .int .i64 4] 115))
      have K2 := K1.alloc (.cells #[.string ⟨#[116, 101, 120, 116]⟩, .int .i64 4] 115)
      have hgS : g < wr.heap.size := h1.lt
      have hRS : R < wr.heap.size := B1.lt
      clear h1 B1 K1
      have hix : (Instr.index 116 (.agg #[.string ⟨#[105, 110, 116, 51, 50]⟩, .int .i64 1, .string ⟨#[105, 110, 116, 54, 52]⟩, .int .i64 2, .string ⟨#[98, 111, 111, 108]⟩, .int .i64 3, .string ⟨#[116, 101, 120, 116]⟩, .int .i64 4, .string ⟨#[98, 121, 116, 101, 115]⟩, .int .i64 5]) (.int .i64 3)).run Tryd.prog wr = .ok (.agg #[.string ⟨#[116, 101, 120, 116]⟩, .int .i64 4]) wr := tab_at wr 3 (by omega)
      go_wp2_with fail
      clear hix
      generalize hSb : wr.heap.size = Sb at *
      generalize hW2 : wr.alloc (.cells #[.string ⟨#[116, 101, 120, 116]⟩, .int .i64 4] 115) = w2 at *
      clear hSb hW2
      have hS : Kp (fun k => k = g) w2 w2.drew := ⟨rfl, rfl, rfl, Nat.le_refl _, fun _ _ _ => rfl⟩
      have HCC : Hid (∀ W, Kp (fun k => k = g) w2 W → W.cell? ⟨Sb, 0, none⟩ = some (.string ⟨#[116, 101, 120, 116]⟩)) := fun W hW => by rw [(BS.kp hW (by omega)).cell 0]; rfl
      refine wp_region_held_drew (S := fun w' => Kp (fun k => k = g) w2 w') (by kernel_rfl) hS (fun hS => ?_)
      refine rg_take 0 9 (.pointer (some ⟨g, 0, none⟩)) _ rfl rfl (by kernel_rfl) (by kernel_rfl) (by kernel_rfl) (fun _ _ _ h => h) (by rfl) (fun w' hw' => ?_) hS (listed' := #[true, false, false, false, false, false, false, false]) (by kernel_rfl) rfl ?_
      · go_simp
      simp only [List.setIfInBounds_toArray, List.set_cons_zero, List.set_cons_succ]
      refine rg_take 1 10 (.pointer (some ⟨Sb, 0, none⟩)) _ rfl rfl (by kernel_rfl) (by kernel_rfl) (by kernel_rfl) (fun _ _ _ h => h) (by rfl) (fun w' hw' => ?_) hS (listed' := #[true, true, false, false, false, false, false, false]) (by kernel_rfl) rfl ?_
      · go_simp
      simp only [List.setIfInBounds_toArray, List.set_cons_zero, List.set_cons_succ]
      refine rg_take 2 11 (.string ⟨#[116, 101, 120, 116]⟩) _ rfl rfl (by kernel_rfl) (by kernel_rfl) (by kernel_rfl) (fun _ _ _ h => h) (by rfl) (fun w' hw' => ?_) hS (listed' := #[true, true, true, false, false, false, false, false]) (by kernel_rfl) rfl ?_
      · have hcv := HCC.out w' hw'; go_simp
      simp only [List.setIfInBounds_toArray, List.set_cons_zero, List.set_cons_succ]
      refine rg_take 5 14 (.pointer (some ⟨Sb, 0, none⟩)) _ rfl rfl (by kernel_rfl) (by kernel_rfl) (by kernel_rfl) (fun _ _ _ h => h) (by rfl) (fun w' hw' => ?_) hS (listed' := #[true, true, true, false, false, true, false, false]) (by kernel_rfl) rfl ?_
      · go_simp
      simp only [List.setIfInBounds_toArray, List.set_cons_zero, List.set_cons_succ]
      refine rg_take 6 15 (.string ⟨#[116, 101, 120, 116]⟩) _ rfl rfl (by kernel_rfl) (by kernel_rfl) (by kernel_rfl) (fun _ _ _ h => h) (by rfl) (fun w' hw' => ?_) hS (listed' := #[true, true, true, false, false, true, true, false]) (by kernel_rfl) rfl ?_
      · have hcv := HCC.out w' hw'; go_simp
      simp only [List.setIfInBounds_toArray, List.set_cons_zero, List.set_cons_succ]
      refine rg_run 3 12 (.slice (some ⟨w2.drew.heap.size, 0, none⟩) 1 1) (w2.drew.alloc (.cells #[.string ⟨#[116, 101, 120, 116]⟩] 9)) rfl rfl (by kernel_rfl) (by rfl) (listed' := #[true, true, true, true, false, true, true, false]) (by kernel_rfl) ?_ (hS.alloc _) ?_
      · go_simp
      simp only [List.setIfInBounds_toArray, List.set_cons_zero, List.set_cons_succ]
      refine rg_call 4 13 53 #[.pointer (some ⟨g, 0, none⟩), .slice (some ⟨w2.drew.heap.size, 0, none⟩) 1 1] rfl rfl (by kernel_rfl) (by rfl) (listed' := #[true, true, true, true, true, true, true, false]) (by kernel_rfl) (fun w' => ?_) ?_
      · go_simp
      have h3 : Rd w2.drew g V ts E σ := h2.below (Below.refl _ _).drew
      refine (take_new ⟨#[116, 101, 120, 116]⟩ _ rfl h3 (by decide +kernel)).mono ?_
      rintro e w3 ⟨rfl, h4, k4⟩
      have hS := hS.trans k4
      refine ⟨_, rfl, hS, ?_⟩
      have K4 := K2.trans hS
      have BS4 := BS.kp hS (by omega)
      have B4 := B2.kp hS (by omega)
      clear h3 h2 k4 BS B2 K2 HCC
      simp only [List.setIfInBounds_toArray, List.set_cons_zero, List.set_cons_succ]
      rcases take_cases [⟨#[116, 101, 120, 116]⟩] σ (by decide +kernel) with ⟨t, r, e0, e1, e2, e3, e4⟩ | ⟨e1, e2, e3, e4, e5⟩
      · rw [e1] at h4 ⊢
        simp only [res, stX] at h4 ⊢
        rw [any_one, beq_iff_eq] at e3
        have hd : (t.toList == [116, 101, 120, 116]) = true := by rw [ByteArray.toList_eq, ← e3]; decide +kernel
        have hty := type_yes e0 3 (by omega) e3.symm
        have eT : T = (4, noT) := by rw [← HT.out, hty]; rfl
        have eS : σ' = .inr r := by rw [← HS.out, hty]; rfl
        subst eT eS
        clear HT HS hty e0 e1 e2 e4
        have HE : Hid ((⟨#[116, 101, 120, 116]⟩ : ByteArray).data.toList = t.data.toList) := e3
        clear e3
        refine rg_take 7 16 (.bool true) _ rfl rfl (by kernel_rfl) (by kernel_rfl) (by kernel_rfl) (fun _ _ _ h => h) (by rfl) (fun w' hw' => ?_) hS (listed' := #[true, true, true, true, true, true, true, true]) (by kernel_rfl) rfl ?_
        · go_simp
        simp only [List.setIfInBounds_toArray, List.set_cons_zero, List.set_cons_succ]
        refine wpAnyH_done (by kernel_rfl) ?_ _
        have s1 := BS4.cell 1
        have r0 := B4.cell 0
        have r1 := B4.cell 1
        have f0 := B4.froz 0
        have f1 := B4.froz 1
        simp only [List.getElem?_toArray, List.getElem?_cons_succ, List.getElem?_cons_zero] at s1 r0 r1
        go_wp2_with fail
        refine bodyPost_ret (results_cell rfl _ _ _ ⟨R, 0, none⟩ (.agg #[.int .i64 4, .string ⟨#[]⟩]) (by go_simp) (by go_simp)) rfl ?_
        refine ⟨rfl, (h4.other hg _).other hg _, ?_⟩
        have hlt : R < w.heap.size → R = g := fun hlt => by have := HR.out; omega
        exact (K4.setCell hlt _).setCell hlt _
      · rw [e1] at h4
        rw [e2]
        rw [any_one] at e5
        have HN2 : Hid (∀ j, j < 4 → ¬ (headS σ).data.toList = (wordK j).data.toList) := by
          intro j hj e
          by_cases ej : j = 3
          · subst ej
            rw [beq_eq_false_iff_ne] at e5
            exact e5 e.symm
          · exact HN.out j (by omega) e
        clear e1 e2 e3 e4 e5 HN
        simp only [noT]
        refine rg_take 7 16 (.bool false) _ rfl rfl (by kernel_rfl) (by kernel_rfl) (by kernel_rfl) (fun _ _ _ h => h) (by rfl) (fun w' hw' => ?_) hS (listed' := #[true, true, true, true, true, true, true, true]) (by kernel_rfl) rfl ?_
        · go_simp
        simp only [List.setIfInBounds_toArray, List.set_cons_zero, List.set_cons_succ]
        refine wpAnyH_done (by kernel_rfl) ?_ _
        go_wp2_with fail
        go_roundw
        case rel => exact ⟨4, rfl, by omega, h4, K4, B4, HN2⟩
        case measure => simp [intOf]
    | 4, _, HN =>
      have BS := Blk.new wr #[.string ⟨#[98, 121, 116, 101, 115]⟩, .int .i64 5] 115
      have h2 := h1.alloc (.cells #[.string ⟨#[98, 121, 116, 101, 115]⟩, .int .i64 5] 115)
      have B2 := B1.below ((Below.refl _ _).alloc (Nat.le_refl _) (.cells #[.string ⟨#[98, 121, 116, 101, 115]⟩, .int .i64 5] 115))
      have K2 := K1.alloc (.cells #[.string ⟨#[98, 121, 116, 101, 115]⟩, .int .i64 5] 115)
      have hgS : g < wr.heap.size := h1.lt
      have hRS : R < wr.heap.size := B1.lt
      clear h1 B1 K1
      have hix : (Instr.index 116 (.agg #[.string ⟨#[105, 110, 116, 51, 50]⟩, .int .i64 1, .string ⟨#[105, 110, 116, 54, 52]⟩, .int .i64 2, .string ⟨#[98, 111, 111, 108]⟩, .int .i64 3, .string ⟨#[116, 101, 120, 116]⟩, .int .i64 4, .string ⟨#[98, 121, 116, 101, 115]⟩, .int .i64 5]) (.int .i64 4)).run Tryd.prog wr = .ok (.agg #[.string ⟨#[98, 121, 116, 101, 115]⟩, .int .i64 5]) wr := tab_at wr 4 (by omega)
      go_wp2_with fail
      clear hix
      generalize hSb : wr.heap.size = Sb at *
      generalize hW2 : wr.alloc (.cells #[.string ⟨#[98, 121, 116, 101, 115]⟩, .int .i64 5] 115) = w2 at *
      clear hSb hW2
      have hS : Kp (fun k => k = g) w2 w2.drew := ⟨rfl, rfl, rfl, Nat.le_refl _, fun _ _ _ => rfl⟩
      have HCC : Hid (∀ W, Kp (fun k => k = g) w2 W → W.cell? ⟨Sb, 0, none⟩ = some (.string ⟨#[98, 121, 116, 101, 115]⟩)) := fun W hW => by rw [(BS.kp hW (by omega)).cell 0]; rfl
      refine wp_region_held_drew (S := fun w' => Kp (fun k => k = g) w2 w') (by kernel_rfl) hS (fun hS => ?_)
      refine rg_take 0 9 (.pointer (some ⟨g, 0, none⟩)) _ rfl rfl (by kernel_rfl) (by kernel_rfl) (by kernel_rfl) (fun _ _ _ h => h) (by rfl) (fun w' hw' => ?_) hS (listed' := #[true, false, false, false, false, false, false, false]) (by kernel_rfl) rfl ?_
      · go_simp
      simp only [List.setIfInBounds_toArray, List.set_cons_zero, List.set_cons_succ]
      refine rg_take 1 10 (.pointer (some ⟨Sb, 0, none⟩)) _ rfl rfl (by kernel_rfl) (by kernel_rfl) (by kernel_rfl) (fun _ _ _ h => h) (by rfl) (fun w' hw' => ?_) hS (listed' := #[true, true, false, false, false, false, false, false]) (by kernel_rfl) rfl ?_
      · go_simp
      simp only [List.setIfInBounds_toArray, List.set_cons_zero, List.set_cons_succ]
      refine rg_take 2 11 (.string ⟨#[98, 121, 116, 101, 115]⟩) _ rfl rfl (by kernel_rfl) (by kernel_rfl) (by kernel_rfl) (fun _ _ _ h => h) (by rfl) (fun w' hw' => ?_) hS (listed' := #[true, true, true, false, false, false, false, false]) (by kernel_rfl) rfl ?_
      · have hcv := HCC.out w' hw'; go_simp
      simp only [List.setIfInBounds_toArray, List.set_cons_zero, List.set_cons_succ]
      refine rg_take 5 14 (.pointer (some ⟨Sb, 0, none⟩)) _ rfl rfl (by kernel_rfl) (by kernel_rfl) (by kernel_rfl) (fun _ _ _ h => h) (by rfl) (fun w' hw' => ?_) hS (listed' := #[true, true, true, false, false, true, false, false]) (by kernel_rfl) rfl ?_
      · go_simp
      simp only [List.setIfInBounds_toArray, List.set_cons_zero, List.set_cons_succ]
      refine rg_take 6 15 (.string ⟨#[98, 121, 116, 101, 115]⟩) _ rfl rfl (by kernel_rfl) (by kernel_rfl) (by kernel_rfl) (fun _ _ _ h => h) (by rfl) (fun w' hw' => ?_) hS (listed' := #[true, true, true, false, false, true, true, false]) (by kernel_rfl) rfl ?_
      · have hcv := HCC.out w' hw'; go_simp
      simp only [List.setIfInBounds_toArray, List.set_cons_zero, List.set_cons_succ]
      refine rg_run 3 12 (.slice (some ⟨w2.drew.heap.size, 0, none⟩) 1 1) (w2.drew.alloc (.cells #[.string ⟨#[98, 121, 116, 101, 115]⟩] 9)) rfl rfl (by kernel_rfl) (by rfl) (listed' := #[true, true, true, true, false, true, true, false]) (by kernel_rfl) ?_ (hS.alloc _) ?_
      · go_simp
      simp only [List.setIfInBounds_toArray, List.set_cons_zero, List.set_cons_succ]
      refine rg_call 4 13 53 #[.pointer (some ⟨g, 0, none⟩), .slice (some ⟨w2.drew.heap.size, 0, none⟩) 1 1] rfl rfl (by kernel_rfl) (by rfl) (listed' := #[true, true, true, true, true, true, true, false]) (by kernel_rfl) (fun w' => ?_) ?_
      · go_simp
      have h3 : Rd w2.drew g V ts E σ := h2.below (Below.refl _ _).drew
      refine (take_new ⟨#[98, 121, 116, 101, 115]⟩ _ rfl h3 (by decide +kernel)).mono ?_
      rintro e w3 ⟨rfl, h4, k4⟩
      have hS := hS.trans k4
      refine ⟨_, rfl, hS, ?_⟩
      have K4 := K2.trans hS
      have BS4 := BS.kp hS (by omega)
      have B4 := B2.kp hS (by omega)
      clear h3 h2 k4 BS B2 K2 HCC
      simp only [List.setIfInBounds_toArray, List.set_cons_zero, List.set_cons_succ]
      rcases take_cases [⟨#[98, 121, 116, 101, 115]⟩] σ (by decide +kernel) with ⟨t, r, e0, e1, e2, e3, e4⟩ | ⟨e1, e2, e3, e4, e5⟩
      · rw [e1] at h4 ⊢
        simp only [res, stX] at h4 ⊢
        rw [any_one, beq_iff_eq] at e3
        have hd : (t.toList == [98, 121, 116, 101, 115]) = true := by rw [ByteArray.toList_eq, ← e3]; decide +kernel
        have hty := type_yes e0 4 (by omega) e3.symm
        have eT : T = (5, noT) := by rw [← HT.out, hty]; rfl
        have eS : σ' = .inr r := by rw [← HS.out, hty]; rfl
        subst eT eS
        clear HT HS hty e0 e1 e2 e4
        have HE : Hid ((⟨#[98, 121, 116, 101, 115]⟩ : ByteArray).data.toList = t.data.toList) := e3
        clear e3
        refine rg_take 7 16 (.bool true) _ rfl rfl (by kernel_rfl) (by kernel_rfl) (by kernel_rfl) (fun _ _ _ h => h) (by rfl) (fun w' hw' => ?_) hS (listed' := #[true, true, true, true, true, true, true, true]) (by kernel_rfl) rfl ?_
        · go_simp
        simp only [List.setIfInBounds_toArray, List.set_cons_zero, List.set_cons_succ]
        refine wpAnyH_done (by kernel_rfl) ?_ _
        have s1 := BS4.cell 1
        have r0 := B4.cell 0
        have r1 := B4.cell 1
        have f0 := B4.froz 0
        have f1 := B4.froz 1
        simp only [List.getElem?_toArray, List.getElem?_cons_succ, List.getElem?_cons_zero] at s1 r0 r1
        go_wp2_with fail
        refine bodyPost_ret (results_cell rfl _ _ _ ⟨R, 0, none⟩ (.agg #[.int .i64 5, .string ⟨#[]⟩]) (by go_simp) (by go_simp)) rfl ?_
        refine ⟨rfl, (h4.other hg _).other hg _, ?_⟩
        have hlt : R < w.heap.size → R = g := fun hlt => by have := HR.out; omega
        exact (K4.setCell hlt _).setCell hlt _
      · rw [e1] at h4
        rw [e2]
        rw [any_one] at e5
        have HN2 : Hid (∀ j, j < 5 → ¬ (headS σ).data.toList = (wordK j).data.toList) := by
          intro j hj e
          by_cases ej : j = 4
          · subst ej
            rw [beq_eq_false_iff_ne] at e5
            exact e5 e.symm
          · exact HN.out j (by omega) e
        clear e1 e2 e3 e4 e5 HN
        simp only [noT]
        refine rg_take 7 16 (.bool false) _ rfl rfl (by kernel_rfl) (by kernel_rfl) (by kernel_rfl) (fun _ _ _ h => h) (by rfl) (fun w' hw' => ?_) hS (listed' := #[true, true, true, true, true, true, true, true]) (by kernel_rfl) rfl ?_
        · go_simp
        simp only [List.setIfInBounds_toArray, List.set_cons_zero, List.set_cons_succ]
        refine wpAnyH_done (by kernel_rfl) ?_ _
        go_wp2_with fail
        go_roundw
        case rel => exact ⟨5, rfl, by omega, h4, K4, B4, HN2⟩
        case measure => simp [intOf]
    | 5, _, HN =>
      obtain ⟨q1, q2⟩ := type_no HN.out
      have eS : σ' = stX (pOn σ pName) := by rw [← HS.out, q1]
      have eT : T = (0, res noT (pOn σ pName)) := by rw [← HT.out, q2]
      subst eS eT
      clear HT HS q1 q2 HN
      go_wp2_with fail
      refine (rname_any h1).mono ?_
      rintro e w2 ⟨rfl, h2, k2⟩
      have B2 := B1.kp k2 (by omega)
      have K2 := K1.trans k2
      clear B1 K1 k2 h1
      have r0 := B2.cell 0
      have r1 := B2.cell 1
      have f0 := B2.froz 0
      have f1 := B2.froz 1
      simp only [List.getElem?_toArray, List.getElem?_cons_succ, List.getElem?_cons_zero] at r0 r1
      go_wp2_with fail
      refine bodyPost_ret (results_cell rfl _ _ _ ⟨R, 0, none⟩ (.agg #[.int .i64 7, .string (res noT (pOn σ pName))]) (by go_simp) (by go_simp)) rfl ?_
      refine ⟨rfl, (h2.other hg _).other hg _, ?_⟩
      have hlt : R < w.heap.size → R = g := fun hlt => by have := HR.out; omega
      exact (K2.setCell hlt _).setCell hlt _
end Go.Proofs.YtfffjfccochccaaDoor

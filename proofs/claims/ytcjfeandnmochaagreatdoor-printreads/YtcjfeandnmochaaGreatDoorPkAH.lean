/- Part 8 of what the proof stands on. -/
import Derived.Test.YtcjfeandnmochaaGreatDoorPkAG
namespace Go.Proofs.YtcjfeandnmochaaGreatDoor
open Go.ChangeShapes Go.WideShapes Go.ChangeAt Go.RowKit
set_option linter.unusedVariables false
set_option linter.unusedSimpArgs false
set_option maxRecDepth 20000
set_option maxHeartbeats 1000000 in
theorem ropen_any {w : World} {g : Nat} {V : Value} {ts : List Tk} {E : Nat} {σ : Sg} (h : Rd w g V ts E σ) :
  Calls Tryz.prog 103 #[.pointer (some ⟨g, 0, none⟩)] w fun e w' => e = .returned (.bool (!badS σ && ((res noT (pOn σ (pTake [kShut]))).data.toList == []))) ∧ Rd w' g V ts E (stX (pOn σ (pTake [kShut]))) ∧ Kp (fun k => k = g) w w' := by
 obtain ⟨n, hn, hm, c0, c1, c2, c3, f1, f3⟩ := h.open
 clear c0 c1 c2 f1 f3 hn hm
 cases hb : badS σ with
 | true =>
  rw [hb] at c3
  have hs : stX (pOn σ (pTake [kShut])) = σ := by
   cases σ with
   | inl n => rfl
   | inr r => simp [badS] at hb
  rw [hs]
  clear hs hb
  go_enter Tryz.func103, Tryz.ntmps103
  go_wp2_with fail
  go_ret
  exact ⟨rfl, h, Kp.refl _ _⟩
 | false =>
  rw [hb] at c3
  clear hb
  go_enter Tryz.func103, Tryz.ntmps103
  go_wp2_with fail
  refine (take_new kShut _ rfl h (by decide +kernel)).mono ?_
  rintro e w1 ⟨rfl, h1, k1⟩
  clear c3
  obtain ⟨x, hx⟩ : ∃ x, res noT (pOn σ (pTake [kShut])) = x := ⟨_, rfl⟩
  rw [hx]
  cases hq : (x.data.toList == []) with
  | true =>
   have hq' : (x.toList == []) = true := by rw [ByteArray.toList_eq]; exact hq
   have HX : Hid (res noT (pOn σ (pTake [kShut])) = x) := hx
   clear hx
   go_wp2_with fail
   go_ret
   refine ⟨?_, h1, k1⟩
   rw [HX.out, hq]; rfl
  | false =>
   have hq' : (x.toList == []) = false := by rw [ByteArray.toList_eq]; exact hq
   have HX : Hid (res noT (pOn σ (pTake [kShut])) = x) := hx
   clear hx
   go_wp2_with fail
   go_ret
   refine ⟨?_, h1, k1⟩
   rw [HX.out, hq]; rfl
def wordK : Nat → ByteArray
 | 0 => ⟨#[105, 110, 116, 51, 50]⟩
 | 1 => ⟨#[105, 110, 116, 54, 52]⟩
 | 2 => ⟨#[98, 111, 111, 108]⟩
 | 3 => ⟨#[116, 101, 120, 116]⟩
 | _ => ⟨#[98, 121, 116, 101, 115]⟩
theorem type_yes {σ : Sg} {t : ByteArray} {r : List ByteArray} (hσ : σ = .inr (t :: r)) (k : Nat) (hk : k < 5) (ht : t.data.toList = (wordK k).data.toList) : pOn σ pType = .inr (((k : Int) + 1, noT), r) := by
 subst hσ
 simp only [pOn, pType]
 have : scalN t = k + 1 := by
  match k, hk with
  | 0, _ | 1, _ | 2, _ | 3, _ | 4, _ => simp only [wordK] at ht; unfold scalN; rw [ht]; decide +kernel
 rw [this, if_pos (by omega)]
 simp only [Sum.inr.injEq, Prod.mk.injEq, and_true]
 refine ⟨?_, rfl⟩
 omega
theorem type_no {σ : Sg} (h : ∀ j, j < 5 → ¬ (headS σ).data.toList = (wordK j).data.toList) : stX (pOn σ pType) = stX (pOn σ pName) ∧ res (0, noT) (pOn σ pType) = (0, res noT (pOn σ pName)) := by
 match σ, h with
 | .inl n, h => exact ⟨rfl, rfl⟩
 | .inr [], h => exact ⟨rfl, rfl⟩
 | .inr (t :: r), h =>
  have h0 := h 0 (by omega)
  have h1 := h 1 (by omega)
  have h2 := h 2 (by omega)
  have h3 := h 3 (by omega)
  have h4 := h 4 (by omega)
  simp only [headS, wordK] at h0 h1 h2 h3 h4
  have : scalN t = 0 := by
   unfold scalN
   rw [if_neg h0, if_neg h1, if_neg h2, if_neg h3, if_neg h4]
  simp only [pOn, pType, this, Nat.lt_irrefl, if_false]
  cases pName (t :: r) with
  | inl n => exact ⟨rfl, rfl⟩
  | inr x => obtain ⟨a, r'⟩ := x; exact ⟨rfl, rfl⟩
theorem any_one {k t : ByteArray} : anyS [k] t = (k.data.toList == t.data.toList) := by simp [anyS]
def tabV : Value := .agg #[.string ⟨#[105, 110, 116, 51, 50]⟩, .int .i64 1, .string ⟨#[105, 110, 116, 54, 52]⟩, .int .i64 2, .string ⟨#[98, 111, 111, 108]⟩, .int .i64 3, .string ⟨#[116, 101, 120, 116]⟩, .int .i64 4, .string ⟨#[98, 121, 116, 101, 115]⟩, .int .i64 5]
theorem tab_at (W : World) (k : Nat) (hk : k < 5) : (Instr.index 203 tabV (.int .i64 (k : Int))).run Tryz.prog W = .ok (.agg #[.string (wordK k), .int .i64 ((k : Int) + 1)]) W := by
 match k, hk with
 | 0, _ | 1, _ | 2, _ | 3, _ | 4, _ => simp [tabV, wordK, Instr.index, run_underlying Tryz.underlying203, asIntOf, go_sem]
set_option maxHeartbeats 4000000 in
theorem rkind_any {w : World} {g : Nat} {V : Value} {ts : List Tk} {E : Nat} {σ : Sg} (h : Rd w g V ts E σ) :
  Calls Tryz.prog 133 #[.pointer (some ⟨g, 0, none⟩)] w fun e w' => e = .returned (.agg #[.int .i64 (k7 (res (0, noT) (pOn σ pType)).1), .string (res (0, noT) (pOn σ pType)).2]) ∧ Rd w' g V ts E (stX (pOn σ pType)) ∧ Kp (fun k => k = g) w w' := by
 obtain ⟨T, hT⟩ : ∃ T, res (0, noT) (pOn σ pType) = T := ⟨_, rfl⟩
 obtain ⟨σ', hσ'⟩ : ∃ σ', stX (pOn σ pType) = σ' := ⟨_, rfl⟩
 rw [hT, hσ']
 have HT : Hid (res (0, noT) (pOn σ pType) = T) := hT
 have HS : Hid (stX (pOn σ pType) = σ') := hσ'
 clear hT hσ'
 have hg := h.lt
 have h0 := h.alloc (.cells #[.int .i64 0, .string ⟨#[]⟩] 88)
 have B0 := Blk.new w #[.int .i64 0, .string ⟨#[]⟩] 88
 have K0 : Kp (fun k => k = g) w (w.alloc (.cells #[.int .i64 0, .string ⟨#[]⟩] 88)) := (Kp.refl _ _).alloc _
 obtain ⟨c0, c1, c2, c3, c4, c5, c6, c7, c8, c9⟩ := h0.glob
 clear h
 obtain ⟨R, hR⟩ : ∃ R, w.heap.size = R := ⟨_, rfl⟩
 have HR : Hid (w.heap.size = R) := hR
 rw [hR] at hg B0
 go_enter Tryz.func133, Tryz.ntmps133
 go_wp2_with fail
 clear hR c0 c1 c2 c3 c4 c5 c6 c7 c8 c9
 go_loopw [6] (fun iv wr => ∃ k : Nat, iv = .int .i64 (k : Int) ∧ k ≤ 5 ∧ Rd wr g V ts E σ ∧ Kp (fun k => k = g) w wr ∧ Blk wr R #[.int .i64 0, .string ⟨#[]⟩] 88 ∧ Hid (∀ j, j < k → ¬ (headS σ).data.toList = (wordK j).data.toList)) (fun iv _ => 5 - (intOf iv).toNat)
 case atStart => exact ⟨0, rfl, by omega, h0, K0, B0, fun j hj => absurd hj (Nat.not_lt_zero _)⟩
 case round =>
  obtain ⟨k, rfl, hk, h1, K1, B1, HN⟩ := hrel
  clear h0 K0 B0
  match k, hk, HN with
  | 0, _, HN =>
   have BS := Blk.new wr #[.string ⟨#[105, 110, 116, 51, 50]⟩, .int .i64 1] 202
   have h2 := h1.alloc (.cells #[.string ⟨#[105, 110, 116, 51, 50]⟩, .int .i64 1] 202)
   have B2 := B1.below ((Below.refl _ _).alloc (Nat.le_refl _) (.cells #[.string ⟨#[105, 110, 116, 51, 50]⟩, .int .i64 1] 202))
   have K2 := K1.alloc (.cells #[.string ⟨#[105, 110, 116, 51, 50]⟩, .int .i64 1] 202)
   have hgS : g < wr.heap.size := h1.lt
   have hRS : R < wr.heap.size := B1.lt
   clear h1 B1 K1
   have hix : (Instr.index 203 (.agg #[.string ⟨#[105, 110, 116, 51, 50]⟩, .int .i64 1, .string ⟨#[105, 110, 116, 54, 52]⟩, .int .i64 2, .string ⟨#[98, 111, 111, 108]⟩, .int .i64 3, .string ⟨#[116, 101, 120, 116]⟩, .int .i64 4, .string ⟨#[98, 121, 116, 101, 115]⟩, .int .i64 5]) (.int .i64 0)).run Tryz.prog wr = .ok (.agg #[.string ⟨#[105, 110, 116, 51, 50]⟩, .int .i64 1]) wr := tab_at wr 0 (by omega)
   go_wp2_with fail
   clear hix
   generalize hSb : wr.heap.size = Sb at *
   generalize hW2 : wr.alloc (.cells #[.string ⟨#[105, 110, 116, 51, 50]⟩, .int .i64 1] 202) = w2 at *
   clear hSb hW2
   have hS : Kp (fun k => k = g) w2 w2.drew := ⟨rfl, rfl, rfl, Nat.le_refl _, fun _ _ _ => rfl⟩
   have HCC : Hid (∀ W, Kp (fun k => k = g) w2 W → W.cell? ⟨Sb, 0, none⟩ = some (.string ⟨#[105, 110, 116, 51, 50]⟩)) := fun W hW => by rw [(BS.kp hW (by omega)).cell 0]; rfl
   refine wp_region_held_drew (S := fun w' => Kp (fun k => k = g) w2 w') (by kernel_rfl) hS (fun hS => ?_)
   refine rg_take 0 9 (.pointer (some ⟨g, 0, none⟩)) _ rfl rfl (by kernel_rfl) (by kernel_rfl) (by kernel_rfl) (fun _ _ _ h => h) (by rfl) (fun w' hw' => ?_) hS (listed' := #[true, false, false, false, false, false, false, false]) (by kernel_rfl) rfl ?_
   ·go_simp
   simp only [List.setIfInBounds_toArray, List.set_cons_zero, List.set_cons_succ]
   refine rg_take 1 10 (.pointer (some ⟨Sb, 0, none⟩)) _ rfl rfl (by kernel_rfl) (by kernel_rfl) (by kernel_rfl) (fun _ _ _ h => h) (by rfl) (fun w' hw' => ?_) hS (listed' := #[true, true, false, false, false, false, false, false]) (by kernel_rfl) rfl ?_
   ·go_simp
   simp only [List.setIfInBounds_toArray, List.set_cons_zero, List.set_cons_succ]
   refine rg_take 2 11 (.string ⟨#[105, 110, 116, 51, 50]⟩) _ rfl rfl (by kernel_rfl) (by kernel_rfl) (by kernel_rfl) (fun _ _ _ h => h) (by rfl) (fun w' hw' => ?_) hS (listed' := #[true, true, true, false, false, false, false, false]) (by kernel_rfl) rfl ?_
   ·have hcv := HCC.out w' hw'; go_simp
   simp only [List.setIfInBounds_toArray, List.set_cons_zero, List.set_cons_succ]
   refine rg_take 5 14 (.pointer (some ⟨Sb, 0, none⟩)) _ rfl rfl (by kernel_rfl) (by kernel_rfl) (by kernel_rfl) (fun _ _ _ h => h) (by rfl) (fun w' hw' => ?_) hS (listed' := #[true, true, true, false, false, true, false, false]) (by kernel_rfl) rfl ?_
   ·go_simp
   simp only [List.setIfInBounds_toArray, List.set_cons_zero, List.set_cons_succ]
   refine rg_take 6 15 (.string ⟨#[105, 110, 116, 51, 50]⟩) _ rfl rfl (by kernel_rfl) (by kernel_rfl) (by kernel_rfl) (fun _ _ _ h => h) (by rfl) (fun w' hw' => ?_) hS (listed' := #[true, true, true, false, false, true, true, false]) (by kernel_rfl) rfl ?_
   ·have hcv := HCC.out w' hw'; go_simp
   simp only [List.setIfInBounds_toArray, List.set_cons_zero, List.set_cons_succ]
   refine rg_run 3 12 (.slice (some ⟨w2.drew.heap.size, 0, none⟩) 1 1) (w2.drew.alloc (.cells #[.string ⟨#[105, 110, 116, 51, 50]⟩] 9)) rfl rfl (by kernel_rfl) (by rfl) (listed' := #[true, true, true, true, false, true, true, false]) (by kernel_rfl) ?_ (hS.alloc _) ?_
   ·go_simp
   simp only [List.setIfInBounds_toArray, List.set_cons_zero, List.set_cons_succ]
   refine rg_call 4 13 101 #[.pointer (some ⟨g, 0, none⟩), .slice (some ⟨w2.drew.heap.size, 0, none⟩) 1 1] rfl rfl (by kernel_rfl) (by rfl) (listed' := #[true, true, true, true, true, true, true, false]) (by kernel_rfl) (fun w' => ?_) ?_
   ·go_simp
   have h3 : Rd w2.drew g V ts E σ := h2.below (Below.refl _ _).drew
   refine (take_new ⟨#[105, 110, 116, 51, 50]⟩ _ rfl h3 (by decide +kernel)).mono ?_
   rintro e w3 ⟨rfl, h4, k4⟩
   have hS := hS.trans k4
   refine ⟨_, rfl, hS, ?_⟩
   have K4 := K2.trans hS
   have BS4 := BS.kp hS (by omega)
   have B4 := B2.kp hS (by omega)
   clear h3 h2 k4 BS B2 K2 HCC
   simp only [List.setIfInBounds_toArray, List.set_cons_zero, List.set_cons_succ]
   rcases take_cases [⟨#[105, 110, 116, 51, 50]⟩] σ (by decide +kernel) with ⟨t, r, e0, e1, e2, e3, e4⟩ | ⟨e1, e2, e3, e4, e5⟩
   ·rw [e1] at h4 ⊢
    simp only [res, stX] at h4 ⊢
    rw [any_one, beq_iff_eq] at e3
    have hd : (t.toList == [105, 110, 116, 51, 50]) = true := by rw [ByteArray.toList_eq, ← e3]; decide +kernel
    have hty := type_yes e0 0 (by omega) e3.symm
    have eT : T = (1, noT) := by rw [← HT.out, hty]; rfl
    have eS : σ' = .inr r := by rw [← HS.out, hty]; rfl
    subst eT eS
    clear HT HS hty e0 e1 e2 e4
    have HE : Hid ((⟨#[105, 110, 116, 51, 50]⟩ : ByteArray).data.toList = t.data.toList) := e3
    clear e3
    refine rg_take 7 16 (.bool true) _ rfl rfl (by kernel_rfl) (by kernel_rfl) (by kernel_rfl) (fun _ _ _ h => h) (by rfl) (fun w' hw' => ?_) hS (listed' := #[true, true, true, true, true, true, true, true]) (by kernel_rfl) rfl ?_
    ·go_simp
    simp only [List.setIfInBounds_toArray, List.set_cons_zero, List.set_cons_succ]
    refine wpAnyH_done (by kernel_rfl) ?_ _
    have s1 := BS4.cell 1
    have r0 := B4.cell 0
    have r1 := B4.cell 1
    have f0 := B4.froz 0
    have f1 := B4.froz 1
    simp only [List.getElem?_toArray, List.getElem?_cons_succ, List.getElem?_cons_zero] at s1 r0 r1
    go_wp2_with fail
    refine bodyPost_ret (results_cell rfl _ _ _ ⟨R, 0, none⟩ (.agg #[.int .i64 1, .string ⟨#[]⟩]) (by go_simp) (by go_simp)) rfl ?_
    refine ⟨rfl, (h4.other hg _).other hg _, ?_⟩
    have hlt : R < w.heap.size → R = g := fun hlt => by have := HR.out; omega
    exact (K4.setCell hlt _).setCell hlt _
   ·rw [e1] at h4
    rw [e2]
    rw [any_one] at e5
    have HN2 : Hid (∀ j, j < 1 → ¬ (headS σ).data.toList = (wordK j).data.toList) := by
     intro j hj e
     by_cases ej : j = 0
     ·subst ej
      rw [beq_eq_false_iff_ne] at e5
      exact e5 e.symm
     ·exact HN.out j (by omega) e
    clear e1 e2 e3 e4 e5 HN
    simp only [noT]
    refine rg_take 7 16 (.bool false) _ rfl rfl (by kernel_rfl) (by kernel_rfl) (by kernel_rfl) (fun _ _ _ h => h) (by rfl) (fun w' hw' => ?_) hS (listed' := #[true, true, true, true, true, true, true, true]) (by kernel_rfl) rfl ?_
    ·go_simp
    simp only [List.setIfInBounds_toArray, List.set_cons_zero, List.set_cons_succ]
    refine wpAnyH_done (by kernel_rfl) ?_ _
    go_wp2_with fail
    go_roundw
    case rel => exact ⟨1, rfl, by omega, h4, K4, B4, HN2⟩
    case measure => simp [intOf]
  | 1, _, HN =>
   have BS := Blk.new wr #[.string ⟨#[105, 110, 116, 54, 52]⟩, .int .i64 2] 202
   have h2 := h1.alloc (.cells #[.string ⟨#[105, 110, 116, 54, 52]⟩, .int .i64 2] 202)
   have B2 := B1.below ((Below.refl _ _).alloc (Nat.le_refl _) (.cells #[.string ⟨#[105, 110, 116, 54, 52]⟩, .int .i64 2] 202))
   have K2 := K1.alloc (.cells #[.string ⟨#[105, 110, 116, 54, 52]⟩, .int .i64 2] 202)
   have hgS : g < wr.heap.size := h1.lt
   have hRS : R < wr.heap.size := B1.lt
   clear h1 B1 K1
   have hix : (Instr.index 203 (.agg #[.string ⟨#[105, 110, 116, 51, 50]⟩, .int .i64 1, .string ⟨#[105, 110, 116, 54, 52]⟩, .int .i64 2, .string ⟨#[98, 111, 111, 108]⟩, .int .i64 3, .string ⟨#[116, 101, 120, 116]⟩, .int .i64 4, .string ⟨#[98, 121, 116, 101, 115]⟩, .int .i64 5]) (.int .i64 1)).run Tryz.prog wr = .ok (.agg #[.string ⟨#[105, 110, 116, 54, 52]⟩, .int .i64 2]) wr := tab_at wr 1 (by omega)
   go_wp2_with fail
   clear hix
   generalize hSb : wr.heap.size = Sb at *
   generalize hW2 : wr.alloc (.cells #[.string ⟨#[105, 110, 116, 54, 52]⟩, .int .i64 2] 202) = w2 at *
   clear hSb hW2
   have hS : Kp (fun k => k = g) w2 w2.drew := ⟨rfl, rfl, rfl, Nat.le_refl _, fun _ _ _ => rfl⟩
   have HCC : Hid (∀ W, Kp (fun k => k = g) w2 W → W.cell? ⟨Sb, 0, none⟩ = some (.string ⟨#[105, 110, 116, 54, 52]⟩)) := fun W hW => by rw [(BS.kp hW (by omega)).cell 0]; rfl
   refine wp_region_held_drew (S := fun w' => Kp (fun k => k = g) w2 w') (by kernel_rfl) hS (fun hS => ?_)
   refine rg_take 0 9 (.pointer (some ⟨g, 0, none⟩)) _ rfl rfl (by kernel_rfl) (by kernel_rfl) (by kernel_rfl) (fun _ _ _ h => h) (by rfl) (fun w' hw' => ?_) hS (listed' := #[true, false, false, false, false, false, false, false]) (by kernel_rfl) rfl ?_
   ·go_simp
   simp only [List.setIfInBounds_toArray, List.set_cons_zero, List.set_cons_succ]
   refine rg_take 1 10 (.pointer (some ⟨Sb, 0, none⟩)) _ rfl rfl (by kernel_rfl) (by kernel_rfl) (by kernel_rfl) (fun _ _ _ h => h) (by rfl) (fun w' hw' => ?_) hS (listed' := #[true, true, false, false, false, false, false, false]) (by kernel_rfl) rfl ?_
   ·go_simp
   simp only [List.setIfInBounds_toArray, List.set_cons_zero, List.set_cons_succ]
   refine rg_take 2 11 (.string ⟨#[105, 110, 116, 54, 52]⟩) _ rfl rfl (by kernel_rfl) (by kernel_rfl) (by kernel_rfl) (fun _ _ _ h => h) (by rfl) (fun w' hw' => ?_) hS (listed' := #[true, true, true, false, false, false, false, false]) (by kernel_rfl) rfl ?_
   ·have hcv := HCC.out w' hw'; go_simp
   simp only [List.setIfInBounds_toArray, List.set_cons_zero, List.set_cons_succ]
   refine rg_take 5 14 (.pointer (some ⟨Sb, 0, none⟩)) _ rfl rfl (by kernel_rfl) (by kernel_rfl) (by kernel_rfl) (fun _ _ _ h => h) (by rfl) (fun w' hw' => ?_) hS (listed' := #[true, true, true, false, false, true, false, false]) (by kernel_rfl) rfl ?_
   ·go_simp
   simp only [List.setIfInBounds_toArray, List.set_cons_zero, List.set_cons_succ]
   refine rg_take 6 15 (.string ⟨#[105, 110, 116, 54, 52]⟩) _ rfl rfl (by kernel_rfl) (by kernel_rfl) (by kernel_rfl) (fun _ _ _ h => h) (by rfl) (fun w' hw' => ?_) hS (listed' := #[true, true, true, false, false, true, true, false]) (by kernel_rfl) rfl ?_
   ·have hcv := HCC.out w' hw'; go_simp
   simp only [List.setIfInBounds_toArray, List.set_cons_zero, List.set_cons_succ]
   refine rg_run 3 12 (.slice (some ⟨w2.drew.heap.size, 0, none⟩) 1 1) (w2.drew.alloc (.cells #[.string ⟨#[105, 110, 116, 54, 52]⟩] 9)) rfl rfl (by kernel_rfl) (by rfl) (listed' := #[true, true, true, true, false, true, true, false]) (by kernel_rfl) ?_ (hS.alloc _) ?_
   ·go_simp
   simp only [List.setIfInBounds_toArray, List.set_cons_zero, List.set_cons_succ]
   refine rg_call 4 13 101 #[.pointer (some ⟨g, 0, none⟩), .slice (some ⟨w2.drew.heap.size, 0, none⟩) 1 1] rfl rfl (by kernel_rfl) (by rfl) (listed' := #[true, true, true, true, true, true, true, false]) (by kernel_rfl) (fun w' => ?_) ?_
   ·go_simp
   have h3 : Rd w2.drew g V ts E σ := h2.below (Below.refl _ _).drew
   refine (take_new ⟨#[105, 110, 116, 54, 52]⟩ _ rfl h3 (by decide +kernel)).mono ?_
   rintro e w3 ⟨rfl, h4, k4⟩
   have hS := hS.trans k4
   refine ⟨_, rfl, hS, ?_⟩
   have K4 := K2.trans hS
   have BS4 := BS.kp hS (by omega)
   have B4 := B2.kp hS (by omega)
   clear h3 h2 k4 BS B2 K2 HCC
   simp only [List.setIfInBounds_toArray, List.set_cons_zero, List.set_cons_succ]
   rcases take_cases [⟨#[105, 110, 116, 54, 52]⟩] σ (by decide +kernel) with ⟨t, r, e0, e1, e2, e3, e4⟩ | ⟨e1, e2, e3, e4, e5⟩
   ·rw [e1] at h4 ⊢
    simp only [res, stX] at h4 ⊢
    rw [any_one, beq_iff_eq] at e3
    have hd : (t.toList == [105, 110, 116, 54, 52]) = true := by rw [ByteArray.toList_eq, ← e3]; decide +kernel
    have hty := type_yes e0 1 (by omega) e3.symm
    have eT : T = (2, noT) := by rw [← HT.out, hty]; rfl
    have eS : σ' = .inr r := by rw [← HS.out, hty]; rfl
    subst eT eS
    clear HT HS hty e0 e1 e2 e4
    have HE : Hid ((⟨#[105, 110, 116, 54, 52]⟩ : ByteArray).data.toList = t.data.toList) := e3
    clear e3
    refine rg_take 7 16 (.bool true) _ rfl rfl (by kernel_rfl) (by kernel_rfl) (by kernel_rfl) (fun _ _ _ h => h) (by rfl) (fun w' hw' => ?_) hS (listed' := #[true, true, true, true, true, true, true, true]) (by kernel_rfl) rfl ?_
    ·go_simp
    simp only [List.setIfInBounds_toArray, List.set_cons_zero, List.set_cons_succ]
    refine wpAnyH_done (by kernel_rfl) ?_ _
    have s1 := BS4.cell 1
    have r0 := B4.cell 0
    have r1 := B4.cell 1
    have f0 := B4.froz 0
    have f1 := B4.froz 1
    simp only [List.getElem?_toArray, List.getElem?_cons_succ, List.getElem?_cons_zero] at s1 r0 r1
    go_wp2_with fail
    refine bodyPost_ret (results_cell rfl _ _ _ ⟨R, 0, none⟩ (.agg #[.int .i64 2, .string ⟨#[]⟩]) (by go_simp) (by go_simp)) rfl ?_
    refine ⟨rfl, (h4.other hg _).other hg _, ?_⟩
    have hlt : R < w.heap.size → R = g := fun hlt => by have := HR.out; omega
    exact (K4.setCell hlt _).setCell hlt _
   ·rw [e1] at h4
    rw [e2]
    rw [any_one] at e5
    have HN2 : Hid (∀ j, j < 2 → ¬ (headS σ).data.toList = (wordK j).data.toList) := by
     intro j hj e
     by_cases ej : j = 1
     ·subst ej
      rw [beq_eq_false_iff_ne] at e5
      exact e5 e.symm
     ·exact HN.out j (by omega) e
    clear e1 e2 e3 e4 e5 HN
    simp only [noT]
    refine rg_take 7 16 (.bool false) _ rfl rfl (by kernel_rfl) (by kernel_rfl) (by kernel_rfl) (fun _ _ _ h => h) (by rfl) (fun w' hw' => ?_) hS (listed' := #[true, true, true, true, true, true, true, true]) (by kernel_rfl) rfl ?_
    ·go_simp
    simp only [List.setIfInBounds_toArray, List.set_cons_zero, List.set_cons_succ]
    refine wpAnyH_done (by kernel_rfl) ?_ _
    go_wp2_with fail
    go_roundw
    case rel => exact ⟨2, rfl, by omega, h4, K4, B4, HN2⟩
    case measure => simp [intOf]
  | 2, _, HN =>
   have BS := Blk.new wr #[.string ⟨#[98, 111, 111, 108]⟩, .int .i64 3] 202
   have h2 := h1.alloc (.cells #[.string ⟨#[98, 111, 111, 108]⟩, .int .i64 3] 202)
   have B2 := B1.below ((Below.refl _ _).alloc (Nat.le_refl _) (.cells #[.string ⟨#[98, 111, 111, 108]⟩, .int .i64 3] 202))
   have K2 := K1.alloc (.cells #[.string ⟨#[98, 111, 111, 108]⟩, .int .i64 3] 202)
   have hgS : g < wr.heap.size := h1.lt
   have hRS : R < wr.heap.size := B1.lt
   clear h1 B1 K1
   have hix : (Instr.index 203 (.agg #[.string ⟨#[105, 110, 116, 51, 50]⟩, .int .i64 1, .string ⟨#[105, 110, 116, 54, 52]⟩, .int .i64 2, .string ⟨#[98, 111, 111, 108]⟩, .int .i64 3, .string ⟨#[116, 101, 120, 116]⟩, .int .i64 4, .string ⟨#[98, 121, 116, 101, 115]⟩, .int .i64 5]) (.int .i64 2)).run Tryz.prog wr = .ok (.agg #[.string ⟨#[98, 111, 111, 108]⟩, .int .i64 3]) wr := tab_at wr 2 (by omega)
   go_wp2_with fail
   clear hix
   generalize hSb : wr.heap.size = Sb at *
   generalize hW2 : wr.alloc (.cells #[.string ⟨#[98, 111, 111, 108]⟩, .int .i64 3] 202) = w2 at *
   clear hSb hW2
   have hS : Kp (fun k => k = g) w2 w2.drew := ⟨rfl, rfl, rfl, Nat.le_refl _, fun _ _ _ => rfl⟩
   have HCC : Hid (∀ W, Kp (fun k => k = g) w2 W → W.cell? ⟨Sb, 0, none⟩ = some (.string ⟨#[98, 111, 111, 108]⟩)) := fun W hW => by rw [(BS.kp hW (by omega)).cell 0]; rfl
   refine wp_region_held_drew (S := fun w' => Kp (fun k => k = g) w2 w') (by kernel_rfl) hS (fun hS => ?_)
   refine rg_take 0 9 (.pointer (some ⟨g, 0, none⟩)) _ rfl rfl (by kernel_rfl) (by kernel_rfl) (by kernel_rfl) (fun _ _ _ h => h) (by rfl) (fun w' hw' => ?_) hS (listed' := #[true, false, false, false, false, false, false, false]) (by kernel_rfl) rfl ?_
   ·go_simp
   simp only [List.setIfInBounds_toArray, List.set_cons_zero, List.set_cons_succ]
   refine rg_take 1 10 (.pointer (some ⟨Sb, 0, none⟩)) _ rfl rfl (by kernel_rfl) (by kernel_rfl) (by kernel_rfl) (fun _ _ _ h => h) (by rfl) (fun w' hw' => ?_) hS (listed' := #[true, true, false, false, false, false, false, false]) (by kernel_rfl) rfl ?_
   ·go_simp
   simp only [List.setIfInBounds_toArray, List.set_cons_zero, List.set_cons_succ]
   refine rg_take 2 11 (.string ⟨#[98, 111, 111, 108]⟩) _ rfl rfl (by kernel_rfl) (by kernel_rfl) (by kernel_rfl) (fun _ _ _ h => h) (by rfl) (fun w' hw' => ?_) hS (listed' := #[true, true, true, false, false, false, false, false]) (by kernel_rfl) rfl ?_
   ·have hcv := HCC.out w' hw'; go_simp
   simp only [List.setIfInBounds_toArray, List.set_cons_zero, List.set_cons_succ]
   refine rg_take 5 14 (.pointer (some ⟨Sb, 0, none⟩)) _ rfl rfl (by kernel_rfl) (by kernel_rfl) (by kernel_rfl) (fun _ _ _ h => h) (by rfl) (fun w' hw' => ?_) hS (listed' := #[true, true, true, false, false, true, false, false]) (by kernel_rfl) rfl ?_
   ·go_simp
   simp only [List.setIfInBounds_toArray, List.set_cons_zero, List.set_cons_succ]
   refine rg_take 6 15 (.string ⟨#[98, 111, 111, 108]⟩) _ rfl rfl (by kernel_rfl) (by kernel_rfl) (by kernel_rfl) (fun _ _ _ h => h) (by rfl) (fun w' hw' => ?_) hS (listed' := #[true, true, true, false, false, true, true, false]) (by kernel_rfl) rfl ?_
   ·have hcv := HCC.out w' hw'; go_simp
   simp only [List.setIfInBounds_toArray, List.set_cons_zero, List.set_cons_succ]
   refine rg_run 3 12 (.slice (some ⟨w2.drew.heap.size, 0, none⟩) 1 1) (w2.drew.alloc (.cells #[.string ⟨#[98, 111, 111, 108]⟩] 9)) rfl rfl (by kernel_rfl) (by rfl) (listed' := #[true, true, true, true, false, true, true, false]) (by kernel_rfl) ?_ (hS.alloc _) ?_
   ·go_simp
   simp only [List.setIfInBounds_toArray, List.set_cons_zero, List.set_cons_succ]
   refine rg_call 4 13 101 #[.pointer (some ⟨g, 0, none⟩), .slice (some ⟨w2.drew.heap.size, 0, none⟩) 1 1] rfl rfl (by kernel_rfl) (by rfl) (listed' := #[true, true, true, true, true, true, true, false]) (by kernel_rfl) (fun w' => ?_) ?_
   ·go_simp
   have h3 : Rd w2.drew g V ts E σ := h2.below (Below.refl _ _).drew
   refine (take_new ⟨#[98, 111, 111, 108]⟩ _ rfl h3 (by decide +kernel)).mono ?_
   rintro e w3 ⟨rfl, h4, k4⟩
   have hS := hS.trans k4
   refine ⟨_, rfl, hS, ?_⟩
   have K4 := K2.trans hS
   have BS4 := BS.kp hS (by omega)
   have B4 := B2.kp hS (by omega)
   clear h3 h2 k4 BS B2 K2 HCC
   simp only [List.setIfInBounds_toArray, List.set_cons_zero, List.set_cons_succ]
   rcases take_cases [⟨#[98, 111, 111, 108]⟩] σ (by decide +kernel) with ⟨t, r, e0, e1, e2, e3, e4⟩ | ⟨e1, e2, e3, e4, e5⟩
   ·rw [e1] at h4 ⊢
    simp only [res, stX] at h4 ⊢
    rw [any_one, beq_iff_eq] at e3
    have hd : (t.toList == [98, 111, 111, 108]) = true := by rw [ByteArray.toList_eq, ← e3]; decide +kernel
    have hty := type_yes e0 2 (by omega) e3.symm
    have eT : T = (3, noT) := by rw [← HT.out, hty]; rfl
    have eS : σ' = .inr r := by rw [← HS.out, hty]; rfl
    subst eT eS
    clear HT HS hty e0 e1 e2 e4
    have HE : Hid ((⟨#[98, 111, 111, 108]⟩ : ByteArray).data.toList = t.data.toList) := e3
    clear e3
    refine rg_take 7 16 (.bool true) _ rfl rfl (by kernel_rfl) (by kernel_rfl) (by kernel_rfl) (fun _ _ _ h => h) (by rfl) (fun w' hw' => ?_) hS (listed' := #[true, true, true, true, true, true, true, true]) (by kernel_rfl) rfl ?_
    ·go_simp
    simp only [List.setIfInBounds_toArray, List.set_cons_zero, List.set_cons_succ]
    refine wpAnyH_done (by kernel_rfl) ?_ _
    have s1 := BS4.cell 1
    have r0 := B4.cell 0
    have r1 := B4.cell 1
    have f0 := B4.froz 0
    have f1 := B4.froz 1
    simp only [List.getElem?_toArray, List.getElem?_cons_succ, List.getElem?_cons_zero] at s1 r0 r1
    go_wp2_with fail
    refine bodyPost_ret (results_cell rfl _ _ _ ⟨R, 0, none⟩ (.agg #[.int .i64 3, .string ⟨#[]⟩]) (by go_simp) (by go_simp)) rfl ?_
    refine ⟨rfl, (h4.other hg _).other hg _, ?_⟩
    have hlt : R < w.heap.size → R = g := fun hlt => by have := HR.out; omega
    exact (K4.setCell hlt _).setCell hlt _
   ·rw [e1] at h4
    rw [e2]
    rw [any_one] at e5
    have HN2 : Hid (∀ j, j < 3 → ¬ (headS σ).data.toList = (wordK j).data.toList) := by
     intro j hj e
     by_cases ej : j = 2
     ·subst ej
      rw [beq_eq_false_iff_ne] at e5
      exact e5 e.symm
     ·exact HN.out j (by omega) e
    clear e1 e2 e3 e4 e5 HN
    simp only [noT]
    refine rg_take 7 16 (.bool false) _ rfl rfl (by kernel_rfl) (by kernel_rfl) (by kernel_rfl) (fun _ _ _ h => h) (by rfl) (fun w' hw' => ?_) hS (listed' := #[true, true, true, true, true, true, true, true]) (by kernel_rfl) rfl ?_
    ·go_simp
    simp only [List.setIfInBounds_toArray, List.set_cons_zero, List.set_cons_succ]
    refine wpAnyH_done (by kernel_rfl) ?_ _
    go_wp2_with fail
    go_roundw
    case rel => exact ⟨3, rfl, by omega, h4, K4, B4, HN2⟩
    case measure => simp [intOf]
  | 3, _, HN =>
   have BS := Blk.new wr #[.string ⟨#[116, 101, 120, 116]⟩, .int .i64 4] 202
   have h2 := h1.alloc (.cells #[.string ⟨#[116, 101, 120, 116]⟩, .int .i64 4] 202)
   have B2 := B1.below ((Below.refl _ _).alloc (Nat.le_refl _) (.cells #[.string ⟨#[116, 101, 120, 116]⟩, .int .i64 4] 202))
   have K2 := K1.alloc (.cells #[.string ⟨#[116, 101, 120, 116]⟩, .int .i64 4] 202)
   have hgS : g < wr.heap.size := h1.lt
   have hRS : R < wr.heap.size := B1.lt
   clear h1 B1 K1
   have hix : (Instr.index 203 (.agg #[.string ⟨#[105, 110, 116, 51, 50]⟩, .int .i64 1, .string ⟨#[105, 110, 116, 54, 52]⟩, .int .i64 2, .string ⟨#[98, 111, 111, 108]⟩, .int .i64 3, .string ⟨#[116, 101, 120, 116]⟩, .int .i64 4, .string ⟨#[98, 121, 116, 101, 115]⟩, .int .i64 5]) (.int .i64 3)).run Tryz.prog wr = .ok (.agg #[.string ⟨#[116, 101, 120, 116]⟩, .int .i64 4]) wr := tab_at wr 3 (by omega)
   go_wp2_with fail
   clear hix
   generalize hSb : wr.heap.size = Sb at *
   generalize hW2 : wr.alloc (.cells #[.string ⟨#[116, 101, 120, 116]⟩, .int .i64 4] 202) = w2 at *
   clear hSb hW2
   have hS : Kp (fun k => k = g) w2 w2.drew := ⟨rfl, rfl, rfl, Nat.le_refl _, fun _ _ _ => rfl⟩
   have HCC : Hid (∀ W, Kp (fun k => k = g) w2 W → W.cell? ⟨Sb, 0, none⟩ = some (.string ⟨#[116, 101, 120, 116]⟩)) := fun W hW => by rw [(BS.kp hW (by omega)).cell 0]; rfl
   refine wp_region_held_drew (S := fun w' => Kp (fun k => k = g) w2 w') (by kernel_rfl) hS (fun hS => ?_)
   refine rg_take 0 9 (.pointer (some ⟨g, 0, none⟩)) _ rfl rfl (by kernel_rfl) (by kernel_rfl) (by kernel_rfl) (fun _ _ _ h => h) (by rfl) (fun w' hw' => ?_) hS (listed' := #[true, false, false, false, false, false, false, false]) (by kernel_rfl) rfl ?_
   ·go_simp
   simp only [List.setIfInBounds_toArray, List.set_cons_zero, List.set_cons_succ]
   refine rg_take 1 10 (.pointer (some ⟨Sb, 0, none⟩)) _ rfl rfl (by kernel_rfl) (by kernel_rfl) (by kernel_rfl) (fun _ _ _ h => h) (by rfl) (fun w' hw' => ?_) hS (listed' := #[true, true, false, false, false, false, false, false]) (by kernel_rfl) rfl ?_
   ·go_simp
   simp only [List.setIfInBounds_toArray, List.set_cons_zero, List.set_cons_succ]
   refine rg_take 2 11 (.string ⟨#[116, 101, 120, 116]⟩) _ rfl rfl (by kernel_rfl) (by kernel_rfl) (by kernel_rfl) (fun _ _ _ h => h) (by rfl) (fun w' hw' => ?_) hS (listed' := #[true, true, true, false, false, false, false, false]) (by kernel_rfl) rfl ?_
   ·have hcv := HCC.out w' hw'; go_simp
   simp only [List.setIfInBounds_toArray, List.set_cons_zero, List.set_cons_succ]
   refine rg_take 5 14 (.pointer (some ⟨Sb, 0, none⟩)) _ rfl rfl (by kernel_rfl) (by kernel_rfl) (by kernel_rfl) (fun _ _ _ h => h) (by rfl) (fun w' hw' => ?_) hS (listed' := #[true, true, true, false, false, true, false, false]) (by kernel_rfl) rfl ?_
   ·go_simp
   simp only [List.setIfInBounds_toArray, List.set_cons_zero, List.set_cons_succ]
   refine rg_take 6 15 (.string ⟨#[116, 101, 120, 116]⟩) _ rfl rfl (by kernel_rfl) (by kernel_rfl) (by kernel_rfl) (fun _ _ _ h => h) (by rfl) (fun w' hw' => ?_) hS (listed' := #[true, true, true, false, false, true, true, false]) (by kernel_rfl) rfl ?_
   ·have hcv := HCC.out w' hw'; go_simp
   simp only [List.setIfInBounds_toArray, List.set_cons_zero, List.set_cons_succ]
   refine rg_run 3 12 (.slice (some ⟨w2.drew.heap.size, 0, none⟩) 1 1) (w2.drew.alloc (.cells #[.string ⟨#[116, 101, 120, 116]⟩] 9)) rfl rfl (by kernel_rfl) (by rfl) (listed' := #[true, true, true, true, false, true, true, false]) (by kernel_rfl) ?_ (hS.alloc _) ?_
   ·go_simp
   simp only [List.setIfInBounds_toArray, List.set_cons_zero, List.set_cons_succ]
   refine rg_call 4 13 101 #[.pointer (some ⟨g, 0, none⟩), .slice (some ⟨w2.drew.heap.size, 0, none⟩) 1 1] rfl rfl (by kernel_rfl) (by rfl) (listed' := #[true, true, true, true, true, true, true, false]) (by kernel_rfl) (fun w' => ?_) ?_
   ·go_simp
   have h3 : Rd w2.drew g V ts E σ := h2.below (Below.refl _ _).drew
   refine (take_new ⟨#[116, 101, 120, 116]⟩ _ rfl h3 (by decide +kernel)).mono ?_
   rintro e w3 ⟨rfl, h4, k4⟩
   have hS := hS.trans k4
   refine ⟨_, rfl, hS, ?_⟩
   have K4 := K2.trans hS
   have BS4 := BS.kp hS (by omega)
   have B4 := B2.kp hS (by omega)
   clear h3 h2 k4 BS B2 K2 HCC
   simp only [List.setIfInBounds_toArray, List.set_cons_zero, List.set_cons_succ]
   rcases take_cases [⟨#[116, 101, 120, 116]⟩] σ (by decide +kernel) with ⟨t, r, e0, e1, e2, e3, e4⟩ | ⟨e1, e2, e3, e4, e5⟩
   ·rw [e1] at h4 ⊢
    simp only [res, stX] at h4 ⊢
    rw [any_one, beq_iff_eq] at e3
    have hd : (t.toList == [116, 101, 120, 116]) = true := by rw [ByteArray.toList_eq, ← e3]; decide +kernel
    have hty := type_yes e0 3 (by omega) e3.symm
    have eT : T = (4, noT) := by rw [← HT.out, hty]; rfl
    have eS : σ' = .inr r := by rw [← HS.out, hty]; rfl
    subst eT eS
    clear HT HS hty e0 e1 e2 e4
    have HE : Hid ((⟨#[116, 101, 120, 116]⟩ : ByteArray).data.toList = t.data.toList) := e3
    clear e3
    refine rg_take 7 16 (.bool true) _ rfl rfl (by kernel_rfl) (by kernel_rfl) (by kernel_rfl) (fun _ _ _ h => h) (by rfl) (fun w' hw' => ?_) hS (listed' := #[true, true, true, true, true, true, true, true]) (by kernel_rfl) rfl ?_
    ·go_simp
    simp only [List.setIfInBounds_toArray, List.set_cons_zero, List.set_cons_succ]
    refine wpAnyH_done (by kernel_rfl) ?_ _
    have s1 := BS4.cell 1
    have r0 := B4.cell 0
    have r1 := B4.cell 1
    have f0 := B4.froz 0
    have f1 := B4.froz 1
    simp only [List.getElem?_toArray, List.getElem?_cons_succ, List.getElem?_cons_zero] at s1 r0 r1
    go_wp2_with fail
    refine bodyPost_ret (results_cell rfl _ _ _ ⟨R, 0, none⟩ (.agg #[.int .i64 4, .string ⟨#[]⟩]) (by go_simp) (by go_simp)) rfl ?_
    refine ⟨rfl, (h4.other hg _).other hg _, ?_⟩
    have hlt : R < w.heap.size → R = g := fun hlt => by have := HR.out; omega
    exact (K4.setCell hlt _).setCell hlt _
   ·rw [e1] at h4
    rw [e2]
    rw [any_one] at e5
    have HN2 : Hid (∀ j, j < 4 → ¬ (headS σ).data.toList = (wordK j).data.toList) := by
     intro j hj e
     by_cases ej : j = 3
     ·subst ej
      rw [beq_eq_false_iff_ne] at e5
      exact e5 e.symm
     ·exact HN.out j (by omega) e
    clear e1 e2 e3 e4 e5 HN
    simp only [noT]
    refine rg_take 7 16 (.bool false) _ rfl rfl (by kernel_rfl) (by kernel_rfl) (by kernel_rfl) (fun _ _ _ h => h) (by rfl) (fun w' hw' => ?_) hS (listed' := #[true, true, true, true, true, true, true, true]) (by kernel_rfl) rfl ?_
    ·go_simp
    simp only [List.setIfInBounds_toArray, List.set_cons_zero, List.set_cons_succ]
    refine wpAnyH_done (by kernel_rfl) ?_ _
    go_wp2_with fail
    go_roundw
    case rel => exact ⟨4, rfl, by omega, h4, K4, B4, HN2⟩
    case measure => simp [intOf]
  | 4, _, HN =>
   have BS := Blk.new wr #[.string ⟨#[98, 121, 116, 101, 115]⟩, .int .i64 5] 202
   have h2 := h1.alloc (.cells #[.string ⟨#[98, 121, 116, 101, 115]⟩, .int .i64 5] 202)
   have B2 := B1.below ((Below.refl _ _).alloc (Nat.le_refl _) (.cells #[.string ⟨#[98, 121, 116, 101, 115]⟩, .int .i64 5] 202))
   have K2 := K1.alloc (.cells #[.string ⟨#[98, 121, 116, 101, 115]⟩, .int .i64 5] 202)
   have hgS : g < wr.heap.size := h1.lt
   have hRS : R < wr.heap.size := B1.lt
   clear h1 B1 K1
   have hix : (Instr.index 203 (.agg #[.string ⟨#[105, 110, 116, 51, 50]⟩, .int .i64 1, .string ⟨#[105, 110, 116, 54, 52]⟩, .int .i64 2, .string ⟨#[98, 111, 111, 108]⟩, .int .i64 3, .string ⟨#[116, 101, 120, 116]⟩, .int .i64 4, .string ⟨#[98, 121, 116, 101, 115]⟩, .int .i64 5]) (.int .i64 4)).run Tryz.prog wr = .ok (.agg #[.string ⟨#[98, 121, 116, 101, 115]⟩, .int .i64 5]) wr := tab_at wr 4 (by omega)
   go_wp2_with fail
   clear hix
   generalize hSb : wr.heap.size = Sb at *
   generalize hW2 : wr.alloc (.cells #[.string ⟨#[98, 121, 116, 101, 115]⟩, .int .i64 5] 202) = w2 at *
   clear hSb hW2
   have hS : Kp (fun k => k = g) w2 w2.drew := ⟨rfl, rfl, rfl, Nat.le_refl _, fun _ _ _ => rfl⟩
   have HCC : Hid (∀ W, Kp (fun k => k = g) w2 W → W.cell? ⟨Sb, 0, none⟩ = some (.string ⟨#[98, 121, 116, 101, 115]⟩)) := fun W hW => by rw [(BS.kp hW (by omega)).cell 0]; rfl
   refine wp_region_held_drew (S := fun w' => Kp (fun k => k = g) w2 w') (by kernel_rfl) hS (fun hS => ?_)
   refine rg_take 0 9 (.pointer (some ⟨g, 0, none⟩)) _ rfl rfl (by kernel_rfl) (by kernel_rfl) (by kernel_rfl) (fun _ _ _ h => h) (by rfl) (fun w' hw' => ?_) hS (listed' := #[true, false, false, false, false, false, false, false]) (by kernel_rfl) rfl ?_
   ·go_simp
   simp only [List.setIfInBounds_toArray, List.set_cons_zero, List.set_cons_succ]
   refine rg_take 1 10 (.pointer (some ⟨Sb, 0, none⟩)) _ rfl rfl (by kernel_rfl) (by kernel_rfl) (by kernel_rfl) (fun _ _ _ h => h) (by rfl) (fun w' hw' => ?_) hS (listed' := #[true, true, false, false, false, false, false, false]) (by kernel_rfl) rfl ?_
   ·go_simp
   simp only [List.setIfInBounds_toArray, List.set_cons_zero, List.set_cons_succ]
   refine rg_take 2 11 (.string ⟨#[98, 121, 116, 101, 115]⟩) _ rfl rfl (by kernel_rfl) (by kernel_rfl) (by kernel_rfl) (fun _ _ _ h => h) (by rfl) (fun w' hw' => ?_) hS (listed' := #[true, true, true, false, false, false, false, false]) (by kernel_rfl) rfl ?_
   ·have hcv := HCC.out w' hw'; go_simp
   simp only [List.setIfInBounds_toArray, List.set_cons_zero, List.set_cons_succ]
   refine rg_take 5 14 (.pointer (some ⟨Sb, 0, none⟩)) _ rfl rfl (by kernel_rfl) (by kernel_rfl) (by kernel_rfl) (fun _ _ _ h => h) (by rfl) (fun w' hw' => ?_) hS (listed' := #[true, true, true, false, false, true, false, false]) (by kernel_rfl) rfl ?_
   ·go_simp
   simp only [List.setIfInBounds_toArray, List.set_cons_zero, List.set_cons_succ]
   refine rg_take 6 15 (.string ⟨#[98, 121, 116, 101, 115]⟩) _ rfl rfl (by kernel_rfl) (by kernel_rfl) (by kernel_rfl) (fun _ _ _ h => h) (by rfl) (fun w' hw' => ?_) hS (listed' := #[true, true, true, false, false, true, true, false]) (by kernel_rfl) rfl ?_
   ·have hcv := HCC.out w' hw'; go_simp
   simp only [List.setIfInBounds_toArray, List.set_cons_zero, List.set_cons_succ]
   refine rg_run 3 12 (.slice (some ⟨w2.drew.heap.size, 0, none⟩) 1 1) (w2.drew.alloc (.cells #[.string ⟨#[98, 121, 116, 101, 115]⟩] 9)) rfl rfl (by kernel_rfl) (by rfl) (listed' := #[true, true, true, true, false, true, true, false]) (by kernel_rfl) ?_ (hS.alloc _) ?_
   ·go_simp
   simp only [List.setIfInBounds_toArray, List.set_cons_zero, List.set_cons_succ]
   refine rg_call 4 13 101 #[.pointer (some ⟨g, 0, none⟩), .slice (some ⟨w2.drew.heap.size, 0, none⟩) 1 1] rfl rfl (by kernel_rfl) (by rfl) (listed' := #[true, true, true, true, true, true, true, false]) (by kernel_rfl) (fun w' => ?_) ?_
   ·go_simp
   have h3 : Rd w2.drew g V ts E σ := h2.below (Below.refl _ _).drew
   refine (take_new ⟨#[98, 121, 116, 101, 115]⟩ _ rfl h3 (by decide +kernel)).mono ?_
   rintro e w3 ⟨rfl, h4, k4⟩
   have hS := hS.trans k4
   refine ⟨_, rfl, hS, ?_⟩
   have K4 := K2.trans hS
   have BS4 := BS.kp hS (by omega)
   have B4 := B2.kp hS (by omega)
   clear h3 h2 k4 BS B2 K2 HCC
   simp only [List.setIfInBounds_toArray, List.set_cons_zero, List.set_cons_succ]
   rcases take_cases [⟨#[98, 121, 116, 101, 115]⟩] σ (by decide +kernel) with ⟨t, r, e0, e1, e2, e3, e4⟩ | ⟨e1, e2, e3, e4, e5⟩
   ·rw [e1] at h4 ⊢
    simp only [res, stX] at h4 ⊢
    rw [any_one, beq_iff_eq] at e3
    have hd : (t.toList == [98, 121, 116, 101, 115]) = true := by rw [ByteArray.toList_eq, ← e3]; decide +kernel
    have hty := type_yes e0 4 (by omega) e3.symm
    have eT : T = (5, noT) := by rw [← HT.out, hty]; rfl
    have eS : σ' = .inr r := by rw [← HS.out, hty]; rfl
    subst eT eS
    clear HT HS hty e0 e1 e2 e4
    have HE : Hid ((⟨#[98, 121, 116, 101, 115]⟩ : ByteArray).data.toList = t.data.toList) := e3
    clear e3
    refine rg_take 7 16 (.bool true) _ rfl rfl (by kernel_rfl) (by kernel_rfl) (by kernel_rfl) (fun _ _ _ h => h) (by rfl) (fun w' hw' => ?_) hS (listed' := #[true, true, true, true, true, true, true, true]) (by kernel_rfl) rfl ?_
    ·go_simp
    simp only [List.setIfInBounds_toArray, List.set_cons_zero, List.set_cons_succ]
    refine wpAnyH_done (by kernel_rfl) ?_ _
    have s1 := BS4.cell 1
    have r0 := B4.cell 0
    have r1 := B4.cell 1
    have f0 := B4.froz 0
    have f1 := B4.froz 1
    simp only [List.getElem?_toArray, List.getElem?_cons_succ, List.getElem?_cons_zero] at s1 r0 r1
    go_wp2_with fail
    refine bodyPost_ret (results_cell rfl _ _ _ ⟨R, 0, none⟩ (.agg #[.int .i64 5, .string ⟨#[]⟩]) (by go_simp) (by go_simp)) rfl ?_
    refine ⟨rfl, (h4.other hg _).other hg _, ?_⟩
    have hlt : R < w.heap.size → R = g := fun hlt => by have := HR.out; omega
    exact (K4.setCell hlt _).setCell hlt _
   ·rw [e1] at h4
    rw [e2]
    rw [any_one] at e5
    have HN2 : Hid (∀ j, j < 5 → ¬ (headS σ).data.toList = (wordK j).data.toList) := by
     intro j hj e
     by_cases ej : j = 4
     ·subst ej
      rw [beq_eq_false_iff_ne] at e5
      exact e5 e.symm
     ·exact HN.out j (by omega) e
    clear e1 e2 e3 e4 e5 HN
    simp only [noT]
    refine rg_take 7 16 (.bool false) _ rfl rfl (by kernel_rfl) (by kernel_rfl) (by kernel_rfl) (fun _ _ _ h => h) (by rfl) (fun w' hw' => ?_) hS (listed' := #[true, true, true, true, true, true, true, true]) (by kernel_rfl) rfl ?_
    ·go_simp
    simp only [List.setIfInBounds_toArray, List.set_cons_zero, List.set_cons_succ]
    refine wpAnyH_done (by kernel_rfl) ?_ _
    go_wp2_with fail
    go_roundw
    case rel => exact ⟨5, rfl, by omega, h4, K4, B4, HN2⟩
    case measure => simp [intOf]
  | 5, _, HN =>
   obtain ⟨q1, q2⟩ := type_no HN.out
   have eS : σ' = stX (pOn σ pName) := by rw [← HS.out, q1]
   have eT : T = (0, res noT (pOn σ pName)) := by rw [← HT.out, q2]
   subst eS eT
   clear HT HS q1 q2 HN
   go_wp2_with fail
   refine (rname_any h1).mono ?_
   rintro e w2 ⟨rfl, h2, k2⟩
   have B2 := B1.kp k2 (by omega)
   have K2 := K1.trans k2
   clear B1 K1 k2 h1
   have r0 := B2.cell 0
   have r1 := B2.cell 1
   have f0 := B2.froz 0
   have f1 := B2.froz 1
   simp only [List.getElem?_toArray, List.getElem?_cons_succ, List.getElem?_cons_zero] at r0 r1
   go_wp2_with fail
   refine bodyPost_ret (results_cell rfl _ _ _ ⟨R, 0, none⟩ (.agg #[.int .i64 7, .string (res noT (pOn σ pName))]) (by go_simp) (by go_simp)) rfl ?_
   refine ⟨rfl, (h2.other hg _).other hg _, ?_⟩
   have hlt : R < w.heap.size → R = g := fun hlt => by have := HR.out; omega
   exact (K2.setCell hlt _).setCell hlt _
theorem bind_onR {α β : Type} {x : PR α} {a : α} (h : Res x a) (F : α → List ByteArray → PR β) : pBind x F = pOn (stX x) (F a) := by
 cases x with
 | inl n => rfl
 | inr x => obtain ⟨b, r⟩ := x; have := h b r rfl; subst this; rfl
theorem values_step {m : EnS} {ts : List ByteArray} {v : NmS} (hs : ¬ pIs kShut ts = true) (hv : Res (pValue ts) v) : pValues (ts.length + 1) m ts = pOn (stX (pValue ts)) fun r => pValues (r.length + 1) ⟨m.name, m.values ++ [v]⟩ r := by
 rw [← bind_onR hv fun v r => pValues (r.length + 1) ⟨m.name, m.values ++ [v]⟩ r]
 show (if pIs kShut ts = true then _ else _) = _
 rw [if_neg hs]
 exact bind_congr fun v r e => values_fuel _ _ _ (value_lt ts _ _ e)
theorem values_shut {m : EnS} {t : ByteArray} {r : List ByteArray} (ht : t.data.toList = kShut.data.toList) : pValues ((t :: r).length + 1) m (t :: r) = .inr (m, r) := by
 show (if pIs kShut (t :: r) = true then _ else _) = _
 rw [if_pos (by rw [is_cons]; exact ht)]; rfl
theorem shut_cases (σ : Sg) : (∃ t r, σ = .inr (t :: r) ∧ t.data.toList = kShut.data.toList ∧ stX (pOn σ (pTake [kShut])) = .inr r ∧ (!badS σ && ((res noT (pOn σ (pTake [kShut]))).data.toList == [])) = false) ∨
  (∃ n, σ = .inl n ∧ stX (pOn σ (pTake [kShut])) = .inl n ∧ (!badS σ && ((res noT (pOn σ (pTake [kShut]))).data.toList == [])) = false) ∨
  (∃ ts, σ = .inr ts ∧ ¬ pIs kShut ts = true ∧ stX (pOn σ (pTake [kShut])) = .inr ts ∧ (!badS σ && ((res noT (pOn σ (pTake [kShut]))).data.toList == [])) = true) := by
 rcases take_cases [kShut] σ (by decide +kernel) with ⟨t, r, rfl, e1, e2, e3, e4⟩ | ⟨e1, e2, e3, e4, e5⟩
 ·left
  rw [any_one, beq_iff_eq] at e3
  refine ⟨t, r, rfl, e3.symm, by rw [e1]; rfl, ?_⟩
  rw [e1]; simp only [res, e4, Bool.and_false]
 ·rw [e1, e2]
  cases σ with
  | inl n => exact .inr (.inl ⟨n, rfl, rfl, rfl⟩)
  | inr ts =>
   refine .inr (.inr ⟨ts, rfl, ?_, rfl, rfl⟩)
   cases ts with
   | nil => simp [pIs]
   | cons t r =>
    rw [is_cons]
    rw [any_one, beq_eq_false_iff_ne] at e5
    exact fun e => e5 e.symm
theorem infoN : (Tryz.prog.info? 96).map (fun i => (i.zero, i.size, i.bytes)) = some (some (.agg #[.string ⟨#[]⟩, .int .i64 0]), 2, 24) := by kernel_rfl
theorem nm_snoc (acc : List NmS) (v : NmS) : (nmRows (acc ++ [v])).flatten = (nmRows acc).flatten ++ [.string v.name, .int .i64 v.n] := by simp [nmRows, NmS.cells]
set_option maxHeartbeats 2000000 in
theorem renum_any {w : World} {g : Nat} {V : Value} {ts : List Tk} {E : Nat} {σ : Sg} (h : Rd w g V ts E σ) :
  Calls Tryz.prog 59 #[.pointer (some ⟨g, 0, none⟩)] w fun e w' => ∃ (m : EnS) (vv : Value), e = .returned (.agg #[.string m.name, vv]) ∧ Res (pOn σ pEnum) m ∧ Rd w' g V ts E (stX (pOn σ pEnum)) ∧ Kp (fun k => k = g) w w' ∧ w'.ownsRow w.heap.size 96 2 vv m.values.length (nmRows m.values).flatten ∧ m.values.length ≤ 100001 := by
 obtain ⟨i0, hi, hz0, hz1, hz2⟩ := info_parts infoN
 have hfew := h.few
 have hg := h.lt
 obtain ⟨Z, hZ⟩ : ∃ Z, pOn σ pEnum = Z := ⟨_, rfl⟩
 have HZ0 : Hid (Z = pOn (stX (pOn (stX (pOn σ pName)) (pMust kOpen))) fun r => pValues (r.length + 1) ⟨res noT (pOn σ pName), []⟩ r) := by
  show Z = _
  rw [← hZ]
  cases σ with
  | inl n => rfl
  | inr r =>
   simp only [pOn, pEnum]
   cases pName r with
   | inl n => rfl
   | inr x =>
    obtain ⟨a, r1⟩ := x
    simp only [pBind, stX, res]
    cases pMust kOpen r1 with
    | inl n => rfl
    | inr x => obtain ⟨_, r2⟩ := x; rfl
 rw [hZ]
 clear hZ
 have h0 := h.alloc (.cells #[.string ⟨#[]⟩, .slice none 0 0] 44)
 have B0 := Blk.new w #[.string ⟨#[]⟩, .slice none 0 0] 44
 have K0 : Kp (fun k => k = g) w (w.alloc (.cells #[.string ⟨#[]⟩, .slice none 0 0] 44)) := (Kp.refl _ _).alloc _
 clear h
 obtain ⟨R, hR⟩ : ∃ R, w.heap.size = R := ⟨_, rfl⟩
 have HR : Hid (w.heap.size = R) := hR
 rw [hR] at hg B0 ⊢
 go_enter Tryz.func59, Tryz.ntmps59
 go_wp2_with fail
 clear hR
 refine (rname_any h0).mono ?_
 rintro e w1 ⟨rfl, h1, k1⟩
 have B1 := B0.kp k1 (by omega)
 have K1 := K0.trans k1
 clear h0 k1 B0 K0
 generalize res noT (pOn σ pName) = x1 at *
 generalize stX (pOn σ pName) = σ1 at *
 have hgM : g < w1.heap.size := h1.lt
 have hRM : R < w1.heap.size := B1.lt
 have BM := Blk.new w1 #[.string x1, .slice none 0 0] 44
 have h2 := h1.alloc (.cells #[.string x1, .slice none 0 0] 44)
 have B2 := B1.below ((Below.refl _ _).alloc (Nat.le_refl _) (.cells #[.string x1, .slice none 0 0] 44))
 have K2 := K1.alloc (.cells #[.string x1, .slice none 0 0] 44)
 clear h1 B1 K1
 go_wp2_with fail
 refine (one_new kOpen _ (by simp) h2 (by decide +kernel)).mono ?_
 rintro e w2 ⟨x2, rfl, h3, k3⟩
 generalize w1.heap.size = M at *
 have B3 := B2.kp k3 (by omega)
 have BM3 := BM.kp k3 (by omega)
 have K3 := K2.trans k3
 clear h2 k3 B2 BM K2
 generalize stX (pOn σ1 (pMust kOpen)) = σ2 at *
 go_wp2_with fail
 go_loopw [4] (fun _ wr => ∃ (m : EnS) (vv : Value) (σ1 : Sg), Hid (Z = pOn σ1 fun r => pValues (r.length + 1) m r) ∧ Hid (wr.ownsRow (M + 1) 96 2 vv m.values.length (nmRows m.values).flatten) ∧ Rd wr g V ts E σ1 ∧ Kp (fun k => k = g) w wr ∧ Hid (Bd ts.length σ1 m.values.length) ∧ Blk wr R #[.string ⟨#[]⟩, .slice none 0 0] 44 ∧ Blk wr M #[.string m.name, vv] 44) (fun _ wr => msr g ts.length wr)
 case atStart => exact ⟨⟨x1, []⟩, _, σ2, HZ0, World.ownsRow_nil _ _ _ _, h3, K3, ⟨by simp, fun r hr => by have := h3.left; rw [hr] at this; simp only [leftS] at this; simpa using this⟩, B3, BM3⟩
 case round =>
  obtain ⟨m, vv, σ, HZ, HO, hr, KR, HB, BR, BM⟩ := hrel
  clear HZ0 h3 K3 B3 BM3
  have hms := msr_rd hr
  rcases shut_cases σ with ⟨t, r, rfl, ht, e1, e2⟩ | ⟨n, rfl, e1, e2⟩ | ⟨rs, rfl, hns, e1, e2⟩
  ·have eZ : Z = .inr (m, r) := by rw [HZ.out]; exact values_shut ht
   subst eZ
   have HE : Hid (stX (pOn (.inr (t :: r)) (pTake [kShut])) = .inr r ∧ (!badS (.inr (t :: r)) && ((res noT (pOn (.inr (t :: r)) (pTake [kShut]))).data.toList == [])) = false) := ⟨e1, e2⟩
   have hlen : m.values.length ≤ 100001 := by have := HB.out.1; omega
   have HLen : Hid (m.values.length ≤ 100001) := hlen
   clear HZ e1 e2 hms HB ht hlen
   go_wp2_with fail
   refine (ropen_any hr).mono ?_
   rintro e w3 ⟨rfl, h4, k4⟩
   rw [HE.out.2]
   rw [HE.out.1] at h4
   have BR4 := BR.kp k4 (by omega)
   have BM4 := BM.kp k4 (by omega)
   have K4 := KR.trans k4
   have HO4 := own_kpH HO k4 (fun k hk => by omega)
   clear hr KR HO BR BM k4 HE
   obtain ⟨nm, vals⟩ := m
   simp only at BM4 HO4 HLen ⊢
   obtain ⟨va, vc, hvv⟩ := own_form HO4.out
   subst hvv
   obtain ⟨nA, hnA⟩ : ∃ n, vals.length = n := ⟨_, rfl⟩
   rw [hnA] at HO4 HLen BM4
   have HNA : Hid (vals.length = nA) := hnA
   clear hnA
   have m0 := BM4.cell 0
   have m1 := BM4.cell 1
   have r0 := BR4.cell 0
   have r1 := BR4.cell 1
   have f0 := BR4.froz 0
   have f1 := BR4.froz 1
   simp only [List.getElem?_toArray, List.getElem?_cons_succ, List.getElem?_cons_zero] at m0 m1 r0 r1
   go_wp2_with fail
   refine bodyPost_ret (results_cell rfl _ _ _ ⟨R, 0, none⟩ (.agg #[.string nm, .slice va nA vc]) (by go_simp) (by go_simp)) rfl ?_
   have hlt : R < w.heap.size → R = g := fun hlt => by have := HR.out; omega
   refine ⟨⟨nm, vals⟩, .slice va nA vc, rfl, Res.yes, (h4.other hg _).other hg _, (K4.setCell hlt _).setCell hlt _, ?_, by show vals.length ≤ _; rw [HNA.out]; exact HLen.out⟩
   have k5 : Kp (fun k => k = R) w3 ((w3.setCell ⟨R, 0, none⟩ (.string nm)).setCell ⟨R, 1, none⟩ (.slice va nA vc)) := Kp.setCell (p := ⟨R, 1, none⟩) (Kp.setCell (p := ⟨R, 0, none⟩) (Kp.refl (fun k => k = R) w3) (fun _ => rfl) _) (fun _ => rfl) _
   show World.ownsRow _ _ _ _ _ vals.length _
   rw [HNA.out]
   exact own_base (own_kp HO4.out k5 (fun k hk => by omega)) (by omega)
  ·have eZ : Z = .inl n := by rw [HZ.out]; rfl
   subst eZ
   have HE : Hid (stX (pOn (.inl n) (pTake [kShut])) = .inl n ∧ (!badS (.inl n) && ((res noT (pOn (.inl n) (pTake [kShut]))).data.toList == [])) = false) := ⟨e1, e2⟩
   have hlen : m.values.length ≤ 100001 := by have := HB.out.1; omega
   have HLen : Hid (m.values.length ≤ 100001) := hlen
   clear HZ e1 e2 hms HB hlen
   go_wp2_with fail
   refine (ropen_any hr).mono ?_
   rintro e w3 ⟨rfl, h4, k4⟩
   rw [HE.out.2]
   rw [HE.out.1] at h4
   have BR4 := BR.kp k4 (by omega)
   have BM4 := BM.kp k4 (by omega)
   have K4 := KR.trans k4
   have HO4 := own_kpH HO k4 (fun k hk => by omega)
   clear hr KR HO BR BM k4 HE
   obtain ⟨nm, vals⟩ := m
   simp only at BM4 HO4 HLen ⊢
   obtain ⟨va, vc, hvv⟩ := own_form HO4.out
   subst hvv
   obtain ⟨nA, hnA⟩ : ∃ n, vals.length = n := ⟨_, rfl⟩
   rw [hnA] at HO4 HLen BM4
   have HNA : Hid (vals.length = nA) := hnA
   clear hnA
   have m0 := BM4.cell 0
   have m1 := BM4.cell 1
   have r0 := BR4.cell 0
   have r1 := BR4.cell 1
   have f0 := BR4.froz 0
   have f1 := BR4.froz 1
   simp only [List.getElem?_toArray, List.getElem?_cons_succ, List.getElem?_cons_zero] at m0 m1 r0 r1
   go_wp2_with fail
   refine bodyPost_ret (results_cell rfl _ _ _ ⟨R, 0, none⟩ (.agg #[.string nm, .slice va nA vc]) (by go_simp) (by go_simp)) rfl ?_
   have hlt : R < w.heap.size → R = g := fun hlt => by have := HR.out; omega
   refine ⟨⟨nm, vals⟩, .slice va nA vc, rfl, Res.no, (h4.other hg _).other hg _, (K4.setCell hlt _).setCell hlt _, ?_, by show vals.length ≤ _; rw [HNA.out]; exact HLen.out⟩
   have k5 : Kp (fun k => k = R) w3 ((w3.setCell ⟨R, 0, none⟩ (.string nm)).setCell ⟨R, 1, none⟩ (.slice va nA vc)) := Kp.setCell (p := ⟨R, 1, none⟩) (Kp.setCell (p := ⟨R, 0, none⟩) (Kp.refl (fun k => k = R) w3) (fun _ => rfl) _) (fun _ => rfl) _
   show World.ownsRow _ _ _ _ _ vals.length _
   rw [HNA.out]
   exact own_base (own_kp HO4.out k5 (fun k hk => by omega)) (by omega)
  ·have HE : Hid (stX (pOn (.inr rs) (pTake [kShut])) = .inr rs ∧ (!badS (.inr rs) && ((res noT (pOn (.inr rs) (pTake [kShut]))).data.toList == [])) = true) := ⟨e1, e2⟩
   have HZ2 : Hid (∀ v : NmS, Res (pValue rs) v → Z = pOn (stX (pValue rs)) fun r => pValues (r.length + 1) ⟨m.name, m.values ++ [v]⟩ r) := by
    intro v hv
    rw [HZ.out]
    exact values_step hns hv
   have HB2 : Hid (Bd ts.length (stX (pValue rs)) (m.values.length + 1)) := HB.out.step (value_lt rs)
   have hlen : m.values.length ≤ 100000 := by have := HB.out.2 rs rfl; omega
   have HW : Hid (weigh (stX (pValue rs)) < msr g ts.length wr) := by show _ < _; rw [hms]; exact weigh_lt (value_lt rs) (value_in rs)
   clear HZ e1 e2 hms HB hns
   obtain ⟨nm, vals⟩ := m
   simp only at BM HO HZ2 HB2 hlen
   obtain ⟨nA, hnA⟩ : ∃ n, vals.length = n := ⟨_, rfl⟩
   rw [hnA] at hlen HO HB2
   have HNA : Hid (vals.length = nA) := hnA
   clear hnA
   go_wp2_with fail
   refine (ropen_any hr).mono ?_
   rintro e w3 ⟨rfl, h4, k4⟩
   rw [HE.out.2]
   rw [HE.out.1] at h4
   have BR4 := BR.kp k4 (by omega)
   have BM4 := BM.kp k4 (by omega)
   have K4 := KR.trans k4
   have HO4 := own_kpH HO k4 (fun k hk => by omega)
   clear hr KR HO BR BM k4 HE
   go_wp2_with fail
   refine (named_any h4).mono ?_
   rintro e w4 ⟨v, rfl, rv, h5, k5⟩
   have e0 : pOn (.inr rs) pValue = pValue rs := rfl
   rw [e0] at h5 rv
   clear e0
   have BR5 := BR4.kp k5 (by omega)
   have BM5 := BM4.kp k5 (by omega)
   have K5 := K4.trans k5
   have HO5 := own_kpH HO4 k5 (fun k hk => by omega)
   have HZ3 : Hid (Z = pOn (stX (pValue rs)) fun r => pValues (r.length + 1) ⟨nm, vals ++ [v]⟩ r) := HZ2.out v rv
   clear h4 K4 HO4 BR4 BM4 k5 HZ2 rv
   generalize stX (pValue rs) = σ3 at *
   have hM5 : M + 1 ≤ w4.heap.size := BM5.lt
   have m1 := BM5.cell 1
   have fm1 := BM5.froz 1
   simp only [List.getElem?_toArray, List.getElem?_cons_succ, List.getElem?_cons_zero] at m1
   have HMV : Hid (∀ W : World, Kp (fun k => M + 1 ≤ k) w4 W → W.cell? ⟨M, 1, none⟩ = some vv ∧ W.frozen? ⟨M, 1, none⟩ = false) := fun W hW => by
    have := BM5.kp hW (by omega)
    exact ⟨(this.cell 1).trans rfl, this.froz 1⟩
   obtain ⟨vn, vi⟩ := v
   simp only at HZ3 ⊢
   go_wp2_with (first
    | (at_builtin; refine wpList_append_own_at _ rfl _ _ 42 rfl (M + 1) 96 i0 _ 2 24 Tryz.underlying42 hi hz0 hz1 hz2 rfl (by decide) _ _ _ rfl (HO5.out.alloc _) ⟨w4.heap.size, 0, none⟩ 1 1 [.string vn, .int .i64 vi] rfl rfl (cells_new _ #[.string vn, .int .i64 vi] _) ?c2 ?c3 ?c4 ?c5 ?_)
    | fail)
   case c2 => intro u hu; simp at hu; rcases hu with rfl | rfl <;> rfl
   case c3 => unfold maxLen; omega
   case c4 => omega
   case c5 => simp; omega
   intro v6 w6 ho6 hg6 _ hat6
   have k56 : Kp (fun k => M + 1 ≤ k) w4 w6 := ((Kp.refl _ _).alloc _).grown hg6 (fun k hk _ => (HO5.out.lt k hk).1)
   have h6 : Rd w6 g V ts E σ3 := h5.kp k56 (fun k hk => by omega)
   have BR6 := BR5.kp k56 (by omega)
   have BM6 := BM5.kp k56 (by omega)
   have K6 : Kp (fun k => k = g) w w6 := K5.trans2 k56 (fun k hk hS => by have := HR.out; omega)
   obtain ⟨mc, mf⟩ := HMV.out w6 k56
   have HO6 : Hid (w6.ownsRow (M + 1) 96 2 v6 (vals ++ [(⟨vn, vi⟩ : NmS)]).length (nmRows (vals ++ [⟨vn, vi⟩])).flatten) := by
    show World.ownsRow _ _ _ _ _ _ _
    rw [nm_snoc, List.length_append, HNA.out]; exact ho6
   have HB6 : Hid (Bd ts.length σ3 (vals ++ [(⟨vn, vi⟩ : NmS)]).length) := by
    show Bd _ _ _
    rw [List.length_append, HNA.out]; exact HB2.out
   obtain ⟨va, vc, hv6⟩ := own_form ho6
   subst hv6
   clear ho6 hg6 hat6 k56 HO5 h5 K5 BR5 BM5 HMV m1 fm1 HB2
   have h7 : Rd (w6.setCell ⟨M, 1, none⟩ (.slice va (nA + 1) vc)) g V ts E σ3 := h6.other hgM _
   have BR7 := BR6.other (a := ⟨M, 1, none⟩) (by simp only; omega) (.slice va (nA + 1) vc)
   have BM7 : Blk (w6.setCell ⟨M, 1, none⟩ (.slice va (nA + 1) vc)) M #[.string nm, .slice va (nA + 1) vc] 44 := BM6.set 1 _ rfl
   have K7 : Kp (fun k => k = g) w (w6.setCell ⟨M, 1, none⟩ (.slice va (nA + 1) vc)) := K6.setCell (fun hlt => by have := HR.out; simp only at hlt; omega) _
   have HO7 : Hid ((w6.setCell ⟨M, 1, none⟩ (.slice va (nA + 1) vc)).ownsRow (M + 1) 96 2 (.slice va (nA + 1) vc) (vals ++ [(⟨vn, vi⟩ : NmS)]).length (nmRows (vals ++ [⟨vn, vi⟩])).flatten) := ownsRow_setCell_below HO6.out (by simp only; omega) _
   have HM : Hid (msr g ts.length (w6.setCell ⟨M, 1, none⟩ (.slice va (nA + 1) vc)) < msr g ts.length wr) := by
    show _ < _
    rw [msr_rd h7]; exact HW.out
   clear h6 BR6 BM6 K6 HO6 HW
   go_wp2_with fail
   go_roundw
   case rel => exact ⟨⟨nm, vals ++ [⟨vn, vi⟩]⟩, _, σ3, HZ3, HO7, h7, K7, HB6, BR7, BM7⟩
   case measure => exact HM.out
def pre7 (f : FlS) : FlS := ⟨f.name, f.tag, f.label, k7 f.kind, f.tname⟩
set_option maxHeartbeats 1000000 in
theorem rfield_any {w : World} {g : Nat} {V : Value} {ts : List Tk} {E : Nat} {σ : Sg} (h : Rd w g V ts E σ) :
  Calls Tryz.prog 105 #[.pointer (some ⟨g, 0, none⟩)] w fun e w' => ∃ f : FlS, e = .returned (.agg #[.string f.name, .int .i64 f.tag, .int .i64 f.label, .int .i64 (k7 f.kind), .string f.tname]) ∧ Res (pOn σ pField) f ∧ Rd w' g V ts E (stX (pOn σ pField)) ∧ Kp (fun k => k = g) w w' := by
 have HV : Hid (∀ v : NmS, Res (pOn (stX (pOn (stX (pOn σ pLab)) pType)) pValue) v →
  stX (pOn (stX (pOn (stX (pOn σ pLab)) pType)) pValue) = stX (pOn σ pField) ∧
  Res (pOn σ pField) ⟨v.name, v.n, res 1 (pOn σ pLab), (res (0, noT) (pOn (stX (pOn σ pLab)) pType)).1, (res (0, noT) (pOn (stX (pOn σ pLab)) pType)).2⟩) := field_st σ
 have hg := h.lt
 have h0 := h.alloc (.cells #[.string ⟨#[]⟩, .int .i64 0, .int .i64 0, .int .i64 0, .string ⟨#[]⟩] 90)
 have B0 := Blk.new w #[.string ⟨#[]⟩, .int .i64 0, .int .i64 0, .int .i64 0, .string ⟨#[]⟩] 90
 have K0 : Kp (fun k => k = g) w (w.alloc (.cells #[.string ⟨#[]⟩, .int .i64 0, .int .i64 0, .int .i64 0, .string ⟨#[]⟩] 90)) := (Kp.refl _ _).alloc _
 clear h
 obtain ⟨R, hR⟩ : ∃ R, w.heap.size = R := ⟨_, rfl⟩
 have HR : Hid (w.heap.size = R) := hR
 rw [hR] at hg B0
 go_enter Tryz.func105, Tryz.ntmps105
 go_wp2_with fail
 clear hR
 refine (label_any h0).mono ?_
 rintro e w1 ⟨rfl, h1, k1⟩
 have B1 := B0.kp k1 (by omega)
 have K1 := K0.trans k1
 clear h0 k1 B0 K0
 generalize res 1 (pOn σ pLab) = x1 at *
 generalize stX (pOn σ pLab) = σ1 at *
 go_wp2_with fail
 refine (rkind_any h1).mono ?_
 rintro e w2 ⟨rfl, h2, k2⟩
 have B2 := B1.kp k2 (by omega)
 have K2 := K1.trans k2
 clear h1 k2 B1 K1
 generalize res (0, noT) (pOn σ1 pType) = T at *
 generalize stX (pOn σ1 pType) = σ2 at *
 obtain ⟨T1, T2⟩ := T
 simp only at HV ⊢
 have hgT : g < w2.heap.size := h2.lt
 have hRT : R < w2.heap.size := B2.lt
 have BT := Blk.new w2 #[.int .i64 (k7 T1), .string T2] 88
 have h3 := h2.alloc (.cells #[.int .i64 (k7 T1), .string T2] 88)
 have B3 := B2.below ((Below.refl _ _).alloc (Nat.le_refl _) (.cells #[.int .i64 (k7 T1), .string T2] 88))
 have K3 := K2.alloc (.cells #[.int .i64 (k7 T1), .string T2] 88)
 clear h2 B2 K2
 obtain ⟨k, hk⟩ : ∃ k, k7 T1 = k := ⟨_, rfl⟩
 rw [hk] at BT h3 B3 K3 ⊢
 have HK : Hid (k7 T1 = k) := hk
 clear hk
 go_wp2_with fail
 generalize w2.heap.size = Tb at *
 refine (named_any h3).mono ?_
 rintro e w3 ⟨v, rfl, r4, h4, k4⟩
 have B4 := B3.kp k4 (by omega)
 have BT4 := BT.kp k4 (by omega)
 have K4 := K3.trans k4
 clear h3 k4 B3 K3 BT
 obtain ⟨hz1, hz2⟩ := HV.out v r4
 rw [hz1] at h4
 have HZ : Hid (Res (pOn σ pField) ⟨v.name, v.n, x1, T1, T2⟩) := hz2
 clear HV hz1 hz2 r4
 obtain ⟨nm, n⟩ := v
 simp only at HZ ⊢
 have t0 := BT4.cell 0
 have t1 := BT4.cell 1
 have r0 := B4.cell 0
 have r1 := B4.cell 1
 have r2 := B4.cell 2
 have r3 := B4.cell 3
 have r4 := B4.cell 4
 have f0 := B4.froz 0
 have f1 := B4.froz 1
 have f2 := B4.froz 2
 have f3 := B4.froz 3
 have f4 := B4.froz 4
 simp only [List.getElem?_toArray, List.getElem?_cons_succ, List.getElem?_cons_zero] at t0 t1 r0 r1 r2 r3 r4
 go_wp2_with fail
 refine bodyPost_ret (results_cell rfl _ _ _ ⟨R, 0, none⟩ (.agg #[.string nm, .int .i64 n, .int .i64 x1, .int .i64 k, .string T2]) (by go_simp) (by go_simp)) rfl ?_
 refine ⟨⟨nm, n, x1, T1, T2⟩, by rw [HK.out], HZ.out, ((((h4.other hg _).other hg _).other hg _).other hg _).other hg _, ?_⟩
 have hlt : R < w.heap.size → R = g := fun hlt => by have := HR.out; omega
 exact ((((K4.setCell hlt _).setCell hlt _).setCell hlt _).setCell hlt _).setCell hlt _
theorem bind_assoc {α β γ : Type} (x : PR α) (F : α → List ByteArray → PR β) (G : β → List ByteArray → PR γ) : pBind (pBind x F) G = pBind x fun a r => pBind (F a r) G := by
 cases x with
 | inl n => rfl
 | inr x => obtain ⟨a, r⟩ := x; rfl
theorem st_map {α β : Type} (x : PR α) (f : α → β) : stX (pBind x fun a r => (.inr (f a, r) : PR β)) = stX x := by
 cases x with
 | inl n => rfl
 | inr x => obtain ⟨a, r⟩ := x; rfl
theorem res_map {α β : Type} {x : PR α} {a : α} (f : α → β) (h : Res x a) : Res (pBind x fun a r => (.inr (f a, r) : PR β)) (f a) := by
 cases x with
 | inl n => exact Res.no
 | inr x => obtain ⟨b, r⟩ := x; have := h b r rfl; subst this; exact Res.yes
theorem members_step {m m' : MsS} {ts : List ByteArray} (hs : ¬ pIs kShut ts = true) (hv : Res (pMember m ts) m') : pMembers (ts.length + 1) m ts = pOn (stX (pMember m ts)) fun r => pMembers (r.length + 1) m' r := by
 rw [← bind_onR hv fun m' r => pMembers (r.length + 1) m' r]
 show (if pIs kShut ts = true then _ else _) = _
 rw [if_neg hs]
 exact bind_congr fun v r e => members_fuel _ _ _ (member_lt m ts _ _ e)
theorem members_shut {m : MsS} {t : ByteArray} {r : List ByteArray} (ht : t.data.toList = kShut.data.toList) : pMembers ((t :: r).length + 1) m (t :: r) = .inr (m, r) := by
 show (if pIs kShut (t :: r) = true then _ else _) = _
 rw [if_pos (by rw [is_cons]; exact ht)]; rfl
theorem member_res {m : MsS} {t : ByteArray} {r : List ByteArray} {l : List Int} (ht : t.data.toList = kReserved.data.toList) (hl : Res (pBind (pNum r) fun n r => pMore r.length (m.reserved ++ [(n : Int)]) r) l) :
  stX (pMember m (t :: r)) = stX (pBind (pNum r) fun n r => pMore r.length (m.reserved ++ [(n : Int)]) r) ∧ Res (pMember m (t :: r)) ⟨m.name, m.fields, l⟩ := by
 have e : pMember m (t :: r) = pBind (pBind (pNum r) fun n r => pMore r.length (m.reserved ++ [(n : Int)]) r) fun l r2 => (.inr (⟨m.name, m.fields, l⟩, r2) : PR MsS) := by
  unfold pMember
  rw [if_pos (by rw [is_cons]; exact ht), bind_assoc]; rfl
 rw [e]
 exact ⟨st_map _ (fun l => (⟨m.name, m.fields, l⟩ : MsS)), res_map (fun l => (⟨m.name, m.fields, l⟩ : MsS)) hl⟩
theorem member_fld {m : MsS} {ts : List ByteArray} {f : FlS} (hs : ¬ pIs kReserved ts = true) (hf : Res (pField ts) f) :
  stX (pMember m ts) = stX (pField ts) ∧ Res (pMember m ts) ⟨m.name, m.fields ++ [f], m.reserved⟩ := by
 have e : pMember m ts = pBind (pField ts) fun f r => (.inr (⟨m.name, m.fields ++ [f], m.reserved⟩, r) : PR MsS) := by
  unfold pMember
  rw [if_neg hs]
 rw [e]
 exact ⟨st_map _ (fun f => (⟨m.name, m.fields ++ [f], m.reserved⟩ : MsS)), res_map (fun f => (⟨m.name, m.fields ++ [f], m.reserved⟩ : MsS)) hf⟩
theorem reserved_cases (ts : List ByteArray) :
  (∃ t r, ts = t :: r ∧ t.data.toList = kReserved.data.toList ∧ pOn (.inr ts) (pTake [kReserved]) = .inr (t, r)) ∨
  (¬ pIs kReserved ts = true ∧ stX (pOn (.inr ts) (pTake [kReserved])) = .inr ts ∧ res noT (pOn (.inr ts) (pTake [kReserved])) = noT) := by
 rcases take_cases [kReserved] (.inr ts) (by decide +kernel) with ⟨t, r, e0, e1, e2, e3, e4⟩ | ⟨e1, e2, e3, e4, e5⟩
 ·left
  rw [any_one, beq_iff_eq] at e3
  simp only [Sum.inr.injEq] at e0
  exact ⟨t, r, e0, e3.symm, e1⟩
 ·right
  refine ⟨?_, e1, e2⟩
  cases ts with
  | nil => simp [pIs]
  | cons t r =>
   rw [is_cons]
   rw [any_one, beq_eq_false_iff_ne] at e5
   exact fun e => e5 e.symm
theorem infoF : (Tryz.prog.info? 90).map (fun i => (i.zero, i.size, i.bytes)) = some (some (.agg #[.string ⟨#[]⟩, .int .i64 0, .int .i64 0, .int .i64 0, .string ⟨#[]⟩]), 5, 56) := by kernel_rfl
theorem fl_snoc (acc : List FlS) (f : FlS) : (flRows ((acc ++ [f]).map pre7)).flatten = (flRows (acc.map pre7)).flatten ++ [.string f.name, .int .i64 f.tag, .int .i64 f.label, .int .i64 (k7 f.kind), .string f.tname] := by simp [flRows, FlS.cells, pre7]
set_option maxHeartbeats 4000000 in
theorem rmessage_any {w : World} {g : Nat} {V : Value} {ts : List Tk} {E : Nat} {σ : Sg} (h : Rd w g V ts E σ) :
  Calls Tryz.prog 58 #[.pointer (some ⟨g, 0, none⟩)] w fun e w' => ∃ (m : MsS) (vf vr : Value), e = .returned (.agg #[.string m.name, vf, vr]) ∧ Res (pOn σ pMsg) m ∧ Rd w' g V ts E (stX (pOn σ pMsg)) ∧ Kp (fun k => k = g) w w' ∧ w'.ownsRow w.heap.size 90 5 vf m.fields.length (flRows (m.fields.map pre7)).flatten ∧ w'.ownsRow w.heap.size 3 1 vr m.reserved.length (inRows m.reserved).flatten := by
 obtain ⟨i0, hi, hz0, hz1, hz2⟩ := info_parts infoF
 have hfew := h.few
 have hg := h.lt
 obtain ⟨Z, hZ⟩ : ∃ Z, pOn σ pMsg = Z := ⟨_, rfl⟩
 have HZ0 : Hid (Z = pOn (stX (pOn (stX (pOn σ pName)) (pMust kOpen))) fun r => pMembers (r.length + 1) ⟨res noT (pOn σ pName), [], []⟩ r) := by
  show Z = _
  rw [← hZ]
  cases σ with
  | inl n => rfl
  | inr r =>
   simp only [pOn, pMsg]
   cases pName r with
   | inl n => rfl
   | inr x =>
    obtain ⟨a, r1⟩ := x
    simp only [pBind, stX, res]
    cases pMust kOpen r1 with
    | inl n => rfl
    | inr x => obtain ⟨_, r2⟩ := x; rfl
 rw [hZ]
 clear hZ
 have h0 := h.alloc (.cells #[.string ⟨#[]⟩, .slice none 0 0, .slice none 0 0] 40)
 have B0 := Blk.new w #[.string ⟨#[]⟩, .slice none 0 0, .slice none 0 0] 40
 have K0 : Kp (fun k => k = g) w (w.alloc (.cells #[.string ⟨#[]⟩, .slice none 0 0, .slice none 0 0] 40)) := (Kp.refl _ _).alloc _
 clear h
 obtain ⟨R, hR⟩ : ∃ R, w.heap.size = R := ⟨_, rfl⟩
 have HR : Hid (w.heap.size = R) := hR
 rw [hR] at hg B0 ⊢
 go_enter Tryz.func58, Tryz.ntmps58
 go_wp2_with fail
 clear hR
 refine (rname_any h0).mono ?_
 rintro e w1 ⟨rfl, h1, k1⟩
 have B1 := B0.kp k1 (by omega)
 have K1 := K0.trans k1
 clear h0 k1 B0 K0
 generalize res noT (pOn σ pName) = x1 at *
 generalize stX (pOn σ pName) = σ1 at *
 have hgM : g < w1.heap.size := h1.lt
 have hRM : R < w1.heap.size := B1.lt
 have BM := Blk.new w1 #[.string x1, .slice none 0 0, .slice none 0 0] 40
 have h2 := h1.alloc (.cells #[.string x1, .slice none 0 0, .slice none 0 0] 40)
 have B2 := B1.below ((Below.refl _ _).alloc (Nat.le_refl _) (.cells #[.string x1, .slice none 0 0, .slice none 0 0] 40))
 have K2 := K1.alloc (.cells #[.string x1, .slice none 0 0, .slice none 0 0] 40)
 clear h1 B1 K1
 go_wp2_with fail
 refine (one_new kOpen _ (by simp) h2 (by decide +kernel)).mono ?_
 rintro e w2 ⟨x2, rfl, h3, k3⟩
 generalize w1.heap.size = M at *
 have B3 := B2.kp k3 (by omega)
 have BM3 := BM.kp k3 (by omega)
 have K3 := K2.trans k3
 clear h2 k3 B2 BM K2
 generalize stX (pOn σ1 (pMust kOpen)) = σ2 at *
 go_wp2_with fail
 go_loopw [22] (fun _ wr => ∃ (m : MsS) (vf vr : Value) (σ1 : Sg), Hid (Z = pOn σ1 fun r => pMembers (r.length + 1) m r) ∧ Hid (wr.ownsRow (M + 1) 90 5 vf m.fields.length (flRows (m.fields.map pre7)).flatten) ∧ Hid (wr.ownsRow (M + 1) 3 1 vr m.reserved.length (inRows m.reserved).flatten) ∧ Rd wr g V ts E σ1 ∧ Kp (fun k => k = g) w wr ∧ Hid (Bd ts.length σ1 m.fields.length) ∧ Hid (Bd ts.length σ1 m.reserved.length) ∧ Blk wr R #[.string ⟨#[]⟩, .slice none 0 0, .slice none 0 0] 40 ∧ Blk wr M #[.string m.name, vf, vr] 40) (fun _ wr => msr g ts.length wr)
 case atStart =>
  have hb : Bd ts.length σ2 0 := ⟨by simp, fun r hr => by have := h3.left; rw [hr] at this; simp only [leftS] at this; simpa using this⟩
  exact ⟨⟨x1, [], []⟩, _, _, σ2, HZ0, World.ownsRow_nil _ _ _ _, World.ownsRow_nil _ _ _ _, h3, K3, hb, hb, B3, BM3⟩
 case round =>
  obtain ⟨m, vf, vr, σ, HZ, HF, HO, hr, KR, HBF, HB, BR, BM⟩ := hrel
  clear HZ0 h3 K3 B3 BM3
  have hms := msr_rd hr
  rcases shut_cases σ with ⟨t, r, rfl, ht, e1, e2⟩ | ⟨n, rfl, e1, e2⟩ | ⟨rs, rfl, hns, e1, e2⟩
  ·have eZ : Z = .inr (m, r) := by rw [HZ.out]; exact members_shut ht
   subst eZ
   have HE : Hid (stX (pOn (.inr (t :: r)) (pTake [kShut])) = .inr r ∧ (!badS (.inr (t :: r)) && ((res noT (pOn (.inr (t :: r)) (pTake [kShut]))).data.toList == [])) = false) := ⟨e1, e2⟩
   clear HZ e1 e2 hms HB HBF
   go_wp2_with fail
   refine (ropen_any hr).mono ?_
   rintro e w3 ⟨rfl, h4, k4⟩
   rw [HE.out.2]
   rw [HE.out.1] at h4
   have BR4 := BR.kp k4 (by omega)
   have BM4 := BM.kp k4 (by omega)
   have K4 := KR.trans k4
   have HO4 := own_kpH HO k4 (fun k hk => by omega)
   have HF4 := own_kpH HF k4 (fun k hk => by omega)
   clear hr KR HO HF BR BM k4 HE
   obtain ⟨nm, fls, rvs⟩ := m
   simp only at BM4 HO4 HF4
   obtain ⟨va, vc, hvv⟩ := own_form HF4.out
   subst hvv
   obtain ⟨ra, rc, hvv⟩ := own_form HO4.out
   subst hvv
   obtain ⟨nA, hnA⟩ : ∃ n, fls.length = n := ⟨_, rfl⟩
   rw [hnA] at HF4 BM4
   have HNA : Hid (fls.length = nA) := hnA
   obtain ⟨nB, hnB⟩ : ∃ n, rvs.length = n := ⟨_, rfl⟩
   rw [hnB] at HO4 BM4
   have HNB : Hid (rvs.length = nB) := hnB
   clear hnA hnB
   have m0 := BM4.cell 0
   have m1 := BM4.cell 1
   have m2 := BM4.cell 2
   have r0 := BR4.cell 0
   have r1 := BR4.cell 1
   have r2 := BR4.cell 2
   have f0 := BR4.froz 0
   have f1 := BR4.froz 1
   have f2 := BR4.froz 2
   simp only [List.getElem?_toArray, List.getElem?_cons_succ, List.getElem?_cons_zero] at m0 m1 m2 r0 r1 r2
   go_wp2_with fail
   refine bodyPost_ret (results_cell rfl _ _ _ ⟨R, 0, none⟩ (.agg #[.string nm, .slice va nA vc, .slice ra nB rc]) (by go_simp) (by go_simp)) rfl ?_
   have hlt : R < w.heap.size → R = g := fun hlt => by have := HR.out; omega
   have k5 : Kp (fun k => k = R) w3 (((w3.setCell ⟨R, 0, none⟩ (.string nm)).setCell ⟨R, 1, none⟩ (.slice va nA vc)).setCell ⟨R, 2, none⟩ (.slice ra nB rc)) := Kp.setCell (p := ⟨R, 2, none⟩) (Kp.setCell (p := ⟨R, 1, none⟩) (Kp.setCell (p := ⟨R, 0, none⟩) (Kp.refl (fun k => k = R) w3) (fun _ => rfl) _) (fun _ => rfl) _) (fun _ => rfl) _
   refine ⟨⟨nm, fls, rvs⟩, .slice va nA vc, .slice ra nB rc, rfl, Res.yes, ((h4.other hg _).other hg _).other hg _, ((K4.setCell hlt _).setCell hlt _).setCell hlt _, ?_, ?_⟩
   ·show World.ownsRow _ _ _ _ _ fls.length _
    rw [HNA.out]
    exact own_base (own_kp HF4.out k5 (fun k hk => by omega)) (by omega)
   ·show World.ownsRow _ _ _ _ _ rvs.length _
    rw [HNB.out]
    exact own_base (own_kp HO4.out k5 (fun k hk => by omega)) (by omega)
  ·have eZ : Z = .inl n := by rw [HZ.out]; exact rfl
   subst eZ
   have HE : Hid (stX (pOn (.inl n) (pTake [kShut])) = .inl n ∧ (!badS (.inl n) && ((res noT (pOn (.inl n) (pTake [kShut]))).data.toList == [])) = false) := ⟨e1, e2⟩
   clear HZ e1 e2 hms HB HBF
   go_wp2_with fail
   refine (ropen_any hr).mono ?_
   rintro e w3 ⟨rfl, h4, k4⟩
   rw [HE.out.2]
   rw [HE.out.1] at h4
   have BR4 := BR.kp k4 (by omega)
   have BM4 := BM.kp k4 (by omega)
   have K4 := KR.trans k4
   have HO4 := own_kpH HO k4 (fun k hk => by omega)
   have HF4 := own_kpH HF k4 (fun k hk => by omega)
   clear hr KR HO HF BR BM k4 HE
   obtain ⟨nm, fls, rvs⟩ := m
   simp only at BM4 HO4 HF4
   obtain ⟨va, vc, hvv⟩ := own_form HF4.out
   subst hvv
   obtain ⟨ra, rc, hvv⟩ := own_form HO4.out
   subst hvv
   obtain ⟨nA, hnA⟩ : ∃ n, fls.length = n := ⟨_, rfl⟩
   rw [hnA] at HF4 BM4
   have HNA : Hid (fls.length = nA) := hnA
   obtain ⟨nB, hnB⟩ : ∃ n, rvs.length = n := ⟨_, rfl⟩
   rw [hnB] at HO4 BM4
   have HNB : Hid (rvs.length = nB) := hnB
   clear hnA hnB
   have m0 := BM4.cell 0
   have m1 := BM4.cell 1
   have m2 := BM4.cell 2
   have r0 := BR4.cell 0
   have r1 := BR4.cell 1
   have r2 := BR4.cell 2
   have f0 := BR4.froz 0
   have f1 := BR4.froz 1
   have f2 := BR4.froz 2
   simp only [List.getElem?_toArray, List.getElem?_cons_succ, List.getElem?_cons_zero] at m0 m1 m2 r0 r1 r2
   go_wp2_with fail
   refine bodyPost_ret (results_cell rfl _ _ _ ⟨R, 0, none⟩ (.agg #[.string nm, .slice va nA vc, .slice ra nB rc]) (by go_simp) (by go_simp)) rfl ?_
   have hlt : R < w.heap.size → R = g := fun hlt => by have := HR.out; omega
   have k5 : Kp (fun k => k = R) w3 (((w3.setCell ⟨R, 0, none⟩ (.string nm)).setCell ⟨R, 1, none⟩ (.slice va nA vc)).setCell ⟨R, 2, none⟩ (.slice ra nB rc)) := Kp.setCell (p := ⟨R, 2, none⟩) (Kp.setCell (p := ⟨R, 1, none⟩) (Kp.setCell (p := ⟨R, 0, none⟩) (Kp.refl (fun k => k = R) w3) (fun _ => rfl) _) (fun _ => rfl) _) (fun _ => rfl) _
   refine ⟨⟨nm, fls, rvs⟩, .slice va nA vc, .slice ra nB rc, rfl, Res.no, ((h4.other hg _).other hg _).other hg _, ((K4.setCell hlt _).setCell hlt _).setCell hlt _, ?_, ?_⟩
   ·show World.ownsRow _ _ _ _ _ fls.length _
    rw [HNA.out]
    exact own_base (own_kp HF4.out k5 (fun k hk => by omega)) (by omega)
   ·show World.ownsRow _ _ _ _ _ rvs.length _
    rw [HNB.out]
    exact own_base (own_kp HO4.out k5 (fun k hk => by omega)) (by omega)
  ·have HE : Hid (stX (pOn (.inr rs) (pTake [kShut])) = .inr rs ∧ (!badS (.inr rs) && ((res noT (pOn (.inr rs) (pTake [kShut]))).data.toList == [])) = true) := ⟨e1, e2⟩
   have HZ2 : Hid (∀ m' : MsS, Res (pMember m rs) m' → Z = pOn (stX (pMember m rs)) fun r => pMembers (r.length + 1) m' r) := by
    intro v hv
    rw [HZ.out]
    exact members_step hns hv
   have HW : Hid (weigh (stX (pMember m rs)) < msr g ts.length wr) := by show _ < _; rw [hms]; exact weigh_lt (member_lt m rs) (member_in m rs)
   clear HZ e1 e2 hms hns
   go_wp2_with fail
   refine (ropen_any hr).mono ?_
   rintro e w3 ⟨rfl, h4, k4⟩
   rw [HE.out.2]
   rw [HE.out.1] at h4
   have BR4 := BR.kp k4 (by omega)
   have BM4 := BM.kp k4 (by omega)
   have K4 := KR.trans k4
   have HO4 := own_kpH HO k4 (fun k hk => by omega)
   have HF4 := own_kpH HF k4 (fun k hk => by omega)
   clear hr KR HO HF BR BM k4 HE
   rcases reserved_cases rs with ⟨t, r, rfl, ht, e1⟩ | ⟨hnr, e1, e2⟩
   ·have HE : Hid (pOn (.inr (t :: r)) (pTake [kReserved]) = .inr (t, r)) := e1
    have hd : (t.toList == [114, 101, 115, 101, 114, 118, 101, 100]) = true := by rw [ByteArray.toList_eq, ht]; decide +kernel
    have HT : Hid (t.data.toList = kReserved.data.toList) := ht
    clear e1 ht
    go_wp2_with fail
    refine (take_new kReserved _ rfl h4 (by decide +kernel)).mono ?_
    rintro e w4 ⟨rfl, h5, k5⟩
    rw [HE.out] at h5 ⊢
    simp only [res, stX] at h5 ⊢
    have BR5 := BR4.kp k5 (by omega)
    have BM5 := BM4.kp k5 (by omega)
    have K5 := K4.trans k5
    have HO5 := own_kpH HO4 k5 (fun k hk => by omega)
    have HF5 := own_kpH HF4 k5 (fun k hk => by omega)
    clear h4 K4 HO4 HF4 BR4 BM4 k5 HE
    have HB5 : Hid (Bd ts.length (.inr r) m.reserved.length) := HB.out.keep (x := (.inr ((), r) : PR Unit)) (fun a r' e => by simp at e; rw [← e]; simp)
    have hM5 : M + 1 ≤ w4.heap.size := BM5.lt
    have m2 := BM5.cell 2
    simp only [List.getElem?_toArray, List.getElem?_cons_succ, List.getElem?_cons_zero] at m2
    go_wp2_with fail
    refine (numbers_any h5 (B := M + 1) (by omega) hM5 HO5.out HB5.out).mono ?_
    rintro e w5 ⟨v6, acc6, rfl, q6, h6, ho6, k6, b6⟩
    obtain ⟨q7, q8⟩ := member_res HT.out q6
    have HZ3 := HZ2.out _ q8
    rw [← q7] at h6 b6
    have HZ6 : Hid (Z = pOn (stX (pMember m (t :: r))) fun r => pMembers (r.length + 1) ⟨m.name, m.fields, acc6⟩ r) := HZ3
    have hnot : ∀ k, k ≤ M → ¬ (k = g ∨ vr.ownBlock = some k) → True := fun _ _ _ => trivial
    have hSM : ¬ (M = g ∨ vr.ownBlock = some M) := by
     rintro (e | e)
     ·omega
     ·have := (HO5.out.lt M e).1; omega
    have hSR : ¬ (R = g ∨ vr.ownBlock = some R) := by
     rintro (e | e)
     ·omega
     ·have := (HO5.out.lt R e).1; omega
    have BR6 := BR5.kp k6 hSR
    have BM6 := BM5.kp k6 hSM
    have HF6 : Hid (w5.ownsRow (M + 1) 90 5 vf m.fields.length (flRows (m.fields.map pre7)).flatten) := own_kpV HF5.out k6 (fun k hk => by
     rintro (e | e)
     ·have := (HF5.out.lt k hk).1; omega
     ·exact own_apart HF5.out HO5.out (by decide) k hk e)
    have HBF6 : Hid (Bd ts.length (stX (pMember m (t :: r))) m.fields.length) := HBF.out.keep (member_lt m (t :: r)).le
    have K6 : Kp (fun k => k = g) w w5 := K5.trans2 k6 (fun k hk hS => by
     rcases hS with e | e
     ·exact e
     ·have := (HO5.out.lt k e).1; have := HR.out; omega)
    obtain ⟨ra, rc, hvv⟩ := own_form ho6
    subst hvv
    have HO6 : Hid (w5.ownsRow (M + 1) 3 1 (.slice ra acc6.length rc) acc6.length (inRows acc6).flatten) := ho6
    have HB6 : Hid (Bd ts.length (stX (pMember m (t :: r))) acc6.length) := b6
    clear h5 K5 HO5 HF5 BR5 BM5 k6 HB5 m2 q6 q7 q8 HZ3 HZ2 HB HBF ho6 b6 hSM hSR hnot HT
    generalize stX (pMember m (t :: r)) = σ3 at *
    have mc := BM6.cell 2
    have mf := BM6.froz 2
    simp only [List.getElem?_toArray, List.getElem?_cons_succ, List.getElem?_cons_zero] at mc
    obtain ⟨nm, fls, rvs⟩ := m
    simp only at BM6 HF6 HBF6 HZ6
    obtain ⟨nA, hnA⟩ : ∃ n, acc6.length = n := ⟨_, rfl⟩
    rw [hnA] at HO6 ⊢
    have HNA : Hid (acc6.length = nA) := hnA
    clear hnA
    have h7 : Rd (w5.setCell ⟨M, 2, none⟩ (.slice ra nA rc)) g V ts E σ3 := h6.other hgM _
    have BR7 := BR6.other (a := ⟨M, 2, none⟩) (by simp only; omega) (.slice ra nA rc)
    have BM7 : Blk (w5.setCell ⟨M, 2, none⟩ (.slice ra nA rc)) M #[.string nm, vf, .slice ra nA rc] 40 := BM6.set 2 _ rfl
    have K7 : Kp (fun k => k = g) w (w5.setCell ⟨M, 2, none⟩ (.slice ra nA rc)) := K6.setCell (fun hlt => by have := HR.out; simp only at hlt; omega) _
    have HO7 : Hid ((w5.setCell ⟨M, 2, none⟩ (.slice ra nA rc)).ownsRow (M + 1) 3 1 (.slice ra nA rc) acc6.length (inRows acc6).flatten) := by
     show World.ownsRow _ _ _ _ _ _ _
     rw [HNA.out]
     exact ownsRow_setCell_below HO6.out (by simp only; omega) _
    have HF7 : Hid ((w5.setCell ⟨M, 2, none⟩ (.slice ra nA rc)).ownsRow (M + 1) 90 5 vf fls.length (flRows (fls.map pre7)).flatten) := ownsRow_setCell_below HF6.out (by simp only; omega) _
    have HM : Hid (msr g ts.length (w5.setCell ⟨M, 2, none⟩ (.slice ra nA rc)) < msr g ts.length wr) := by
     show _ < _
     rw [msr_rd h7]; exact HW.out
    clear h6 BR6 BM6 K6 HO6 HF6 HW
    go_wp2_with fail
    go_roundw
    case rel => exact ⟨⟨nm, fls, acc6⟩, vf, _, σ3, HZ6, HF7, HO7, h7, K7, HBF6, HB6, BR7, BM7⟩
    case measure => exact HM.out
   ·have HE : Hid (stX (pOn (.inr rs) (pTake [kReserved])) = .inr rs ∧ res noT (pOn (.inr rs) (pTake [kReserved])) = noT) := ⟨e1, e2⟩
    have HQ : Hid (¬ pIs kReserved rs = true) := hnr
    clear e1 e2 hnr
    go_wp2_with fail
    refine (take_new kReserved _ rfl h4 (by decide +kernel)).mono ?_
    rintro e w4 ⟨rfl, h5, k5⟩
    rw [HE.out.1] at h5
    rw [HE.out.2]
    simp only [noT]
    have BR5 := BR4.kp k5 (by omega)
    have BM5 := BM4.kp k5 (by omega)
    have K5 := K4.trans k5
    have HO5 := own_kpH HO4 k5 (fun k hk => by omega)
    have HF5 := own_kpH HF4 k5 (fun k hk => by omega)
    clear h4 K4 HO4 HF4 BR4 BM4 k5 HE
    go_wp2_with fail
    refine wp_region_held_drew (S := fun _ => True) (by kernel_rfl) trivial (fun hS => ?_)
    refine rg_take 0 15 (.pointer (some ⟨M, 1, none⟩)) _ rfl rfl (by kernel_rfl) (by kernel_rfl) (by kernel_rfl) (fun _ _ _ h => h) (by rfl) (fun w' hw' => ?_) hS (listed' := #[true, false, false, false, false, false, false, false]) (by kernel_rfl) rfl ?_
    ·go_simp
    simp only [List.setIfInBounds_toArray, List.set_cons_zero, List.set_cons_succ]
    refine rg_take 2 17 (.pointer (some ⟨g, 0, none⟩)) _ rfl rfl (by kernel_rfl) (by kernel_rfl) (by kernel_rfl) (fun _ _ _ h => h) (by rfl) (fun w' hw' => ?_) hS (listed' := #[true, false, true, false, false, false, false, false]) (by kernel_rfl) rfl ?_
    ·go_simp
    simp only [List.setIfInBounds_toArray, List.set_cons_zero, List.set_cons_succ]
    refine rg_lcb 1 3 4 16 18 19 vf 105 #[.pointer (some ⟨g, 0, none⟩)] (fun W => W.cell? ⟨M, 1, none⟩ = some vf) rfl rfl rfl rfl rfl rfl (by kernel_rfl) (by kernel_rfl) (by kernel_rfl) (by kernel_rfl) (by kernel_rfl) (fun _ => rfl) (fun _ => rfl) (fun _ => rfl) (by decide) (by decide) (by decide) (by decide) ?g0 ?g1 ?g2 ?g3 ?g4 ?_
    case g0 => have hcv := (BM5.cell 1).trans rfl; go_simp
    case g1 => intro v W hW; simp only [List.setIfInBounds_toArray, List.set_cons_zero, List.set_cons_succ]; go_simp
    case g2 => intro v s W hW; simp only [List.setIfInBounds_toArray, List.set_cons_zero, List.set_cons_succ]; go_simp
    case g3 => go_simp
    case g4 => intro W; simp only [List.setIfInBounds_toArray, List.set_cons_zero, List.set_cons_succ]; go_simp
    have h5d : Rd w4.drew g V ts E (.inr rs) := h5.below (Below.refl _ _).drew
    refine (rfield_any h5d).mono ?_
    rintro e w5 ⟨f, rfl, rf, h6, k6⟩
    have e0 : pOn (.inr rs) pField = pField rs := rfl
    rw [e0] at h6 rf
    clear e0
    have k6' : Kp (fun k => k = g) w4 w5 := ⟨k6.os, k6.tape, k6.output, k6.size, k6.block⟩
    have BR6 := BR5.kp k6' (by omega)
    have BM6 := BM5.kp k6' (by omega)
    have K6 := K5.trans k6'
    have HO6 := own_kpH HO5 k6' (fun k hk => by omega)
    have HF6 := own_kpH HF5 k6' (fun k hk => by omega)
    obtain ⟨q7, q8⟩ := member_fld (m := m) HQ.out rf
    have HZ6 : Hid (Z = pOn (stX (pMember m rs)) fun r => pMembers (r.length + 1) ⟨m.name, m.fields ++ [f], m.reserved⟩ r) := HZ2.out _ q8
    rw [← q7] at h6
    have HB6 : Hid (Bd ts.length (stX (pMember m rs)) m.reserved.length) := HB.out.keep (member_lt m rs).le
    have HBF6 : Hid (Bd ts.length (stX (pMember m rs)) (m.fields.length + 1)) := HBF.out.step (member_lt m rs)
    have hlen : m.fields.length ≤ 100000 := by have := HBF.out.2 rs rfl; omega
    clear h5 h5d K5 HO5 HF5 BR5 BM5 k6 k6' HB HBF HZ2 q7 q8 rf HQ
    generalize stX (pMember m rs) = σ3 at *
    obtain ⟨nm, fls, rvs⟩ := m
    simp only at BM6 HF6 HO6 HZ6 HB6 HBF6 hlen
    have hM6 : M + 1 ≤ w5.heap.size := BM6.lt
    obtain ⟨fn, fg, fb, fk, ft⟩ := f
    simp only at HZ6 ⊢
    obtain ⟨k, hk⟩ : ∃ k, k7 fk = k := ⟨_, rfl⟩
    have HK : Hid (k7 fk = k) := hk
    rw [hk]
    clear hk
    refine ⟨_, rfl, (BM6.cell 1).trans rfl, .slice (some ⟨w5.heap.size, 0, none⟩) 1 1, w5.alloc (.cells #[.string fn, .int .i64 fg, .int .i64 fb, .int .i64 k, .string ft] 90), ((BM6.below ((Below.refl _ _).alloc (Nat.le_refl _) _)).cell 1).trans rfl, by simp only [List.setIfInBounds_toArray, List.set_cons_zero, List.set_cons_succ]; go_simp, by simp only [List.setIfInBounds_toArray, List.set_cons_zero, List.set_cons_succ]; go_simp, ?_⟩
    obtain ⟨v6, w6, hrun, ho6, hg6, _, hat6⟩ := run_append_own_at (P := Tryz.prog) (w5.alloc (.cells #[.string fn, .int .i64 fg, .int .i64 fb, .int .i64 k, .string ft] 90)) (M + 1) 37 37 90 i0 _ 5 56 Tryz.underlying37 hi hz0 hz1 hz2 rfl (by decide) _ _ _ (HF6.out.alloc _) ⟨w5.heap.size, 0, none⟩ 1 1 [.string fn, .int .i64 fg, .int .i64 fb, .int .i64 k, .string ft] rfl (cells_new _ #[.string fn, .int .i64 fg, .int .i64 fb, .int .i64 k, .string ft] _) (by intro u hu; simp at hu; rcases hu with rfl | rfl | rfl | rfl | rfl <;> rfl) (by unfold maxLen; omega) (by omega) (by simp; omega)
    have k56 : Kp (fun k => vf.ownBlock = some k) w5 w6 := ((Kp.refl _ _).alloc _).grown hg6 (fun k hk _ => hk)
    have hvb : ∀ k, vf.ownBlock = some k → M + 1 ≤ k := fun k hk => (HF6.out.lt k hk).1
    have h7 : Rd w6 g V ts E σ3 := h6.kp k56 (fun k hk e => by have := hvb k e; omega)
    have BR7 := BR6.kp k56 (fun e => by have := hvb _ e; omega)
    have BM7 := BM6.kp k56 (fun e => by have := hvb _ e; omega)
    have K7 : Kp (fun k => k = g) w w6 := K6.trans2 k56 (fun k hk e => by have := HR.out; have := hvb k e; omega)
    have HO7 : Hid (w6.ownsRow (M + 1) 3 1 vr rvs.length (inRows rvs).flatten) := own_kpV HO6.out k56 (fun k hk e => own_apart HF6.out HO6.out (by decide) k e hk)
    obtain ⟨nA, hnA⟩ : ∃ n, fls.length = n := ⟨_, rfl⟩
    have HNA : Hid (fls.length = nA) := hnA
    rw [hnA] at ho6
    obtain ⟨va, vc, hvv⟩ := own_form ho6
    subst hvv
    have HF7 : Hid (w6.ownsRow (M + 1) 90 5 (.slice va (nA + 1) vc) (fls ++ [(⟨fn, fg, fb, fk, ft⟩ : FlS)]).length (flRows ((fls ++ [(⟨fn, fg, fb, fk, ft⟩ : FlS)]).map pre7)).flatten) := by
     show World.ownsRow _ _ _ _ _ _ _
     rw [fl_snoc, List.length_append, HNA.out, HK.out]; exact ho6
    have HBF7 : Hid (Bd ts.length σ3 (fls ++ [(⟨fn, fg, fb, fk, ft⟩ : FlS)]).length) := by
     show Bd _ _ _
     rw [List.length_append]; exact HBF6.out
    have mc := BM7.cell 1
    have mf := BM7.froz 1
    simp only [List.getElem?_toArray, List.getElem?_cons_succ, List.getElem?_cons_zero] at mc
    clear ho6 hg6 hat6 k56 hvb h6 BR6 BM6 K6 HO6 HF6 HBF6 hnA
    simp only [List.setIfInBounds_toArray, List.set_cons_zero, List.set_cons_succ]
    refine rg_run 5 20 (.slice va (nA + 1) vc) w6 rfl rfl (by kernel_rfl) (by rfl) (listed' := #[true, true, true, true, true, true, false, false]) (by kernel_rfl) ?_ trivial ?_
    ·exact append_run rfl rfl rfl hrun
    clear hrun
    simp only [List.setIfInBounds_toArray, List.set_cons_zero, List.set_cons_succ]
    refine rg_run 6 21 (.pointer (some ⟨M, 1, none⟩)) w6 rfl rfl (by kernel_rfl) (by rfl) (listed' := #[true, true, true, true, true, true, true, false]) (by kernel_rfl) ?_ trivial ?_
    ·go_simp
    simp only [List.setIfInBounds_toArray, List.set_cons_zero, List.set_cons_succ]
    refine rg_store 7 (w6.setCell ⟨M, 1, none⟩ (.slice va (nA + 1) vc)) rfl rfl (by kernel_rfl) (by rfl) (listed' := #[true, true, true, true, true, true, true, true]) (by kernel_rfl) ?_ trivial ?_
    ·go_simp
    refine wpAnyH_done (by kernel_rfl) ?_ _
    have h8 : Rd (w6.setCell ⟨M, 1, none⟩ (.slice va (nA + 1) vc)) g V ts E σ3 := h7.other hgM _
    have BR8 := BR7.other (a := ⟨M, 1, none⟩) (by simp only; omega) (.slice va (nA + 1) vc)
    have BM8 : Blk (w6.setCell ⟨M, 1, none⟩ (.slice va (nA + 1) vc)) M #[.string nm, .slice va (nA + 1) vc, vr] 40 := BM7.set 1 _ rfl
    have K8 : Kp (fun k => k = g) w (w6.setCell ⟨M, 1, none⟩ (.slice va (nA + 1) vc)) := K7.setCell (fun hlt => by have := HR.out; simp only at hlt; omega) _
    have HO8 : Hid ((w6.setCell ⟨M, 1, none⟩ (.slice va (nA + 1) vc)).ownsRow (M + 1) 3 1 vr rvs.length (inRows rvs).flatten) := ownsRow_setCell_below HO7.out (by simp only; omega) _
    have HF8 : Hid ((w6.setCell ⟨M, 1, none⟩ (.slice va (nA + 1) vc)).ownsRow (M + 1) 90 5 (.slice va (nA + 1) vc) (fls ++ [(⟨fn, fg, fb, fk, ft⟩ : FlS)]).length (flRows ((fls ++ [(⟨fn, fg, fb, fk, ft⟩ : FlS)]).map pre7)).flatten) := ownsRow_setCell_below HF7.out (by simp only; omega) _
    have HM : Hid (msr g ts.length (w6.setCell ⟨M, 1, none⟩ (.slice va (nA + 1) vc)) < msr g ts.length wr) := by
     show _ < _
     rw [msr_rd h8]; exact HW.out
    clear h7 BR7 BM7 K7 HO7 HF7 HW mc mf
    go_wp2_with fail
    go_roundw
    case rel => exact ⟨⟨nm, fls ++ [⟨fn, fg, fb, fk, ft⟩], rvs⟩, _, vr, σ3, HZ6, HF8, HO8, h8, K8, HBF7, HB6, BR8, BM8⟩
    case measure => exact HM.out
theorem any1_take (k : ByteArray) (t : ByteArray) (r : List ByteArray) (h : anyS [k] t = true) : pOn (.inr (t :: r)) (pTake [k]) = .inr (t, r) := if_pos h
theorem comma_cases2 (acc : List Int) (σ : Sg) :
  (∃ t r, σ = .inr (t :: r) ∧ stX (pOn σ (pTake [kComma])) = .inr r ∧ anyS [kComma] (headS σ) = true ∧ pOn σ (fun r => pMore r.length acc r) = pBind (pNum r) fun n r' => pMore r'.length (acc ++ [(n : Int)]) r') ∨
  (anyS [kComma] (headS σ) = false ∧ stX (pOn σ (pTake [kComma])) = σ ∧ stX (pOn σ (fun r => pMore r.length acc r)) = stX (pOn σ (pMust kSemi)) ∧ Res (pOn σ (fun r => pMore r.length acc r)) acc) := by
 rcases take_cases [kComma] σ (by decide +kernel) with ⟨t, r, rfl, e1, e2, e3, e4⟩ | ⟨e1, e2, e3, e4, e5⟩
 ·left
  refine ⟨t, r, rfl, by rw [e1]; rfl, e3, ?_⟩
  rw [any_one, beq_iff_eq] at e3
  simp only [pOn, List.length_cons, pMore]
  rw [if_pos (by rw [is_cons]; exact e3.symm)]
  exact bind_congr fun n r' e => more_fuel _ _ _ (Nat.le_of_lt (num_lt r _ _ e))
 ·right
  refine ⟨e5, e1, ?_⟩
  match σ with
  | .inl n => exact ⟨rfl, Res.no⟩
  | .inr [] => exact ⟨rfl, Res.no⟩
  | .inr (t :: r) =>
   have hm : pOn (.inr (t :: r)) (fun r => pMore r.length acc r) = pBind (pMust kSemi (t :: r)) fun _ r => .inr (acc, r) := by
    simp only [pOn, List.length_cons, pMore]
    rw [any_one, beq_eq_false_iff_ne] at e5
    rw [if_neg (by rw [is_cons]; exact fun e => e5 e.symm)]
   rw [hm]
   simp only [pOn]
   cases pMust kSemi (t :: r) with
   | inl n => exact ⟨rfl, Res.no⟩
   | inr x => obtain ⟨_, r'⟩ := x; exact ⟨rfl, Res.yes⟩
set_option maxHeartbeats 8000000 in
theorem rmember_res {w : World} {gp gm : Nat} {V : Value} {ts : List Tk} {t : ByteArray} {r : List ByteArray} {m : MsS} {vf vr : Value} (h : Rf w gp V ts (.inr (t :: r))) (ht : t.data.toList = kReserved.data.toList) (hgm : gp < gm) (BM : Blk w gm #[.string m.name, vf, vr] 40) (hf : w.ownsRow (gm + 1) 90 5 vf m.fields.length (flRows m.fields).flatten) (ho : w.ownsRow (gm + 1) 3 1 vr m.reserved.length (inRows m.reserved).flatten) (hbf : Bd ts.length (.inr (t :: r)) m.fields.length) (hbr : Bd ts.length (.inr (t :: r)) m.reserved.length) :
  Calls Tryz.prog 84 #[.pointer (some ⟨gp, 0, none⟩), .pointer (some ⟨gm, 0, none⟩)] w fun e w' => e = .returned (.tuple #[]) ∧ ∃ m' vf' vr', Res (pMember m (t :: r)) m' ∧ Rf w' gp V ts (stX (pMember m (t :: r))) ∧ Blk w' gm #[.string m'.name, vf', vr'] 40 ∧ w'.ownsRow (gm + 1) 90 5 vf' m'.fields.length (flRows m'.fields).flatten ∧ w'.ownsRow (gm + 1) 3 1 vr' m'.reserved.length (inRows m'.reserved).flatten ∧ Kp (fun k => k = gp ∨ gm ≤ k) w w' ∧ Bd ts.length (stX (pMember m (t :: r))) m'.fields.length ∧ Bd ts.length (stX (pMember m (t :: r))) m'.reserved.length := by
 obtain ⟨iI, hiI, hzI0, hzI1, hzI2⟩ := info_parts infoI
 have hfew := h.few
 obtain ⟨Z, hZ⟩ : ∃ Z, (pBind (pNum r) fun n r => pMore r.length (m.reserved ++ [(n : Int)]) r) = Z := ⟨_, rfl⟩
 have HZ0 : Hid (Z = pOn (stX (pNum r)) fun r' => pMore r'.length (m.reserved ++ [((res 0 (pNum r) : Nat) : Int)]) r') := by
  show Z = _
  rw [← hZ]; exact bind_on 0 (pNum r) _
 have HMem : Hid (∀ l, Res Z l → stX (pMember m (t :: r)) = stX Z ∧ Res (pMember m (t :: r)) ⟨m.name, m.fields, l⟩) := fun l hl => by
  rw [← hZ] at hl ⊢
  exact member_res ht hl
 have HBF : Hid (Bd ts.length (stX (pMember m (t :: r))) m.fields.length) := hbf.keep (member_lt m (t :: r)).le
 have hbr1 : Bd ts.length (.inr r) m.reserved.length := hbr.keep (x := (.inr ((), r) : PR Unit)) (fun a r' e => by simp at e; rw [← e]; simp)
 have HB0 : Hid (Bd ts.length (stX (pNum r)) (m.reserved.length + 1)) := hbr1.step (num_lt r)
 have HBZ : Hid (∀ (σ : Sg) (acc : List Int), Z = pOn σ (fun r => pMore r.length acc r) → Bd ts.length σ acc.length → Bd ts.length (stX Z) acc.length) := fun σ acc e hb => by
  rw [e]
  cases σ with
  | inl n => exact hb
  | inr r => exact hb.keep (more_le _ _ _)
 have hlenR : m.reserved.length ≤ 100000 := by have := hbr1.2 r rfl; omega
 have e1 : anyS [kReserved] t = true := by rw [any_one, ht]; decide +kernel
 have HE : Hid (stX (pOn (.inr (t :: r)) (pTake [kReserved])) = .inr r ∧ anyS [kReserved] (headS (.inr (t :: r))) = true) := ⟨by rw [any1_take _ _ _ e1]; rfl, e1⟩
 have HF0 : Hid (w.ownsRow (gm + 1) 90 5 vf m.fields.length (flRows m.fields).flatten) := hf
 have HO0 : Hid (w.ownsRow (gm + 1) 3 1 vr m.reserved.length (inRows m.reserved).flatten) := ho
 clear hZ hbf hbr hbr1 e1 ht hf ho
 go_enter Tryz.func84, Tryz.ntmps84
 go_wp2_with fail
 refine (ris_any kReserved h (by decide +kernel)).mono ?_
 rintro e w1 ⟨rfl, h5, k5⟩
 rw [HE.out.1] at h5
 rw [HE.out.2]
 have BM5 := BM.kp k5 (by omega)
 have K5 : Kp (fun k => k = gp ∨ gm ≤ k) w w1 := k5.weak (fun _ _ e => .inl e)
 have HO5 := own_kpH HO0 k5 (fun k hk => by omega)
 have HF5 := own_kpH HF0 k5 (fun k hk => by omega)
 clear h k5 BM HO0 HF0 HE
 obtain ⟨acc, hacc⟩ : ∃ acc, m.reserved = acc := ⟨_, rfl⟩
 rw [hacc] at HZ0 HB0 HO5 hlenR
 clear hacc
 obtain ⟨nA, hnA⟩ : ∃ n, acc.length = n := ⟨_, rfl⟩
 rw [hnA] at HO5 hlenR HB0
 have HNA : Hid (acc.length = nA) := hnA
 clear hnA
 go_wp2_with fail
 refine wp_region_held_drew (S := fun _ => True) (by kernel_rfl) trivial (fun hS => ?_)
 refine rg_take 0 7 (.pointer (some ⟨gm, 0, none⟩)) _ rfl rfl (by kernel_rfl) (by kernel_rfl) (by kernel_rfl) (fun _ _ _ h => h) (by rfl) (fun w' hw' => ?_) trivial (listed' := #[true, false, false, false, false, false, false, false, false, false, false, false]) (by kernel_rfl) rfl ?_
 ·go_simp
 simp only [List.setIfInBounds_toArray, List.set_cons_zero, List.set_cons_succ]
 refine rg_take 1 8 (.pointer (some ⟨gm, 0, none⟩)) _ rfl rfl (by kernel_rfl) (by kernel_rfl) (by kernel_rfl) (fun _ _ _ h => h) (by rfl) (fun w' hw' => ?_) trivial (listed' := #[true, true, false, false, false, false, false, false, false, false, false, false]) (by kernel_rfl) rfl ?_
 ·go_simp
 simp only [List.setIfInBounds_toArray, List.set_cons_zero, List.set_cons_succ]
 refine rg_take 2 9 (.pointer (some ⟨gm, 0, none⟩)) _ rfl rfl (by kernel_rfl) (by kernel_rfl) (by kernel_rfl) (fun _ _ _ h => h) (by rfl) (fun w' hw' => ?_) trivial (listed' := #[true, true, true, false, false, false, false, false, false, false, false, false]) (by kernel_rfl) rfl ?_
 ·go_simp
 simp only [List.setIfInBounds_toArray, List.set_cons_zero, List.set_cons_succ]
 refine rg_take 3 10 (.pointer (some ⟨gm, 2, none⟩)) _ rfl rfl (by kernel_rfl) (by kernel_rfl) (by kernel_rfl) (fun _ _ _ h => h) (by rfl) (fun w' hw' => ?_) trivial (listed' := #[true, true, true, true, false, false, false, false, false, false, false, false]) (by kernel_rfl) rfl ?_
 ·go_simp
 simp only [List.setIfInBounds_toArray, List.set_cons_zero, List.set_cons_succ]
 refine rg_take 5 12 (.pointer (some ⟨gp, 0, none⟩)) _ rfl rfl (by kernel_rfl) (by kernel_rfl) (by kernel_rfl) (fun _ _ _ h => h) (by rfl) (fun w' hw' => ?_) trivial (listed' := #[true, true, true, true, false, true, false, false, false, false, false, false]) (by kernel_rfl) rfl ?_
 ·go_simp
 simp only [List.setIfInBounds_toArray, List.set_cons_zero, List.set_cons_succ]
 refine rg_lcb 4 6 7 11 13 14 vr 85 #[.pointer (some ⟨gp, 0, none⟩)] (fun W => W.cell? ⟨gm, 2, none⟩ = some vr) rfl rfl rfl rfl rfl rfl (by kernel_rfl) (by kernel_rfl) (by kernel_rfl) (by kernel_rfl) (by kernel_rfl) (fun _ => rfl) (fun _ => rfl) (fun _ => rfl) (by decide) (by decide) (by decide) (by decide) ?g0 ?g1 ?g2 ?g3 ?g4 ?_
 case g0 => have hcv := (BM5.cell 2).trans rfl; go_simp
 case g1 => intro v W hW; simp only [List.setIfInBounds_toArray, List.set_cons_zero, List.set_cons_succ]; go_simp
 case g2 => intro v s W hW; simp only [List.setIfInBounds_toArray, List.set_cons_zero, List.set_cons_succ]; go_simp
 case g3 => go_simp
 case g4 => intro W; simp only [List.setIfInBounds_toArray, List.set_cons_zero, List.set_cons_succ]; go_simp
 have h5d : Rf w1.drew gp V ts (.inr r) := h5.below (Below.refl _ _).drew
 refine (pnumber_any h5d).mono ?_
 rintro e w5 ⟨rfl, h6, k6⟩
 have k6' : Kp (fun k => k = gp) w1 w5 := ⟨k6.os, k6.tape, k6.output, k6.size, k6.block⟩
 have BM6 := BM5.kp k6' (by omega)
 have K6 := K5.trans (k6'.weak (fun _ _ e => .inl e))
 have HO6 := own_kpH HO5 k6' (fun k hk => by omega)
 have HF6 := own_kpH HF5 k6' (fun k hk => by omega)
 clear h5d k6 k6' BM5 K5 HO5 HF5
 have hM6 : gm + 1 ≤ w5.heap.size := BM6.lt
 have e0 : pOn (.inr r) pNum = pNum r := rfl
 rw [e0] at h6 ⊢
 clear e0 h5
 generalize (res 0 (pNum r) : Nat) = x0 at *
 generalize stX (pNum r) = σn at *
 refine ⟨_, rfl, (BM6.cell 2).trans rfl, .slice (some ⟨w5.heap.size, 0, none⟩) 1 1, w5.alloc (.cells #[.int .i64 (x0 : Int)] 3), ((BM6.below ((Below.refl _ _).alloc (Nat.le_refl _) _)).cell 2).trans rfl, by simp only [List.setIfInBounds_toArray, List.set_cons_zero, List.set_cons_succ]; go_simp, by simp only [List.setIfInBounds_toArray, List.set_cons_zero, List.set_cons_succ]; go_simp, ?_⟩
 obtain ⟨v6, w6, hrun, ho6, hg6, _, hat6⟩ := run_append_own_at (P := Tryz.prog) (w5.alloc (.cells #[.int .i64 (x0 : Int)] 3)) (gm + 1) 38 38 3 iI _ 1 8 Tryz.underlying38 hiI hzI0 hzI1 hzI2 rfl (by decide) _ _ _ (HO6.out.alloc _) ⟨w5.heap.size, 0, none⟩ 1 1 [.int .i64 (x0 : Int)] rfl (cells_new _ #[.int .i64 (x0 : Int)] _) (by intro u hu; simp at hu; subst hu; rfl) (by unfold maxLen; omega) (by omega) (by simp; omega)
 have k56 : Kp (fun k => vr.ownBlock = some k) w5 w6 := ((Kp.refl _ _).alloc _).grown hg6 (fun k hk _ => hk)
 have hvb : ∀ k, vr.ownBlock = some k → gm + 1 ≤ k := fun k hk => (HO6.out.lt k hk).1
 have h7 : Rf w6 gp V ts σn := h6.kp k56 (fun k hk e => by have := hvb k e; omega)
 have BM7 := BM6.kp k56 (fun e => by have := hvb _ e; omega)
 have K7 : Kp (fun k => k = gp ∨ gm ≤ k) w w6 := K6.trans2 k56 (fun k hk e => by have := hvb k e; omega)
 have HF7 : Hid (w6.ownsRow (gm + 1) 90 5 vf m.fields.length (flRows m.fields).flatten) := own_kpV HF6.out k56 (fun k hk e => own_apart HO6.out HF6.out (by decide) k e hk)
 obtain ⟨ra, rc, hvv⟩ := own_form ho6
 subst hvv
 have HO7 : Hid (w6.ownsRow (gm + 1) 3 1 (.slice ra (nA + 1) rc) (acc ++ [(x0 : Int)]).length (inRows (acc ++ [(x0 : Int)])).flatten) := by
  show World.ownsRow _ _ _ _ _ _ _
  rw [in_snoc, List.length_append, HNA.out]; exact ho6
 have mc := BM7.cell 2
 have mf := BM7.froz 2
 simp only [List.getElem?_toArray, List.getElem?_cons_succ, List.getElem?_cons_zero] at mc
 clear ho6 hg6 hat6 k56 hvb h6 BM6 K6 HO6 HF6
 simp only [List.setIfInBounds_toArray, List.set_cons_zero, List.set_cons_succ]
 refine rg_run 8 15 (.slice ra (nA + 1) rc) (w6) rfl rfl (by kernel_rfl) (by rfl) (listed' := #[true, true, true, true, true, true, true, true, true, false, false, false]) (by kernel_rfl) ?_ trivial ?_
 ·exact append_run rfl rfl rfl hrun
 simp only [List.setIfInBounds_toArray, List.set_cons_zero, List.set_cons_succ]
 clear hrun
 refine rg_run 9 16 (.pointer (some ⟨gm, 0, none⟩)) (w6) rfl rfl (by kernel_rfl) (by rfl) (listed' := #[true, true, true, true, true, true, true, true, true, true, false, false]) (by kernel_rfl) ?_ trivial ?_
 ·go_simp
 simp only [List.setIfInBounds_toArray, List.set_cons_zero, List.set_cons_succ]
 refine rg_run 10 17 (.pointer (some ⟨gm, 2, none⟩)) (w6) rfl rfl (by kernel_rfl) (by rfl) (listed' := #[true, true, true, true, true, true, true, true, true, true, true, false]) (by kernel_rfl) ?_ trivial ?_
 ·go_simp
 simp only [List.setIfInBounds_toArray, List.set_cons_zero, List.set_cons_succ]
 refine rg_store 11 (w6.setCell ⟨gm, 2, none⟩ (.slice ra (nA + 1) rc)) rfl rfl (by kernel_rfl) (by rfl) (listed' := #[true, true, true, true, true, true, true, true, true, true, true, true]) (by kernel_rfl) ?_ trivial ?_
 ·go_simp
 refine wpAnyH_done (by kernel_rfl) ?_ _
 have k8 : Kp (fun k => k = gm) w6 (w6.setCell ⟨gm, 2, none⟩ (.slice ra (nA + 1) rc)) := Kp.setCell (p := ⟨gm, 2, none⟩) (Kp.refl (fun k => k = gm) w6) (fun _ => rfl) _
 have h8 : Rf (w6.setCell ⟨gm, 2, none⟩ (.slice ra (nA + 1) rc)) gp V ts σn := h7.other hgm _
 have BM8 : Blk (w6.setCell ⟨gm, 2, none⟩ (.slice ra (nA + 1) rc)) gm #[.string m.name, vf, .slice ra (nA + 1) rc] 40 := BM7.set 2 _ rfl
 have K8 : Kp (fun k => k = gp ∨ gm ≤ k) w (w6.setCell ⟨gm, 2, none⟩ (.slice ra (nA + 1) rc)) := K7.setCell (fun _ => .inr (Nat.le_refl _)) _
 have HO8 := own_kpH HO7 k8 (fun k hk => by omega)
 have HF8 := own_kpH HF7 k8 (fun k hk => by omega)
 clear h7 BM7 K7 HO7 HF7 k8 mc mf
 have HB8 : Hid (Bd ts.length σn (acc ++ [(x0 : Int)]).length) := by
  show Bd _ _ _
  rw [List.length_append, HNA.out]; exact HB0.out
 clear HB0 HNA hlenR
 generalize acc ++ [(x0 : Int)] = acc1 at *
 go_wp2_with fail
 go_loopw [19] (fun _ wr => ∃ (acc : List Int) (vr : Value) (σ1 : Sg), Hid (Z = pOn σ1 fun r => pMore r.length acc r) ∧ Hid (wr.ownsRow (gm + 1) 90 5 vf m.fields.length (flRows m.fields).flatten) ∧ Hid (wr.ownsRow (gm + 1) 3 1 vr acc.length (inRows acc).flatten) ∧ Rf wr gp V ts σ1 ∧ Kp (fun k => k = gp ∨ gm ≤ k) w wr ∧ Hid (Bd ts.length σ1 acc.length) ∧ Blk wr gm #[.string m.name, vf, vr] 40) (fun _ wr => msrf gp ts.length wr)
 case atStart => exact ⟨acc1, _, σn, HZ0, HF8, HO8, h8, K8, HB8, BM8⟩
 case round =>
  obtain ⟨acc, vr, σ, HZ, HF, HO, hr, KR, HB, BM⟩ := hrel
  clear HZ0 HF8 HO8 h8 K8 HB8 BM8
  have hms := msr_rf hr
  rcases comma_cases2 acc σ with ⟨t', r', rfl, e1, e2, e3⟩ | ⟨e1, e2, e3, e4⟩
  ·have HE : Hid (stX (pOn (.inr (t' :: r')) (pTake [kComma])) = .inr r' ∧ anyS [kComma] (headS (.inr (t' :: r'))) = true) := ⟨e1, e2⟩
   have HZ2 : Hid (Z = pOn (stX (pNum r')) fun r => pMore r.length (acc ++ [((res 0 (pNum r') : Nat) : Int)]) r) := by
    show Z = _
    rw [HZ.out, e3]; exact bind_on 0 (pNum r') _
   have hb2 : Bd ts.length (.inr r') acc.length := HB.out.keep (x := (.inr ((), r') : PR Unit)) (fun a r' e => by simp at e; rw [← e]; simp)
   have HB2 : Hid (Bd ts.length (stX (pNum r')) (acc.length + 1)) := hb2.step (num_lt r')
   have hlenR : acc.length ≤ 100000 := by have := hb2.2 r' rfl; omega
   have hwg : weigh (stX (pNum r')) < weigh (.inr (t' :: r')) := by
    have := weigh_lt (num_lt r') (num_in r')
    have e : weigh (.inr r') ≤ weigh (.inr (t' :: r')) := by simp [weigh, leftS, badS]; omega
    omega
   have HW : Hid (weigh (stX (pNum r')) < msrf gp ts.length wr) := by show _ < _; rw [hms]; exact hwg
   clear e1 e2 e3 hb2 HB HZ hms hwg
   obtain ⟨nA, hnA⟩ : ∃ n, acc.length = n := ⟨_, rfl⟩
   rw [hnA] at hlenR HO HB2
   have HNA : Hid (acc.length = nA) := hnA
   clear hnA
   go_wp2_with fail
   refine (ris_any kComma hr (by decide +kernel)).mono ?_
   rintro e w1 ⟨rfl, h5, k5⟩
   rw [HE.out.1] at h5
   rw [HE.out.2]
   have BM5 := BM.kp k5 (by omega)
   have K5 := KR.trans (k5.weak (fun _ _ e => .inl e))
   have HO5 := own_kpH HO k5 (fun k hk => by omega)
   have HF5 := own_kpH HF k5 (fun k hk => by omega)
   clear hr k5 BM HO HF HE KR
   go_wp2_with fail
   refine wp_region_held_drew (S := fun _ => True) (by kernel_rfl) trivial (fun hS => ?_)
   refine rg_take 0 20 (.pointer (some ⟨gm, 0, none⟩)) _ rfl rfl (by kernel_rfl) (by kernel_rfl) (by kernel_rfl) (fun _ _ _ h => h) (by rfl) (fun w' hw' => ?_) trivial (listed' := #[true, false, false, false, false, false, false, false, false, false, false, false]) (by kernel_rfl) rfl ?_
   ·go_simp
   simp only [List.setIfInBounds_toArray, List.set_cons_zero, List.set_cons_succ]
   refine rg_take 1 21 (.pointer (some ⟨gm, 0, none⟩)) _ rfl rfl (by kernel_rfl) (by kernel_rfl) (by kernel_rfl) (fun _ _ _ h => h) (by rfl) (fun w' hw' => ?_) trivial (listed' := #[true, true, false, false, false, false, false, false, false, false, false, false]) (by kernel_rfl) rfl ?_
   ·go_simp
   simp only [List.setIfInBounds_toArray, List.set_cons_zero, List.set_cons_succ]
   refine rg_take 2 22 (.pointer (some ⟨gm, 0, none⟩)) _ rfl rfl (by kernel_rfl) (by kernel_rfl) (by kernel_rfl) (fun _ _ _ h => h) (by rfl) (fun w' hw' => ?_) trivial (listed' := #[true, true, true, false, false, false, false, false, false, false, false, false]) (by kernel_rfl) rfl ?_
   ·go_simp
   simp only [List.setIfInBounds_toArray, List.set_cons_zero, List.set_cons_succ]
   refine rg_take 3 23 (.pointer (some ⟨gm, 2, none⟩)) _ rfl rfl (by kernel_rfl) (by kernel_rfl) (by kernel_rfl) (fun _ _ _ h => h) (by rfl) (fun w' hw' => ?_) trivial (listed' := #[true, true, true, true, false, false, false, false, false, false, false, false]) (by kernel_rfl) rfl ?_
   ·go_simp
   simp only [List.setIfInBounds_toArray, List.set_cons_zero, List.set_cons_succ]
   refine rg_take 5 25 (.pointer (some ⟨gp, 0, none⟩)) _ rfl rfl (by kernel_rfl) (by kernel_rfl) (by kernel_rfl) (fun _ _ _ h => h) (by rfl) (fun w' hw' => ?_) trivial (listed' := #[true, true, true, true, false, true, false, false, false, false, false, false]) (by kernel_rfl) rfl ?_
   ·go_simp
   simp only [List.setIfInBounds_toArray, List.set_cons_zero, List.set_cons_succ]
   refine rg_lcb 4 6 7 24 26 27 vr 85 #[.pointer (some ⟨gp, 0, none⟩)] (fun W => W.cell? ⟨gm, 2, none⟩ = some vr) rfl rfl rfl rfl rfl rfl (by kernel_rfl) (by kernel_rfl) (by kernel_rfl) (by kernel_rfl) (by kernel_rfl) (fun _ => rfl) (fun _ => rfl) (fun _ => rfl) (by decide) (by decide) (by decide) (by decide) ?g0 ?g1 ?g2 ?g3 ?g4 ?_
   case g0 => have hcv := (BM5.cell 2).trans rfl; go_simp
   case g1 => intro v W hW; simp only [List.setIfInBounds_toArray, List.set_cons_zero, List.set_cons_succ]; go_simp
   case g2 => intro v s W hW; simp only [List.setIfInBounds_toArray, List.set_cons_zero, List.set_cons_succ]; go_simp
   case g3 => go_simp
   case g4 => intro W; simp only [List.setIfInBounds_toArray, List.set_cons_zero, List.set_cons_succ]; go_simp
   have h5d : Rf w1.drew gp V ts (.inr r') := h5.below (Below.refl _ _).drew
   refine (pnumber_any h5d).mono ?_
   rintro e w5 ⟨rfl, h6, k6⟩
   have k6' : Kp (fun k => k = gp) w1 w5 := ⟨k6.os, k6.tape, k6.output, k6.size, k6.block⟩
   have BM6 := BM5.kp k6' (by omega)
   have K6 := K5.trans (k6'.weak (fun _ _ e => .inl e))
   have HO6 := own_kpH HO5 k6' (fun k hk => by omega)
   have HF6 := own_kpH HF5 k6' (fun k hk => by omega)
   clear h5d k6 k6' BM5 K5 HO5 HF5
   have hM6 : gm + 1 ≤ w5.heap.size := BM6.lt
   have e0 : pOn (.inr r') pNum = pNum r' := rfl
   rw [e0] at h6 ⊢
   clear e0 h5
   generalize (res 0 (pNum r') : Nat) = x0 at *
   generalize stX (pNum r') = σn at *
   refine ⟨_, rfl, (BM6.cell 2).trans rfl, .slice (some ⟨w5.heap.size, 0, none⟩) 1 1, w5.alloc (.cells #[.int .i64 (x0 : Int)] 3), ((BM6.below ((Below.refl _ _).alloc (Nat.le_refl _) _)).cell 2).trans rfl, by simp only [List.setIfInBounds_toArray, List.set_cons_zero, List.set_cons_succ]; go_simp, by simp only [List.setIfInBounds_toArray, List.set_cons_zero, List.set_cons_succ]; go_simp, ?_⟩
   obtain ⟨v6, w6, hrun, ho6, hg6, _, hat6⟩ := run_append_own_at (P := Tryz.prog) (w5.alloc (.cells #[.int .i64 (x0 : Int)] 3)) (gm + 1) 38 38 3 iI _ 1 8 Tryz.underlying38 hiI hzI0 hzI1 hzI2 rfl (by decide) _ _ _ (HO6.out.alloc _) ⟨w5.heap.size, 0, none⟩ 1 1 [.int .i64 (x0 : Int)] rfl (cells_new _ #[.int .i64 (x0 : Int)] _) (by intro u hu; simp at hu; subst hu; rfl) (by unfold maxLen; omega) (by omega) (by simp; omega)
   have k56 : Kp (fun k => vr.ownBlock = some k) w5 w6 := ((Kp.refl _ _).alloc _).grown hg6 (fun k hk _ => hk)
   have hvb : ∀ k, vr.ownBlock = some k → gm + 1 ≤ k := fun k hk => (HO6.out.lt k hk).1
   have h7 : Rf w6 gp V ts σn := h6.kp k56 (fun k hk e => by have := hvb k e; omega)
   have BM7 := BM6.kp k56 (fun e => by have := hvb _ e; omega)
   have K7 : Kp (fun k => k = gp ∨ gm ≤ k) w w6 := K6.trans2 k56 (fun k hk e => by have := hvb k e; omega)
   have HF7 : Hid (w6.ownsRow (gm + 1) 90 5 vf m.fields.length (flRows m.fields).flatten) := own_kpV HF6.out k56 (fun k hk e => own_apart HO6.out HF6.out (by decide) k e hk)
   obtain ⟨ra, rc, hvv⟩ := own_form ho6
   subst hvv
   have HO7 : Hid (w6.ownsRow (gm + 1) 3 1 (.slice ra (nA + 1) rc) (acc ++ [(x0 : Int)]).length (inRows (acc ++ [(x0 : Int)])).flatten) := by
    show World.ownsRow _ _ _ _ _ _ _
    rw [in_snoc, List.length_append, HNA.out]; exact ho6
   have mc := BM7.cell 2
   have mf := BM7.froz 2
   simp only [List.getElem?_toArray, List.getElem?_cons_succ, List.getElem?_cons_zero] at mc
   clear ho6 hg6 hat6 k56 hvb h6 BM6 K6 HO6 HF6
   simp only [List.setIfInBounds_toArray, List.set_cons_zero, List.set_cons_succ]
   refine rg_run 8 28 (.slice ra (nA + 1) rc) (w6) rfl rfl (by kernel_rfl) (by rfl) (listed' := #[true, true, true, true, true, true, true, true, true, false, false, false]) (by kernel_rfl) ?_ trivial ?_
   ·exact append_run rfl rfl rfl hrun
   simp only [List.setIfInBounds_toArray, List.set_cons_zero, List.set_cons_succ]
   clear hrun
   refine rg_run 9 29 (.pointer (some ⟨gm, 0, none⟩)) (w6) rfl rfl (by kernel_rfl) (by rfl) (listed' := #[true, true, true, true, true, true, true, true, true, true, false, false]) (by kernel_rfl) ?_ trivial ?_
   ·go_simp
   simp only [List.setIfInBounds_toArray, List.set_cons_zero, List.set_cons_succ]
   refine rg_run 10 30 (.pointer (some ⟨gm, 2, none⟩)) (w6) rfl rfl (by kernel_rfl) (by rfl) (listed' := #[true, true, true, true, true, true, true, true, true, true, true, false]) (by kernel_rfl) ?_ trivial ?_
   ·go_simp
   simp only [List.setIfInBounds_toArray, List.set_cons_zero, List.set_cons_succ]
   refine rg_store 11 (w6.setCell ⟨gm, 2, none⟩ (.slice ra (nA + 1) rc)) rfl rfl (by kernel_rfl) (by rfl) (listed' := #[true, true, true, true, true, true, true, true, true, true, true, true]) (by kernel_rfl) ?_ trivial ?_
   ·go_simp
   refine wpAnyH_done (by kernel_rfl) ?_ _
   have k8 : Kp (fun k => k = gm) w6 (w6.setCell ⟨gm, 2, none⟩ (.slice ra (nA + 1) rc)) := Kp.setCell (p := ⟨gm, 2, none⟩) (Kp.refl (fun k => k = gm) w6) (fun _ => rfl) _
   have h8 : Rf (w6.setCell ⟨gm, 2, none⟩ (.slice ra (nA + 1) rc)) gp V ts σn := h7.other hgm _
   have BM8 : Blk (w6.setCell ⟨gm, 2, none⟩ (.slice ra (nA + 1) rc)) gm #[.string m.name, vf, .slice ra (nA + 1) rc] 40 := BM7.set 2 _ rfl
   have K8 : Kp (fun k => k = gp ∨ gm ≤ k) w (w6.setCell ⟨gm, 2, none⟩ (.slice ra (nA + 1) rc)) := K7.setCell (fun _ => .inr (Nat.le_refl _)) _
   have HO8 := own_kpH HO7 k8 (fun k hk => by omega)
   have HF8 := own_kpH HF7 k8 (fun k hk => by omega)
   clear h7 BM7 K7 HO7 HF7 k8 mc mf
   have HB8 : Hid (Bd ts.length σn (acc ++ [(x0 : Int)]).length) := by
    show Bd _ _ _
    rw [List.length_append, HNA.out]; exact HB2.out
   have HM : Hid (msrf gp ts.length (w6.setCell ⟨gm, 2, none⟩ (.slice ra (nA + 1) rc)) < msrf gp ts.length wr) := by
    show _ < _
    rw [msr_rf h8]; exact HW.out
   clear HB2 HNA hlenR HW
   generalize acc ++ [(x0 : Int)] = acc1 at *
   go_wp2_with fail
   go_roundw
   case rel => exact ⟨acc1, _, σn, HZ2, HF8, HO8, h8, K8, HB8, BM8⟩
   case measure => exact HM.out
  ·have HE : Hid (stX (pOn σ (pTake [kComma])) = σ ∧ anyS [kComma] (headS σ) = false) := ⟨e2, e1⟩
   obtain ⟨q7, q8⟩ := HMem.out acc (by rw [HZ.out]; exact e4)
   have HQ : Hid (stX (pMember m (t :: r)) = stX (pOn σ (pMust kSemi))) := by show _ = _; rw [q7, HZ.out]; exact e3
   have HQ8 : Hid (Res (pMember m (t :: r)) ⟨m.name, m.fields, acc⟩) := q8
   have HQB : Hid (Bd ts.length (stX (pMember m (t :: r))) acc.length) := by show Bd _ _ _; rw [q7]; exact HBZ.out σ acc HZ.out HB.out
   clear e1 e2 e3 e4 q7 q8 HZ HB HMem HBZ hms
   go_wp2_with fail
   refine (ris_any kComma hr (by decide +kernel)).mono ?_
   rintro e w1 ⟨rfl, h5, k5⟩
   rw [HE.out.1] at h5
   rw [HE.out.2]
   have BM5 := BM.kp k5 (by omega)
   have K5 := KR.trans (k5.weak (fun _ _ e => .inl e))
   have HO5 := own_kpH HO k5 (fun k hk => by omega)
   have HF5 := own_kpH HF k5 (fun k hk => by omega)
   clear hr k5 BM HO HF HE KR
   go_wp2_with fail
   refine (rmust_any kSemi h5 (by decide +kernel)).mono ?_
   rintro e w2 ⟨rfl, h6, k6⟩
   rw [← HQ.out] at h6
   have BM6 := BM5.kp k6 (by omega)
   have K6 := K5.trans (k6.weak (fun _ _ e => .inl e))
   have HO6 := own_kpH HO5 k6 (fun k hk => by omega)
   have HF6 := own_kpH HF5 k6 (fun k hk => by omega)
   clear h5 k6 BM5 K5 HO5 HF5 HQ
   go_wp2_with fail
   refine bodyPost_ret (results_none' rfl _ _ _) rfl ?_
   exact ⟨rfl, ⟨m.name, m.fields, acc⟩, vf, vr, HQ8.out, h6, BM6, HF6.out, HO6.out, K6, HBF.out, HQB.out⟩
end Go.Proofs.YtcjfeandnmochaaGreatDoor
namespace Go.Proofs.YtcjfeandnmochaaGreatDoor
set_option linter.unusedVariables false
set_option linter.unusedSimpArgs false
theorem rg_llb {P : Program} {md : Region.Mode} {ops : Array Oper} {Q : Exit → Act → World → Prop} {fuel : Nat} {listed : Array Bool} {a : Act} {w : World} (i j k di dj dk : Nat) {oi oj ok : Oper} (vi vj s : Value) (w2 : World)
  (hi : ops[i]? = some oi) (hj : ops[j]? = some oj) (hk : ops[k]? = some ok) (hdi : oi.dst = some di) (hdj : oj.dst = some dj) (hdk : ok.dst = some dk)
  (hr0 : Region.ready md ops listed = [i, j]) (hri : Region.ready md ops (listed.setIfInBounds i true) = [j]) (hrj : Region.ready md ops (listed.setIfInBounds j true) = [i, k])
  (hrij : Region.ready md ops ((listed.setIfInBounds i true).setIfInBounds j true) = [k]) (hrjk : Region.ready md ops ((listed.setIfInBounds j true).setIfInBounds k true) = [i])
  (hwi : ∀ t, Region.wanted oi t = true) (hwj : ∀ t, Region.wanted oj t = true) (hwk : ∀ t, Region.wanted ok t = true) (hij : i ≠ j) (hik : i ≠ k) (dij : di ≠ dj) (dik : di ≠ dk)
  (hx0 : (execOp a.eval oi).run P w = .ok (.value vi) w) (hx1 : (execOp ({ a with tmps := a.tmps.setIfInBounds dj vj } : Act).eval oi).run P w = .ok (.value vi) w)
  (hx2 : (execOp ({ a with tmps := (a.tmps.setIfInBounds dj vj).setIfInBounds dk s } : Act).eval oi).run P w2 = .ok (.value vi) w2)
  (hy0 : (execOp a.eval oj).run P w = .ok (.value vj) w) (hy1 : (execOp ({ a with tmps := a.tmps.setIfInBounds di vi } : Act).eval oj).run P w = .ok (.value vj) w)
  (b1 : (execOp ({ a with tmps := a.tmps.setIfInBounds dj vj } : Act).eval ok).run P w = .ok (.value s) w2)
  (b2 : (execOp ({ a with tmps := (a.tmps.setIfInBounds di vi).setIfInBounds dj vj } : Act).eval ok).run P w = .ok (.value s) w2)
  (h3 : wpAnyH P md ops Q (fun _ => True) fuel (((listed.setIfInBounds i true).setIfInBounds j true).setIfInBounds k true) { a with tmps := ((a.tmps.setIfInBounds di vi).setIfInBounds dj vj).setIfInBounds dk s } w2) :
  wpAnyH P md ops Q (fun _ => True) (fuel + 3) listed a w := by
 refine wpAnyH_ready (rs := [i, j]) hr0 (by simp) (AllReadyH.cons hi (fun K hK => ?_) (AllReadyH.cons hj (fun K hK => ?_) AllReadyH.nil))
 ·rw [if_pos (hwi _)]
  unfold Oper.wp
  rw [hx0]
  refine hK.out _ _ trivial (fun _ => ?_)
  rw [hdi]
  refine rg_run j dj vj w hj hdj hri (hwj _) rfl hy1 trivial ?_
  exact rg_run k dk s w2 hk hdk hrij (hwk _) rfl b2 trivial h3
 ·rw [if_pos (hwj _)]
  unfold Oper.wp
  rw [hy0]
  refine hK.out _ _ trivial (fun _ => ?_)
  rw [hdj]
  refine wpAnyH_ready (rs := [i, k]) hrj (by simp) (AllReadyH.cons hi (fun K hK => ?_) (AllReadyH.cons hk (fun K hK => ?_) AllReadyH.nil))
  ·rw [if_pos (hwi _)]
   unfold Oper.wp
   have hh : (execOp (Act.put a (some dj) vj).eval oi).run P w = .ok (.value vi) w := hx1
   rw [hh]
   refine hK.out _ _ trivial (fun _ => ?_)
   rw [hdi, set_comm2 listed (Ne.symm hij)]
   show wpAnyH P md ops Q _ _ _ ({ a with tmps := (a.tmps.setIfInBounds dj vj).setIfInBounds di vi } : Act) w
   rw [set_comm2 a.tmps (Ne.symm dij)]
   exact rg_run k dk s w2 hk hdk hrij (hwk _) rfl b2 trivial h3
  ·rw [if_pos (hwk _)]
   unfold Oper.wp
   have hh : (execOp (Act.put a (some dj) vj).eval ok).run P w = .ok (.value s) w2 := b1
   rw [hh]
   refine hK.out _ _ trivial (fun _ => ?_)
   rw [hdk]
   refine rg_run i di vi w2 hi hdi hrjk (hwi _) rfl hx2 trivial ?_
   rw [set_comm2 _ (Ne.symm hik), set_comm2 listed (Ne.symm hij)]
   show wpAnyH P md ops Q _ _ _ ({ a with tmps := ((a.tmps.setIfInBounds dj vj).setIfInBounds dk s).setIfInBounds di vi } : Act) w2
   rw [set_comm2 _ (Ne.symm dik), set_comm2 a.tmps (Ne.symm dij)]
   exact h3
end Go.Proofs.YtcjfeandnmochaaGreatDoor

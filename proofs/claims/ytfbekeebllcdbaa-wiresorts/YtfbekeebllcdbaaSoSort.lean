/- What Sorted answers: the fields by their tags, in new memory. -/
import Derived.Test.YtfbekeebllcdbaaSoMerge
import Derived.Test.YtfbekeebllcdbaaRg2
import Derived.Laws.MakeOwn
namespace Go.Proofs.Ytfbekeebllcdbaa
open Go.ChangeShapes Go.WideShapes Go.ChangeAt Go.RowKit
set_option linter.unusedVariables false
set_option linter.unusedSimpArgs false
set_option maxRecDepth 20000

theorem OutAt.holds {w : World} {g m : Nat} {l : List Fd} (h : OutAt w g l m) : HoldsR w (some ⟨g, 0, none⟩) l := by
  obtain ⟨junk, h1, h2⟩ := h
  intro b hb j u hu
  obtain rfl : ⟨g, 0, none⟩ = b := by simpa using hb
  rw [Addr.add_lit, Nat.zero_add]
  simp only [World.cell?, h1]
  have hj := (List.getElem?_eq_some_iff.1 hu).1
  simp [List.getElem?_append_left hj, hu]
theorem below_drew (w : World) : Below w.heap.size w w.drew := (Below.refl _ _).drew
theorem HoldsR.cut' {w : World} {a : Option Addr} {rs : List Fd} (h : HoldsR w a rs) (k : Nat) : HoldsR w a (rs.take k) := by
  have : HoldsR w a (rs.take k ++ rs.drop k) := by rw [List.take_append_drop]; exact h
  exact this.take

set_option maxHeartbeats 8000000 in
theorem sorted_step (rs : List Fd) (a : Option Addr) (N cap : Nat) (w : World) (hN : rs.length = N) (hl : N ≤ 1000000) (hadr : rs = [] ∨ ∃ g off, a = some ⟨g, off, none⟩) (hc : N ≤ cap) (hm : cap ≤ maxLen) (hh : HoldsR w a rs)
    (IH0 : ∀ (rs' : List Fd) (a : Option Addr) (M cap : Nat) (w : World), rs'.length < N → rs'.length = M → (rs' = [] ∨ ∃ g off, a = some ⟨g, off, none⟩) → M ≤ cap → cap ≤ maxLen → HoldsR w a rs' →
      Calls Try.prog 22 #[.slice a M cap] w fun e w' => ∃ g, e = .returned (.slice (some ⟨g, 0, none⟩) M M) ∧ w.heap.size ≤ g ∧ g < w'.heap.size ∧ HoldsR w' (some ⟨g, 0, none⟩) (sortF rs') ∧ Below w.heap.size w w') :
    Calls Try.prog 22 #[.slice a N cap] w fun e w' => ∃ g, e = .returned (.slice (some ⟨g, 0, none⟩) N N) ∧ w.heap.size ≤ g ∧ g < w'.heap.size ∧ HoldsR w' (some ⟨g, 0, none⟩) (sortF rs) ∧ Below w.heap.size w w' := by
  obtain ⟨i0, hi, hz0, hz1, hz2⟩ := info_parts infoRaw
  have hmk := fun W => run_make (P := Try.prog) W 25 24 i0 _ Try.underlying25 hi hz0 .i64 .i64 (N : Int) (N : Int) (by omega) (Int.le_refl _) (by rw [hz2]; omega) (by omega)
  simp only [Int.toNat_natCast, hz1] at hmk
  obtain ⟨Z, hZ⟩ : ∃ Z, madeCells (Value.agg #[.int .i64 0, .int .i64 0, .int .i64 0, .string ⟨#[]⟩]).cells (N * 4) = Z := ⟨_, rfl⟩
  have hZs : Z.size = N * 4 := by rw [← hZ, size_madeCells]
  rw [hZ] at hmk
  have HOUT : Hid (OutAt (w.alloc (.cells Z 24)) w.heap.size [] N) := ⟨Z.toList, by rw [rawCells_nil, List.nil_append]; exact heap_alloc_new w _, by simpa using hZs⟩
  have HRS : Hid (Calls Try.prog 23 #[.slice a N cap] (w.alloc (.cells Z 24)) fun e w' => e = .returned (.bool (risesB rs)) ∧ Below (w.alloc (.cells Z 24)).heap.size (w.alloc (.cells Z 24)) w') := rising_any a rs N cap _ hN hadr hc hm (hh.below (below_one w _))
  have HN : Hid (rs.length = N) := hN
  have HH : Hid (HoldsR w a rs) := hh
  have HADR : Hid (rs = [] ∨ ∃ g off, a = some ⟨g, off, none⟩) := hadr
  have HM : Hid (cap ≤ maxLen) := hm
  have IH : Hid (∀ (rs' : List Fd) (a : Option Addr) (M cap : Nat) (w : World), rs'.length < N → rs'.length = M → (rs' = [] ∨ ∃ g off, a = some ⟨g, off, none⟩) → M ≤ cap → cap ≤ maxLen → HoldsR w a rs' →
      Calls Try.prog 22 #[.slice a M cap] w fun e w' => ∃ g, e = .returned (.slice (some ⟨g, 0, none⟩) M M) ∧ w.heap.size ≤ g ∧ g < w'.heap.size ∧ HoldsR w' (some ⟨g, 0, none⟩) (sortF rs') ∧ Below w.heap.size w w') := IH0
  obtain ⟨R, hR⟩ : ∃ R, risesB rs = R := ⟨_, rfl⟩
  rw [hR] at HRS
  have HR : Hid (risesB rs = R) := hR
  unfold maxLen at hm
  clear hN hadr hh IH0 hZ hZs hR hi hz0 hz1 hz2
  go_enter Try.func22, Try.ntmps22
  go_wp2_with fail
  refine HRS.out.mono ?_
  rintro e w2 ⟨rfl, hb2⟩
  have HO2 : Hid (OutAt w2 w.heap.size [] N) := HOUT.out.below hb2
  have hG2 : w.heap.size < w2.heap.size := HO2.out.lt
  have hbw2 : Below w.heap.size w w2 := (below_one w _).trans (hb2.mono (by simp))
  clear HRS HOUT hb2 hmk
  cases R with
  | true =>
    go_wp2_with (first
      | (refine wpList_copyR rfl _ _ rfl _ _ _ _ _ _ rfl rfl w.heap.size [] N HO2.out rs ?c1 ?c2 ?c3 ?_)
      | fail)
    case c1 => rw [HN.out]; simp
    case c2 => rw [HN.out]; exact Nat.le_refl _
    case c3 =>
      intro hne
      rcases HADR.out with h | ⟨g, off, h⟩
      · exact absurd h hne
      · exact ⟨rfl, _, h, by rw [← h]; exact HH.out.below hbw2⟩
    intro w3 HO3 hg3
    have hb3 : Below w.heap.size w w3 := hbw2.grown hg3 hbw2.size (fun k hk => by cases hk; exact Nat.le_refl _)
    have HF : Hid (HoldsR w3 (some ⟨w.heap.size, 0, none⟩) (sortF rs)) := by
      rw [sortF_id HR.out]
      have := HO3.out
      try rw [List.nil_append] at this
      exact this.holds
    have hlt3 := HO3.out.lt
    clear HO3 hg3 HO2
    go_wp2_with fail
    go_ret
    exact ⟨_, rfl, Nat.le_refl _, hlt3, HF.out, hb3⟩
  | false =>
    have hN2 : 2 ≤ N := by rw [← HN.out]; exact rises_short HR.out
    rcases HADR.out with h | ⟨b, off, rfl⟩
    · exact absurd hN2 (by rw [← HN.out, h]; simp)
    obtain ⟨half, hhalf⟩ : ∃ h, N / 2 = h := ⟨_, rfl⟩
    have hq : (N : Int) / 2 = (half : Int) := by omega
    have hq' : (N : Int).tdiv 2 = (half : Int) := by rw [Int.tdiv_eq_ediv_of_nonneg (by omega)]; exact hq
    have hh1 : half < N := by omega
    have hh2 : 0 < half := by omega
    obtain ⟨LO, hLO⟩ : ∃ l, rs.take half = l := ⟨_, rfl⟩
    obtain ⟨HI, hHI⟩ : ∃ l, rs.drop half = l := ⟨_, rfl⟩
    have HLL : Hid (LO.length = half) := by show _ = _; rw [← hLO, List.length_take, HN.out]; omega
    have HHL : Hid (HI.length = N - half) := by show _ = _; rw [← hHI, List.length_drop, HN.out]
    have HSR : Hid (sortF rs = mergeF (sortF LO) (sortF HI)) := by show _ = _; rw [sortF_on HR.out, HN.out, hhalf, hLO, hHI]
    have CL : Hid (∀ W, Below w.heap.size w W → Calls Try.prog 22 #[.slice (some ⟨b, off, none⟩) half cap] W fun e w' => ∃ g, e = .returned (.slice (some ⟨g, 0, none⟩) half half) ∧ W.heap.size ≤ g ∧ g < w'.heap.size ∧ HoldsR w' (some ⟨g, 0, none⟩) (sortF LO) ∧ Below W.heap.size W w') := fun W hW => IH.out LO _ half cap W (by rw [HLL.out]; exact hh1) HLL.out (.inr ⟨_, _, rfl⟩) (by omega) HM.out (by rw [← hLO]; exact (HH.out.below hW).cut' half)
    have CH : Hid (∀ W, Below w.heap.size w W → Calls Try.prog 22 #[.slice (some ⟨b, off + half * 4, none⟩) (N - half) (cap - half)] W fun e w' => ∃ g, e = .returned (.slice (some ⟨g, 0, none⟩) (N - half) (N - half)) ∧ W.heap.size ≤ g ∧ g < w'.heap.size ∧ HoldsR w' (some ⟨g, 0, none⟩) (sortF HI) ∧ Below W.heap.size W w') := fun W hW => IH.out HI _ (N - half) (cap - half) W (by rw [HHL.out]; omega) HHL.out (.inr ⟨_, _, rfl⟩) (by omega) (by unfold maxLen; omega) (by rw [← hHI]; exact (HH.out.below hW).drop half)
    have e1 : ¬ half = cap := by omega
    have e1' : ¬ cap = half := by omega
    have e2 : (half : Int) ≤ (cap : Int) := by omega
    have e3 : (half : Int) ≤ (N : Int) := by omega
    have e4 : half ≤ N := by omega
    have e5 : half ≤ cap := by omega
    clear hhalf hLO hHI HH IH HADR HR
    go_wp2_with fail
    have hS : Below w.heap.size w w2.drew := hbw2.drew
    refine wp_region_held_drew (S := fun w' => Below w.heap.size w w') (by kernel_rfl) hS (fun hS => ?_)
    refine rg_take 0 17 (.slice (some ⟨w.heap.size, 0, none⟩) N N) _ rfl rfl (by kernel_rfl) (by kernel_rfl) (by kernel_rfl) (fun _ _ _ h => h) (by rfl) (fun w' hw' => ?_) hS (listed' := #[true, false, false, false, false, false, false, false, false, false]) (by kernel_rfl) rfl ?_
    · go_simp
    simp only [List.setIfInBounds_toArray, List.set_cons_zero, List.set_cons_succ]
    refine rg_take 1 18 (.slice (some ⟨b, off, none⟩) N cap) _ rfl rfl (by kernel_rfl) (by kernel_rfl) (by kernel_rfl) (fun _ _ _ h => h) (by rfl) (fun w' hw' => ?_) hS (listed' := #[true, true, false, false, false, false, false, false, false, false]) (by kernel_rfl) rfl ?_
    · go_simp
    simp only [List.setIfInBounds_toArray, List.set_cons_zero, List.set_cons_succ]
    refine rg_take 2 19 (.int .i64 (half : Int)) _ rfl rfl (by kernel_rfl) (by kernel_rfl) (by kernel_rfl) (fun _ _ _ h => h) (by rfl) (fun w' hw' => ?_) hS (listed' := #[true, true, true, false, false, false, false, false, false, false]) (by kernel_rfl) rfl ?_
    · go_simp
    simp only [List.setIfInBounds_toArray, List.set_cons_zero, List.set_cons_succ]
    refine rg_take 3 20 (.slice (some ⟨b, off, none⟩) half cap) _ rfl rfl (by kernel_rfl) (by kernel_rfl) (by kernel_rfl) (fun _ _ _ h => h) (by rfl) (fun w' hw' => ?_) hS (listed' := #[true, true, true, true, false, false, false, false, false, false]) (by kernel_rfl) rfl ?_
    · go_simp
    simp only [List.setIfInBounds_toArray, List.set_cons_zero, List.set_cons_succ]
    refine rg_take 5 22 (.slice (some ⟨b, off, none⟩) N cap) _ rfl rfl (by kernel_rfl) (by kernel_rfl) (by kernel_rfl) (fun _ _ _ h => h) (by rfl) (fun w' hw' => ?_) hS (listed' := #[true, true, true, true, false, true, false, false, false, false]) (by kernel_rfl) rfl ?_
    · go_simp
    simp only [List.setIfInBounds_toArray, List.set_cons_zero, List.set_cons_succ]
    refine rg_take 6 23 (.int .i64 (half : Int)) _ rfl rfl (by kernel_rfl) (by kernel_rfl) (by kernel_rfl) (fun _ _ _ h => h) (by rfl) (fun w' hw' => ?_) hS (listed' := #[true, true, true, true, false, true, true, false, false, false]) (by kernel_rfl) rfl ?_
    · go_simp
    simp only [List.setIfInBounds_toArray, List.set_cons_zero, List.set_cons_succ]
    refine rg_take 7 24 (.slice (some ⟨b, off + half * 4, none⟩) (N - half) (cap - half)) _ rfl rfl (by kernel_rfl) (by kernel_rfl) (by kernel_rfl) (fun _ _ _ h => h) (by rfl) (fun w' hw' => ?_) hS (listed' := #[true, true, true, true, false, true, true, true, false, false]) (by kernel_rfl) rfl ?_
    · go_simp
    simp only [List.setIfInBounds_toArray, List.set_cons_zero, List.set_cons_succ]
    refine rg_call 4 21 22 #[.slice (some ⟨b, off, none⟩) half cap] rfl rfl (by kernel_rfl) (by rfl) (listed' := #[true, true, true, true, true, true, true, true, false, false]) (by kernel_rfl) (fun w' => by go_simp) ?_
    refine (CL.out _ hS).mono ?_
    rintro e w3 ⟨g1, rfl, n1, m1, hh1, hb1⟩
    have hO3 := HO2.out.below ((below_drew w2).trans (hb1.mono (by simp)))
    have hS3 : Below w.heap.size w w3 := hS.trans (hb1.mono hS.size)
    refine ⟨_, rfl, hS3, ?_⟩
    have hS := hS3
    simp only [List.setIfInBounds_toArray, List.set_cons_zero, List.set_cons_succ]
    refine rg_call 8 25 22 #[.slice (some ⟨b, off + half * 4, none⟩) (N - half) (cap - half)] rfl rfl (by kernel_rfl) (by rfl) (listed' := #[true, true, true, true, true, true, true, true, true, false]) (by kernel_rfl) (fun w' => by go_simp) ?_
    refine (CH.out _ hS).mono ?_
    rintro e w4 ⟨g2, rfl, n2, m2, hh2, hb2⟩
    have hO4 := hO3.below hb2
    have hh1' := hh1.below hb2
    have hS4 : Below w.heap.size w w4 := hS3.trans (hb2.mono hS3.size)
    refine ⟨_, rfl, hS4, ?_⟩
    have hG1 : g1 ≠ w.heap.size := by have := hG2; have : w2.heap.size ≤ g1 := n1; omega
    have hG2' : g2 ≠ w.heap.size := by have := hG2; have := hb1.size; have : w2.heap.size ≤ w3.heap.size := this; omega
    have hM := merge_any w.heap.size (.slice (some ⟨g1, 0, none⟩) half half) (.slice (some ⟨g2, 0, none⟩) (N - half) (N - half)) (sortF LO) (sortF HI) w4 N (by rw [(sortF_all _ LO (Nat.le_refl _)).2.1, (sortF_all _ HI (Nat.le_refl _)).2.1, HLL.out, HHL.out]; omega) hl hO4
      ⟨g1, 0, half, by rw [(sortF_all _ LO (Nat.le_refl _)).2.1, HLL.out], by rw [(sortF_all _ LO (Nat.le_refl _)).2.1, HLL.out]; exact Nat.le_refl _, by omega, hh1', hG1⟩
      ⟨g2, 0, N - half, by rw [(sortF_all _ HI (Nat.le_refl _)).2.1, HHL.out], by rw [(sortF_all _ HI (Nat.le_refl _)).2.1, HHL.out]; exact Nat.le_refl _, by omega, hh2, hG2'⟩
    simp only [List.setIfInBounds_toArray, List.set_cons_zero, List.set_cons_succ]
    refine rg_call 9 26 33 #[.slice (some ⟨w.heap.size, 0, none⟩) N N, .slice (some ⟨g1, 0, none⟩) half half, .slice (some ⟨g2, 0, none⟩) (N - half) (N - half)] rfl rfl (by kernel_rfl) (by rfl) (listed' := #[true, true, true, true, true, true, true, true, true, true]) (by kernel_rfl) (fun w' => by go_simp) ?_
    refine hM.mono ?_
    rintro e w5 ⟨rfl, hO5, hg5⟩
    have hS5 : Below w.heap.size w w5 := hS4.grown hg5 hS4.size (fun k hk => by cases hk; exact Nat.le_refl _)
    refine ⟨_, rfl, hS5, ?_⟩
    simp only [List.setIfInBounds_toArray, List.set_cons_zero, List.set_cons_succ]
    refine wpAnyH_done (by kernel_rfl) ?_ _
    have HF : Hid (HoldsR w5 (some ⟨w.heap.size, 0, none⟩) (sortF rs)) := by
      rw [HSR.out]
      exact hO5.holds
    have hlt5 := hO5.lt
    clear hM hO5 hg5 hO4 hO3 hh1 hh1' hh2
    go_wp2_with fail
    go_ret
    exact ⟨_, rfl, Nat.le_refl _, hlt5, HF.out, hS5⟩

theorem sorted_any : ∀ (K : Nat) (rs : List Fd) (a : Option Addr) (N cap : Nat) (w : World), rs.length ≤ K → rs.length = N → N ≤ 1000000 → (rs = [] ∨ ∃ g off, a = some ⟨g, off, none⟩) → N ≤ cap → cap ≤ maxLen → HoldsR w a rs →
    Calls Try.prog 22 #[.slice a N cap] w fun e w' => ∃ g, e = .returned (.slice (some ⟨g, 0, none⟩) N N) ∧ w.heap.size ≤ g ∧ g < w'.heap.size ∧ HoldsR w' (some ⟨g, 0, none⟩) (sortF rs) ∧ Below w.heap.size w w'
  | 0, rs, a, N, cap, w, hK, hN, hl, hadr, hc, hm, hh => sorted_step rs a N cap w hN hl hadr hc hm hh (fun rs' _ _ _ _ h => absurd h (by omega))
  | K + 1, rs, a, N, cap, w, hK, hN, hl, hadr, hc, hm, hh => sorted_step rs a N cap w hN hl hadr hc hm hh (fun rs' a' M cap' w' h1 h2 h3 h4 h5 h6 => sorted_any K rs' a' M cap' w' (by omega) h2 (by omega) h3 h4 h5 h6)
end Go.Proofs.Ytfbekeebllcdbaa

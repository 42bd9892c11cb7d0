/- IdlBlanks answers true at every text and number. -/
import Derived.Test.YtfffjfccochccaaDoorIdAwake
import Derived.Test.YtfffjfccochccaaDoorSchSame
import Derived.Test.YtfffjfccochccaaDoorLwPlace
import Derived.Test.YtfffjfccochccaaDoorRg3
namespace Go.Proofs.YtfffjfccochccaaDoor
open Go.ChangeShapes Go.WideShapes Go.ChangeAt Go.RowKit
set_option linter.unusedVariables false
set_option linter.unusedSimpArgs false
set_option maxRecDepth 20000

theorem hop_blanks : Blanks [32, 47, 47, 32, 104, 111, 112, 10, 10] := ⟨by decide, fun r => by simp [skipN, skipG, blankB, headN]; omega⟩
/-- What is read of the text with blanks and a comment behind a sign. -/
theorem blank_parse {s : ByteArray} {k : Nat} (hs : s.size ≤ 5000) (hk : 0 < k) (hks : k ≤ s.size) (hsg : s[k - 1].toNat = 59 ∨ s[k - 1].toNat = 123 ∨ s[k - 1].toNat = 125) (hn : ∀ i (h : i < s.size), i < k → s[i].toNat ≠ 47) (h0 : (parseA s).2.2 = 0) :
    parseA (s.extract 0 k ++ ⟨#[32, 47, 47, 32, 104, 111, 112, 10, 10]⟩ ++ s.extract k s.size) = parseA s := by
  have hget : ∀ i (h : i < s.size), s.data.toList[i]? = some s[i] := fun i h => by
    rw [List.getElem?_eq_getElem (by rw [len_data]; exact h)]; rfl
  cases hl : lexO s.data.toList 0 with
  | inl x =>
    obtain ⟨p, e⟩ := x
    have he := lex_err hl
    rw [parse_err (tokA_no (by omega) hl) (by omega)] at h0
    simp only at h0
    omega
  | inr ts =>
    have hsb : signB (s[k - 1].toNat) = true := by rcases hsg with e | e | e <;> rw [e] <;> decide
    obtain ⟨j, h1, h2⟩ := lex_behind hop_blanks hl (hget (k - 1) (by omega)) hsb (fun i x hi hx => by
      have hi' : i < s.size := by omega
      rw [hget i hi'] at hx
      cases hx
      exact hn i hi' (by omega))
    rw [show k - 1 + 1 = k by omega] at h1
    have z9 : (⟨#[32, 47, 47, 32, 104, 111, 112, 10, 10]⟩ : ByteArray).size = 9 := rfl
    refine parse_texts (ts' := ts.take j ++ (ts.drop j).map (shiftT [32, 47, 47, 32, 104, 111, 112, 10, 10].length)) (by omega) (by rw [ByteArray.size_append, ByteArray.size_append, ByteArray.size_extract, ByteArray.size_extract, z9]; omega) hl ?_ ?_ h0
    · rw [ByteArray.data_append, ByteArray.data_append, Array.toList_append, Array.toList_append, extract_drop]
      have e1 : (s.extract 0 k).data.toList = s.data.toList.take k := by have := extract_list s 0 k; rwa [Nat.zero_add, List.drop_zero] at this
      rw [e1]
      exact h1
    · rw [List.map_append, shift_texts, ← List.map_append, List.take_append_drop]

set_option maxHeartbeats 4000000 in
theorem idlBlanks_walk (s : ByteArray) (v : Int) (hs : s.size ≤ 140737488351232) (hv : (Lit.int .i64 v).wf = true) (w : World) (hG : Glob w) :
    Calls Tryd.prog 4 #[.string s, .int .i64 v] w fun e w' => e = .returned (.bool true) ∧ Below w.heap.size w w' := by
  have hv' := bounds_i64 hv
  clear hv
  by_cases hbig : 5000 < s.size
  · have hd : decide (5000 < (s.size : Int)) = true := by simp; omega
    go_enter Tryd.func4, Tryd.ntmps4
    go_wp2_with fail
    refine (iawake_any _ hG).mono ?_
    rintro e w1 ⟨rfl, hb1⟩
    go_wp2_with fail
    go_ret
    exact ⟨rfl, hb1⟩
  · have hd : decide (5000 < (s.size : Int)) = false := by simp; omega
    obtain ⟨⟨sc, p, e⟩, hA⟩ : ∃ A, parseA s = A := ⟨_, rfl⟩
    have HA : Hid (parseA s = (sc, p, e)) := hA
    have HP : Hid (Calls Tryd.prog 10 #[.string s] w fun x w' => ∃ vm ve vt, x = .returned (.tuple #[.agg #[.string sc.name, vm, ve, vt], .int .i64 (p : Int), .int .i64 (e : Int)]) ∧ MsIn w' vm sc.msgs ∧ EnIn w' ve sc.enums ∧ RowG w' vt 3 (mtRows sc.methods) ∧ Below w.heap.size w w') := parse_row _ _ (by omega) hG _ _ _ hA
    clear hA
    go_enter Tryd.func4, Tryd.ntmps4
    go_wp2_with fail
    refine HP.out.mono ?_
    rintro x w1 ⟨vm, ve, vt, rfl, h1, h2, h3, hb⟩
    obtain ⟨a1, c1, rfl⟩ := ms_form h1
    obtain ⟨a2, c2, rfl⟩ := en_form h2
    obtain ⟨a3, c3, rfl⟩ := row_form h3
    have hbB : Below w1.heap.size w1 (w1.alloc (.cells #[.string sc.name, .slice a1 sc.msgs.length c1, .slice a2 sc.enums.length c2, .slice a3 (mtRows sc.methods).length c3] 27)) := (Below.refl _ _).alloc (Nat.le_refl _) _
    have HS : Hid (ScIn (w1.alloc (.cells #[.string sc.name, .slice a1 sc.msgs.length c1, .slice a2 sc.enums.length c2, .slice a3 (mtRows sc.methods).length c3] 27)) (.agg #[.string sc.name, .slice a1 sc.msgs.length c1, .slice a2 sc.enums.length c2, .slice a3 (mtRows sc.methods).length c3]) sc) := ⟨_, _, _, rfl, h1.below hbB, h2.below hbB, h3.below hbB⟩
    have BX := Blk.new w1 #[.string sc.name, .slice a1 sc.msgs.length c1, .slice a2 sc.enums.length c2, .slice a3 (mtRows sc.methods).length c3] 27
    have hb2 : Below w.heap.size w (w1.alloc (.cells #[.string sc.name, .slice a1 sc.msgs.length c1, .slice a2 sc.enums.length c2, .slice a3 (mtRows sc.methods).length c3] 27)) := hb.trans (hbB.mono hb.size)
    clear h1 h2 h3 hbB hb HP
    generalize sc.msgs.length = n1 at *
    generalize sc.enums.length = n2 at *
    generalize (mtRows sc.methods).length = n3 at *
    go_wp2_with fail
    generalize w1.heap.size = Xb at *
    generalize w1.alloc (.cells #[.string sc.name, .slice a1 n1 c1, .slice a2 n2 c2, .slice a3 n3 c3] 27) = w2 at *
    refine (place_any v ((s.size : Int) + 1) _ hv'.1 hv'.2 (by omega) (by omega)).mono ?_
    rintro x w3 ⟨k0, rfl, hk0, rfl⟩
    have hG3 := hG.below hb2
    clear hv' hd
    go_wp2_with fail
    go_loop [8] (fun kv => ∃ k : Nat, kv = .int .i64 (k : Int) ∧ k ≤ s.size) (fun kv => (intOf kv).toNat)
    case atStart => exact ⟨k0, rfl, by omega⟩
    case round =>
      obtain ⟨k, rfl, hk⟩ := hrel
      clear hk0
      by_cases hz : k = 0
      · subst hz
        cases he : ((e : Int) == 0) with
        | true =>
          have hen : ((e : Int) != 0) = false := by simp [bne, he]
          go_wp2_with fail
          refine (iawake_any _ hG3).mono ?_
          rintro x w4 ⟨rfl, hb4⟩
          go_wp2_with fail
          go_ret
          exact ⟨rfl, hb2.trans (hb4.mono hb2.size)⟩
        | false =>
          have hen : ((e : Int) != 0) = true := by simp [bne, he]
          go_wp2_with fail
          refine (iawake_any _ hG3).mono ?_
          rintro x w4 ⟨rfl, hb4⟩
          go_wp2_with fail
          go_ret
          exact ⟨rfl, hb2.trans (hb4.mono hb2.size)⟩
      · obtain ⟨j, rfl⟩ : ∃ j, k = j + 1 := ⟨k - 1, by omega⟩
        clear hz
        have hj : j < s.size := by omega
        obtain ⟨b, hb⟩ : ∃ b, s[j].toNat = b := ⟨_, rfl⟩
        have HBB : Hid (s[j].toNat = b) := hb
        by_cases hsg : b = 59 ∨ b = 123 ∨ b = 125
        · cases he : ((e : Int) == 0) with
          | false =>
            have hen : ((e : Int) != 0) = true := by simp [bne, he]
            clear hb
            have hb' := HBB.out
            rcases hsg with rfl | rfl | rfl
            · skip
              go_wp2_with fail
              refine (iawake_any _ hG3).mono ?_
              rintro x w4 ⟨rfl, hb4⟩
              go_wp2_with fail
              go_ret
              exact ⟨rfl, hb2.trans (hb4.mono hb2.size)⟩
            · skip
              go_wp2_with fail
              refine (iawake_any _ hG3).mono ?_
              rintro x w4 ⟨rfl, hb4⟩
              go_wp2_with fail
              go_ret
              exact ⟨rfl, hb2.trans (hb4.mono hb2.size)⟩
            · skip
              go_wp2_with fail
              refine (iawake_any _ hG3).mono ?_
              rintro x w4 ⟨rfl, hb4⟩
              go_wp2_with fail
              go_ret
              exact ⟨rfl, hb2.trans (hb4.mono hb2.size)⟩
          | true =>
            have hen : ((e : Int) != 0) = false := by simp [bne, he]
            have he0 : e = 0 := by simpa using he
            subst he0
            clear hb he hen
            have HSG : Hid (b = 59 ∨ b = 123 ∨ b = 125) := hsg
            obtain ⟨S1, hS1⟩ : ∃ S1, s.extract 0 (j + 1) = S1 := ⟨_, rfl⟩
            obtain ⟨S2, hS2⟩ : ∃ S2, s.extract (j + 1) s.size = S2 := ⟨_, rfl⟩
            have z1 : S1.size = j + 1 := by rw [← hS1, ByteArray.size_extract]; omega
            have z2 : S2.size = s.size - (j + 1) := by rw [← hS2, ByteArray.size_extract]; omega
            have HS1 : Hid (∀ W : World, (Instr.slice 9 (.string s) none (some (.int .i64 ((j : Int) + 1))) none).run Tryd.prog W = .ok (.string S1) W) := fun W => by
              rw [show (j : Int) + 1 = ((j + 1 : Nat) : Int) by omega, run_slice_string_to_if (P := Tryd.prog) W 9 _ .i64 _ Tryd.underlying9, if_pos ⟨by omega, by omega⟩, Int.toNat_natCast, hS1]
            have HS2 : Hid (∀ W : World, (Instr.slice 9 (.string s) (some (.int .i64 ((j : Int) + 1))) none none).run Tryd.prog W = .ok (.string S2) W) := fun W => by
              rw [show (j : Int) + 1 = ((j + 1 : Nat) : Int) by omega, run_slice_string_from_if (P := Tryd.prog) W 9 _ .i64 _ Tryd.underlying9, if_pos ⟨by omega, by omega⟩, Int.toNat_natCast, hS2]
            have HPB : Hid ((∀ a (h : a < s.size), a < j + 1 → s[a].toNat ≠ 47) → parseA (S1 ++ ⟨#[32, 47, 47, 32, 104, 111, 112, 10, 10]⟩ ++ S2) = (sc, p, 0)) := fun hn => by
              rw [← hS1, ← hS2]
              rw [blank_parse (by omega) (by omega) hk (by simp only [Nat.add_sub_cancel]; rw [HBB.out]; exact HSG.out) hn (by rw [HA.out])]
              exact HA.out
            clear hS1 hS2
            have hb' := HBB.out
            rcases hsg with rfl | rfl | rfl
            · go_wp2_with fail
              clear hb'
              go_loop [9] (fun iv => ∃ i : Nat, iv = .int .i64 (i : Int) ∧ i ≤ j + 1 ∧ Hid (∀ a (h : a < s.size), a < i → s[a].toNat ≠ 47)) (fun iv => j + 1 - (intOf iv).toNat)
              case atStart => exact ⟨0, rfl, by omega, fun a _ h => absurd h (Nat.not_lt_zero _)⟩
              case round =>
                obtain ⟨i, rfl, hi, HN⟩ := hrel
                by_cases hlt : i < j + 1
                · have his : i < s.size := by omega
                  have hdi : decide ((i : Int) < (j : Int) + 1) = true := by simp; omega
                  obtain ⟨c, hc⟩ : ∃ c, s[i].toNat = c := ⟨_, rfl⟩
                  by_cases h47 : c = 47
                  · subst h47
                    have hc' : s[i].toNat = 47 := hc
                    go_wp2_with fail
                    refine (iawake_any _ hG3).mono ?_
                    rintro x w4 ⟨rfl, hb4⟩
                    go_wp2_with fail
                    go_ret
                    exact ⟨rfl, hb2.trans (hb4.mono hb2.size)⟩
                  · have hq : ((c : Int) == 47) = false := by rw [beq_eq_false_iff_ne]; omega
                    have HN2 : Hid (∀ a (h : a < s.size), a < i + 1 → s[a].toNat ≠ 47) := by
                      intro a h ha e47
                      by_cases hai : a = i
                      · subst hai; omega
                      · exact HN.out a h (by omega) e47
                    go_wp2_with fail
                    go_round
                    case rel => exact ⟨i + 1, by go_num, by omega, HN2⟩
                    case measure => simp [intOf]; omega
                · have hdi : decide ((i : Int) < (j : Int) + 1) = false := by simp; omega
                  obtain rfl : i = j + 1 := by omega
                  have HPA : Hid (parseA (S1 ++ ⟨#[32, 47, 47, 32, 104, 111, 112, 10, 10]⟩ ++ S2) = (sc, p, 0)) := HPB.out HN.out
                  have HP2 : Hid (∀ W, Glob W → Calls Tryd.prog 10 #[.string (S1 ++ ⟨#[32, 47, 47, 32, 104, 111, 112, 10, 10]⟩ ++ S2)] W fun x w' => ∃ yv, x = .returned (.tuple #[yv, .int .i64 (p : Int), .int .i64 0]) ∧ ScF w' W.heap.size yv sc ∧ Below W.heap.size W w') := fun W hW => by
                    refine (parse_any _ W (by rw [ByteArray.size_append, ByteArray.size_append, z1, z2, show (⟨#[32, 47, 47, 32, 104, 111, 112, 10, 10]⟩ : ByteArray).size = 9 from rfl]; omega) hW).mono ?_
                    rintro x w' ⟨yv, rfl, hF, hb⟩
                    rw [HPA.out] at hF ⊢
                    exact ⟨yv, rfl, hF, hb⟩
                  have hG3d : Glob w3.drew := hG3.below (Below.refl _ _).drew
                  clear HPB HN
                  go_wp2_with fail
                  refine wp_region_held_drew (S := fun _ => True) (by kernel_rfl) trivial (fun hS => ?_)
                  refine rg_take 0 71 (.string s) _ rfl rfl (by kernel_rfl) (by kernel_rfl) (by kernel_rfl) (fun _ _ _ h => h) (by rfl) (fun w' hw' => ?_) trivial (listed' := #[true, false, false, false, false, false, false, false, false, false, false, false, false, false, false, false, false]) (by kernel_rfl) rfl ?_
                  · go_simp
                  simp only [List.setIfInBounds_toArray, List.set_cons_zero, List.set_cons_succ]
                  refine rg_take 1 72 (.int .i64 ((j : Int) + 1)) _ rfl rfl (by kernel_rfl) (by kernel_rfl) (by kernel_rfl) (fun _ _ _ h => h) (by rfl) (fun w' hw' => ?_) trivial (listed' := #[true, true, false, false, false, false, false, false, false, false, false, false, false, false, false, false, false]) (by kernel_rfl) rfl ?_
                  · go_simp
                  simp only [List.setIfInBounds_toArray, List.set_cons_zero, List.set_cons_succ]
                  refine rg_take 2 73 (.string S1) _ rfl rfl (by kernel_rfl) (by kernel_rfl) (by kernel_rfl) (fun _ _ _ h => h) (by rfl) (fun w' hw' => ?_) trivial (listed' := #[true, true, true, false, false, false, false, false, false, false, false, false, false, false, false, false, false]) (by kernel_rfl) rfl ?_
                  · have hsl := HS1.out w'; go_simp
                  simp only [List.setIfInBounds_toArray, List.set_cons_zero, List.set_cons_succ]
                  refine rg_take 3 74 (.string (S1 ++ ⟨#[32, 47, 47, 32, 104, 111, 112, 10, 10]⟩)) _ rfl rfl (by kernel_rfl) (by kernel_rfl) (by kernel_rfl) (fun _ _ _ h => h) (by rfl) (fun w' hw' => ?_) trivial (listed' := #[true, true, true, true, false, false, false, false, false, false, false, false, false, false, false, false, false]) (by kernel_rfl) rfl ?_
                  · go_simp; omega
                  simp only [List.setIfInBounds_toArray, List.set_cons_zero, List.set_cons_succ]
                  refine rg_take 4 75 (.string s) _ rfl rfl (by kernel_rfl) (by kernel_rfl) (by kernel_rfl) (fun _ _ _ h => h) (by rfl) (fun w' hw' => ?_) trivial (listed' := #[true, true, true, true, true, false, false, false, false, false, false, false, false, false, false, false, false]) (by kernel_rfl) rfl ?_
                  · go_simp
                  simp only [List.setIfInBounds_toArray, List.set_cons_zero, List.set_cons_succ]
                  refine rg_take 5 76 (.int .i64 ((j : Int) + 1)) _ rfl rfl (by kernel_rfl) (by kernel_rfl) (by kernel_rfl) (fun _ _ _ h => h) (by rfl) (fun w' hw' => ?_) trivial (listed' := #[true, true, true, true, true, true, false, false, false, false, false, false, false, false, false, false, false]) (by kernel_rfl) rfl ?_
                  · go_simp
                  simp only [List.setIfInBounds_toArray, List.set_cons_zero, List.set_cons_succ]
                  refine rg_take 6 77 (.string S2) _ rfl rfl (by kernel_rfl) (by kernel_rfl) (by kernel_rfl) (fun _ _ _ h => h) (by rfl) (fun w' hw' => ?_) trivial (listed' := #[true, true, true, true, true, true, true, false, false, false, false, false, false, false, false, false, false]) (by kernel_rfl) rfl ?_
                  · have hsl := HS2.out w'; go_simp
                  simp only [List.setIfInBounds_toArray, List.set_cons_zero, List.set_cons_succ]
                  refine rg_take 7 78 (.string (S1 ++ ⟨#[32, 47, 47, 32, 104, 111, 112, 10, 10]⟩ ++ S2)) _ rfl rfl (by kernel_rfl) (by kernel_rfl) (by kernel_rfl) (fun _ _ _ h => h) (by rfl) (fun w' hw' => ?_) trivial (listed' := #[true, true, true, true, true, true, true, true, false, false, false, false, false, false, false, false, false]) (by kernel_rfl) rfl ?_
                  · go_simp; omega
                  simp only [List.setIfInBounds_toArray, List.set_cons_zero, List.set_cons_succ]
                  refine rg_pair 8 13 79 10 10 #[.string (S1 ++ ⟨#[32, 47, 47, 32, 104, 111, 112, 10, 10]⟩ ++ S2)] (.pointer (some ⟨w3.heap.size, 0, none⟩)) (w3.drew.alloc (.cells #[.string ⟨#[]⟩, .slice none 0 0, .slice none 0 0, .slice none 0 0] 27)) rfl rfl rfl rfl (by kernel_rfl) (fun _ => rfl) (fun _ => rfl) ?g1 ?g2 ?g3 ?g4
                  case g1 => go_simp
                  case g2 => go_simp
                  case g3 =>
                    refine (HP2.out w3.drew hG3d).mono ?_
                    rintro x w4 ⟨yv, rfl, hF, hb4⟩
                    obtain ⟨ym, ye, yt, pm, pe, rfl, f1, f2, f3⟩ := hF
                    have HF : Hid (ScF w4 w3.drew.heap.size (.agg #[.string sc.name, ym, ye, yt]) sc) := ⟨_, _, _, pm, pe, rfl, f1, f2, f3⟩
                    obtain ⟨b1, d1, rfl⟩ := own_form f1.own
                    obtain ⟨b2, d2, rfl⟩ := own_form f2.own
                    obtain ⟨b3, d3, rfl⟩ := own_form f3
                    generalize sc.msgs.length = m1 at *
                    generalize sc.enums.length = m2 at *
                    generalize sc.methods.length = m3 at *
                    clear f1 f2 f3
                    refine ⟨_, rfl, ?_⟩
                    simp only [List.setIfInBounds_toArray, List.set_cons_zero, List.set_cons_succ]
                    refine rg_take 9 70 (.tuple #[.agg #[.string sc.name, .slice b1 m1 d1, .slice b2 m2 d2, .slice b3 m3 d3], .int .i64 (p : Int), .int .i64 0]) _ rfl rfl (by kernel_rfl) (by kernel_rfl) (by kernel_rfl) (fun _ _ _ h => h) (by rfl) (fun w' hw' => ?_) trivial (listed' := #[true, true, true, true, true, true, true, true, true, true, false, false, false, false, false, false, false]) (by kernel_rfl) rfl ?_
                    · go_simp
                    simp only [List.setIfInBounds_toArray, List.set_cons_zero, List.set_cons_succ]
                    refine rg_take 10 80 (.agg #[.string sc.name, .slice b1 m1 d1, .slice b2 m2 d2, .slice b3 m3 d3]) _ rfl rfl (by kernel_rfl) (by kernel_rfl) (by kernel_rfl) (fun _ _ _ h => h) (by rfl) (fun w' hw' => ?_) trivial (listed' := #[true, true, true, true, true, true, true, true, true, true, true, false, false, false, false, false, false]) (by kernel_rfl) rfl ?_
                    · go_simp
                    simp only [List.setIfInBounds_toArray, List.set_cons_zero, List.set_cons_succ]
                    refine rg_take 11 81 (.int .i64 (p : Int)) _ rfl rfl (by kernel_rfl) (by kernel_rfl) (by kernel_rfl) (fun _ _ _ h => h) (by rfl) (fun w' hw' => ?_) trivial (listed' := #[true, true, true, true, true, true, true, true, true, true, true, true, false, false, false, false, false]) (by kernel_rfl) rfl ?_
                    · go_simp
                    simp only [List.setIfInBounds_toArray, List.set_cons_zero, List.set_cons_succ]
                    refine rg_take 12 82 (.int .i64 0) _ rfl rfl (by kernel_rfl) (by kernel_rfl) (by kernel_rfl) (fun _ _ _ h => h) (by rfl) (fun w' hw' => ?_) trivial (listed' := #[true, true, true, true, true, true, true, true, true, true, true, true, true, false, false, false, false]) (by kernel_rfl) rfl ?_
                    · go_simp
                    simp only [List.setIfInBounds_toArray, List.set_cons_zero, List.set_cons_succ]
                    refine rg_run 13 10 (.pointer (some ⟨w4.heap.size, 0, none⟩)) (w4.alloc (.cells #[.string ⟨#[]⟩, .slice none 0 0, .slice none 0 0, .slice none 0 0] 27)) rfl rfl (by kernel_rfl) (by rfl) (listed' := #[true, true, true, true, true, true, true, true, true, true, true, true, true, true, false, false, false]) (by kernel_rfl) ?_ trivial ?_
                    · go_simp
                    simp only [List.setIfInBounds_toArray, List.set_cons_zero, List.set_cons_succ]
                    have h34 : Below w3.heap.size w3 w4 := ⟨hb4.os, hb4.tape, hb4.output, hb4.size, hb4.block⟩
                    have BY := Blk.new w4 #[.string ⟨#[]⟩, .slice none 0 0, .slice none 0 0, .slice none 0 0] 27
                    have hbF : Below w4.heap.size w4 (((((w4.alloc (.cells #[.string ⟨#[]⟩, .slice none 0 0, .slice none 0 0, .slice none 0 0] 27)).setCell ⟨w4.heap.size, 0, none⟩ (.string sc.name)).setCell ⟨w4.heap.size, 1, none⟩ (.slice b1 m1 d1)).setCell ⟨w4.heap.size, 2, none⟩ (.slice b2 m2 d2)).setCell ⟨w4.heap.size, 3, none⟩ (.slice b3 m3 d3)) := Below.setCell (Below.setCell (Below.setCell (Below.setCell ((Below.refl _ _).alloc (Nat.le_refl _) _) (Nat.le_refl _) _) (Nat.le_refl _) _) (Nat.le_refl _) _) (Nat.le_refl _) _
                    have BX5 := (BX.below h34).below hbF
                    have BY5 : Blk (((((w4.alloc (.cells #[.string ⟨#[]⟩, .slice none 0 0, .slice none 0 0, .slice none 0 0] 27)).setCell ⟨w4.heap.size, 0, none⟩ (.string sc.name)).setCell ⟨w4.heap.size, 1, none⟩ (.slice b1 m1 d1)).setCell ⟨w4.heap.size, 2, none⟩ (.slice b2 m2 d2)).setCell ⟨w4.heap.size, 3, none⟩ (.slice b3 m3 d3)) w4.heap.size #[.string sc.name, .slice b1 m1 d1, .slice b2 m2 d2, .slice b3 m3 d3] 27 := (((BY.set 0 _ rfl).set 1 _ rfl).set 2 _ rfl).set 3 _ rfl
                    have HX5 : Hid (ScIn (((((w4.alloc (.cells #[.string ⟨#[]⟩, .slice none 0 0, .slice none 0 0, .slice none 0 0] 27)).setCell ⟨w4.heap.size, 0, none⟩ (.string sc.name)).setCell ⟨w4.heap.size, 1, none⟩ (.slice b1 m1 d1)).setCell ⟨w4.heap.size, 2, none⟩ (.slice b2 m2 d2)).setCell ⟨w4.heap.size, 3, none⟩ (.slice b3 m3 d3)) (.agg #[.string sc.name, .slice a1 n1 c1, .slice a2 n2 c2, .slice a3 n3 c3]) sc) := (HS.out.below h34).below hbF
                    have HF5 : Hid (ScIn (((((w4.alloc (.cells #[.string ⟨#[]⟩, .slice none 0 0, .slice none 0 0, .slice none 0 0] 27)).setCell ⟨w4.heap.size, 0, none⟩ (.string sc.name)).setCell ⟨w4.heap.size, 1, none⟩ (.slice b1 m1 d1)).setCell ⟨w4.heap.size, 2, none⟩ (.slice b2 m2 d2)).setCell ⟨w4.heap.size, 3, none⟩ (.slice b3 m3 d3)) (.agg #[.string sc.name, .slice b1 m1 d1, .slice b2 m2 d2, .slice b3 m3 d3]) sc) := HF.out.to_in.below hbF
                    have hb5 : Below w.heap.size w (((((w4.alloc (.cells #[.string ⟨#[]⟩, .slice none 0 0, .slice none 0 0, .slice none 0 0] 27)).setCell ⟨w4.heap.size, 0, none⟩ (.string sc.name)).setCell ⟨w4.heap.size, 1, none⟩ (.slice b1 m1 d1)).setCell ⟨w4.heap.size, 2, none⟩ (.slice b2 m2 d2)).setCell ⟨w4.heap.size, 3, none⟩ (.slice b3 m3 d3)) := (hb2.trans (h34.mono hb2.size)).trans (hbF.mono (Nat.le_trans hb2.size h34.size))
                    refine rg_store 14 (((((w4.alloc (.cells #[.string ⟨#[]⟩, .slice none 0 0, .slice none 0 0, .slice none 0 0] 27)).setCell ⟨w4.heap.size, 0, none⟩ (.string sc.name)).setCell ⟨w4.heap.size, 1, none⟩ (.slice b1 m1 d1)).setCell ⟨w4.heap.size, 2, none⟩ (.slice b2 m2 d2)).setCell ⟨w4.heap.size, 3, none⟩ (.slice b3 m3 d3)) rfl rfl (by kernel_rfl) (by rfl) (listed' := #[true, true, true, true, true, true, true, true, true, true, true, true, true, true, true, false, false]) (by kernel_rfl) ?_ trivial ?_
                    · have y0 := BY.cell 0; have y1 := BY.cell 1; have y2 := BY.cell 2; have y3 := BY.cell 3; have f0 := BY.froz 0; have f1 := BY.froz 1; have f2 := BY.froz 2; have f3 := BY.froz 3; simp only [List.getElem?_toArray, List.getElem?_cons_succ, List.getElem?_cons_zero] at y0 y1 y2 y3; go_simp
                    clear BY hbF h34
                    refine rg_take 15 11 (.int .i64 (p : Int)) _ rfl rfl (by kernel_rfl) (by kernel_rfl) (by kernel_rfl) (fun _ _ _ h => h) (by rfl) (fun w' hw' => ?_) trivial (listed' := #[true, true, true, true, true, true, true, true, true, true, true, true, true, true, true, true, false]) (by kernel_rfl) rfl ?_
                    · go_simp
                    simp only [List.setIfInBounds_toArray, List.set_cons_zero, List.set_cons_succ]
                    refine rg_take 16 12 (.int .i64 0) _ rfl rfl (by kernel_rfl) (by kernel_rfl) (by kernel_rfl) (fun _ _ _ h => h) (by rfl) (fun w' hw' => ?_) trivial (listed' := #[true, true, true, true, true, true, true, true, true, true, true, true, true, true, true, true, true]) (by kernel_rfl) rfl ?_
                    · go_simp
                    simp only [List.setIfInBounds_toArray, List.set_cons_zero, List.set_cons_succ]
                    have hG5 := hG.below hb5
                    refine wpAnyH_done (by kernel_rfl) ?_ _
                    generalize ((((w4.alloc (.cells #[.string ⟨#[]⟩, .slice none 0 0, .slice none 0 0, .slice none 0 0] 27)).setCell ⟨w4.heap.size, 0, none⟩ (.string sc.name)).setCell ⟨w4.heap.size, 1, none⟩ (.slice b1 m1 d1)).setCell ⟨w4.heap.size, 2, none⟩ (.slice b2 m2 d2)).setCell ⟨w4.heap.size, 3, none⟩ (.slice b3 m3 d3) = w6 at *
                    have x0 := BX5.cell 0
                    have x1 := BX5.cell 1
                    have x2 := BX5.cell 2
                    have x3 := BX5.cell 3
                    have y0 := BY5.cell 0
                    have y1 := BY5.cell 1
                    have y2 := BY5.cell 2
                    have y3 := BY5.cell 3
                    simp only [List.getElem?_toArray, List.getElem?_cons_succ, List.getElem?_cons_zero] at x0 x1 x2 x3 y0 y1 y2 y3
                    go_wp2_with fail
                    refine (sschemas_any HX5.out HF5.out).mono ?_
                    rintro x w7 ⟨rfl, hb7⟩
                    have hb7' := hb5.trans (hb7.mono hb5.size)
                    clear x0 x1 x2 x3 y0 y1 y2 y3
                    go_wp2_with fail
                    refine (iawake_any _ (hG.below hb7')).mono ?_
                    rintro x w8 ⟨rfl, hb8⟩
                    go_wp2_with fail
                    go_ret
                    exact ⟨rfl, hb7'.trans (hb8.mono hb7'.size)⟩
                  case g4 =>
                    simp only [List.setIfInBounds_toArray, List.set_cons_zero, List.set_cons_succ]
                    have h3B : Below w3.heap.size w3 (w3.drew.alloc (.cells #[.string ⟨#[]⟩, .slice none 0 0, .slice none 0 0, .slice none 0 0] 27)) := ((Below.refl _ _).drew).alloc (Nat.le_refl _) _
                    refine rg_call 8 79 10 #[.string (S1 ++ ⟨#[32, 47, 47, 32, 104, 111, 112, 10, 10]⟩ ++ S2)] rfl rfl (by kernel_rfl) (by rfl) (listed' := #[true, true, true, true, true, true, true, true, true, false, false, false, false, true, false, false, false]) (by kernel_rfl) (fun w' => ?_) ?_
                    · go_simp
                    refine (HP2.out _ (hG3.below h3B)).mono ?_
                    rintro x w4 ⟨yv, rfl, hF, hb4⟩
                    obtain ⟨ym, ye, yt, pm, pe, rfl, f1, f2, f3⟩ := hF
                    have HF : Hid (ScF w4 (w3.drew.alloc (.cells #[.string ⟨#[]⟩, .slice none 0 0, .slice none 0 0, .slice none 0 0] 27)).heap.size (.agg #[.string sc.name, ym, ye, yt]) sc) := ⟨_, _, _, pm, pe, rfl, f1, f2, f3⟩
                    obtain ⟨b1, d1, rfl⟩ := own_form f1.own
                    obtain ⟨b2, d2, rfl⟩ := own_form f2.own
                    obtain ⟨b3, d3, rfl⟩ := own_form f3
                    generalize sc.msgs.length = m1 at *
                    generalize sc.enums.length = m2 at *
                    generalize sc.methods.length = m3 at *
                    clear f1 f2 f3
                    refine ⟨_, rfl, trivial, ?_⟩
                    simp only [List.setIfInBounds_toArray, List.set_cons_zero, List.set_cons_succ]
                    refine rg_take 9 70 (.tuple #[.agg #[.string sc.name, .slice b1 m1 d1, .slice b2 m2 d2, .slice b3 m3 d3], .int .i64 (p : Int), .int .i64 0]) _ rfl rfl (by kernel_rfl) (by kernel_rfl) (by kernel_rfl) (fun _ _ _ h => h) (by rfl) (fun w' hw' => ?_) trivial (listed' := #[true, true, true, true, true, true, true, true, true, true, false, false, false, true, false, false, false]) (by kernel_rfl) rfl ?_
                    · go_simp
                    simp only [List.setIfInBounds_toArray, List.set_cons_zero, List.set_cons_succ]
                    refine rg_take 10 80 (.agg #[.string sc.name, .slice b1 m1 d1, .slice b2 m2 d2, .slice b3 m3 d3]) _ rfl rfl (by kernel_rfl) (by kernel_rfl) (by kernel_rfl) (fun _ _ _ h => h) (by rfl) (fun w' hw' => ?_) trivial (listed' := #[true, true, true, true, true, true, true, true, true, true, true, false, false, true, false, false, false]) (by kernel_rfl) rfl ?_
                    · go_simp
                    simp only [List.setIfInBounds_toArray, List.set_cons_zero, List.set_cons_succ]
                    refine rg_take 11 81 (.int .i64 (p : Int)) _ rfl rfl (by kernel_rfl) (by kernel_rfl) (by kernel_rfl) (fun _ _ _ h => h) (by rfl) (fun w' hw' => ?_) trivial (listed' := #[true, true, true, true, true, true, true, true, true, true, true, true, false, true, false, false, false]) (by kernel_rfl) rfl ?_
                    · go_simp
                    simp only [List.setIfInBounds_toArray, List.set_cons_zero, List.set_cons_succ]
                    refine rg_take 12 82 (.int .i64 0) _ rfl rfl (by kernel_rfl) (by kernel_rfl) (by kernel_rfl) (fun _ _ _ h => h) (by rfl) (fun w' hw' => ?_) trivial (listed' := #[true, true, true, true, true, true, true, true, true, true, true, true, true, true, false, false, false]) (by kernel_rfl) rfl ?_
                    · go_simp
                    simp only [List.setIfInBounds_toArray, List.set_cons_zero, List.set_cons_succ]
                    have h34 : Below w3.heap.size w3 w4 := h3B.trans (hb4.mono h3B.size)
                    have BY : Blk w4 w3.heap.size #[.string ⟨#[]⟩, .slice none 0 0, .slice none 0 0, .slice none 0 0] 27 := (Blk.new w3.drew #[.string ⟨#[]⟩, .slice none 0 0, .slice none 0 0, .slice none 0 0] 27).below hb4
                    have k5 : Kp (fun k => k = w3.heap.size) w4 (((((w4).setCell ⟨w3.heap.size, 0, none⟩ (.string sc.name)).setCell ⟨w3.heap.size, 1, none⟩ (.slice b1 m1 d1)).setCell ⟨w3.heap.size, 2, none⟩ (.slice b2 m2 d2)).setCell ⟨w3.heap.size, 3, none⟩ (.slice b3 m3 d3)) := Kp.setCell (p := ⟨w3.heap.size, 3, none⟩) (Kp.setCell (p := ⟨w3.heap.size, 2, none⟩) (Kp.setCell (p := ⟨w3.heap.size, 1, none⟩) (Kp.setCell (p := ⟨w3.heap.size, 0, none⟩) (Kp.refl (fun k => k = w3.heap.size) w4) (fun _ => rfl) _) (fun _ => rfl) _) (fun _ => rfl) _) (fun _ => rfl) _
                    have hbF : Below w3.heap.size w3 (((((w4).setCell ⟨w3.heap.size, 0, none⟩ (.string sc.name)).setCell ⟨w3.heap.size, 1, none⟩ (.slice b1 m1 d1)).setCell ⟨w3.heap.size, 2, none⟩ (.slice b2 m2 d2)).setCell ⟨w3.heap.size, 3, none⟩ (.slice b3 m3 d3)) := Below.setCell (Below.setCell (Below.setCell (Below.setCell h34 (Nat.le_refl _) _) (Nat.le_refl _) _) (Nat.le_refl _) _) (Nat.le_refl _) _
                    have BX5 := BX.below hbF
                    have BY5 : Blk (((((w4).setCell ⟨w3.heap.size, 0, none⟩ (.string sc.name)).setCell ⟨w3.heap.size, 1, none⟩ (.slice b1 m1 d1)).setCell ⟨w3.heap.size, 2, none⟩ (.slice b2 m2 d2)).setCell ⟨w3.heap.size, 3, none⟩ (.slice b3 m3 d3)) w3.heap.size #[.string sc.name, .slice b1 m1 d1, .slice b2 m2 d2, .slice b3 m3 d3] 27 := (((BY.set 0 _ rfl).set 1 _ rfl).set 2 _ rfl).set 3 _ rfl
                    have HX5 : Hid (ScIn (((((w4).setCell ⟨w3.heap.size, 0, none⟩ (.string sc.name)).setCell ⟨w3.heap.size, 1, none⟩ (.slice b1 m1 d1)).setCell ⟨w3.heap.size, 2, none⟩ (.slice b2 m2 d2)).setCell ⟨w3.heap.size, 3, none⟩ (.slice b3 m3 d3)) (.agg #[.string sc.name, .slice a1 n1 c1, .slice a2 n2 c2, .slice a3 n3 c3]) sc) := HS.out.below hbF
                    have HF5 : Hid (ScIn (((((w4).setCell ⟨w3.heap.size, 0, none⟩ (.string sc.name)).setCell ⟨w3.heap.size, 1, none⟩ (.slice b1 m1 d1)).setCell ⟨w3.heap.size, 2, none⟩ (.slice b2 m2 d2)).setCell ⟨w3.heap.size, 3, none⟩ (.slice b3 m3 d3)) (.agg #[.string sc.name, .slice b1 m1 d1, .slice b2 m2 d2, .slice b3 m3 d3]) sc) := (HF.out.kp k5 (fun k hk e => by subst e; rw [show (w3.drew.alloc (.cells #[.string ⟨#[]⟩, .slice none 0 0, .slice none 0 0, .slice none 0 0] 27)).heap.size = w3.heap.size + 1 from Array.size_push ..] at hk; omega)).to_in
                    have hb5 : Below w.heap.size w (((((w4).setCell ⟨w3.heap.size, 0, none⟩ (.string sc.name)).setCell ⟨w3.heap.size, 1, none⟩ (.slice b1 m1 d1)).setCell ⟨w3.heap.size, 2, none⟩ (.slice b2 m2 d2)).setCell ⟨w3.heap.size, 3, none⟩ (.slice b3 m3 d3)) := hb2.trans (hbF.mono hb2.size)
                    refine rg_store 14 (((((w4).setCell ⟨w3.heap.size, 0, none⟩ (.string sc.name)).setCell ⟨w3.heap.size, 1, none⟩ (.slice b1 m1 d1)).setCell ⟨w3.heap.size, 2, none⟩ (.slice b2 m2 d2)).setCell ⟨w3.heap.size, 3, none⟩ (.slice b3 m3 d3)) rfl rfl (by kernel_rfl) (by rfl) (listed' := #[true, true, true, true, true, true, true, true, true, true, true, true, true, true, true, false, false]) (by kernel_rfl) ?_ trivial ?_
                    · have y0 := BY.cell 0; have y1 := BY.cell 1; have y2 := BY.cell 2; have y3 := BY.cell 3; have f0 := BY.froz 0; have f1 := BY.froz 1; have f2 := BY.froz 2; have f3 := BY.froz 3; simp only [List.getElem?_toArray, List.getElem?_cons_succ, List.getElem?_cons_zero] at y0 y1 y2 y3; go_simp
                    clear BY hbF h34 k5
                    refine rg_take 15 11 (.int .i64 (p : Int)) _ rfl rfl (by kernel_rfl) (by kernel_rfl) (by kernel_rfl) (fun _ _ _ h => h) (by rfl) (fun w' hw' => ?_) trivial (listed' := #[true, true, true, true, true, true, true, true, true, true, true, true, true, true, true, true, false]) (by kernel_rfl) rfl ?_
                    · go_simp
                    simp only [List.setIfInBounds_toArray, List.set_cons_zero, List.set_cons_succ]
                    refine rg_take 16 12 (.int .i64 0) _ rfl rfl (by kernel_rfl) (by kernel_rfl) (by kernel_rfl) (fun _ _ _ h => h) (by rfl) (fun w' hw' => ?_) trivial (listed' := #[true, true, true, true, true, true, true, true, true, true, true, true, true, true, true, true, true]) (by kernel_rfl) rfl ?_
                    · go_simp
                    simp only [List.setIfInBounds_toArray, List.set_cons_zero, List.set_cons_succ]
                    have hG5 := hG.below hb5
                    refine wpAnyH_done (by kernel_rfl) ?_ _
                    generalize ((((w4).setCell ⟨w3.heap.size, 0, none⟩ (.string sc.name)).setCell ⟨w3.heap.size, 1, none⟩ (.slice b1 m1 d1)).setCell ⟨w3.heap.size, 2, none⟩ (.slice b2 m2 d2)).setCell ⟨w3.heap.size, 3, none⟩ (.slice b3 m3 d3) = w6 at *
                    have x0 := BX5.cell 0
                    have x1 := BX5.cell 1
                    have x2 := BX5.cell 2
                    have x3 := BX5.cell 3
                    have y0 := BY5.cell 0
                    have y1 := BY5.cell 1
                    have y2 := BY5.cell 2
                    have y3 := BY5.cell 3
                    simp only [List.getElem?_toArray, List.getElem?_cons_succ, List.getElem?_cons_zero] at x0 x1 x2 x3 y0 y1 y2 y3
                    go_wp2_with fail
                    refine (sschemas_any HX5.out HF5.out).mono ?_
                    rintro x w7 ⟨rfl, hb7⟩
                    have hb7' := hb5.trans (hb7.mono hb5.size)
                    clear x0 x1 x2 x3 y0 y1 y2 y3
                    go_wp2_with fail
                    refine (iawake_any _ (hG.below hb7')).mono ?_
                    rintro x w8 ⟨rfl, hb8⟩
                    go_wp2_with fail
                    go_ret
                    exact ⟨rfl, hb7'.trans (hb8.mono hb7'.size)⟩
            · go_wp2_with fail
              clear hb'
              go_loop [9] (fun iv => ∃ i : Nat, iv = .int .i64 (i : Int) ∧ i ≤ j + 1 ∧ Hid (∀ a (h : a < s.size), a < i → s[a].toNat ≠ 47)) (fun iv => j + 1 - (intOf iv).toNat)
              case atStart => exact ⟨0, rfl, by omega, fun a _ h => absurd h (Nat.not_lt_zero _)⟩
              case round =>
                obtain ⟨i, rfl, hi, HN⟩ := hrel
                by_cases hlt : i < j + 1
                · have his : i < s.size := by omega
                  have hdi : decide ((i : Int) < (j : Int) + 1) = true := by simp; omega
                  obtain ⟨c, hc⟩ : ∃ c, s[i].toNat = c := ⟨_, rfl⟩
                  by_cases h47 : c = 47
                  · subst h47
                    have hc' : s[i].toNat = 47 := hc
                    go_wp2_with fail
                    refine (iawake_any _ hG3).mono ?_
                    rintro x w4 ⟨rfl, hb4⟩
                    go_wp2_with fail
                    go_ret
                    exact ⟨rfl, hb2.trans (hb4.mono hb2.size)⟩
                  · have hq : ((c : Int) == 47) = false := by rw [beq_eq_false_iff_ne]; omega
                    have HN2 : Hid (∀ a (h : a < s.size), a < i + 1 → s[a].toNat ≠ 47) := by
                      intro a h ha e47
                      by_cases hai : a = i
                      · subst hai; omega
                      · exact HN.out a h (by omega) e47
                    go_wp2_with fail
                    go_round
                    case rel => exact ⟨i + 1, by go_num, by omega, HN2⟩
                    case measure => simp [intOf]; omega
                · have hdi : decide ((i : Int) < (j : Int) + 1) = false := by simp; omega
                  obtain rfl : i = j + 1 := by omega
                  have HPA : Hid (parseA (S1 ++ ⟨#[32, 47, 47, 32, 104, 111, 112, 10, 10]⟩ ++ S2) = (sc, p, 0)) := HPB.out HN.out
                  have HP2 : Hid (∀ W, Glob W → Calls Tryd.prog 10 #[.string (S1 ++ ⟨#[32, 47, 47, 32, 104, 111, 112, 10, 10]⟩ ++ S2)] W fun x w' => ∃ yv, x = .returned (.tuple #[yv, .int .i64 (p : Int), .int .i64 0]) ∧ ScF w' W.heap.size yv sc ∧ Below W.heap.size W w') := fun W hW => by
                    refine (parse_any _ W (by rw [ByteArray.size_append, ByteArray.size_append, z1, z2, show (⟨#[32, 47, 47, 32, 104, 111, 112, 10, 10]⟩ : ByteArray).size = 9 from rfl]; omega) hW).mono ?_
                    rintro x w' ⟨yv, rfl, hF, hb⟩
                    rw [HPA.out] at hF ⊢
                    exact ⟨yv, rfl, hF, hb⟩
                  have hG3d : Glob w3.drew := hG3.below (Below.refl _ _).drew
                  clear HPB HN
                  go_wp2_with fail
                  refine wp_region_held_drew (S := fun _ => True) (by kernel_rfl) trivial (fun hS => ?_)
                  refine rg_take 0 71 (.string s) _ rfl rfl (by kernel_rfl) (by kernel_rfl) (by kernel_rfl) (fun _ _ _ h => h) (by rfl) (fun w' hw' => ?_) trivial (listed' := #[true, false, false, false, false, false, false, false, false, false, false, false, false, false, false, false, false]) (by kernel_rfl) rfl ?_
                  · go_simp
                  simp only [List.setIfInBounds_toArray, List.set_cons_zero, List.set_cons_succ]
                  refine rg_take 1 72 (.int .i64 ((j : Int) + 1)) _ rfl rfl (by kernel_rfl) (by kernel_rfl) (by kernel_rfl) (fun _ _ _ h => h) (by rfl) (fun w' hw' => ?_) trivial (listed' := #[true, true, false, false, false, false, false, false, false, false, false, false, false, false, false, false, false]) (by kernel_rfl) rfl ?_
                  · go_simp
                  simp only [List.setIfInBounds_toArray, List.set_cons_zero, List.set_cons_succ]
                  refine rg_take 2 73 (.string S1) _ rfl rfl (by kernel_rfl) (by kernel_rfl) (by kernel_rfl) (fun _ _ _ h => h) (by rfl) (fun w' hw' => ?_) trivial (listed' := #[true, true, true, false, false, false, false, false, false, false, false, false, false, false, false, false, false]) (by kernel_rfl) rfl ?_
                  · have hsl := HS1.out w'; go_simp
                  simp only [List.setIfInBounds_toArray, List.set_cons_zero, List.set_cons_succ]
                  refine rg_take 3 74 (.string (S1 ++ ⟨#[32, 47, 47, 32, 104, 111, 112, 10, 10]⟩)) _ rfl rfl (by kernel_rfl) (by kernel_rfl) (by kernel_rfl) (fun _ _ _ h => h) (by rfl) (fun w' hw' => ?_) trivial (listed' := #[true, true, true, true, false, false, false, false, false, false, false, false, false, false, false, false, false]) (by kernel_rfl) rfl ?_
                  · go_simp; omega
                  simp only [List.setIfInBounds_toArray, List.set_cons_zero, List.set_cons_succ]
                  refine rg_take 4 75 (.string s) _ rfl rfl (by kernel_rfl) (by kernel_rfl) (by kernel_rfl) (fun _ _ _ h => h) (by rfl) (fun w' hw' => ?_) trivial (listed' := #[true, true, true, true, true, false, false, false, false, false, false, false, false, false, false, false, false]) (by kernel_rfl) rfl ?_
                  · go_simp
                  simp only [List.setIfInBounds_toArray, List.set_cons_zero, List.set_cons_succ]
                  refine rg_take 5 76 (.int .i64 ((j : Int) + 1)) _ rfl rfl (by kernel_rfl) (by kernel_rfl) (by kernel_rfl) (fun _ _ _ h => h) (by rfl) (fun w' hw' => ?_) trivial (listed' := #[true, true, true, true, true, true, false, false, false, false, false, false, false, false, false, false, false]) (by kernel_rfl) rfl ?_
                  · go_simp
                  simp only [List.setIfInBounds_toArray, List.set_cons_zero, List.set_cons_succ]
                  refine rg_take 6 77 (.string S2) _ rfl rfl (by kernel_rfl) (by kernel_rfl) (by kernel_rfl) (fun _ _ _ h => h) (by rfl) (fun w' hw' => ?_) trivial (listed' := #[true, true, true, true, true, true, true, false, false, false, false, false, false, false, false, false, false]) (by kernel_rfl) rfl ?_
                  · have hsl := HS2.out w'; go_simp
                  simp only [List.setIfInBounds_toArray, List.set_cons_zero, List.set_cons_succ]
                  refine rg_take 7 78 (.string (S1 ++ ⟨#[32, 47, 47, 32, 104, 111, 112, 10, 10]⟩ ++ S2)) _ rfl rfl (by kernel_rfl) (by kernel_rfl) (by kernel_rfl) (fun _ _ _ h => h) (by rfl) (fun w' hw' => ?_) trivial (listed' := #[true, true, true, true, true, true, true, true, false, false, false, false, false, false, false, false, false]) (by kernel_rfl) rfl ?_
                  · go_simp; omega
                  simp only [List.setIfInBounds_toArray, List.set_cons_zero, List.set_cons_succ]
                  refine rg_pair 8 13 79 10 10 #[.string (S1 ++ ⟨#[32, 47, 47, 32, 104, 111, 112, 10, 10]⟩ ++ S2)] (.pointer (some ⟨w3.heap.size, 0, none⟩)) (w3.drew.alloc (.cells #[.string ⟨#[]⟩, .slice none 0 0, .slice none 0 0, .slice none 0 0] 27)) rfl rfl rfl rfl (by kernel_rfl) (fun _ => rfl) (fun _ => rfl) ?g1 ?g2 ?g3 ?g4
                  case g1 => go_simp
                  case g2 => go_simp
                  case g3 =>
                    refine (HP2.out w3.drew hG3d).mono ?_
                    rintro x w4 ⟨yv, rfl, hF, hb4⟩
                    obtain ⟨ym, ye, yt, pm, pe, rfl, f1, f2, f3⟩ := hF
                    have HF : Hid (ScF w4 w3.drew.heap.size (.agg #[.string sc.name, ym, ye, yt]) sc) := ⟨_, _, _, pm, pe, rfl, f1, f2, f3⟩
                    obtain ⟨b1, d1, rfl⟩ := own_form f1.own
                    obtain ⟨b2, d2, rfl⟩ := own_form f2.own
                    obtain ⟨b3, d3, rfl⟩ := own_form f3
                    generalize sc.msgs.length = m1 at *
                    generalize sc.enums.length = m2 at *
                    generalize sc.methods.length = m3 at *
                    clear f1 f2 f3
                    refine ⟨_, rfl, ?_⟩
                    simp only [List.setIfInBounds_toArray, List.set_cons_zero, List.set_cons_succ]
                    refine rg_take 9 70 (.tuple #[.agg #[.string sc.name, .slice b1 m1 d1, .slice b2 m2 d2, .slice b3 m3 d3], .int .i64 (p : Int), .int .i64 0]) _ rfl rfl (by kernel_rfl) (by kernel_rfl) (by kernel_rfl) (fun _ _ _ h => h) (by rfl) (fun w' hw' => ?_) trivial (listed' := #[true, true, true, true, true, true, true, true, true, true, false, false, false, false, false, false, false]) (by kernel_rfl) rfl ?_
                    · go_simp
                    simp only [List.setIfInBounds_toArray, List.set_cons_zero, List.set_cons_succ]
                    refine rg_take 10 80 (.agg #[.string sc.name, .slice b1 m1 d1, .slice b2 m2 d2, .slice b3 m3 d3]) _ rfl rfl (by kernel_rfl) (by kernel_rfl) (by kernel_rfl) (fun _ _ _ h => h) (by rfl) (fun w' hw' => ?_) trivial (listed' := #[true, true, true, true, true, true, true, true, true, true, true, false, false, false, false, false, false]) (by kernel_rfl) rfl ?_
                    · go_simp
                    simp only [List.setIfInBounds_toArray, List.set_cons_zero, List.set_cons_succ]
                    refine rg_take 11 81 (.int .i64 (p : Int)) _ rfl rfl (by kernel_rfl) (by kernel_rfl) (by kernel_rfl) (fun _ _ _ h => h) (by rfl) (fun w' hw' => ?_) trivial (listed' := #[true, true, true, true, true, true, true, true, true, true, true, true, false, false, false, false, false]) (by kernel_rfl) rfl ?_
                    · go_simp
                    simp only [List.setIfInBounds_toArray, List.set_cons_zero, List.set_cons_succ]
                    refine rg_take 12 82 (.int .i64 0) _ rfl rfl (by kernel_rfl) (by kernel_rfl) (by kernel_rfl) (fun _ _ _ h => h) (by rfl) (fun w' hw' => ?_) trivial (listed' := #[true, true, true, true, true, true, true, true, true, true, true, true, true, false, false, false, false]) (by kernel_rfl) rfl ?_
                    · go_simp
                    simp only [List.setIfInBounds_toArray, List.set_cons_zero, List.set_cons_succ]
                    refine rg_run 13 10 (.pointer (some ⟨w4.heap.size, 0, none⟩)) (w4.alloc (.cells #[.string ⟨#[]⟩, .slice none 0 0, .slice none 0 0, .slice none 0 0] 27)) rfl rfl (by kernel_rfl) (by rfl) (listed' := #[true, true, true, true, true, true, true, true, true, true, true, true, true, true, false, false, false]) (by kernel_rfl) ?_ trivial ?_
                    · go_simp
                    simp only [List.setIfInBounds_toArray, List.set_cons_zero, List.set_cons_succ]
                    have h34 : Below w3.heap.size w3 w4 := ⟨hb4.os, hb4.tape, hb4.output, hb4.size, hb4.block⟩
                    have BY := Blk.new w4 #[.string ⟨#[]⟩, .slice none 0 0, .slice none 0 0, .slice none 0 0] 27
                    have hbF : Below w4.heap.size w4 (((((w4.alloc (.cells #[.string ⟨#[]⟩, .slice none 0 0, .slice none 0 0, .slice none 0 0] 27)).setCell ⟨w4.heap.size, 0, none⟩ (.string sc.name)).setCell ⟨w4.heap.size, 1, none⟩ (.slice b1 m1 d1)).setCell ⟨w4.heap.size, 2, none⟩ (.slice b2 m2 d2)).setCell ⟨w4.heap.size, 3, none⟩ (.slice b3 m3 d3)) := Below.setCell (Below.setCell (Below.setCell (Below.setCell ((Below.refl _ _).alloc (Nat.le_refl _) _) (Nat.le_refl _) _) (Nat.le_refl _) _) (Nat.le_refl _) _) (Nat.le_refl _) _
                    have BX5 := (BX.below h34).below hbF
                    have BY5 : Blk (((((w4.alloc (.cells #[.string ⟨#[]⟩, .slice none 0 0, .slice none 0 0, .slice none 0 0] 27)).setCell ⟨w4.heap.size, 0, none⟩ (.string sc.name)).setCell ⟨w4.heap.size, 1, none⟩ (.slice b1 m1 d1)).setCell ⟨w4.heap.size, 2, none⟩ (.slice b2 m2 d2)).setCell ⟨w4.heap.size, 3, none⟩ (.slice b3 m3 d3)) w4.heap.size #[.string sc.name, .slice b1 m1 d1, .slice b2 m2 d2, .slice b3 m3 d3] 27 := (((BY.set 0 _ rfl).set 1 _ rfl).set 2 _ rfl).set 3 _ rfl
                    have HX5 : Hid (ScIn (((((w4.alloc (.cells #[.string ⟨#[]⟩, .slice none 0 0, .slice none 0 0, .slice none 0 0] 27)).setCell ⟨w4.heap.size, 0, none⟩ (.string sc.name)).setCell ⟨w4.heap.size, 1, none⟩ (.slice b1 m1 d1)).setCell ⟨w4.heap.size, 2, none⟩ (.slice b2 m2 d2)).setCell ⟨w4.heap.size, 3, none⟩ (.slice b3 m3 d3)) (.agg #[.string sc.name, .slice a1 n1 c1, .slice a2 n2 c2, .slice a3 n3 c3]) sc) := (HS.out.below h34).below hbF
                    have HF5 : Hid (ScIn (((((w4.alloc (.cells #[.string ⟨#[]⟩, .slice none 0 0, .slice none 0 0, .slice none 0 0] 27)).setCell ⟨w4.heap.size, 0, none⟩ (.string sc.name)).setCell ⟨w4.heap.size, 1, none⟩ (.slice b1 m1 d1)).setCell ⟨w4.heap.size, 2, none⟩ (.slice b2 m2 d2)).setCell ⟨w4.heap.size, 3, none⟩ (.slice b3 m3 d3)) (.agg #[.string sc.name, .slice b1 m1 d1, .slice b2 m2 d2, .slice b3 m3 d3]) sc) := HF.out.to_in.below hbF
                    have hb5 : Below w.heap.size w (((((w4.alloc (.cells #[.string ⟨#[]⟩, .slice none 0 0, .slice none 0 0, .slice none 0 0] 27)).setCell ⟨w4.heap.size, 0, none⟩ (.string sc.name)).setCell ⟨w4.heap.size, 1, none⟩ (.slice b1 m1 d1)).setCell ⟨w4.heap.size, 2, none⟩ (.slice b2 m2 d2)).setCell ⟨w4.heap.size, 3, none⟩ (.slice b3 m3 d3)) := (hb2.trans (h34.mono hb2.size)).trans (hbF.mono (Nat.le_trans hb2.size h34.size))
                    refine rg_store 14 (((((w4.alloc (.cells #[.string ⟨#[]⟩, .slice none 0 0, .slice none 0 0, .slice none 0 0] 27)).setCell ⟨w4.heap.size, 0, none⟩ (.string sc.name)).setCell ⟨w4.heap.size, 1, none⟩ (.slice b1 m1 d1)).setCell ⟨w4.heap.size, 2, none⟩ (.slice b2 m2 d2)).setCell ⟨w4.heap.size, 3, none⟩ (.slice b3 m3 d3)) rfl rfl (by kernel_rfl) (by rfl) (listed' := #[true, true, true, true, true, true, true, true, true, true, true, true, true, true, true, false, false]) (by kernel_rfl) ?_ trivial ?_
                    · have y0 := BY.cell 0; have y1 := BY.cell 1; have y2 := BY.cell 2; have y3 := BY.cell 3; have f0 := BY.froz 0; have f1 := BY.froz 1; have f2 := BY.froz 2; have f3 := BY.froz 3; simp only [List.getElem?_toArray, List.getElem?_cons_succ, List.getElem?_cons_zero] at y0 y1 y2 y3; go_simp
                    clear BY hbF h34
                    refine rg_take 15 11 (.int .i64 (p : Int)) _ rfl rfl (by kernel_rfl) (by kernel_rfl) (by kernel_rfl) (fun _ _ _ h => h) (by rfl) (fun w' hw' => ?_) trivial (listed' := #[true, true, true, true, true, true, true, true, true, true, true, true, true, true, true, true, false]) (by kernel_rfl) rfl ?_
                    · go_simp
                    simp only [List.setIfInBounds_toArray, List.set_cons_zero, List.set_cons_succ]
                    refine rg_take 16 12 (.int .i64 0) _ rfl rfl (by kernel_rfl) (by kernel_rfl) (by kernel_rfl) (fun _ _ _ h => h) (by rfl) (fun w' hw' => ?_) trivial (listed' := #[true, true, true, true, true, true, true, true, true, true, true, true, true, true, true, true, true]) (by kernel_rfl) rfl ?_
                    · go_simp
                    simp only [List.setIfInBounds_toArray, List.set_cons_zero, List.set_cons_succ]
                    have hG5 := hG.below hb5
                    refine wpAnyH_done (by kernel_rfl) ?_ _
                    generalize ((((w4.alloc (.cells #[.string ⟨#[]⟩, .slice none 0 0, .slice none 0 0, .slice none 0 0] 27)).setCell ⟨w4.heap.size, 0, none⟩ (.string sc.name)).setCell ⟨w4.heap.size, 1, none⟩ (.slice b1 m1 d1)).setCell ⟨w4.heap.size, 2, none⟩ (.slice b2 m2 d2)).setCell ⟨w4.heap.size, 3, none⟩ (.slice b3 m3 d3) = w6 at *
                    have x0 := BX5.cell 0
                    have x1 := BX5.cell 1
                    have x2 := BX5.cell 2
                    have x3 := BX5.cell 3
                    have y0 := BY5.cell 0
                    have y1 := BY5.cell 1
                    have y2 := BY5.cell 2
                    have y3 := BY5.cell 3
                    simp only [List.getElem?_toArray, List.getElem?_cons_succ, List.getElem?_cons_zero] at x0 x1 x2 x3 y0 y1 y2 y3
                    go_wp2_with fail
                    refine (sschemas_any HX5.out HF5.out).mono ?_
                    rintro x w7 ⟨rfl, hb7⟩
                    have hb7' := hb5.trans (hb7.mono hb5.size)
                    clear x0 x1 x2 x3 y0 y1 y2 y3
                    go_wp2_with fail
                    refine (iawake_any _ (hG.below hb7')).mono ?_
                    rintro x w8 ⟨rfl, hb8⟩
                    go_wp2_with fail
                    go_ret
                    exact ⟨rfl, hb7'.trans (hb8.mono hb7'.size)⟩
                  case g4 =>
                    simp only [List.setIfInBounds_toArray, List.set_cons_zero, List.set_cons_succ]
                    have h3B : Below w3.heap.size w3 (w3.drew.alloc (.cells #[.string ⟨#[]⟩, .slice none 0 0, .slice none 0 0, .slice none 0 0] 27)) := ((Below.refl _ _).drew).alloc (Nat.le_refl _) _
                    refine rg_call 8 79 10 #[.string (S1 ++ ⟨#[32, 47, 47, 32, 104, 111, 112, 10, 10]⟩ ++ S2)] rfl rfl (by kernel_rfl) (by rfl) (listed' := #[true, true, true, true, true, true, true, true, true, false, false, false, false, true, false, false, false]) (by kernel_rfl) (fun w' => ?_) ?_
                    · go_simp
                    refine (HP2.out _ (hG3.below h3B)).mono ?_
                    rintro x w4 ⟨yv, rfl, hF, hb4⟩
                    obtain ⟨ym, ye, yt, pm, pe, rfl, f1, f2, f3⟩ := hF
                    have HF : Hid (ScF w4 (w3.drew.alloc (.cells #[.string ⟨#[]⟩, .slice none 0 0, .slice none 0 0, .slice none 0 0] 27)).heap.size (.agg #[.string sc.name, ym, ye, yt]) sc) := ⟨_, _, _, pm, pe, rfl, f1, f2, f3⟩
                    obtain ⟨b1, d1, rfl⟩ := own_form f1.own
                    obtain ⟨b2, d2, rfl⟩ := own_form f2.own
                    obtain ⟨b3, d3, rfl⟩ := own_form f3
                    generalize sc.msgs.length = m1 at *
                    generalize sc.enums.length = m2 at *
                    generalize sc.methods.length = m3 at *
                    clear f1 f2 f3
                    refine ⟨_, rfl, trivial, ?_⟩
                    simp only [List.setIfInBounds_toArray, List.set_cons_zero, List.set_cons_succ]
                    refine rg_take 9 70 (.tuple #[.agg #[.string sc.name, .slice b1 m1 d1, .slice b2 m2 d2, .slice b3 m3 d3], .int .i64 (p : Int), .int .i64 0]) _ rfl rfl (by kernel_rfl) (by kernel_rfl) (by kernel_rfl) (fun _ _ _ h => h) (by rfl) (fun w' hw' => ?_) trivial (listed' := #[true, true, true, true, true, true, true, true, true, true, false, false, false, true, false, false, false]) (by kernel_rfl) rfl ?_
                    · go_simp
                    simp only [List.setIfInBounds_toArray, List.set_cons_zero, List.set_cons_succ]
                    refine rg_take 10 80 (.agg #[.string sc.name, .slice b1 m1 d1, .slice b2 m2 d2, .slice b3 m3 d3]) _ rfl rfl (by kernel_rfl) (by kernel_rfl) (by kernel_rfl) (fun _ _ _ h => h) (by rfl) (fun w' hw' => ?_) trivial (listed' := #[true, true, true, true, true, true, true, true, true, true, true, false, false, true, false, false, false]) (by kernel_rfl) rfl ?_
                    · go_simp
                    simp only [List.setIfInBounds_toArray, List.set_cons_zero, List.set_cons_succ]
                    refine rg_take 11 81 (.int .i64 (p : Int)) _ rfl rfl (by kernel_rfl) (by kernel_rfl) (by kernel_rfl) (fun _ _ _ h => h) (by rfl) (fun w' hw' => ?_) trivial (listed' := #[true, true, true, true, true, true, true, true, true, true, true, true, false, true, false, false, false]) (by kernel_rfl) rfl ?_
                    · go_simp
                    simp only [List.setIfInBounds_toArray, List.set_cons_zero, List.set_cons_succ]
                    refine rg_take 12 82 (.int .i64 0) _ rfl rfl (by kernel_rfl) (by kernel_rfl) (by kernel_rfl) (fun _ _ _ h => h) (by rfl) (fun w' hw' => ?_) trivial (listed' := #[true, true, true, true, true, true, true, true, true, true, true, true, true, true, false, false, false]) (by kernel_rfl) rfl ?_
                    · go_simp
                    simp only [List.setIfInBounds_toArray, List.set_cons_zero, List.set_cons_succ]
                    have h34 : Below w3.heap.size w3 w4 := h3B.trans (hb4.mono h3B.size)
                    have BY : Blk w4 w3.heap.size #[.string ⟨#[]⟩, .slice none 0 0, .slice none 0 0, .slice none 0 0] 27 := (Blk.new w3.drew #[.string ⟨#[]⟩, .slice none 0 0, .slice none 0 0, .slice none 0 0] 27).below hb4
                    have k5 : Kp (fun k => k = w3.heap.size) w4 (((((w4).setCell ⟨w3.heap.size, 0, none⟩ (.string sc.name)).setCell ⟨w3.heap.size, 1, none⟩ (.slice b1 m1 d1)).setCell ⟨w3.heap.size, 2, none⟩ (.slice b2 m2 d2)).setCell ⟨w3.heap.size, 3, none⟩ (.slice b3 m3 d3)) := Kp.setCell (p := ⟨w3.heap.size, 3, none⟩) (Kp.setCell (p := ⟨w3.heap.size, 2, none⟩) (Kp.setCell (p := ⟨w3.heap.size, 1, none⟩) (Kp.setCell (p := ⟨w3.heap.size, 0, none⟩) (Kp.refl (fun k => k = w3.heap.size) w4) (fun _ => rfl) _) (fun _ => rfl) _) (fun _ => rfl) _) (fun _ => rfl) _
                    have hbF : Below w3.heap.size w3 (((((w4).setCell ⟨w3.heap.size, 0, none⟩ (.string sc.name)).setCell ⟨w3.heap.size, 1, none⟩ (.slice b1 m1 d1)).setCell ⟨w3.heap.size, 2, none⟩ (.slice b2 m2 d2)).setCell ⟨w3.heap.size, 3, none⟩ (.slice b3 m3 d3)) := Below.setCell (Below.setCell (Below.setCell (Below.setCell h34 (Nat.le_refl _) _) (Nat.le_refl _) _) (Nat.le_refl _) _) (Nat.le_refl _) _
                    have BX5 := BX.below hbF
                    have BY5 : Blk (((((w4).setCell ⟨w3.heap.size, 0, none⟩ (.string sc.name)).setCell ⟨w3.heap.size, 1, none⟩ (.slice b1 m1 d1)).setCell ⟨w3.heap.size, 2, none⟩ (.slice b2 m2 d2)).setCell ⟨w3.heap.size, 3, none⟩ (.slice b3 m3 d3)) w3.heap.size #[.string sc.name, .slice b1 m1 d1, .slice b2 m2 d2, .slice b3 m3 d3] 27 := (((BY.set 0 _ rfl).set 1 _ rfl).set 2 _ rfl).set 3 _ rfl
                    have HX5 : Hid (ScIn (((((w4).setCell ⟨w3.heap.size, 0, none⟩ (.string sc.name)).setCell ⟨w3.heap.size, 1, none⟩ (.slice b1 m1 d1)).setCell ⟨w3.heap.size, 2, none⟩ (.slice b2 m2 d2)).setCell ⟨w3.heap.size, 3, none⟩ (.slice b3 m3 d3)) (.agg #[.string sc.name, .slice a1 n1 c1, .slice a2 n2 c2, .slice a3 n3 c3]) sc) := HS.out.below hbF
                    have HF5 : Hid (ScIn (((((w4).setCell ⟨w3.heap.size, 0, none⟩ (.string sc.name)).setCell ⟨w3.heap.size, 1, none⟩ (.slice b1 m1 d1)).setCell ⟨w3.heap.size, 2, none⟩ (.slice b2 m2 d2)).setCell ⟨w3.heap.size, 3, none⟩ (.slice b3 m3 d3)) (.agg #[.string sc.name, .slice b1 m1 d1, .slice b2 m2 d2, .slice b3 m3 d3]) sc) := (HF.out.kp k5 (fun k hk e => by subst e; rw [show (w3.drew.alloc (.cells #[.string ⟨#[]⟩, .slice none 0 0, .slice none 0 0, .slice none 0 0] 27)).heap.size = w3.heap.size + 1 from Array.size_push ..] at hk; omega)).to_in
                    have hb5 : Below w.heap.size w (((((w4).setCell ⟨w3.heap.size, 0, none⟩ (.string sc.name)).setCell ⟨w3.heap.size, 1, none⟩ (.slice b1 m1 d1)).setCell ⟨w3.heap.size, 2, none⟩ (.slice b2 m2 d2)).setCell ⟨w3.heap.size, 3, none⟩ (.slice b3 m3 d3)) := hb2.trans (hbF.mono hb2.size)
                    refine rg_store 14 (((((w4).setCell ⟨w3.heap.size, 0, none⟩ (.string sc.name)).setCell ⟨w3.heap.size, 1, none⟩ (.slice b1 m1 d1)).setCell ⟨w3.heap.size, 2, none⟩ (.slice b2 m2 d2)).setCell ⟨w3.heap.size, 3, none⟩ (.slice b3 m3 d3)) rfl rfl (by kernel_rfl) (by rfl) (listed' := #[true, true, true, true, true, true, true, true, true, true, true, true, true, true, true, false, false]) (by kernel_rfl) ?_ trivial ?_
                    · have y0 := BY.cell 0; have y1 := BY.cell 1; have y2 := BY.cell 2; have y3 := BY.cell 3; have f0 := BY.froz 0; have f1 := BY.froz 1; have f2 := BY.froz 2; have f3 := BY.froz 3; simp only [List.getElem?_toArray, List.getElem?_cons_succ, List.getElem?_cons_zero] at y0 y1 y2 y3; go_simp
                    clear BY hbF h34 k5
                    refine rg_take 15 11 (.int .i64 (p : Int)) _ rfl rfl (by kernel_rfl) (by kernel_rfl) (by kernel_rfl) (fun _ _ _ h => h) (by rfl) (fun w' hw' => ?_) trivial (listed' := #[true, true, true, true, true, true, true, true, true, true, true, true, true, true, true, true, false]) (by kernel_rfl) rfl ?_
                    · go_simp
                    simp only [List.setIfInBounds_toArray, List.set_cons_zero, List.set_cons_succ]
                    refine rg_take 16 12 (.int .i64 0) _ rfl rfl (by kernel_rfl) (by kernel_rfl) (by kernel_rfl) (fun _ _ _ h => h) (by rfl) (fun w' hw' => ?_) trivial (listed' := #[true, true, true, true, true, true, true, true, true, true, true, true, true, true, true, true, true]) (by kernel_rfl) rfl ?_
                    · go_simp
                    simp only [List.setIfInBounds_toArray, List.set_cons_zero, List.set_cons_succ]
                    have hG5 := hG.below hb5
                    refine wpAnyH_done (by kernel_rfl) ?_ _
                    generalize ((((w4).setCell ⟨w3.heap.size, 0, none⟩ (.string sc.name)).setCell ⟨w3.heap.size, 1, none⟩ (.slice b1 m1 d1)).setCell ⟨w3.heap.size, 2, none⟩ (.slice b2 m2 d2)).setCell ⟨w3.heap.size, 3, none⟩ (.slice b3 m3 d3) = w6 at *
                    have x0 := BX5.cell 0
                    have x1 := BX5.cell 1
                    have x2 := BX5.cell 2
                    have x3 := BX5.cell 3
                    have y0 := BY5.cell 0
                    have y1 := BY5.cell 1
                    have y2 := BY5.cell 2
                    have y3 := BY5.cell 3
                    simp only [List.getElem?_toArray, List.getElem?_cons_succ, List.getElem?_cons_zero] at x0 x1 x2 x3 y0 y1 y2 y3
                    go_wp2_with fail
                    refine (sschemas_any HX5.out HF5.out).mono ?_
                    rintro x w7 ⟨rfl, hb7⟩
                    have hb7' := hb5.trans (hb7.mono hb5.size)
                    clear x0 x1 x2 x3 y0 y1 y2 y3
                    go_wp2_with fail
                    refine (iawake_any _ (hG.below hb7')).mono ?_
                    rintro x w8 ⟨rfl, hb8⟩
                    go_wp2_with fail
                    go_ret
                    exact ⟨rfl, hb7'.trans (hb8.mono hb7'.size)⟩
            · go_wp2_with fail
              clear hb'
              go_loop [9] (fun iv => ∃ i : Nat, iv = .int .i64 (i : Int) ∧ i ≤ j + 1 ∧ Hid (∀ a (h : a < s.size), a < i → s[a].toNat ≠ 47)) (fun iv => j + 1 - (intOf iv).toNat)
              case atStart => exact ⟨0, rfl, by omega, fun a _ h => absurd h (Nat.not_lt_zero _)⟩
              case round =>
                obtain ⟨i, rfl, hi, HN⟩ := hrel
                by_cases hlt : i < j + 1
                · have his : i < s.size := by omega
                  have hdi : decide ((i : Int) < (j : Int) + 1) = true := by simp; omega
                  obtain ⟨c, hc⟩ : ∃ c, s[i].toNat = c := ⟨_, rfl⟩
                  by_cases h47 : c = 47
                  · subst h47
                    have hc' : s[i].toNat = 47 := hc
                    go_wp2_with fail
                    refine (iawake_any _ hG3).mono ?_
                    rintro x w4 ⟨rfl, hb4⟩
                    go_wp2_with fail
                    go_ret
                    exact ⟨rfl, hb2.trans (hb4.mono hb2.size)⟩
                  · have hq : ((c : Int) == 47) = false := by rw [beq_eq_false_iff_ne]; omega
                    have HN2 : Hid (∀ a (h : a < s.size), a < i + 1 → s[a].toNat ≠ 47) := by
                      intro a h ha e47
                      by_cases hai : a = i
                      · subst hai; omega
                      · exact HN.out a h (by omega) e47
                    go_wp2_with fail
                    go_round
                    case rel => exact ⟨i + 1, by go_num, by omega, HN2⟩
                    case measure => simp [intOf]; omega
                · have hdi : decide ((i : Int) < (j : Int) + 1) = false := by simp; omega
                  obtain rfl : i = j + 1 := by omega
                  have HPA : Hid (parseA (S1 ++ ⟨#[32, 47, 47, 32, 104, 111, 112, 10, 10]⟩ ++ S2) = (sc, p, 0)) := HPB.out HN.out
                  have HP2 : Hid (∀ W, Glob W → Calls Tryd.prog 10 #[.string (S1 ++ ⟨#[32, 47, 47, 32, 104, 111, 112, 10, 10]⟩ ++ S2)] W fun x w' => ∃ yv, x = .returned (.tuple #[yv, .int .i64 (p : Int), .int .i64 0]) ∧ ScF w' W.heap.size yv sc ∧ Below W.heap.size W w') := fun W hW => by
                    refine (parse_any _ W (by rw [ByteArray.size_append, ByteArray.size_append, z1, z2, show (⟨#[32, 47, 47, 32, 104, 111, 112, 10, 10]⟩ : ByteArray).size = 9 from rfl]; omega) hW).mono ?_
                    rintro x w' ⟨yv, rfl, hF, hb⟩
                    rw [HPA.out] at hF ⊢
                    exact ⟨yv, rfl, hF, hb⟩
                  have hG3d : Glob w3.drew := hG3.below (Below.refl _ _).drew
                  clear HPB HN
                  go_wp2_with fail
                  refine wp_region_held_drew (S := fun _ => True) (by kernel_rfl) trivial (fun hS => ?_)
                  refine rg_take 0 71 (.string s) _ rfl rfl (by kernel_rfl) (by kernel_rfl) (by kernel_rfl) (fun _ _ _ h => h) (by rfl) (fun w' hw' => ?_) trivial (listed' := #[true, false, false, false, false, false, false, false, false, false, false, false, false, false, false, false, false]) (by kernel_rfl) rfl ?_
                  · go_simp
                  simp only [List.setIfInBounds_toArray, List.set_cons_zero, List.set_cons_succ]
                  refine rg_take 1 72 (.int .i64 ((j : Int) + 1)) _ rfl rfl (by kernel_rfl) (by kernel_rfl) (by kernel_rfl) (fun _ _ _ h => h) (by rfl) (fun w' hw' => ?_) trivial (listed' := #[true, true, false, false, false, false, false, false, false, false, false, false, false, false, false, false, false]) (by kernel_rfl) rfl ?_
                  · go_simp
                  simp only [List.setIfInBounds_toArray, List.set_cons_zero, List.set_cons_succ]
                  refine rg_take 2 73 (.string S1) _ rfl rfl (by kernel_rfl) (by kernel_rfl) (by kernel_rfl) (fun _ _ _ h => h) (by rfl) (fun w' hw' => ?_) trivial (listed' := #[true, true, true, false, false, false, false, false, false, false, false, false, false, false, false, false, false]) (by kernel_rfl) rfl ?_
                  · have hsl := HS1.out w'; go_simp
                  simp only [List.setIfInBounds_toArray, List.set_cons_zero, List.set_cons_succ]
                  refine rg_take 3 74 (.string (S1 ++ ⟨#[32, 47, 47, 32, 104, 111, 112, 10, 10]⟩)) _ rfl rfl (by kernel_rfl) (by kernel_rfl) (by kernel_rfl) (fun _ _ _ h => h) (by rfl) (fun w' hw' => ?_) trivial (listed' := #[true, true, true, true, false, false, false, false, false, false, false, false, false, false, false, false, false]) (by kernel_rfl) rfl ?_
                  · go_simp; omega
                  simp only [List.setIfInBounds_toArray, List.set_cons_zero, List.set_cons_succ]
                  refine rg_take 4 75 (.string s) _ rfl rfl (by kernel_rfl) (by kernel_rfl) (by kernel_rfl) (fun _ _ _ h => h) (by rfl) (fun w' hw' => ?_) trivial (listed' := #[true, true, true, true, true, false, false, false, false, false, false, false, false, false, false, false, false]) (by kernel_rfl) rfl ?_
                  · go_simp
                  simp only [List.setIfInBounds_toArray, List.set_cons_zero, List.set_cons_succ]
                  refine rg_take 5 76 (.int .i64 ((j : Int) + 1)) _ rfl rfl (by kernel_rfl) (by kernel_rfl) (by kernel_rfl) (fun _ _ _ h => h) (by rfl) (fun w' hw' => ?_) trivial (listed' := #[true, true, true, true, true, true, false, false, false, false, false, false, false, false, false, false, false]) (by kernel_rfl) rfl ?_
                  · go_simp
                  simp only [List.setIfInBounds_toArray, List.set_cons_zero, List.set_cons_succ]
                  refine rg_take 6 77 (.string S2) _ rfl rfl (by kernel_rfl) (by kernel_rfl) (by kernel_rfl) (fun _ _ _ h => h) (by rfl) (fun w' hw' => ?_) trivial (listed' := #[true, true, true, true, true, true, true, false, false, false, false, false, false, false, false, false, false]) (by kernel_rfl) rfl ?_
                  · have hsl := HS2.out w'; go_simp
                  simp only [List.setIfInBounds_toArray, List.set_cons_zero, List.set_cons_succ]
                  refine rg_take 7 78 (.string (S1 ++ ⟨#[32, 47, 47, 32, 104, 111, 112, 10, 10]⟩ ++ S2)) _ rfl rfl (by kernel_rfl) (by kernel_rfl) (by kernel_rfl) (fun _ _ _ h => h) (by rfl) (fun w' hw' => ?_) trivial (listed' := #[true, true, true, true, true, true, true, true, false, false, false, false, false, false, false, false, false]) (by kernel_rfl) rfl ?_
                  · go_simp; omega
                  simp only [List.setIfInBounds_toArray, List.set_cons_zero, List.set_cons_succ]
                  refine rg_pair 8 13 79 10 10 #[.string (S1 ++ ⟨#[32, 47, 47, 32, 104, 111, 112, 10, 10]⟩ ++ S2)] (.pointer (some ⟨w3.heap.size, 0, none⟩)) (w3.drew.alloc (.cells #[.string ⟨#[]⟩, .slice none 0 0, .slice none 0 0, .slice none 0 0] 27)) rfl rfl rfl rfl (by kernel_rfl) (fun _ => rfl) (fun _ => rfl) ?g1 ?g2 ?g3 ?g4
                  case g1 => go_simp
                  case g2 => go_simp
                  case g3 =>
                    refine (HP2.out w3.drew hG3d).mono ?_
                    rintro x w4 ⟨yv, rfl, hF, hb4⟩
                    obtain ⟨ym, ye, yt, pm, pe, rfl, f1, f2, f3⟩ := hF
                    have HF : Hid (ScF w4 w3.drew.heap.size (.agg #[.string sc.name, ym, ye, yt]) sc) := ⟨_, _, _, pm, pe, rfl, f1, f2, f3⟩
                    obtain ⟨b1, d1, rfl⟩ := own_form f1.own
                    obtain ⟨b2, d2, rfl⟩ := own_form f2.own
                    obtain ⟨b3, d3, rfl⟩ := own_form f3
                    generalize sc.msgs.length = m1 at *
                    generalize sc.enums.length = m2 at *
                    generalize sc.methods.length = m3 at *
                    clear f1 f2 f3
                    refine ⟨_, rfl, ?_⟩
                    simp only [List.setIfInBounds_toArray, List.set_cons_zero, List.set_cons_succ]
                    refine rg_take 9 70 (.tuple #[.agg #[.string sc.name, .slice b1 m1 d1, .slice b2 m2 d2, .slice b3 m3 d3], .int .i64 (p : Int), .int .i64 0]) _ rfl rfl (by kernel_rfl) (by kernel_rfl) (by kernel_rfl) (fun _ _ _ h => h) (by rfl) (fun w' hw' => ?_) trivial (listed' := #[true, true, true, true, true, true, true, true, true, true, false, false, false, false, false, false, false]) (by kernel_rfl) rfl ?_
                    · go_simp
                    simp only [List.setIfInBounds_toArray, List.set_cons_zero, List.set_cons_succ]
                    refine rg_take 10 80 (.agg #[.string sc.name, .slice b1 m1 d1, .slice b2 m2 d2, .slice b3 m3 d3]) _ rfl rfl (by kernel_rfl) (by kernel_rfl) (by kernel_rfl) (fun _ _ _ h => h) (by rfl) (fun w' hw' => ?_) trivial (listed' := #[true, true, true, true, true, true, true, true, true, true, true, false, false, false, false, false, false]) (by kernel_rfl) rfl ?_
                    · go_simp
                    simp only [List.setIfInBounds_toArray, List.set_cons_zero, List.set_cons_succ]
                    refine rg_take 11 81 (.int .i64 (p : Int)) _ rfl rfl (by kernel_rfl) (by kernel_rfl) (by kernel_rfl) (fun _ _ _ h => h) (by rfl) (fun w' hw' => ?_) trivial (listed' := #[true, true, true, true, true, true, true, true, true, true, true, true, false, false, false, false, false]) (by kernel_rfl) rfl ?_
                    · go_simp
                    simp only [List.setIfInBounds_toArray, List.set_cons_zero, List.set_cons_succ]
                    refine rg_take 12 82 (.int .i64 0) _ rfl rfl (by kernel_rfl) (by kernel_rfl) (by kernel_rfl) (fun _ _ _ h => h) (by rfl) (fun w' hw' => ?_) trivial (listed' := #[true, true, true, true, true, true, true, true, true, true, true, true, true, false, false, false, false]) (by kernel_rfl) rfl ?_
                    · go_simp
                    simp only [List.setIfInBounds_toArray, List.set_cons_zero, List.set_cons_succ]
                    refine rg_run 13 10 (.pointer (some ⟨w4.heap.size, 0, none⟩)) (w4.alloc (.cells #[.string ⟨#[]⟩, .slice none 0 0, .slice none 0 0, .slice none 0 0] 27)) rfl rfl (by kernel_rfl) (by rfl) (listed' := #[true, true, true, true, true, true, true, true, true, true, true, true, true, true, false, false, false]) (by kernel_rfl) ?_ trivial ?_
                    · go_simp
                    simp only [List.setIfInBounds_toArray, List.set_cons_zero, List.set_cons_succ]
                    have h34 : Below w3.heap.size w3 w4 := ⟨hb4.os, hb4.tape, hb4.output, hb4.size, hb4.block⟩
                    have BY := Blk.new w4 #[.string ⟨#[]⟩, .slice none 0 0, .slice none 0 0, .slice none 0 0] 27
                    have hbF : Below w4.heap.size w4 (((((w4.alloc (.cells #[.string ⟨#[]⟩, .slice none 0 0, .slice none 0 0, .slice none 0 0] 27)).setCell ⟨w4.heap.size, 0, none⟩ (.string sc.name)).setCell ⟨w4.heap.size, 1, none⟩ (.slice b1 m1 d1)).setCell ⟨w4.heap.size, 2, none⟩ (.slice b2 m2 d2)).setCell ⟨w4.heap.size, 3, none⟩ (.slice b3 m3 d3)) := Below.setCell (Below.setCell (Below.setCell (Below.setCell ((Below.refl _ _).alloc (Nat.le_refl _) _) (Nat.le_refl _) _) (Nat.le_refl _) _) (Nat.le_refl _) _) (Nat.le_refl _) _
                    have BX5 := (BX.below h34).below hbF
                    have BY5 : Blk (((((w4.alloc (.cells #[.string ⟨#[]⟩, .slice none 0 0, .slice none 0 0, .slice none 0 0] 27)).setCell ⟨w4.heap.size, 0, none⟩ (.string sc.name)).setCell ⟨w4.heap.size, 1, none⟩ (.slice b1 m1 d1)).setCell ⟨w4.heap.size, 2, none⟩ (.slice b2 m2 d2)).setCell ⟨w4.heap.size, 3, none⟩ (.slice b3 m3 d3)) w4.heap.size #[.string sc.name, .slice b1 m1 d1, .slice b2 m2 d2, .slice b3 m3 d3] 27 := (((BY.set 0 _ rfl).set 1 _ rfl).set 2 _ rfl).set 3 _ rfl
                    have HX5 : Hid (ScIn (((((w4.alloc (.cells #[.string ⟨#[]⟩, .slice none 0 0, .slice none 0 0, .slice none 0 0] 27)).setCell ⟨w4.heap.size, 0, none⟩ (.string sc.name)).setCell ⟨w4.heap.size, 1, none⟩ (.slice b1 m1 d1)).setCell ⟨w4.heap.size, 2, none⟩ (.slice b2 m2 d2)).setCell ⟨w4.heap.size, 3, none⟩ (.slice b3 m3 d3)) (.agg #[.string sc.name, .slice a1 n1 c1, .slice a2 n2 c2, .slice a3 n3 c3]) sc) := (HS.out.below h34).below hbF
                    have HF5 : Hid (ScIn (((((w4.alloc (.cells #[.string ⟨#[]⟩, .slice none 0 0, .slice none 0 0, .slice none 0 0] 27)).setCell ⟨w4.heap.size, 0, none⟩ (.string sc.name)).setCell ⟨w4.heap.size, 1, none⟩ (.slice b1 m1 d1)).setCell ⟨w4.heap.size, 2, none⟩ (.slice b2 m2 d2)).setCell ⟨w4.heap.size, 3, none⟩ (.slice b3 m3 d3)) (.agg #[.string sc.name, .slice b1 m1 d1, .slice b2 m2 d2, .slice b3 m3 d3]) sc) := HF.out.to_in.below hbF
                    have hb5 : Below w.heap.size w (((((w4.alloc (.cells #[.string ⟨#[]⟩, .slice none 0 0, .slice none 0 0, .slice none 0 0] 27)).setCell ⟨w4.heap.size, 0, none⟩ (.string sc.name)).setCell ⟨w4.heap.size, 1, none⟩ (.slice b1 m1 d1)).setCell ⟨w4.heap.size, 2, none⟩ (.slice b2 m2 d2)).setCell ⟨w4.heap.size, 3, none⟩ (.slice b3 m3 d3)) := (hb2.trans (h34.mono hb2.size)).trans (hbF.mono (Nat.le_trans hb2.size h34.size))
                    refine rg_store 14 (((((w4.alloc (.cells #[.string ⟨#[]⟩, .slice none 0 0, .slice none 0 0, .slice none 0 0] 27)).setCell ⟨w4.heap.size, 0, none⟩ (.string sc.name)).setCell ⟨w4.heap.size, 1, none⟩ (.slice b1 m1 d1)).setCell ⟨w4.heap.size, 2, none⟩ (.slice b2 m2 d2)).setCell ⟨w4.heap.size, 3, none⟩ (.slice b3 m3 d3)) rfl rfl (by kernel_rfl) (by rfl) (listed' := #[true, true, true, true, true, true, true, true, true, true, true, true, true, true, true, false, false]) (by kernel_rfl) ?_ trivial ?_
                    · have y0 := BY.cell 0; have y1 := BY.cell 1; have y2 := BY.cell 2; have y3 := BY.cell 3; have f0 := BY.froz 0; have f1 := BY.froz 1; have f2 := BY.froz 2; have f3 := BY.froz 3; simp only [List.getElem?_toArray, List.getElem?_cons_succ, List.getElem?_cons_zero] at y0 y1 y2 y3; go_simp
                    clear BY hbF h34
                    refine rg_take 15 11 (.int .i64 (p : Int)) _ rfl rfl (by kernel_rfl) (by kernel_rfl) (by kernel_rfl) (fun _ _ _ h => h) (by rfl) (fun w' hw' => ?_) trivial (listed' := #[true, true, true, true, true, true, true, true, true, true, true, true, true, true, true, true, false]) (by kernel_rfl) rfl ?_
                    · go_simp
                    simp only [List.setIfInBounds_toArray, List.set_cons_zero, List.set_cons_succ]
                    refine rg_take 16 12 (.int .i64 0) _ rfl rfl (by kernel_rfl) (by kernel_rfl) (by kernel_rfl) (fun _ _ _ h => h) (by rfl) (fun w' hw' => ?_) trivial (listed' := #[true, true, true, true, true, true, true, true, true, true, true, true, true, true, true, true, true]) (by kernel_rfl) rfl ?_
                    · go_simp
                    simp only [List.setIfInBounds_toArray, List.set_cons_zero, List.set_cons_succ]
                    have hG5 := hG.below hb5
                    refine wpAnyH_done (by kernel_rfl) ?_ _
                    generalize ((((w4.alloc (.cells #[.string ⟨#[]⟩, .slice none 0 0, .slice none 0 0, .slice none 0 0] 27)).setCell ⟨w4.heap.size, 0, none⟩ (.string sc.name)).setCell ⟨w4.heap.size, 1, none⟩ (.slice b1 m1 d1)).setCell ⟨w4.heap.size, 2, none⟩ (.slice b2 m2 d2)).setCell ⟨w4.heap.size, 3, none⟩ (.slice b3 m3 d3) = w6 at *
                    have x0 := BX5.cell 0
                    have x1 := BX5.cell 1
                    have x2 := BX5.cell 2
                    have x3 := BX5.cell 3
                    have y0 := BY5.cell 0
                    have y1 := BY5.cell 1
                    have y2 := BY5.cell 2
                    have y3 := BY5.cell 3
                    simp only [List.getElem?_toArray, List.getElem?_cons_succ, List.getElem?_cons_zero] at x0 x1 x2 x3 y0 y1 y2 y3
                    go_wp2_with fail
                    refine (sschemas_any HX5.out HF5.out).mono ?_
                    rintro x w7 ⟨rfl, hb7⟩
                    have hb7' := hb5.trans (hb7.mono hb5.size)
                    clear x0 x1 x2 x3 y0 y1 y2 y3
                    go_wp2_with fail
                    refine (iawake_any _ (hG.below hb7')).mono ?_
                    rintro x w8 ⟨rfl, hb8⟩
                    go_wp2_with fail
                    go_ret
                    exact ⟨rfl, hb7'.trans (hb8.mono hb7'.size)⟩
                  case g4 =>
                    simp only [List.setIfInBounds_toArray, List.set_cons_zero, List.set_cons_succ]
                    have h3B : Below w3.heap.size w3 (w3.drew.alloc (.cells #[.string ⟨#[]⟩, .slice none 0 0, .slice none 0 0, .slice none 0 0] 27)) := ((Below.refl _ _).drew).alloc (Nat.le_refl _) _
                    refine rg_call 8 79 10 #[.string (S1 ++ ⟨#[32, 47, 47, 32, 104, 111, 112, 10, 10]⟩ ++ S2)] rfl rfl (by kernel_rfl) (by rfl) (listed' := #[true, true, true, true, true, true, true, true, true, false, false, false, false, true, false, false, false]) (by kernel_rfl) (fun w' => ?_) ?_
                    · go_simp
                    refine (HP2.out _ (hG3.below h3B)).mono ?_
                    rintro x w4 ⟨yv, rfl, hF, hb4⟩
                    obtain ⟨ym, ye, yt, pm, pe, rfl, f1, f2, f3⟩ := hF
                    have HF : Hid (ScF w4 (w3.drew.alloc (.cells #[.string ⟨#[]⟩, .slice none 0 0, .slice none 0 0, .slice none 0 0] 27)).heap.size (.agg #[.string sc.name, ym, ye, yt]) sc) := ⟨_, _, _, pm, pe, rfl, f1, f2, f3⟩
                    obtain ⟨b1, d1, rfl⟩ := own_form f1.own
                    obtain ⟨b2, d2, rfl⟩ := own_form f2.own
                    obtain ⟨b3, d3, rfl⟩ := own_form f3
                    generalize sc.msgs.length = m1 at *
                    generalize sc.enums.length = m2 at *
                    generalize sc.methods.length = m3 at *
                    clear f1 f2 f3
                    refine ⟨_, rfl, trivial, ?_⟩
                    simp only [List.setIfInBounds_toArray, List.set_cons_zero, List.set_cons_succ]
                    refine rg_take 9 70 (.tuple #[.agg #[.string sc.name, .slice b1 m1 d1, .slice b2 m2 d2, .slice b3 m3 d3], .int .i64 (p : Int), .int .i64 0]) _ rfl rfl (by kernel_rfl) (by kernel_rfl) (by kernel_rfl) (fun _ _ _ h => h) (by rfl) (fun w' hw' => ?_) trivial (listed' := #[true, true, true, true, true, true, true, true, true, true, false, false, false, true, false, false, false]) (by kernel_rfl) rfl ?_
                    · go_simp
                    simp only [List.setIfInBounds_toArray, List.set_cons_zero, List.set_cons_succ]
                    refine rg_take 10 80 (.agg #[.string sc.name, .slice b1 m1 d1, .slice b2 m2 d2, .slice b3 m3 d3]) _ rfl rfl (by kernel_rfl) (by kernel_rfl) (by kernel_rfl) (fun _ _ _ h => h) (by rfl) (fun w' hw' => ?_) trivial (listed' := #[true, true, true, true, true, true, true, true, true, true, true, false, false, true, false, false, false]) (by kernel_rfl) rfl ?_
                    · go_simp
                    simp only [List.setIfInBounds_toArray, List.set_cons_zero, List.set_cons_succ]
                    refine rg_take 11 81 (.int .i64 (p : Int)) _ rfl rfl (by kernel_rfl) (by kernel_rfl) (by kernel_rfl) (fun _ _ _ h => h) (by rfl) (fun w' hw' => ?_) trivial (listed' := #[true, true, true, true, true, true, true, true, true, true, true, true, false, true, false, false, false]) (by kernel_rfl) rfl ?_
                    · go_simp
                    simp only [List.setIfInBounds_toArray, List.set_cons_zero, List.set_cons_succ]
                    refine rg_take 12 82 (.int .i64 0) _ rfl rfl (by kernel_rfl) (by kernel_rfl) (by kernel_rfl) (fun _ _ _ h => h) (by rfl) (fun w' hw' => ?_) trivial (listed' := #[true, true, true, true, true, true, true, true, true, true, true, true, true, true, false, false, false]) (by kernel_rfl) rfl ?_
                    · go_simp
                    simp only [List.setIfInBounds_toArray, List.set_cons_zero, List.set_cons_succ]
                    have h34 : Below w3.heap.size w3 w4 := h3B.trans (hb4.mono h3B.size)
                    have BY : Blk w4 w3.heap.size #[.string ⟨#[]⟩, .slice none 0 0, .slice none 0 0, .slice none 0 0] 27 := (Blk.new w3.drew #[.string ⟨#[]⟩, .slice none 0 0, .slice none 0 0, .slice none 0 0] 27).below hb4
                    have k5 : Kp (fun k => k = w3.heap.size) w4 (((((w4).setCell ⟨w3.heap.size, 0, none⟩ (.string sc.name)).setCell ⟨w3.heap.size, 1, none⟩ (.slice b1 m1 d1)).setCell ⟨w3.heap.size, 2, none⟩ (.slice b2 m2 d2)).setCell ⟨w3.heap.size, 3, none⟩ (.slice b3 m3 d3)) := Kp.setCell (p := ⟨w3.heap.size, 3, none⟩) (Kp.setCell (p := ⟨w3.heap.size, 2, none⟩) (Kp.setCell (p := ⟨w3.heap.size, 1, none⟩) (Kp.setCell (p := ⟨w3.heap.size, 0, none⟩) (Kp.refl (fun k => k = w3.heap.size) w4) (fun _ => rfl) _) (fun _ => rfl) _) (fun _ => rfl) _) (fun _ => rfl) _
                    have hbF : Below w3.heap.size w3 (((((w4).setCell ⟨w3.heap.size, 0, none⟩ (.string sc.name)).setCell ⟨w3.heap.size, 1, none⟩ (.slice b1 m1 d1)).setCell ⟨w3.heap.size, 2, none⟩ (.slice b2 m2 d2)).setCell ⟨w3.heap.size, 3, none⟩ (.slice b3 m3 d3)) := Below.setCell (Below.setCell (Below.setCell (Below.setCell h34 (Nat.le_refl _) _) (Nat.le_refl _) _) (Nat.le_refl _) _) (Nat.le_refl _) _
                    have BX5 := BX.below hbF
                    have BY5 : Blk (((((w4).setCell ⟨w3.heap.size, 0, none⟩ (.string sc.name)).setCell ⟨w3.heap.size, 1, none⟩ (.slice b1 m1 d1)).setCell ⟨w3.heap.size, 2, none⟩ (.slice b2 m2 d2)).setCell ⟨w3.heap.size, 3, none⟩ (.slice b3 m3 d3)) w3.heap.size #[.string sc.name, .slice b1 m1 d1, .slice b2 m2 d2, .slice b3 m3 d3] 27 := (((BY.set 0 _ rfl).set 1 _ rfl).set 2 _ rfl).set 3 _ rfl
                    have HX5 : Hid (ScIn (((((w4).setCell ⟨w3.heap.size, 0, none⟩ (.string sc.name)).setCell ⟨w3.heap.size, 1, none⟩ (.slice b1 m1 d1)).setCell ⟨w3.heap.size, 2, none⟩ (.slice b2 m2 d2)).setCell ⟨w3.heap.size, 3, none⟩ (.slice b3 m3 d3)) (.agg #[.string sc.name, .slice a1 n1 c1, .slice a2 n2 c2, .slice a3 n3 c3]) sc) := HS.out.below hbF
                    have HF5 : Hid (ScIn (((((w4).setCell ⟨w3.heap.size, 0, none⟩ (.string sc.name)).setCell ⟨w3.heap.size, 1, none⟩ (.slice b1 m1 d1)).setCell ⟨w3.heap.size, 2, none⟩ (.slice b2 m2 d2)).setCell ⟨w3.heap.size, 3, none⟩ (.slice b3 m3 d3)) (.agg #[.string sc.name, .slice b1 m1 d1, .slice b2 m2 d2, .slice b3 m3 d3]) sc) := (HF.out.kp k5 (fun k hk e => by subst e; rw [show (w3.drew.alloc (.cells #[.string ⟨#[]⟩, .slice none 0 0, .slice none 0 0, .slice none 0 0] 27)).heap.size = w3.heap.size + 1 from Array.size_push ..] at hk; omega)).to_in
                    have hb5 : Below w.heap.size w (((((w4).setCell ⟨w3.heap.size, 0, none⟩ (.string sc.name)).setCell ⟨w3.heap.size, 1, none⟩ (.slice b1 m1 d1)).setCell ⟨w3.heap.size, 2, none⟩ (.slice b2 m2 d2)).setCell ⟨w3.heap.size, 3, none⟩ (.slice b3 m3 d3)) := hb2.trans (hbF.mono hb2.size)
                    refine rg_store 14 (((((w4).setCell ⟨w3.heap.size, 0, none⟩ (.string sc.name)).setCell ⟨w3.heap.size, 1, none⟩ (.slice b1 m1 d1)).setCell ⟨w3.heap.size, 2, none⟩ (.slice b2 m2 d2)).setCell ⟨w3.heap.size, 3, none⟩ (.slice b3 m3 d3)) rfl rfl (by kernel_rfl) (by rfl) (listed' := #[true, true, true, true, true, true, true, true, true, true, true, true, true, true, true, false, false]) (by kernel_rfl) ?_ trivial ?_
                    · have y0 := BY.cell 0; have y1 := BY.cell 1; have y2 := BY.cell 2; have y3 := BY.cell 3; have f0 := BY.froz 0; have f1 := BY.froz 1; have f2 := BY.froz 2; have f3 := BY.froz 3; simp only [List.getElem?_toArray, List.getElem?_cons_succ, List.getElem?_cons_zero] at y0 y1 y2 y3; go_simp
                    clear BY hbF h34 k5
                    refine rg_take 15 11 (.int .i64 (p : Int)) _ rfl rfl (by kernel_rfl) (by kernel_rfl) (by kernel_rfl) (fun _ _ _ h => h) (by rfl) (fun w' hw' => ?_) trivial (listed' := #[true, true, true, true, true, true, true, true, true, true, true, true, true, true, true, true, false]) (by kernel_rfl) rfl ?_
                    · go_simp
                    simp only [List.setIfInBounds_toArray, List.set_cons_zero, List.set_cons_succ]
                    refine rg_take 16 12 (.int .i64 0) _ rfl rfl (by kernel_rfl) (by kernel_rfl) (by kernel_rfl) (fun _ _ _ h => h) (by rfl) (fun w' hw' => ?_) trivial (listed' := #[true, true, true, true, true, true, true, true, true, true, true, true, true, true, true, true, true]) (by kernel_rfl) rfl ?_
                    · go_simp
                    simp only [List.setIfInBounds_toArray, List.set_cons_zero, List.set_cons_succ]
                    have hG5 := hG.below hb5
                    refine wpAnyH_done (by kernel_rfl) ?_ _
                    generalize ((((w4).setCell ⟨w3.heap.size, 0, none⟩ (.string sc.name)).setCell ⟨w3.heap.size, 1, none⟩ (.slice b1 m1 d1)).setCell ⟨w3.heap.size, 2, none⟩ (.slice b2 m2 d2)).setCell ⟨w3.heap.size, 3, none⟩ (.slice b3 m3 d3) = w6 at *
                    have x0 := BX5.cell 0
                    have x1 := BX5.cell 1
                    have x2 := BX5.cell 2
                    have x3 := BX5.cell 3
                    have y0 := BY5.cell 0
                    have y1 := BY5.cell 1
                    have y2 := BY5.cell 2
                    have y3 := BY5.cell 3
                    simp only [List.getElem?_toArray, List.getElem?_cons_succ, List.getElem?_cons_zero] at x0 x1 x2 x3 y0 y1 y2 y3
                    go_wp2_with fail
                    refine (sschemas_any HX5.out HF5.out).mono ?_
                    rintro x w7 ⟨rfl, hb7⟩
                    have hb7' := hb5.trans (hb7.mono hb5.size)
                    clear x0 x1 x2 x3 y0 y1 y2 y3
                    go_wp2_with fail
                    refine (iawake_any _ (hG.below hb7')).mono ?_
                    rintro x w8 ⟨rfl, hb8⟩
                    go_wp2_with fail
                    go_ret
                    exact ⟨rfl, hb7'.trans (hb8.mono hb7'.size)⟩
        · have hn1 : ((b : Int) != 59) = true := by simp [bne]; omega
          have hn2 : ((b : Int) != 123) = true := by simp [bne]; omega
          have hn3 : ((b : Int) != 125) = true := by simp [bne]; omega
          go_wp2_with fail
          go_round
          case rel => exact ⟨j, by go_num, by omega⟩
          case measure => simp [intOf]
end Go.Proofs.YtfffjfccochccaaDoor

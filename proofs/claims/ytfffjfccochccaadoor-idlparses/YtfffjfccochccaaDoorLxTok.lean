/- What the program's Tokens answers, at every text. -/
import Derived.Test.YtfffjfccochccaaDoorLxLeaf
import Derived.Test.YtfffjfccochccaaDoorRuNextP
import Derived.Test.YtfffjfccochccaaDoorTkRow
namespace Go.Proofs.YtfffjfccochccaaDoor
open Go.ChangeShapes Go.WideShapes Go.ChangeAt Go.RowKit
set_option linter.unusedVariables false
set_option linter.unusedSimpArgs false
set_option maxRecDepth 20000

set_option maxHeartbeats 4000000 in
theorem tokens_any (s : ByteArray) (w : World) (hs : s.size ≤ 140737488351232) :
    Calls Tryd.prog 15 #[.string s] w fun e w' => ∃ v, e = .returned (.tuple #[v, .int .i64 ((tokA s).2.1 : Int), .int .i64 ((tokA s).2.2 : Int)]) ∧ w'.ownsRow w.heap.size 65 3 v (tokA s).1.length (tkCells (tokA s).1) ∧ Below w.heap.size w w' := by
  obtain ⟨R, hR⟩ : ∃ R, tokA s = R := ⟨_, rfl⟩
  rw [hR]
  by_cases hbig : 16384 < s.size
  · have : R = ([], 0, 4) := by rw [← hR, tokA, if_pos hbig]
    subst this
    clear hR
    go_enter Tryd.func15, Tryd.ntmps15
    go_wp2_with fail
    go_ret3
    exact ⟨_, rfl, World.ownsRow_nil _ _ _ _, Below.refl _ _⟩
  · have HR : Hid (ansA (lexO s.data.toList 0) = R) := by
      show _ = _
      rw [← hR, tokA, if_neg hbig]
    clear hR
    obtain ⟨i0, hi, hz0, hz1, hz2⟩ := info_parts infoTk
    have hsk := skipN_le (s.data.toList.drop 0)
    rw [List.length_drop, len_data] at hsk
    have H0 : Hid (0 + skipN (s.data.toList.drop 0) = 0 + skipN (s.data.toList.drop 0)) := rfl
    go_enter Tryd.func15, Tryd.ntmps15
    go_wp2_with fail
    refine (skip_any s 0 _ hs (by omega)).mono ?_
    rintro e w0 ⟨rfl, rfl⟩
    generalize hp0 : 0 + skipN (s.data.toList.drop 0) = p0 at H0
    have HP0 : Hid (0 + skipN (s.data.toList.drop 0) = p0) := hp0
    have hp0s : p0 ≤ s.size := by omega
    clear hp0 H0 hsk
    go_wp2_with fail
    go_loopw [5, 6] (fun out pv wr => ∃ (acc : List Tk) (pos p : Nat), pv = .int .i64 (p : Int) ∧ p ≤ s.size ∧ acc.length ≤ p ∧ Hid (pos + skipN (s.data.toList.drop pos) = p) ∧ Hid (Read s.data.toList pos acc) ∧ Hid (wr.ownsRow w0.heap.size 65 3 out acc.length (tkCells acc)) ∧ Below w0.heap.size w0 wr)
      (fun _ pv _ => s.size - (intOf pv).toNat)
    case atStart => exact ⟨[], 0, p0, rfl, hp0s, by simp, HP0, Read.start, World.ownsRow_nil _ _ _ _, Below.refl _ _⟩
    case round =>
      obtain ⟨acc, pos, p, rfl, hp, hacc, HP, HRd, HO, hbel⟩ := hrel
      have hws := hbel.size
      by_cases hlt : p < s.size
      · have HA : Hid (atL s p = s.data.toList.drop p) := by rw [atL_in s p (by omega), Int.toNat_natCast]; rfl
        go_wp2_with fail
        refine (next_any s _ _ hs).mono ?_
        rintro e w1 ⟨rfl, hb1⟩
        have hb1' : Below w0.heap.size w0 w1 := hbel.trans (hb1.mono hws)
        have hws1 := hb1'.size
        have HO1 := own_belowH HO hb1
        clear HO hb1 hbel
        rw [HA.out]
        clear HA
        generalize hx : nxL (s.data.toList.drop p) = x
        cases x with
        | none =>
          have hR : R = ([], p, 9) := by
            have hl := HP.out
            rw [← HR.out, HRd.out.text (by rw [hl, len_data]; exact hlt) (by rw [hl]; exact hx), hl]; rfl
          subst hR
          clear hx HR HP HRd HO1
          simp only [nxV]
          go_wp2_with fail
          go_ret3
          exact ⟨_, rfl, World.ownsRow_nil _ _ _ _, hb1'⟩
        | some x =>
          obtain ⟨c, m⟩ := x
          simp only [nxV]
          go_wp2_with fail
          refine (begins_any c _).mono ?_
          rintro e w2 ⟨rfl, rfl⟩
          by_cases hk : kindN c = 0
          · have hR : R = ([], p, 5) := by
              have hl := HP.out
              rw [← HR.out, HRd.out.syn (by rw [hl]; exact hx) hk, hl]; rfl
            subst hR
            have HK : Hid (kindN c = 0) := hk
            clear hx HR HP HRd HO1 hk
            rw [HK.out]
            go_wp2_with fail
            go_ret3
            exact ⟨_, rfl, World.ownsRow_nil _ _ _ _, hb1'⟩
          · have HX : Hid (nxL (s.data.toList.drop p) = some (c, m)) := hx
            have hpb := piece_bd (k := kindN c) hx
            rw [List.length_drop, len_data] at hpb
            have hkd : ((kindN c : Int) == 0) = false := by rw [beq_eq_false_iff_ne]; omega
            obtain ⟨X, hE⟩ : ∃ X, p + pieceN (kindN c) m (s.data.toList.drop p) = X := ⟨_, rfl⟩
            have HB : Hid (∀ W : World, Calls Tryd.prog 28 #[.string s, .int .i64 (p : Int), .int .i64 (kindN c : Int)] W fun e w' => e = .returned (.int .i64 (X : Int)) ∧ Below W.heap.size W w') := fun W => by
              have := behind_any s p (kindN c) c m W hs hlt hx
              rwa [hE] at this
            obtain ⟨T, hT⟩ : ∃ T : Tk, T = ⟨kindN c, (s.data.toList.drop p).take (pieceN (kindN c) m (s.data.toList.drop p)), p⟩ := ⟨_, rfl⟩
            have HRd2 : Hid (Read s.data.toList X (acc ++ [T])) := by
              have hl := HP.out
              have := HRd.out.tok (by rw [hl]; exact hx) hk
              rw [hl, hE] at this
              rw [hT]
              exact this
            have HT : Hid (T.cells = [.int .i64 (kindN c : Int), .string (s.extract p X), .int .i64 (p : Int)]) := by
              show _ = _
              rw [hT, ← hE, extract_piece]; rfl
            have hpe : p < X ∧ X ≤ s.size := by omega
            have hsk := skipN_le (s.data.toList.drop X)
            rw [List.length_drop, len_data] at hsk
            have HS : Hid (∀ W : World, Calls Tryd.prog 25 #[.string s, .int .i64 (X : Int)] W fun e w' => e = .returned (.int .i64 ((X + skipN (s.data.toList.drop X) : Nat) : Int)) ∧ w' = W) := fun W => skip_any s X W hs (by omega)
            generalize hq : X + skipN (s.data.toList.drop X) = q at HS
            have HQ : Hid (X + skipN (s.data.toList.drop X) = q) := hq
            have hqb : X ≤ q ∧ q ≤ s.size := by omega
            have hkc : kindN c ≤ 3 := by unfold kindN; split; omega; split; omega; split <;> omega
            clear hx hE hT hq HP HRd hk HX hsk hpb
            generalize kindN c = K at *
            go_wp2_with fail
            refine (HB.out _).mono ?_
            rintro e w3 ⟨rfl, hb3⟩
            have hb3' : Below w0.heap.size w0 w3 := hb1'.trans (hb3.mono hws1)
            have hws3 := hb3'.size
            have HO3 := own_belowH HO1 hb3
            have hsl : ∀ W : World, (Instr.slice 9 (.string s) (some (.int .i64 (p : Int))) (some (.int .i64 (X : Int))) none).run Tryd.prog W = .ok (.string (s.extract p X)) W := fun W => slice_text W s p X (by omega) (by omega)
            clear HO1 hb3 hb1' HB
            go_wp2_with (first
              | (at_builtin; refine wpList_append_own _ rfl _ _ 49 rfl w0.heap.size 65 i0 _ 3 32 Tryd.underlying49 hi hz0 hz1 hz2 rfl (by decide) _ _ _ rfl (HO3.out.alloc _) ⟨w3.heap.size, 0, none⟩ 1 1 [.int .i64 (K : Int), .string (s.extract p X), .int .i64 (p : Int)] rfl rfl ?c1 ?c2 ?c3 ?c4 ?c5 ?_)
              | fail)
            case c1 =>
              intro j u hj
              match j, hj with
              | 0, hj | 1, hj | 2, hj => simp at hj; subst hj; simp [Addr.add]
            case c2 => intro u hu; simp at hu; rcases hu with rfl | rfl | rfl <;> rfl
            case c3 => unfold maxLen; omega
            case c4 => omega
            case c5 => simp; omega
            intro v w4 ho4 hg4 _
            have hb4 : Below w0.heap.size w0 w4 := (hb3'.alloc hws3 _).grown hg4 (by simp; omega) (fun k hk => (HO3.out.lt k hk).1)
            have HO4 : Hid (w4.ownsRow w0.heap.size 65 3 v (acc ++ [T]).length (tkCells (acc ++ [T]))) := by
              show World.ownsRow _ _ _ _ _ _ _
              rw [(tkCells_snoc acc _).1, (tkCells_snoc acc _).2, HT.out]
              exact ho4
            have hlen : (acc ++ [T]).length ≤ q := by simp; omega
            clear HO3 ho4 hg4 hb3'
            go_wp2_with fail
            refine (HS.out _).mono ?_
            rintro e w5 ⟨rfl, rfl⟩
            go_wp2_with fail
            go_roundw
            case rel => exact ⟨acc ++ [T], X, q, rfl, hqb.2, hlen, HQ, HRd2, HO4, hb4⟩
            case measure => simp [intOf]; omega
      · have hR : R = (acc, 0, 0) := by
          have hl := HP.out
          rw [← HR.out, HRd.out.fin (by rw [hl, len_data]; omega)]; rfl
        subst hR
        clear HP HRd HR
        go_wp2_with fail
        go_ret3
        exact ⟨_, rfl, HO.out, hbel⟩
end Go.Proofs.YtfffjfccochccaaDoor

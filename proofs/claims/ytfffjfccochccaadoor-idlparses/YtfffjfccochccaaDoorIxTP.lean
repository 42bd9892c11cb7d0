/- What the reference's Tokens answers, at every text. -/
import Derived.Test.YtfffjfccochccaaDoorRfPackA
import Derived.Test.YtfffjfccochccaaDoorTkRow
import Derived.Deep.Cut
import Derived.Deep.CutRange
namespace Go.Proofs.YtfffjfccochccaaDoor
open Go.ChangeShapes Go.WideShapes Go.ChangeAt Go.RowKit
set_option linter.unusedVariables false
set_option linter.unusedSimpArgs false
set_option maxRecDepth 20000

theorem slash_two {s : ByteArray} {p : Nat} (hp : p < s.size) (h : [47, 47].isPrefixOf (s.data.toList.drop p) = true) : ((s[p].toNat : Int) == 47) = true ∧ ∃ h1 : p + 1 < s.size, ((s[p + 1].toNat : Int) == 47) = true := by
  rw [drop_cons s p hp] at h
  by_cases h1 : p + 1 < s.size
  · rw [drop_cons s (p + 1) h1] at h
    simp [List.isPrefixOf] at h
    rw [← h.1]
    refine ⟨rfl, h1, ?_⟩
    rw [← h.2]; rfl
  · rw [drop_none s (p + 1) (by omega)] at h
    simp [List.isPrefixOf] at h
theorem slash_not {s : ByteArray} {p : Nat} (hp : p < s.size) (h : [47, 47].isPrefixOf (s.data.toList.drop p) = false) : ((s[p].toNat : Int) == 47) = false ∨ (((s[p].toNat : Int) == 47) = true ∧ ¬ p + 1 < s.size) ∨ (((s[p].toNat : Int) == 47) = true ∧ ∃ h1 : p + 1 < s.size, ((s[p + 1].toNat : Int) == 47) = false) := by
  by_cases h0 : s[p].toNat = 47
  · right
    have e0 : ((s[p].toNat : Int) == 47) = true := by rw [beq_iff_eq]; omega
    by_cases h1 : p + 1 < s.size
    · right
      refine ⟨e0, h1, ?_⟩
      rw [beq_eq_false_iff_ne]
      intro h2
      have a0 : s[p] = 47 := UInt8.toNat_inj.1 (by rw [h0]; rfl)
      have a1 : s[p + 1] = 47 := UInt8.toNat_inj.1 (by show s[p + 1].toNat = 47; omega)
      rw [drop_cons s p hp, drop_cons s (p + 1) h1, a0, a1] at h
      simp [List.isPrefixOf] at h
    · exact .inl ⟨e0, h1⟩
  · left; rw [beq_eq_false_iff_ne]; omega
theorem blank_not {a : UInt8} (h : blankB a = false) : ((a.toNat : Int) == 32) = false ∧ ((a.toNat : Int) == 9) = false ∧ ((a.toNat : Int) == 13) = false ∧ ((a.toNat : Int) == 10) = false := by
  unfold blankB at h
  simp only [decide_eq_false_iff_not] at h
  simp only [beq_eq_false_iff_ne]
  omega
theorem blank_yes {a : UInt8} (h : blankB a = true) : ((a.toNat : Int) == 32) = true ∨ (((a.toNat : Int) == 32) = false ∧ ((a.toNat : Int) == 9) = true) ∨ (((a.toNat : Int) == 32) = false ∧ ((a.toNat : Int) == 9) = false ∧ ((a.toNat : Int) == 13) = true) ∨ (((a.toNat : Int) == 32) = false ∧ ((a.toNat : Int) == 9) = false ∧ ((a.toNat : Int) == 13) = false ∧ ((a.toNat : Int) == 10) = true) := by
  unfold blankB at h
  simp only [decide_eq_true_eq] at h
  simp only [beq_eq_false_iff_ne, beq_iff_eq]
  omega

theorem sign_yes {a : Nat} (h : signB a = true) : ((a : Int) == 123) = true ∨ (((a : Int) == 123) = false ∧ ((a : Int) == 125) = true) ∨ (((a : Int) == 123) = false ∧ ((a : Int) == 125) = false ∧ ((a : Int) == 40) = true) ∨
    (((a : Int) == 123) = false ∧ ((a : Int) == 125) = false ∧ ((a : Int) == 40) = false ∧ ((a : Int) == 41) = true) ∨ (((a : Int) == 123) = false ∧ ((a : Int) == 125) = false ∧ ((a : Int) == 40) = false ∧ ((a : Int) == 41) = false ∧ ((a : Int) == 59) = true) ∨
    (((a : Int) == 123) = false ∧ ((a : Int) == 125) = false ∧ ((a : Int) == 40) = false ∧ ((a : Int) == 41) = false ∧ ((a : Int) == 59) = false ∧ ((a : Int) == 61) = true) ∨
    (((a : Int) == 123) = false ∧ ((a : Int) == 125) = false ∧ ((a : Int) == 40) = false ∧ ((a : Int) == 41) = false ∧ ((a : Int) == 59) = false ∧ ((a : Int) == 61) = false ∧ ((a : Int) == 44) = true) := by
  unfold signB at h
  simp only [decide_eq_true_eq] at h
  simp only [beq_eq_false_iff_ne, beq_iff_eq]
  omega
theorem sign_not {a : Nat} (h : signB a = false) : ((a : Int) == 123) = false ∧ ((a : Int) == 125) = false ∧ ((a : Int) == 40) = false ∧ ((a : Int) == 41) = false ∧ ((a : Int) == 59) = false ∧ ((a : Int) == 61) = false ∧ ((a : Int) == 44) = false := by
  unfold signB at h
  simp only [decide_eq_false_iff_not] at h
  simp only [beq_eq_false_iff_ne]
  omega
theorem sign_byte {a : UInt8} {r : List UInt8} {c m : Nat} (h : nxL (a :: r) = some (c, m)) : signB a.toNat = signB c := by
  rcases nx_small h with ⟨_, h2, _⟩ | ⟨h1, h2⟩
  · rw [h2]
  · unfold signB
    rw [decide_eq_false (by omega), decide_eq_false (by omega)]
theorem piece_sign (m : Nat) (l : List UInt8) : pieceN 3 m l = m := by
  unfold pieceN
  rw [runN_stop0]
  · rfl
  · unfold contB
    cases nxL (l.drop m) with
    | none => rfl
    | some x => simp [goesB]

set_option maxHeartbeats 8000000 in
theorem rtokens_any (s : ByteArray) (w : World) (hs : s.size ≤ 140737488351232) :
    Calls Tryd.prog 19 #[.string s] w fun e w' => ∃ v, e = .returned (.tuple #[v, .int .i64 ((tokA s).2.1 : Int), .int .i64 ((tokA s).2.2 : Int)]) ∧ w'.ownsRow w.heap.size 65 3 v (tokA s).1.length (tkCells (tokA s).1) ∧ Below w.heap.size w w' := by
  obtain ⟨R, hR⟩ : ∃ R, tokA s = R := ⟨_, rfl⟩
  rw [hR]
  by_cases hbig : 16384 < s.size
  · have : R = ([], 0, 4) := by rw [← hR, tokA, if_pos hbig]
    subst this
    clear hR
    go_enter Tryd.func19, Tryd.ntmps19
    go_wp2_with fail
    go_ret3
    exact ⟨_, rfl, World.ownsRow_nil _ _ _ _, Below.refl _ _⟩
  · have HR : Hid (ansA (lexO s.data.toList 0) = R) := by
      show _ = _
      rw [← hR, tokA, if_neg hbig]
    clear hR
    obtain ⟨i0, hi, hz0, hz1, hz2⟩ := info_parts infoTk
    go_enter Tryd.func19, Tryd.ntmps19
    go_wp2_with fail
    go_loopw [5, 6] (fun out pv wr => ∃ (acc : List Tk) (pos p : Nat), pv = .int .i64 (p : Int) ∧ p ≤ s.size ∧ acc.length ≤ p ∧ Hid (pos + skipN (s.data.toList.drop pos) = p + skipN (s.data.toList.drop p)) ∧ Hid (Read s.data.toList pos acc) ∧ Hid (wr.ownsRow w.heap.size 65 3 out acc.length (tkCells acc)) ∧ Below w.heap.size w wr)
      (fun _ pv _ => s.size - (intOf pv).toNat)
    case atStart => exact ⟨[], 0, 0, rfl, by omega, by simp, rfl, Read.start, World.ownsRow_nil _ _ _ _, Below.refl _ _⟩
    case round =>
      obtain ⟨acc, pos, p, rfl, hp, hacc, HP, HRd, HO, hbel⟩ := hrel
      have hws := hbel.size
      by_cases hlt : p < s.size
      · have HD : Hid (s.data.toList.drop p = s[p] :: s.data.toList.drop (p + 1)) := drop_cons s p hlt
        cases hb : blankB s[p] with
        | true =>
          have HN : Hid (pos + skipN (s.data.toList.drop pos) = p + 1 + skipN (s.data.toList.drop (p + 1))) := by
            have h1 := skipN_blank HD.out hb
            rw [List.drop_drop] at h1
            show _ = _
            rw [HP.out, h1]; omega
          have hby := blank_yes hb
          clear hb HD HP
          rcases hby with h1 | ⟨h1, h2⟩ | ⟨h1, h2, h3⟩ | ⟨h1, h2, h3, h4⟩
          all_goals
            go_wp2_with fail
            go_roundw
            case rel => exact ⟨acc, pos, p + 1, by go_num, by omega, by omega, HN, HRd, HO, hbel⟩
            case measure => simp [intOf]; omega
        | false =>
          obtain ⟨b1, b2, b3, b4⟩ := blank_not hb
          have HB : Hid (blankB s[p] = false) := hb
          clear hb
          go_upto_region 9 with fail
          go_cut [53] from 15 to 141 (fun bv wx => bv = .bool ([47, 47].isPrefixOf (s.data.toList.drop p)) ∧ wx = wr)
          case first =>
            cases hc : [47, 47].isPrefixOf (s.data.toList.drop p) with
            | true =>
              obtain ⟨c1, hp1, c2⟩ := slash_two hlt hc
              have HC : Hid ([47, 47].isPrefixOf (s.data.toList.drop p) = true) := hc
              clear hc
              go_wp2_with fail
              go_meet
              exact ⟨by rw [HC.out], rfl⟩
            | false =>
              have hsn := slash_not hlt hc
              have HC : Hid ([47, 47].isPrefixOf (s.data.toList.drop p) = false) := hc
              clear hc
              rcases hsn with c1 | ⟨c1, c2⟩ | ⟨c1, hp1, c2⟩
              all_goals
                go_wp2_with fail
                go_meet
                exact ⟨by rw [HC.out], rfl⟩
          case rest =>
          obtain ⟨hcb, hcw⟩ := hcut
          subst hcb
          subst hcw
          cases hc : [47, 47].isPrefixOf (s.data.toList.drop p) with
          | true =>
            obtain ⟨h1, h2⟩ := skipN_slash hc
            rw [List.drop_drop] at h1
            have hl := lineN_le (s.data.toList.drop p)
            rw [List.length_drop, len_data] at hl
            have HN : Hid (pos + skipN (s.data.toList.drop pos) = p + lineN (s.data.toList.drop p) + skipN (s.data.toList.drop (p + lineN (s.data.toList.drop p)))) := by
              show _ = _; rw [HP.out, h1]; omega
            clear hc HD h1 HB HP
            obtain ⟨E, hE⟩ : ∃ E, p + lineN (s.data.toList.drop p) = E := ⟨_, rfl⟩
            rw [hE] at HN
            have HE : Hid (p + lineN (s.data.toList.drop p) = E) := hE
            have hEb : p + 2 ≤ E ∧ E ≤ s.size := by omega
            clear hE hl h2
            go_wp2_with fail
            go_loop [6] (fun qv => ∃ q : Nat, qv = .int .i64 (q : Int) ∧ p ≤ q ∧ q ≤ s.size ∧ Hid (q + lineN (s.data.toList.drop q) = E)) (fun qv => s.size - (intOf qv).toNat)
            case atStart => exact ⟨p, rfl, by omega, hp, HE⟩
            case round =>
              obtain ⟨q, rfl, hpq, hq, HQ⟩ := hrel
              by_cases hql : q < s.size
              · have HDq : Hid (s.data.toList.drop q = s[q] :: s.data.toList.drop (q + 1)) := drop_cons s q hql
                by_cases h10 : s[q].toNat = 10
                · have hne : ((s[q].toNat : Int) != 10) = false := by simp; omega
                  have hqE : q = E := by
                    have := HQ.out
                    rw [HDq.out] at this
                    simp only [lineN] at this
                    rw [if_pos h10] at this
                    exact this
                  have HqE : Hid (q = E) := hqE
                  have hqb : p + 2 ≤ q := by omega
                  have HN2 : Hid (pos + skipN (s.data.toList.drop pos) = q + skipN (s.data.toList.drop q)) := by rw [HqE.out]; exact HN
                  clear hqE h10 HDq hEb
                  go_wp2_with fail
                  go_roundw
                  case rel => exact ⟨acc, pos, q, rfl, hq, by omega, HN2, HRd, HO, hbel⟩
                  case measure => simp [intOf]; omega
                · have hne : ((s[q].toNat : Int) != 10) = true := by simp; omega
                  have HQ2 : Hid (q + 1 + lineN (s.data.toList.drop (q + 1)) = E) := by
                    have := HQ.out
                    rw [HDq.out] at this
                    simp only [lineN] at this
                    rw [if_neg h10] at this
                    show _ = _
                    omega
                  clear h10 HDq HQ
                  go_wp2_with fail
                  go_round
                  case rel => exact ⟨q + 1, by go_num, by omega, by omega, HQ2⟩
                  case measure => simp [intOf]; omega
              · have hqE : q = E := by
                  have := HQ.out
                  rw [drop_none s q (by omega)] at this
                  exact this
                have HqE : Hid (q = E) := hqE
                have hqb : p + 2 ≤ q := by omega
                have HN2 : Hid (pos + skipN (s.data.toList.drop pos) = q + skipN (s.data.toList.drop q)) := by rw [HqE.out]; exact HN
                clear hqE hEb
                go_wp2_with fail
                go_roundw
                case rel => exact ⟨acc, pos, q, rfl, hq, by omega, HN2, HRd, HO, hbel⟩
                case measure => simp [intOf]; omega
          | false =>
            have HP0 : Hid (pos + skipN (s.data.toList.drop pos) = p) := by show _ = _; rw [HP.out, skipN_none HD.out HB.out hc]; rfl
            have HA : Hid (atL s p = s.data.toList.drop p) := by rw [atL_in s p (by omega), Int.toNat_natCast]; rfl
            clear hc HP HB
            go_wp2_with fail
            refine (rnext_any s _ _ hs).mono ?_
            rintro e w1 ⟨rfl, rfl⟩
            rw [HA.out]
            generalize hx : nxL (s.data.toList.drop p) = x
            cases x with
            | none =>
              have hR : R = ([], p, 9) := by
                have hl := HP0.out
                rw [← HR.out, HRd.out.text (by rw [hl, len_data]; exact hlt) (by rw [hl]; exact hx), hl]; rfl
              subst hR
              clear hx HR HP0 HRd HO
              simp only [nxV]
              go_wp2_with fail
              go_ret3
              exact ⟨_, rfl, World.ownsRow_nil _ _ _ _, hbel⟩
            | some x =>
              obtain ⟨c, m⟩ := x
              simp only [nxV]
              have hpb := piece_bd (k := kindN c) hx
              rw [List.length_drop, len_data] at hpb
              have hsl1 : ∀ W : World, (Instr.slice 9 (.string s) (some (.int .i64 (p : Int))) (some (.int .i64 ((p : Int) + 1))) none).run Tryd.prog W = .ok (.string (s.extract p (p + 1))) W := fun W => slice_text W s p (p + 1) (by omega) (by omega)
              have HSG : Hid (signB s[p].toNat = signB c) := by
                have := hx
                rw [HD.out] at this
                exact sign_byte this
              cases hl : letB c with
              | true =>
                have hk : kindN c = 1 := by unfold kindN; rw [if_pos hl]
                rw [hk] at hpb
                obtain ⟨X, hE⟩ : ∃ X, p + pieceN 1 m (s.data.toList.drop p) = X := ⟨_, rfl⟩
                have HW : Hid (∀ W : World, Calls Tryd.prog 37 #[.string s, .int .i64 (p : Int), .bool false] W fun e w' => e = .returned (.int .i64 (X : Int)) ∧ w' = W) := fun W => by
                  have := rword_any s p false W hs hp
                  rw [if_neg (by simp), runN_yes hx (by simp [goesB, hl])] at this
                  unfold pieceN at hE
                  rwa [hE] at this
                obtain ⟨T, hT⟩ : ∃ T : Tk, T = ⟨1, (s.data.toList.drop p).take (pieceN 1 m (s.data.toList.drop p)), p⟩ := ⟨_, rfl⟩
                have HRd2 : Hid (Read s.data.toList X (acc ++ [T])) := by
                  have hl := HP0.out
                  have := HRd.out.tok (by rw [hl]; exact hx) (by rw [hk]; decide)
                  rw [hl, hk, hE] at this
                  rw [hT]
                  exact this
                have hpe : p < X ∧ X ≤ s.size := by omega
                have HT : Hid (T.cells = [.int .i64 1, .string (s.extract p X), .int .i64 (p : Int)]) := by
                  show _ = _
                  rw [hT, ← hE, extract_piece]; rfl
                have hbs : p + (s.extract p X).size = X := by rw [ByteArray.size_extract]; omega
                have hb1 : p + (s.extract p X).size ≤ X := by omega
                have hb2 : X ≤ p + (s.extract p X).size := by omega
                have hsl : ∀ W : World, (Instr.slice 9 (.string s) (some (.int .i64 (p : Int))) (some (.int .i64 (X : Int))) none).run Tryd.prog W = .ok (.string (s.extract p X)) W := fun W => slice_text W s p X (by omega) (by omega)
                have HL : Hid (letB c = true) := hl
                clear hx hE hT hl hk hpb hbs
                generalize s.extract p X = B at *
                generalize s.extract p (p + 1) = B0 at *
                go_wp2_with fail
                refine (rletter_any c _).mono ?_
                rintro e w2 ⟨rfl, rfl⟩
                rw [HL.out]
                go_wp2_with fail
                refine (HW.out _).mono ?_
                rintro e w3 ⟨rfl, rfl⟩
                go_wp2_with (first
                  | (at_builtin; refine wpList_append_own _ rfl _ _ 49 rfl w.heap.size 65 i0 _ 3 32 Tryd.underlying49 hi hz0 hz1 hz2 rfl (by decide) _ _ _ rfl ((HO.out.alloc _).alloc _) ⟨w1.heap.size + 1, 0, none⟩ 1 1 [.int .i64 1, .string B, .int .i64 (p : Int)] rfl rfl ?c1 ?c2 ?c3 ?c4 ?c5 ?_)
                  | fail)
                case c1 =>
                  intro j u hj
                  match j, hj with
                  | 0, hj | 1, hj | 2, hj => simp at hj; subst hj; simp [Addr.add]
                case c2 => intro u hu; simp at hu; rcases hu with rfl | rfl | rfl <;> rfl
                case c3 => unfold maxLen; omega
                case c4 => omega
                case c5 => simp; omega
                intro v w4 ho4 hg4 _
                have hcell : w4.cell? ⟨w1.heap.size, 1, none⟩ = some (.string B) := hg4.cell (by simp) (fun e => by have := (HO.out.lt _ e.symm).2; simp at this)
                have hb4 : Below w.heap.size w w4 := ((hbel.alloc hws _).alloc (by simp; omega) _).grown hg4 (by simp; omega) (fun k hk => (HO.out.lt k hk).1)
                have HO4 : Hid (w4.ownsRow w.heap.size 65 3 v (acc ++ [T]).length (tkCells (acc ++ [T]))) := by
                  show World.ownsRow _ _ _ _ _ _ _
                  rw [(tkCells_snoc acc _).1, (tkCells_snoc acc _).2, HT.out]
                  exact ho4
                have hlen : (acc ++ [T]).length ≤ X := by simp; omega
                clear ho4 hg4
                go_wp2_with fail
                go_roundw
                case rel => exact ⟨acc ++ [T], X, X, by congr 1; omega, hpe.2, hlen, rfl, HRd2, HO4, hb4⟩
                case measure => simp [intOf]; omega
              | false =>
                have HL : Hid (letB c = false) := hl
                cases hdg : digB c with
                | true =>
                  have hk : kindN c = 2 := by unfold kindN; rw [if_neg (by simp [hl]), if_pos hdg]
                  rw [hk] at hpb
                  obtain ⟨X, hE⟩ : ∃ X, p + pieceN 2 m (s.data.toList.drop p) = X := ⟨_, rfl⟩
                  have HW : Hid (∀ W : World, Calls Tryd.prog 37 #[.string s, .int .i64 (p : Int), .bool true] W fun e w' => e = .returned (.int .i64 (X : Int)) ∧ w' = W) := fun W => by
                    have := rword_any s p true W hs hp
                    rw [if_pos rfl, runN_yes hx (by simp [goesB, hdg])] at this
                    unfold pieceN at hE
                    rwa [hE] at this
                  obtain ⟨T, hT⟩ : ∃ T : Tk, T = ⟨2, (s.data.toList.drop p).take (pieceN 2 m (s.data.toList.drop p)), p⟩ := ⟨_, rfl⟩
                  have HRd2 : Hid (Read s.data.toList X (acc ++ [T])) := by
                    have hl := HP0.out
                    have := HRd.out.tok (by rw [hl]; exact hx) (by rw [hk]; decide)
                    rw [hl, hk, hE] at this
                    rw [hT]
                    exact this
                  have hpe : p < X ∧ X ≤ s.size := by omega
                  have HT : Hid (T.cells = [.int .i64 2, .string (s.extract p X), .int .i64 (p : Int)]) := by
                    show _ = _
                    rw [hT, ← hE, extract_piece]; rfl
                  have hbs : p + (s.extract p X).size = X := by rw [ByteArray.size_extract]; omega
                  have hb1 : p + (s.extract p X).size ≤ X := by omega
                  have hb2 : X ≤ p + (s.extract p X).size := by omega
                  have hsl : ∀ W : World, (Instr.slice 9 (.string s) (some (.int .i64 (p : Int))) (some (.int .i64 (X : Int))) none).run Tryd.prog W = .ok (.string (s.extract p X)) W := fun W => slice_text W s p X (by omega) (by omega)
                  have HDG : Hid (digB c = true) := hdg
                  clear hx hE hT hl hk hpb hbs hdg
                  generalize s.extract p X = B at *
                  generalize s.extract p (p + 1) = B0 at *
                  go_wp2_with fail
                  refine (rletter_any c _).mono ?_
                  rintro e w2 ⟨rfl, rfl⟩
                  rw [HL.out]
                  go_wp2_with fail
                  refine (rdigit_any c _).mono ?_
                  rintro e w2 ⟨rfl, rfl⟩
                  rw [HDG.out]
                  go_wp2_with fail
                  refine (HW.out _).mono ?_
                  rintro e w3 ⟨rfl, rfl⟩
                  go_wp2_with (first
                    | (at_builtin; refine wpList_append_own _ rfl _ _ 49 rfl w.heap.size 65 i0 _ 3 32 Tryd.underlying49 hi hz0 hz1 hz2 rfl (by decide) _ _ _ rfl ((HO.out.alloc _).alloc _) ⟨w1.heap.size + 1, 0, none⟩ 1 1 [.int .i64 2, .string B, .int .i64 (p : Int)] rfl rfl ?c1 ?c2 ?c3 ?c4 ?c5 ?_)
                    | fail)
                  case c1 =>
                    intro j u hj
                    match j, hj with
                    | 0, hj | 1, hj | 2, hj => simp at hj; subst hj; simp [Addr.add]
                  case c2 => intro u hu; simp at hu; rcases hu with rfl | rfl | rfl <;> rfl
                  case c3 => unfold maxLen; omega
                  case c4 => omega
                  case c5 => simp; omega
                  intro v w4 ho4 hg4 _
                  have hcell : w4.cell? ⟨w1.heap.size, 1, none⟩ = some (.string B) := hg4.cell (by simp) (fun e => by have := (HO.out.lt _ e.symm).2; simp at this)
                  have hb4 : Below w.heap.size w w4 := ((hbel.alloc hws _).alloc (by simp; omega) _).grown hg4 (by simp; omega) (fun k hk => (HO.out.lt k hk).1)
                  have HO4 : Hid (w4.ownsRow w.heap.size 65 3 v (acc ++ [T]).length (tkCells (acc ++ [T]))) := by
                    show World.ownsRow _ _ _ _ _ _ _
                    rw [(tkCells_snoc acc _).1, (tkCells_snoc acc _).2, HT.out]
                    exact ho4
                  have hlen : (acc ++ [T]).length ≤ X := by simp; omega
                  clear ho4 hg4
                  go_wp2_with fail
                  go_roundw
                  case rel => exact ⟨acc ++ [T], X, X, by congr 1; omega, hpe.2, hlen, rfl, HRd2, HO4, hb4⟩
                  case measure => simp [intOf]; omega
                | false =>
                  have HDG : Hid (digB c = false) := hdg
                  cases hsg : signB c with
                  | true =>
                    have hk : kindN c = 3 := by unfold kindN; rw [if_neg (by simp [hl]), if_neg (by simp [hdg]), if_pos hsg]
                    have hm1 : m = 1 := by
                      have := hx
                      rw [HD.out] at this
                      rcases nx_small this with ⟨_, _, h⟩ | ⟨_, h⟩
                      · exact h
                      · unfold signB at hsg; simp only [decide_eq_true_eq] at hsg; omega
                    obtain ⟨X, hE⟩ : ∃ X, p + pieceN 3 m (s.data.toList.drop p) = X := ⟨_, rfl⟩
                    have hX1 : X = p + 1 := by rw [← hE, piece_sign, hm1]
                    obtain ⟨T, hT⟩ : ∃ T : Tk, T = ⟨3, (s.data.toList.drop p).take (pieceN 3 m (s.data.toList.drop p)), p⟩ := ⟨_, rfl⟩
                    have HRd2 : Hid (Read s.data.toList X (acc ++ [T])) := by
                      have hl := HP0.out
                      have := HRd.out.tok (by rw [hl]; exact hx) (by rw [hk]; decide)
                      rw [hl, hk, hE] at this
                      rw [hT]
                      exact this
                    have hpe : p < X ∧ X ≤ s.size := by omega
                    have HT : Hid (T.cells = [.int .i64 3, .string (s.extract p X), .int .i64 (p : Int)]) := by
                      show _ = _
                      rw [hT, ← hE, extract_piece]; rfl
                    have hbs : p + (s.extract p X).size = X := by rw [ByteArray.size_extract]; omega
                    have hb1 : p + (s.extract p X).size ≤ X := by omega
                    have hb2 : X ≤ p + (s.extract p X).size := by omega
                    have hsl : ∀ W : World, (Instr.slice 9 (.string s) (some (.int .i64 (p : Int))) (some (.int .i64 ((p : Int) + 1))) none).run Tryd.prog W = .ok (.string (s.extract p X)) W := by rw [hX1]; exact hsl1
                    have hsy := sign_yes (HSG.out.trans hsg)
                    clear hx hE hT hl hk hpb hbs hdg hsl1 hX1 hm1 hsg
                    generalize s.extract p X = B at *
                    rcases hsy with s1 | ⟨s1, s2⟩ | ⟨s1, s2, s3⟩ | ⟨s1, s2, s3, s4⟩ | ⟨s1, s2, s3, s4, s5⟩ | ⟨s1, s2, s3, s4, s5, s6⟩ | ⟨s1, s2, s3, s4, s5, s6, s7⟩
                    all_goals
                      go_wp2_with fail
                      refine (rletter_any c _).mono ?_
                      rintro e w2 ⟨rfl, rfl⟩
                      rw [HL.out]
                      go_wp2_with fail
                      refine (rdigit_any c _).mono ?_
                      rintro e w2 ⟨rfl, rfl⟩
                      rw [HDG.out]
                      go_wp2_with (first
                        | (at_builtin; refine wpList_append_own _ rfl _ _ 49 rfl w.heap.size 65 i0 _ 3 32 Tryd.underlying49 hi hz0 hz1 hz2 rfl (by decide) _ _ _ rfl ((HO.out.alloc _).alloc _) ⟨w1.heap.size + 1, 0, none⟩ 1 1 [.int .i64 3, .string B, .int .i64 (p : Int)] rfl rfl ?c1 ?c2 ?c3 ?c4 ?c5 ?_)
                        | fail)
                      case c1 =>
                        intro j u hj
                        match j, hj with
                        | 0, hj | 1, hj | 2, hj => simp at hj; subst hj; simp [Addr.add]
                      case c2 => intro u hu; simp at hu; rcases hu with rfl | rfl | rfl <;> rfl
                      case c3 => unfold maxLen; omega
                      case c4 => omega
                      case c5 => simp; omega
                      intro v w4 ho4 hg4 _
                      have hcell : w4.cell? ⟨w1.heap.size, 1, none⟩ = some (.string B) := hg4.cell (by simp) (fun e => by have := (HO.out.lt _ e.symm).2; simp at this)
                      have hb4 : Below w.heap.size w w4 := ((hbel.alloc hws _).alloc (by simp; omega) _).grown hg4 (by simp; omega) (fun k hk => (HO.out.lt k hk).1)
                      have HO4 : Hid (w4.ownsRow w.heap.size 65 3 v (acc ++ [T]).length (tkCells (acc ++ [T]))) := by
                        show World.ownsRow _ _ _ _ _ _ _
                        rw [(tkCells_snoc acc _).1, (tkCells_snoc acc _).2, HT.out]
                        exact ho4
                      have hlen : (acc ++ [T]).length ≤ X := by simp; omega
                      clear ho4 hg4
                      go_wp2_with fail
                      go_roundw
                      case rel => exact ⟨acc ++ [T], X, X, by congr 1; omega, hpe.2, hlen, rfl, HRd2, HO4, hb4⟩
                      case measure => simp [intOf]; omega
                  | false =>
                    have hk : kindN c = 0 := by unfold kindN; rw [if_neg (by simp [hl]), if_neg (by simp [hdg]), if_neg (by simp [hsg])]
                    have hR : R = ([], p, 5) := by
                      have hl := HP0.out
                      rw [← HR.out, HRd.out.syn (by rw [hl]; exact hx) hk, hl]; rfl
                    subst hR
                    obtain ⟨s1, s2, s3, s4, s5, s6, s7⟩ := sign_not (HSG.out.trans hsg)
                    clear hx hl hk hpb hdg hsg HR HP0 HRd HO
                    generalize s.extract p (p + 1) = B0 at *
                    go_wp2_with fail
                    refine (rletter_any c _).mono ?_
                    rintro e w2 ⟨rfl, rfl⟩
                    rw [HL.out]
                    go_wp2_with fail
                    refine (rdigit_any c _).mono ?_
                    rintro e w2 ⟨rfl, rfl⟩
                    rw [HDG.out]
                    go_wp2_with fail
                    go_ret3
                    exact ⟨_, rfl, World.ownsRow_nil _ _ _ _, hbel.alloc hws _⟩
      · have hR : R = (acc, 0, 0) := by
          have h0 : s.data.toList.drop p = [] := drop_none s p (by omega)
          have hl := HP.out
          rw [h0, skipN_nil] at hl
          rw [← HR.out, HRd.out.fin (by rw [hl, len_data]; omega)]; rfl
        subst hR
        clear HP HRd HR
        go_wp2_with fail
        go_ret3
        exact ⟨_, rfl, HO.out, hbel⟩
end Go.Proofs.YtfffjfccochccaaDoor

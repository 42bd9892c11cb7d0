/- What merge leaves: two rising lists as one. -/
import Derived.Test.YtfbekeebllcdbaaSoLeaf
namespace Go.Proofs.Ytfbekeebllcdbaa
open Go.ChangeShapes Go.WideShapes Go.ChangeAt Go.RowKit
set_option linter.unusedVariables false
set_option linter.unusedSimpArgs false
set_option maxRecDepth 20000

/-- Fields that are read, and lie apart from block g. -/
def InS (v : Value) (w : World) (g : Nat) (l : List Fd) : Prop := ∃ b off c, v = .slice (some ⟨b, off, none⟩) l.length c ∧ l.length ≤ c ∧ c ≤ 1000000 ∧ HoldsR w (some ⟨b, off, none⟩) l ∧ b ≠ g
theorem adr_ne {g b off : Nat} (hb : b ≠ g) : ∀ x, some (⟨b, off, none⟩ : Addr) = some x → x.block ≠ g := by
  intro x hx
  cases hx
  exact hb
theorem HoldsR.drop {w : World} {b off : Nat} {l : List Fd} (h : HoldsR w (some ⟨b, off, none⟩) l) (k : Nat) : HoldsR w (some ⟨b, off + k * 4, none⟩) (l.drop k) := by
  intro x hx j u hu
  obtain rfl : ⟨b, off + k * 4, none⟩ = x := by simpa using hx
  by_cases hk : k ≤ l.length
  · have e : rawCells l = rawCells (l.take k) ++ rawCells (l.drop k) := by rw [← rawCells_app, List.take_append_drop]
    have hl : (rawCells (l.take k)).length = k * 4 := by rw [rawCells_len, List.length_take]; omega
    have := h _ rfl (k * 4 + j) u (by rw [e, List.getElem?_append_right (by omega), hl]; simpa using hu)
    rw [Addr.add_lit] at this ⊢
    rw [← Nat.add_assoc] at this
    exact this
  · rw [List.drop_of_length_le (by omega)] at hu
    simp [rawCells] at hu
/-- The rest of a list behind k. -/
theorem InS.rest {w : World} {g b off c : Nat} {l : List Fd} (k : Nat) (hl : k ≤ l.length) (hc : l.length ≤ c) (hm : c ≤ 1000000) (hh : HoldsR w (some ⟨b, off, none⟩) l) (hb : b ≠ g) (n : Nat) (hn : n = (l.drop k).length) :
    InS (.slice (some ⟨b, off + k * 4, none⟩) n (c - k)) w g (l.drop k) := by
  subst hn
  exact ⟨_, _, _, rfl, by rw [List.length_drop]; omega, by omega, hh.drop k, hb⟩
theorem InS.void {w : World} {g b off : Nat} {l : List Fd} (n c : Nat) (hl : l = []) (hn : n = 0) (hc : c ≤ 1000000) (hb : b ≠ g) : InS (.slice (some ⟨b, off, none⟩) n c) w g l := by
  subst hl hn
  exact ⟨_, _, _, rfl, Nat.zero_le _, hc, HoldsR.nil, hb⟩
theorem HoldsR.drewN {w : World} {a : Option Addr} {l : List Fd} {n : Nat} (h : HoldsR w a l) : HoldsR (w.drewN n) a l := h
theorem OutAt.drewN {w : World} {g m n : Nat} {l : List Fd} (h : OutAt w g l m) : OutAt (w.drewN n) g l m := h
theorem sl_eq {a a' : Option Addr} {l l' c c' : Nat} (h1 : a = a') (h2 : l = l') (h3 : c = c') : Value.slice a l c = .slice a' l' c' := by rw [h1, h2, h3]
theorem upN_nil' {l : List Fd} (t : Int) (h : l = []) : upN l t = 0 := by rw [h]; rfl

set_option maxHeartbeats 8000000 in
theorem merge_any (g : Nat) (low high : Value) (lo hi : List Fd) (w : World) (n : Nat) (hn : n = lo.length + hi.length) (hn2 : n ≤ 1000000) (hout : OutAt w g [] n) (h1 : InS low w g lo) (h2 : InS high w g hi) :
    Calls Try.prog 33 #[.slice (some ⟨g, 0, none⟩) n n, low, high] w fun e w' => e = .returned (.tuple #[]) ∧ OutAt w' g (mergeF lo hi) 0 ∧ w.grownBy w' (some g) := by
  obtain ⟨R, hR⟩ : ∃ R, mergeF lo hi = R := ⟨_, rfl⟩
  rw [hR]
  have S : Hid (∃ (done lows highs : List Fd) (oo c : Nat), Value.slice (some ⟨g, 0, none⟩) n n = .slice (some ⟨g, oo, none⟩) (lows.length + highs.length) c ∧ lows.length + highs.length ≤ c ∧ c ≤ 1000000 ∧ (0 < lows.length + highs.length → oo = done.length * 4) ∧ InS low w g lows ∧ InS high w g highs ∧ OutAt w g done (lows.length + highs.length) ∧ done ++ mergeF lows highs = R ∧ w.grownBy w (some g)) :=
    ⟨[], lo, hi, 0, n, by rw [hn], by omega, hn2, fun _ => rfl, h1, h2, by rw [← hn]; exact hout, by simpa using hR, gb_refl _ _⟩
  clear hR h1 h2 hout hn
  go_enter Try.func33, Try.ntmps33
  go_wp2_with fail
  go_loopw [0, 1, 2] (fun out lv hv wr => Hid (∃ (done lows highs : List Fd) (oo c : Nat), out = .slice (some ⟨g, oo, none⟩) (lows.length + highs.length) c ∧ lows.length + highs.length ≤ c ∧ c ≤ 1000000 ∧ (0 < lows.length + highs.length → oo = done.length * 4) ∧ InS lv wr g lows ∧ InS hv wr g highs ∧ OutAt wr g done (lows.length + highs.length) ∧ done ++ mergeF lows highs = R ∧ w.grownBy wr (some g)))
    (fun _ _ hv _ => match hv with | .slice _ n _ => n | _ => 0)
  case atStart => exact S
  case round =>
    obtain ⟨done, lows, highs, oo, c, rfl, hlc, hc1, hoo, hlow, hhigh, hO, hM, hgb⟩ := hrel.out
    obtain ⟨bl, ol, cl, rfl, l1, l2, l3, l4⟩ := hlow
    obtain ⟨bh, oh, ch, rfl, k1, k2, k3, k4⟩ := hhigh
    have HO : Hid (OutAt wr g done (lows.length + highs.length)) := hO
    have HM : Hid (done ++ mergeF lows highs = R) := hM
    have HL3 : Hid (HoldsR wr (some ⟨bl, ol, none⟩) lows) := l3
    have HL4 : Hid (bl ≠ g) := l4
    have HK3 : Hid (HoldsR wr (some ⟨bh, oh, none⟩) highs) := k3
    have HK4 : Hid (bh ≠ g) := k4
    have HGB : Hid (w.grownBy wr (some g)) := hgb
    have HOO : Hid (0 < lows.length + highs.length → oo = done.length * 4) := hoo
    clear hrel hO hM l3 l4 k3 k4 hgb hoo S
    cases highs with
    | nil =>
      have HR : Hid (done ++ lows = R) := by show _ = _; have := HM.out; simpa [mergeF] using this
      clear HM HK3 HK4
      obtain ⟨NL, hNL⟩ : ∃ N, lows.length = N := ⟨_, rfl⟩
      have HNL : Hid (lows.length = NL) := hNL
      simp only [List.length_nil, Nat.add_zero, hNL] at HO HOO hlc l1 k1 ⊢
      clear hNL
      go_wp2_with (first
        | (refine wpList_copyR rfl _ _ rfl _ _ _ _ _ _ rfl rfl g done NL HO.out lows ?c1 ?c2 ?c3 ?_)
        | fail)
      case c1 => rw [HNL.out]; simp
      case c2 => rw [HNL.out]; exact Nat.le_refl _
      case c3 =>
        intro hne
        have hpos : 0 < NL := by rw [← HNL.out]; exact List.length_pos_iff.2 hne
        exact ⟨by rw [HOO.out hpos], _, rfl, HL3.out⟩
      intro w2 HO2 hg2
      have HF : Hid (OutAt w2 g R 0) := by
        have := HO2.out
        rw [HNL.out, Nat.sub_self, HR.out] at this
        exact this
      have hgf := gb_trans HGB.out hg2
      clear HO2 hg2 HO
      go_wp2_with fail
      go_end0
      exact ⟨rfl, HF.out, hgf⟩
    | cons h hs =>
      have hgb : bh ≠ g := HK4.out
      obtain ⟨p0, p1, p2, p3⟩ := HK3.out.at (i := 0) (r := h) rfl
      simp only [Nat.zero_mul, Nat.add_zero] at p0 p1 p2 p3
      obtain ⟨nn, hnn⟩ : ∃ m, upN lows h.tag = m := ⟨_, rfl⟩
      have hnl : nn ≤ lows.length := by rw [← hnn]; exact upN_le _ _
      have HU : Hid (Calls Try.prog 38 #[.slice (some ⟨bl, ol, none⟩) lows.length cl, .int .i64 h.tag] wr fun e w' => e = .returned (.int .i64 (nn : Int)) ∧ w' = wr) := by
        rw [← hnn]
        exact upto_any (some ⟨bl, ol, none⟩) lows h.tag lows.length cl wr rfl (.inr ⟨_, _, rfl⟩) l1 (by unfold maxLen; omega) HL3.out
      have HM2 : Hid ((done ++ lows.take nn ++ [h]) ++ mergeF (lows.drop nn) hs = R) := by
        show _ = _
        rw [← HM.out, mergeF, hnn]
        simp
      have HTL : Hid ((lows.take nn).length = nn) := by show _ = _; rw [List.length_take]; omega
      have HDL : Hid ((lows.drop nn).length = lows.length - nn) := by show _ = _; rw [List.length_drop]
      obtain ⟨TK, hTK⟩ : ∃ T, lows.take nn = T := ⟨_, rfl⟩
      obtain ⟨DR, hDR⟩ : ∃ T, lows.drop nn = T := ⟨_, rfl⟩
      have HTK : Hid (lows.take nn = TK) := hTK
      have HDR : Hid (lows.drop nn = DR) := hDR
      rw [hTK] at HM2 HTL
      rw [hDR] at HM2 HDL
      clear hTK hDR
      obtain ⟨t, k, n', b⟩ := h
      simp only at p0 p1 p2 p3 HU
      obtain ⟨NL, hNL⟩ : ∃ N, lows.length = N := ⟨_, rfl⟩
      obtain ⟨NH, hNH⟩ : ∃ N, hs.length = N := ⟨_, rfl⟩
      have HNL : Hid (lows.length = NL) := hNL
      have HNH : Hid (hs.length = NH) := hNH
      simp only [List.length_cons, hNL, hNH] at HO HOO hlc l1 k1 hnl HU HDL ⊢
      have HOE : Hid (oo = done.length * 4) := HOO.out (by omega)
      clear hnn HM HOO hNL hNH
      have fin : Hid (∀ (al' : Value) (wz : World), InS al' wz g (DR) → ∀ hv' : Value, InS hv' wz g hs → OutAt wz g (done ++ TK ++ [⟨t, k, n', b⟩]) (NL + NH - nn) → w.grownBy wz (some g) → ∀ ov' : Value, (∃ oo' c', ov' = .slice (some ⟨g, oo', none⟩) (NL + NH - nn) c' ∧ NL + NH - nn ≤ c' ∧ c' ≤ 1000000 ∧ (0 < NL + NH - nn → oo' = (done.length + nn + 1) * 4)) →
          Hid (∃ (done lows highs : List Fd) (oo c : Nat), ov' = .slice (some ⟨g, oo, none⟩) (lows.length + highs.length) c ∧ lows.length + highs.length ≤ c ∧ c ≤ 1000000 ∧ (0 < lows.length + highs.length → oo = done.length * 4) ∧ InS al' wz g lows ∧ InS hv' wz g highs ∧ OutAt wz g done (lows.length + highs.length) ∧ done ++ mergeF lows highs = R ∧ w.grownBy wz (some g))) := by
        intro al' wz i1 hv' i2 i3 i4 ov' ⟨oo', c', e1, e2, e3, e4⟩
        have el : (DR).length + hs.length = NL + NH - nn := by rw [HDL.out, HNH.out]; omega
        refine ⟨done ++ TK ++ [⟨t, k, n', b⟩], DR, hs, oo', c', by rw [el]; exact e1, by rw [el]; exact e2, e3, ?_, i1, i2, by rw [el]; exact i3, HM2.out, i4⟩
        rw [el]
        intro h0
        rw [e4 h0]
        simp [HTL.out]
        omega
      have sp1 : cl = 0 ∨ (¬ nn = 0 ∧ nn = cl) ∨ (¬ cl = 0 ∧ ¬ nn = cl) := by omega
      have sp2 : ch = 1 ∨ ¬ 1 = ch := by omega
      have sp3 : c = nn + 1 ∨ ¬ nn + 1 = c := by omega
      rcases sp1 with rfl | ⟨q1, rfl⟩ | ⟨q1, q1'⟩ <;> rcases sp2 with rfl | q2 <;> rcases sp3 with rfl | q3
      all_goals
        go_wp2_with fail
        refine HU.out.mono ?_
        rintro e wu ⟨rfl, rfl⟩
        go_wp2_with (first
          | (refine wpList_copyR rfl _ _ rfl _ _ _ _ _ _ rfl rfl g done _ HO.out (TK) ?c1 ?c2 ?c3 ?_)
          | fail)
        case c1 => rw [HTL.out]; exact (Nat.min_eq_left (by omega)).symm
        case c2 => rw [HTL.out]; omega
        case c3 =>
          intro hne
          refine ⟨by rw [HOE.out], _, rfl, ?_⟩
          have : HoldsR wu (some ⟨bl, ol, none⟩) (lows.take nn ++ lows.drop nn) := by rw [List.take_append_drop]; exact HL3.out
          rw [← HTK.out]
          exact this.take
        intro w2 HO2 hg2
        rw [HTL.out] at HO2 ⊢
        have hgb2 := gb_trans HGB.out hg2
        have P := fun o u (hc : wu.cell? ⟨bh, o, none⟩ = some u) => hg2.cell hc (by intro e; exact hgb (by simpa using e))
        replace p0 := P _ _ p0
        replace p1 := P _ _ p1
        replace p2 := P _ _ p2
        replace p3 := P _ _ p3
        have HO2' : Hid (OutAt w2 g (done ++ TK) (NL + NH - nn + 1)) := by
          have := HO2.out
          rw [show NL + (NH + 1) - nn = NL + NH - nn + 1 by omega] at this
          exact this
        have heo : oo + nn * 4 = (done ++ TK).length * 4 := by rw [List.length_append, HTL.out, HOE.out]; omega
        have rm := fun j (hj : j < 4) => HO2'.out.room j (by omega)
        rw [← heo] at rm
        obtain ⟨⟨u0, s0⟩, f0⟩ := rm 0 (by omega)
        obtain ⟨⟨u1, s1⟩, f1⟩ := rm 1 (by omega)
        obtain ⟨⟨u2, s2⟩, f2⟩ := rm 2 (by omega)
        obtain ⟨⟨u3, s3⟩, f3⟩ := rm 3 (by omega)
        obtain ⟨hput, hg3⟩ := HO2'.out.put t k n' b (oo + nn * 4) heo
        have HP : Hid (OutAt _ g _ _) := hput
        have HG3 := gb_trans hgb2 hg3
        have HLO := HL3.out.grown (gb_trans hg2 hg3) (adr_ne HL4.out)
        have HHI := HK3.out.grown (gb_trans hg2 hg3) (adr_ne HK4.out)
        have HH : Hid (OutAt _ g _ _ ∧ World.grownBy w _ (some g) ∧ HoldsR _ _ lows ∧ HoldsR _ _ _) := ⟨hput, HG3, HLO, HHI⟩
        clear hput hg3 HG3 HLO HHI HP P rm heo HO2 HO2' hg2 hgb2 HU
        simp only [Nat.add_zero] at s0 f0
        go_wp2_with fail
        generalize ((((w2.setCell ⟨g, oo + nn * 4, none⟩ (.int .i64 t)).setCell ⟨g, oo + nn * 4 + 1, none⟩ (.int .i64 k)).setCell ⟨g, oo + nn * 4 + 2, none⟩ (.int .i64 n')).setCell ⟨g, oo + nn * 4 + 3, none⟩ (.string b)) = w3 at *
        clear s0 s1 s2 s3 f0 f1 f2 f3 p0 p1 p2 p3
        go_quiet (fail)
        go_wp2_with fail
        go_roundw
        case rel =>
          refine fin.out _ _ ?_ _ ?_ HH.out.1.drewN (gb_drewN _ HH.out.2.1) _ ⟨_, _, sl_eq rfl (by omega) rfl, by omega, by omega, by intro _; have := HOE.out; omega⟩
          · first
              | exact by rw [← HDR.out]; exact InS.rest nn (by rw [HNL.out]; omega) (by rw [HNL.out]; omega) (by omega) HH.out.2.2.1.drewN HL4.out _ (by rw [HDR.out, HDL.out])
              | exact InS.void _ _ (List.eq_nil_of_length_eq_zero (by rw [HDL.out]; omega)) (by omega) (by omega) HL4.out
          · first
              | exact InS.rest 1 (by simp) (by simp [HNH.out]; omega) (by omega) HH.out.2.2.2.drewN HK4.out _ (by simp [HNH.out])
              | exact InS.void _ _ (List.eq_nil_of_length_eq_zero (by rw [HNH.out]; omega)) (by omega) (by omega) HK4.out
        case measure => simp
end Go.Proofs.Ytfbekeebllcdbaa

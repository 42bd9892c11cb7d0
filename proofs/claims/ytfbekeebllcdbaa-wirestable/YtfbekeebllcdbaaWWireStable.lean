/- WireStable answers true at any list and every tag. -/
import Derived.Test.YtfbekeebllcdbaaSoSort
import Derived.Test.YtfbekeebllcdbaaWrOwn
import Derived.Test.YtfbekeebllcdbaaWrPut
import Derived.Test.YtfbekeebllcdbaaRwRaws
import Derived.Test.YtfbekeebllcdbaaRwOpen
import Derived.Test.YtfbekeebllcdbaaLwPlace
namespace Go.Proofs.Ytfbekeebllcdbaa
open Go.ChangeShapes Go.WideShapes Go.ChangeAt Go.RowKit
set_option linter.unusedVariables false
set_option linter.unusedSimpArgs false
set_option maxRecDepth 20000

theorem hidI {p : Prop} (h : p) : Hid p := h

set_option maxHeartbeats 4000000 in
theorem wireStable_walk (a : Option Addr) (N c : Nat) (rs : List Fd) (tag : Int) (w : World) (ha : CameR w a N c rs) (htag : (Lit.int .i64 tag).wf = true) :
    Calls Try.prog 8 #[.slice a N c, .int .i64 tag] w fun e w' => e = .returned (.bool true) ∧ Below w.heap.size w w' := by
  obtain ⟨hat1, hat2⟩ := bounds_i64 htag
  clear htag
  obtain ⟨i0, hi0, hz0, hz1, hz2⟩ := info_parts infoRaw
  have HC : Hid (CameR w a N c rs) := ha
  have hNc := ha.le
  have hcm := ha.max
  unfold maxLen at hcm
  have S1 : Hid (∀ W, Below w.heap.size w W → Calls Try.prog 9 #[.slice a N c] W fun e w' => e = .returned (.bool (smallB rs)) ∧ w' = W) := fun W hW => small_any a rs N c W ha.len ha.adr ha.le ha.max (ha.holds.below hW)
  clear ha
  cases hs1 : smallB rs with
  | false =>
    rw [hs1] at S1
    go_enter Try.func8, Try.ntmps8
    go_wp2_with fail
    refine (S1.out _ (Below.refl _ _)).mono ?_
    rintro e w1 ⟨rfl, rfl⟩
    clear S1
    go_wp2_with fail
    refine (wawake_any _).mono ?_
    rintro e w5 ⟨rfl, hb5⟩
    go_wp2_with fail
    go_ret
    exact ⟨rfl, hb5⟩
  | true =>
  rw [hs1] at S1
  have hN : N ≤ 60 := by rw [← HC.out.len]; exact small_len hs1
  clear hs1
  go_enter Try.func8, Try.ntmps8
  go_wp2_with fail
  refine (S1.out _ (Below.refl _ _)).mono ?_
  rintro e w ⟨rfl, rfl⟩
  clear S1
  go_wp2_with fail
  refine (place_any tag 9 _ hat1 hat2 (by omega) (by omega)).mono ?_
  rintro e w ⟨k, rfl, hk, rfl⟩
  go_wp2_with fail
  refine (raws_any a rs N c w HC.out.len (by omega) HC.out.nil HC.out.holds).mono ?_
  rintro e w1 ⟨r1, rfl, ho1, hb1⟩
  obtain ⟨a1, c1, rfl, hn1, h11, h12, h13, h14⟩ := own_openR ho1
  have hso := sorted_any rs.length rs a1 N c1 w1 (Nat.le_refl _) HC.out.len (by omega) (own_adrR h11) (by rw [← HC.out.len]; exact h12) h13 h14
  have HSO : Hid (Calls Try.prog 22 #[.slice a1 N c1] w1 fun e w' => ∃ g, e = .returned (.slice (some ⟨g, 0, none⟩) N N) ∧ w1.heap.size ≤ g ∧ g < w'.heap.size ∧ HoldsR w' (some ⟨g, 0, none⟩) (sortF rs) ∧ Below w1.heap.size w1 w') := hso
  rw [HC.out.len]
  clear ho1 h11 h12 h13 h14 hn1 hso
  go_wp2_with fail
  refine HSO.out.mono ?_
  rintro e wm ⟨gm, rfl, -, -, hhm, hbm⟩
  have hbwm : Below w.heap.size w wm := hb1.trans (hbm.mono hb1.size)
  have hall := sortF_all _ rs (Nat.le_refl _)
  obtain ⟨ms, hms⟩ : ∃ m, sortF rs = m := ⟨_, rfl⟩
  rw [hms] at hhm hall
  have HML : Hid (ms.length = N) := by show _ = _; rw [hall.2.1, HC.out.len]
  have HFE : Hid (ms.filter (fun x => x.tag == 1 + (k : Int)) = rs.filter (fun x => x.tag == 1 + (k : Int))) := hall.2.2.2 _
  have HMM : Hid (HoldsR wm (some ⟨gm, 0, none⟩) ms) := hhm
  have HRM : Hid (HoldsR wm a rs) := HC.out.holds.below hbwm
  clear HSO hms hall hhm hbm hb1
  go_wp2_with fail
  go_loopw [6, 9] (fun out iv wr => ∃ i : Nat, iv = .int .i64 (i : Int) ∧ i ≤ N ∧ Hid (wr.ownsRow wm.heap.size 24 4 out ((rs.take i).filter (fun x => x.tag == 1 + (k : Int))).length (rawCells ((rs.take i).filter (fun x => x.tag == 1 + (k : Int))))) ∧ Below wm.heap.size wm wr) (fun _ iv _ => N - (intOf iv).toNat)
  case atStart => exact ⟨0, rfl, by omega, by rw [List.take_zero]; exact World.ownsRow_nil _ _ _ _, Below.refl _ _⟩
  case round =>
    have HCL : Hid (rs.length = N) := HC.out.len
    obtain ⟨i, rfl, hi, HO, hbel⟩ := hrel
    have hws := hbel.size
    by_cases hlt : i < N
    · have hr : rs[i]? = some (rs[i]'(by rw [HCL.out]; exact hlt)) := List.getElem?_eq_getElem _
      generalize rs[i]'(by rw [HCL.out]; exact hlt) = r at hr
      rcases HC.out.adr with h0 | ⟨ga, oa, rfl⟩
      · exact absurd hlt (by have := HCL.out; rw [h0] at this; simp at this; omega)
      obtain ⟨p0, p1, p2, p3⟩ := (HRM.out.below hbel).at hr
      have HF : Hid ((rs.take (i + 1)).filter (fun x => x.tag == 1 + (k : Int)) = (rs.take i).filter (fun x => x.tag == 1 + (k : Int)) ++ if (r.tag == 1 + (k : Int)) = true then [r] else []) := by
        show _ = _
        rw [List.take_add_one, hr, List.filter_append]
        simp [List.filter_cons]
      have hlf : ((rs.take i).filter (fun x => x.tag == 1 + (k : Int))).length ≤ i := Nat.le_trans (List.length_filter_le _ _) (by rw [List.length_take]; omega)
      clear hr
      obtain ⟨t, kk, nn, bb⟩ := r
      simp only at p0 p1 p2 p3 HF
      generalize (rs.take i).filter (fun x => x.tag == 1 + (k : Int)) = acc at *
      generalize hF1 : (rs.take (i + 1)).filter (fun x => x.tag == 1 + (k : Int)) = F1 at *
      have HF1 : Hid ((rs.take (i + 1)).filter (fun x => x.tag == 1 + (k : Int)) = F1) := hF1
      clear hF1
      cases hd : (t == 1 + (k : Int)) with
      | true =>
        have HE : Hid (F1 = acc ++ [⟨t, kk, nn, bb⟩]) := by show _ = _; rw [HF.out, hd, if_pos rfl]
        clear HF
        go_wp2_with (first
          | (at_builtin; refine wpList_append_own _ rfl _ _ 25 rfl wm.heap.size 24 i0 _ 4 40 Try.underlying25 hi0 hz0 hz1 hz2 rfl (by decide) _ _ _ rfl (HO.out.alloc _) ⟨_, 0, none⟩ 1 1 (Fd.cells ⟨t, kk, nn, bb⟩) rfl rfl ?c1 ?c2 ?c3 ?c4 ?c5 ?_)
          | fail)
        case c1 =>
          intro j u hj
          match j, hj with
          | 0, hj | 1, hj | 2, hj | 3, hj => simp [Fd.cells] at hj; subst hj; simp [Addr.add]
        case c2 => intro u hu; simp [Fd.cells] at hu; rcases hu with rfl | rfl | rfl | rfl <;> rfl
        case c3 => unfold maxLen; omega
        case c4 => omega
        case c5 => simp; omega
        intro v w8 ho8 hg8 _
        have hb8 : Below wm.heap.size wm w8 := (hbel.alloc hws _).grown hg8 (by simp; omega) (fun k hk => (HO.out.lt k hk).1)
        have HO8 : Hid (w8.ownsRow wm.heap.size 24 4 v F1.length (rawCells F1)) := by
          rw [HE.out]
          show World.ownsRow _ _ _ _ _ _ _
          rw [(rawCells_snoc acc _).1, (rawCells_snoc acc _).2]
          exact ho8
        clear HO ho8 hg8 hbel p0 p1 p2 p3 HE
        go_wp2_with fail
        go_roundw
        case rel => exact ⟨i + 1, by go_num, by omega, by rw [HF1.out]; exact HO8, hb8⟩
        case measure => simp [intOf]; omega
      | false =>
        have HE : Hid (F1 = acc) := by show _ = _; rw [HF.out, hd]; simp
        clear HF
        go_wp2_with fail
        go_roundw
        case rel => exact ⟨i + 1, by go_num, by omega, by rw [HF1.out, HE.out]; exact HO, hbel⟩
        case measure => simp [intOf]; omega
    · obtain rfl : N = i := by omega
      obtain ⟨wx, rfl⟩ : ∃ x, x = wr := ⟨wr, rfl⟩
      have h1 := HO.out
      rw [List.take_of_length_le (by rw [HCL.out]; exact Nat.le_refl _)] at h1
      have HA := hidI h1
      have HMM2 : Hid (HoldsR wx (some ⟨gm, 0, none⟩) ms) := HMM.out.below hbel
      have hbx : Below w.heap.size w wx := hbwm.trans (hbel.mono hbwm.size)
      clear h1 HO HMM HRM hbel hbwm
      go_wp2_with fail
      go_loopw [7, 10] (fun out iv wr => ∃ i : Nat, iv = .int .i64 (i : Int) ∧ i ≤ N ∧ Hid (wr.ownsRow wx.heap.size 24 4 out ((ms.take i).filter (fun x => x.tag == 1 + (k : Int))).length (rawCells ((ms.take i).filter (fun x => x.tag == 1 + (k : Int))))) ∧ Below wx.heap.size wx wr) (fun _ iv _ => N - (intOf iv).toNat)
      case atStart => exact ⟨0, rfl, by omega, by rw [List.take_zero]; exact World.ownsRow_nil _ _ _ _, Below.refl _ _⟩
      case round =>
        obtain ⟨i, rfl, hi, HO, hbel⟩ := hrel
        have hws := hbel.size
        by_cases hlt : i < N
        · have hr : ms[i]? = some (ms[i]'(by rw [HML.out]; exact hlt)) := List.getElem?_eq_getElem _
          generalize ms[i]'(by rw [HML.out]; exact hlt) = r at hr
          obtain ⟨p0, p1, p2, p3⟩ := (HMM2.out.below hbel).at hr
          simp only [Nat.zero_add] at p0 p1 p2 p3
          have HF : Hid ((ms.take (i + 1)).filter (fun x => x.tag == 1 + (k : Int)) = (ms.take i).filter (fun x => x.tag == 1 + (k : Int)) ++ if (r.tag == 1 + (k : Int)) = true then [r] else []) := by
            show _ = _
            rw [List.take_add_one, hr, List.filter_append]
            simp [List.filter_cons]
          have hlf : ((ms.take i).filter (fun x => x.tag == 1 + (k : Int))).length ≤ i := Nat.le_trans (List.length_filter_le _ _) (by rw [List.length_take]; omega)
          clear hr
          obtain ⟨t, kk, nn, bb⟩ := r
          simp only at p0 p1 p2 p3 HF
          generalize (ms.take i).filter (fun x => x.tag == 1 + (k : Int)) = acc at *
          generalize hF1 : (ms.take (i + 1)).filter (fun x => x.tag == 1 + (k : Int)) = F1 at *
          have HF1 : Hid ((ms.take (i + 1)).filter (fun x => x.tag == 1 + (k : Int)) = F1) := hF1
          clear hF1
          cases hd : (t == 1 + (k : Int)) with
          | true =>
            have HE : Hid (F1 = acc ++ [⟨t, kk, nn, bb⟩]) := by show _ = _; rw [HF.out, hd, if_pos rfl]
            clear HF
            go_wp2_with (first
              | (at_builtin; refine wpList_append_own _ rfl _ _ 25 rfl wx.heap.size 24 i0 _ 4 40 Try.underlying25 hi0 hz0 hz1 hz2 rfl (by decide) _ _ _ rfl (HO.out.alloc _) ⟨_, 0, none⟩ 1 1 (Fd.cells ⟨t, kk, nn, bb⟩) rfl rfl ?c1 ?c2 ?c3 ?c4 ?c5 ?_)
              | fail)
            case c1 =>
              intro j u hj
              match j, hj with
              | 0, hj | 1, hj | 2, hj | 3, hj => simp [Fd.cells] at hj; subst hj; simp [Addr.add]
            case c2 => intro u hu; simp [Fd.cells] at hu; rcases hu with rfl | rfl | rfl | rfl <;> rfl
            case c3 => unfold maxLen; omega
            case c4 => omega
            case c5 => simp; omega
            intro v w8 ho8 hg8 _
            have hb8 : Below wx.heap.size wx w8 := (hbel.alloc hws _).grown hg8 (by simp; omega) (fun k hk => (HO.out.lt k hk).1)
            have HO8 : Hid (w8.ownsRow wx.heap.size 24 4 v F1.length (rawCells F1)) := by
              rw [HE.out]
              show World.ownsRow _ _ _ _ _ _ _
              rw [(rawCells_snoc acc _).1, (rawCells_snoc acc _).2]
              exact ho8
            clear HO ho8 hg8 hbel p0 p1 p2 p3 HE
            go_wp2_with fail
            go_roundw
            case rel => exact ⟨i + 1, by go_num, by omega, by rw [HF1.out]; exact HO8, hb8⟩
            case measure => simp [intOf]; omega
          | false =>
            have HE : Hid (F1 = acc) := by show _ = _; rw [HF.out, hd]; simp
            clear HF
            go_wp2_with fail
            go_roundw
            case rel => exact ⟨i + 1, by go_num, by omega, by rw [HF1.out, HE.out]; exact HO, hbel⟩
            case measure => simp [intOf]; omega
        · obtain rfl : N = i := by omega
          have h2 := HO.out
          rw [List.take_of_length_le (by rw [HML.out]; exact Nat.le_refl _), HFE.out] at h2
          have HA2 := hidI h2
          clear h2
          have HA1 := own_belowH HA hbel
          have hlf : (rs.filter (fun x => x.tag == 1 + (k : Int))).length ≤ N := Nat.le_trans (List.length_filter_le _ _) (by rw [HC.out.len]; exact Nat.le_refl _)
          clear HFE
          generalize rs.filter (fun x => x.tag == 1 + (k : Int)) = FA at *
          obtain ⟨a2, c2, rfl, -, h21, h22, h23, h24⟩ := own_openR HA1.out
          obtain ⟨a3, c3, rfl, -, h31, h32, h33, h34⟩ := own_openR HA2.out
          have hs := same_any a2 a3 FA FA.length c2 c3 wr rfl (own_adrR h21) (own_adrR h31) h22 h32 h23 h33 (by omega) h24 h34
          have HS : Hid (Calls Try.prog 21 #[.slice a2 FA.length c2, .slice a3 FA.length c3] wr fun e w' => e = .returned (.bool true) ∧ Below wr.heap.size wr w') := hs
          have hbw : Below w.heap.size w wr := hbx.trans (hbel.mono hbx.size)
          clear hs h21 h22 h23 h24 h31 h32 h33 h34 HA1 HA2 HO HA hbel hbx
          generalize FA.length = LF at *
          go_wp2_with fail
          refine HS.out.mono ?_
          rintro e w9 ⟨rfl, hb9⟩
          have hbb9 : Below w.heap.size w w9 := hbw.trans (hb9.mono hbw.size)
          clear HS hb9 hbw
          go_wp2_with fail
          refine (wawake_any _).mono ?_
          rintro e w10 ⟨rfl, hb10⟩
          have hbb10 : Below w.heap.size w w10 := hbb9.trans (hb10.mono hbb9.size)
          clear hb10 hbb9
          go_wp2_with fail
          go_ret
          exact ⟨rfl, hbb10⟩
end Go.Proofs.Ytfbekeebllcdbaa
